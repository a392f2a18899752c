import Derived.Test.YtkmkkmdpjliifaaGreatDoorUxE
import Derived.Deep.RegionHeld3
namespace Go.Proofs.YtkmkkmdpjliifaaGreatDoor
open Go.ChangeShapes Go.WideShapes Go.ChangeAt Go.RowKit

theorem Cm.z_inj {a b : Cm} (h : a.z = b.z) : a = b := by
  cases a; cases b
  simp [Cm.z] at h
  obtain ⟨h1, h2, h3, h4, h5, h6⟩ := h
  simp [h2, h3, h4, h5]
  exact ⟨by omega, by omega⟩
/-- the tables that the program reads, all below block s -/
structure Tb (s : Nat) (w : World) : Prop where
  ut : UT w
  pt : PT s w
  kt : KT w
  s2 : 2 < s
theorem Tb.below {s : Nat} {w w' : World} (h : Tb s w) (hb : Below s w w') : Tb s w' := ⟨h.ut.below h.s2 hb, h.pt.on hb, h.kt.below h.s2 hb, h.s2⟩
theorem plainS_length {c : Cm} (h : rightB c.z = true) : (plainS c).length ≤ 4096 := by
  obtain ⟨m, h1, h2, h3, h4, h5, h6, h7⟩ := right_nums h
  obtain rfl := Cm.z_inj h1
  have d1 := dd_len m.id h2
  have d2 := dd_len m.exp h3
  have q1 := quotS_length m.sub
  have l1 := listP_length m.scp h5.2 h5.1
  have l2 := listP_length m.aud h6.2 h6.1
  have l3 := listP_length m.act h7.2 h7.1
  unfold plainS
  simp only [List.length_append, List.length_cons, List.length_nil]
  omega
theorem PrnR.right {c : Cm} {e : Ending} (h : PrnR c.z e) (hr : rightB c.z = true) : e = .returned (.tuple #[.string ⟨(plainS c).toArray⟩, .int .i64 0]) := by
  rcases h with ⟨h1, _⟩ | ⟨m, h1, _, rfl⟩
  · rw [hr] at h1; cases h1
  · rw [Cm.z_inj h1]
/-- what a call that gives a token comes to -/
def GaveR (w : World) (s R O now : Nat) (vk vs vg : Value) (ks : List Ky) (cs : List Cl) (Qs : List Nat) (G : List Gt) (h : Nat) (pp : Option Nat) (c : Cm) (w' : World) : Prop :=
  ∃ vg' b pl, Sv w' s R O now vk vs vg' ks cs Qs (G ++ [⟨b, h, pp, false, { c with id := G.length + 1 }, pl⟩]) ∧ Below s w w' ∧ SFar s vg vg' G (G ++ [⟨b, h, pp, false, { c with id := G.length + 1 }, pl⟩]) w w' ∧ CzN w' (New w w') c.z pl

set_option maxRecDepth 20000 in
set_option maxHeartbeats 2000000 in
theorem give_any (c : Cm) (p : Pl) (h : Nat) (pp : Option Nat) (w : World) (s R O now : Nat) (vk vs vg : Value) (ks : List Ky) (cs : List Cl) (Qs : List Nat) (G : List Gt) (hS : Sv w s R O now vk vs vg ks cs Qs G) (hcs : CzS c.z) (hL : CzL w w.heap.size c.z p)
    (hh : h < cs.length) (hp : ∀ k, pp = some k → k < G.length) (hr : rightB { c with id := G.length + 1 }.z = true) (h40 : G.length < 40) (hT : Tb s w) :
    Calls Tryz.prog 98 #[.pointer (some ⟨s, 0, none⟩), .agg (czA c.z p), .pointer (some ⟨Qs.getD h 0, 0, none⟩), .pointer ((pp.map fun k => (G.getD k default).b).map fun b => ⟨b, 0, none⟩)] w fun e w' =>
      e = .returned (.string ⟨(tokS (ks.getD 0 default) (plainS { c with id := G.length + 1 })).toArray⟩) ∧ GaveR w s R O now vk vs vg ks cs Qs G h pp c w' := by
  obtain ⟨wa, hwa⟩ : ∃ wa, wa = w.alloc (.cells #[.int .i64 c.z.id, .string ⟨c.z.sub.toArray⟩, .slice p.a2 c.z.scp.length p.c2, .slice p.a3 c.z.aud.length p.c3, .slice p.a4 c.z.act.length p.c4, .int .i64 c.z.exp] 60) := ⟨_, rfl⟩
  have hba : Below w.heap.size w wa := by rw [hwa]; exact (Below.refl _ _).alloc (Nat.le_refl _) _
  have hsa : wa.heap.size = w.heap.size + 1 := by rw [hwa]; simp
  have hRa : Row wa w.heap.size 60 6 (czF c.z p) := by rw [hwa]; exact Row.new w 60 _ _ 6 rfl (six rfl rfl rfl rfl rfl rfl)
  have hbd : Below w.heap.size w wa.drew := hba.drew
  have HAdd := hide (Add_any c p h pp wa.drew s R O now vk vs vg ks cs Qs G (hS.below hbd) hcs ((hL.below hbd).up hbd.size) hh hp hr h40)
  have g0 : wa.cell? ⟨w.heap.size, 0, none⟩ = some (.int .i64 c.z.id) := hRa.cell (by decide)
  have g1 : wa.cell? ⟨w.heap.size, 1, none⟩ = some (.string ⟨c.z.sub.toArray⟩) := hRa.cell (by decide)
  have g2 : wa.cell? ⟨w.heap.size, 2, none⟩ = some (.slice p.a2 c.z.scp.length p.c2) := hRa.cell (by decide)
  have g3 : wa.cell? ⟨w.heap.size, 3, none⟩ = some (.slice p.a3 c.z.aud.length p.c3) := hRa.cell (by decide)
  have g4 : wa.cell? ⟨w.heap.size, 4, none⟩ = some (.slice p.a4 c.z.act.length p.c4) := hRa.cell (by decide)
  have g5 : wa.cell? ⟨w.heap.size, 5, none⟩ = some (.int .i64 c.z.exp) := hRa.cell (by decide)
  have hsl := hS.lt
  have HS := hide hS
  have HT := hide hT
  have HR := hide hr
  have HWA := hide hwa
  have HBA := hide hba
  clear hS hcs hL hh hp hr h40 hT hwa hba hRa hbd
  generalize hpa : ((pp.map fun k => (G.getD k default).b).map fun b => (⟨b, 0, none⟩ : Addr)) = pa at *
  generalize hqa : Qs.getD h 0 = qa at *
  have HQA := hide hqa
  clear hpa hqa
  unfold czA at *
  go_enter Tryz.func98, Tryz.ntmps98
  go_wp2_with fail
  rw [← unhide HWA]
  clear HWA
  go_region_with (go_at_call 137; refine (unhide HAdd).mono ?_; rintro e w1 ⟨vg', b, pl, rfl, hS1, hb1, hf1, hn1⟩)
  have HN1 : Hid (CzN w1 (New w w1) c.z pl) := hn1.keep (fun k hk => ⟨rfl, by have h1 : wa.heap.size ≤ k := hk.1; show w.heap.size ≤ k; omega, hk.2⟩)
  clear hn1
  have hsz1 : wa.heap.size ≤ w1.heap.size := hb1.size
  have hbs1 : Below s w w1 := ((unhide HBA).mono (Nat.le_of_lt hsl)).drew.trans hb1
  have hsf1 : SFar s vg vg' G (G ++ [⟨b, h, pp, false, { c with id := G.length + 1 }, pl⟩]) w w1 := fun k hk hf => by
    obtain ⟨e1, e2⟩ := hf1 k (show k < wa.heap.size by omega) hf
    exact ⟨e1.trans ((unhide HBA).block k hk), e2⟩
  obtain ⟨c', hc'⟩ : ∃ c' : Cm, { c with id := G.length + 1 } = c' := ⟨_, rfl⟩
  rw [hc'] at hS1 hsf1 HR
  have hget : (G ++ [⟨b, h, pp, false, c', pl⟩] : List Gt).getD G.length default = ⟨b, h, pp, false, c', pl⟩ := by rw [getG_right (Nat.le_refl _), Nat.sub_self]; rfl
  have hcl := Claims_any G.length w1 s R O now vk vs vg' ks cs Qs _ hS1 (by simp)
  rw [hget] at hcl
  have HCl := hide hcl
  have HS1 := hide hS1
  have HSF := hide hsf1
  have HBS := hide hbs1
  have HC' := hide hc'
  clear hcl hget hS1 hb1 hf1 hsf1 hbs1 HAdd g0 g1 g2 g3 g4 g5 hc'
  go_wp2_with fail
  refine (unhide HCl).mono ?_
  rintro e w2 ⟨p', rfl, hN2, hb2⟩
  have hs2 := hb2.size
  have hbs2 := (unhide HBS).trans (hb2.mono (by omega))
  have HPr := hide (PrintC_any c'.z p' w2 w2.heap.size (Nat.le_refl _) (right_czs (unhide HR)) (hN2.l (fun k hk => hk.2)) ((unhide HT).below hbs2).ut (PT.up ((unhide HT).below hbs2).pt (by omega)))
  have HB2 := hide hb2
  clear hN2 hb2 hbs2 HCl
  unfold czA at *
  go_wp2_with fail
  refine (unhide HPr).mono ?_
  rintro e w3 ⟨hp3, hb3⟩
  obtain rfl := hp3.right (unhide HR)
  have hs3 := hb3.size
  have hb13 : Below w1.heap.size w1 w3 := (unhide HB2).trans (hb3.mono hs2)
  have hS3 := (unhide HS1).below hb13
  have hbs3 := (unhide HBS).trans (hb13.mono (by omega))
  have r1 : w3.cell? ⟨s, 1, none⟩ = some (.pointer (some ⟨R, 0, none⟩)) := hS3.row.cell (j := 1) (by decide)
  have HSg := hide (Sign_any (plainS c') (by have := plainS_length (unhide HR); omega) w3 s R O vk vs ks cs Qs (by omega) (by have := (unhide HT).s2; omega) hS3.sb ((unhide HT).below hbs3).kt)
  have HB13 := hide hb13
  clear hp3 hb3 hS3 hbs3 HPr HB2 hb13
  generalize hpx : plainS c' = px at *
  have HPX := hide hpx
  clear hpx
  go_wp2_with fail
  refine (unhide HSg).mono ?_
  rintro e w4 ⟨rfl, hb4⟩
  have hb14 : Below w1.heap.size w1 w4 := (unhide HB13).trans (hb4.mono (by omega))
  clear HSg r1
  go_wp2_with fail
  go_ret
  rw [unhide HC', unhide HPX]
  refine ⟨rfl, vg', b, pl, ?_⟩
  rw [unhide HC']
  refine ⟨(unhide HS1).below hb14, (unhide HBS).trans (hb14.mono (by omega)), fun k hk hf => ?_, (unhide HN1).keep (fun k hk => ⟨hb14.block k hk.2, hk.1, Nat.lt_of_lt_of_le hk.2 hb14.size⟩)⟩
  obtain ⟨e1, e2⟩ := unhide HSF k hk hf
  exact ⟨(hb14.block k (by omega)).trans e1, e2⟩
end Go.Proofs.YtkmkkmdpjliifaaGreatDoor
namespace Go.Proofs.YtkmkkmdpjliifaaGreatDoor
open Go.ChangeShapes Go.WideShapes Go.ChangeAt Go.RowKit

/-- what Consent answers besides the token -/
def consE (cs : List Cl) (n sec sub : List UInt8) (scp aud : List (List UInt8)) (life : Int) (now nG : Nat) : Int :=
  match loginK cs n sec with
  | none => 5
  | some m => if (nameN sub && listB scp && listB aud) = false then 2 else if someB scp (cs.getD m default).sc = false then 8 else if someB aud (cs.getD m default).tg = false then 9 else roomE now life nG
/-- the claims of a first token -/
def firstC (sub : List UInt8) (scp aud : List (List UInt8)) (exp : Nat) : Cm := ⟨0, sub, scp, aud, [], exp⟩
theorem clientsB_at {cs : List Cl} (h : clientsB cs = true) (i : Nat) (hi : i < cs.length) : listB (cs.getD i default).sc = true ∧ listB (cs.getD i default).tg = true ∧ listB (cs.getD i default).ac = true := by
  unfold clientsB at h
  simp at h
  have h1 := h.1 i hi
  unfold clOk clGood at h1
  simp at h1
  exact ⟨h1.1.1.1.2, h1.1.1.2, h1.1.2⟩
theorem listB_len {l : List (List UInt8)} (h : listB l = true) : l.length ≤ 6 := (Names.of h).1
theorem room0 {now : Nat} {life : Int} {n : Nat} (h : roomE now life n = 0) : 1 ≤ life ∧ life ≤ 100000 ∧ (now : Int) + life ≤ 999999999999 ∧ n < 40 := by
  unfold roomE at h
  split at h
  · cases h
  · split at h
    · cases h
    · rename_i h1 h2; omega

set_option maxRecDepth 20000 in
set_option maxHeartbeats 4000000 in
theorem Consent_any (n sec sub : List UInt8) (v2 v3 : Value) (scp aud : List (List UInt8)) (life : Int) (w : World) (s R O now : Nat) (vk vs vg : Value) (ks : List Ky) (cs : List Cl) (Qs : List Nat) (G : List Gt) (hS : Sv w s R O now vk vs vg ks cs Qs G) (hT : Tb s w) (hnow : now ≤ 999999999999)
    (hsub : sub.length ≤ 9223372036854775807) (l2 : scp.length ≤ 8796093022208) (l3 : aud.length ≤ 8796093022208) (f2 : Fits scp) (f3 : Fits aud) (k2 : Ls w w.heap.size v2 scp) (k3 : Ls w w.heap.size v3 aud) :
    Calls Tryz.prog 58 #[.pointer (some ⟨s, 0, none⟩), .agg #[.string ⟨n.toArray⟩, .string ⟨sec.toArray⟩], .string ⟨sub.toArray⟩, v2, v3, .int .i64 life] w fun e w' =>
      (consE cs n sec sub scp aud life now G.length ≠ 0 ∧ e = .returned (.tuple #[.string ⟨#[]⟩, .int .i64 (consE cs n sec sub scp aud life now G.length)]) ∧ Below w.heap.size w w') ∨
      (consE cs n sec sub scp aud life now G.length = 0 ∧ ∃ m, loginK cs n sec = some m ∧ e = .returned (.tuple #[.string ⟨(tokS (ks.getD 0 default) (plainS { firstC sub scp aud (now + life.toNat) with id := G.length + 1 })).toArray⟩, .int .i64 0]) ∧ GaveR w s R O now vk vs vg ks cs Qs G m none (firstC sub scp aud (now + life.toNat)) w') := by
  obtain ⟨wa, hwa⟩ : ∃ wa, wa = w.alloc (.cells #[.string ⟨n.toArray⟩, .string ⟨sec.toArray⟩] 81) := ⟨_, rfl⟩
  have hba : Below w.heap.size w wa := by rw [hwa]; exact (Below.refl _ _).alloc (Nat.le_refl _) _
  have hsa : wa.heap.size = w.heap.size + 1 := by rw [hwa]; simp
  have hSa := hS.below hba
  have r2 : wa.cell? ⟨s, 2, none⟩ = some (.pointer (some ⟨O, 0, none⟩)) := hSa.row.cell (j := 2) (by decide)
  have g0 : wa.cell? ⟨w.heap.size, 0, none⟩ = some (.string ⟨n.toArray⟩) := by rw [hwa]; simp
  have g1 : wa.cell? ⟨w.heap.size, 1, none⟩ = some (.string ⟨sec.toArray⟩) := by rw [hwa]; simp
  have hsl := hS.lt
  have hLg := Login_any n sec wa.drew s R O vk vs ks cs Qs (show s ≤ wa.heap.size by omega) (hSa.sb.below (Below.refl s wa).drew)
  have HS := hide hS
  have HT := hide hT
  have HL := hide (And.intro hsub (And.intro l2 (And.intro l3 (And.intro f2 (And.intro f3 hnow)))))
  have HWA := hide hwa
  have HBA := hide hba
  have HK2 := hide k2
  have HK3 := hide k3
  obtain ⟨a2, c2, rfl, _⟩ := k2
  obtain ⟨a3, c3, rfl, _⟩ := k3
  have hsb := hSa.sb
  clear hT hsub l2 l3 f2 f3 hnow hwa hba hSa hS
  cases hlk : loginK cs n sec with
  | none =>
    have hce : consE cs n sec sub scp aud life now G.length = 5 := by unfold consE; rw [hlk]
    have hL0 : Calls Tryz.prog 93 #[.pointer (some ⟨O, 0, none⟩), .agg #[.string ⟨n.toArray⟩, .string ⟨sec.toArray⟩]] wa.drew fun e w' => Below wa.drew.heap.size wa.drew w' ∧ e = .returned (.tuple #[.pointer none, .int .i64 5]) := hLg.mono (fun e w' ⟨h1, h2⟩ => ⟨h1, by
      rcases h2 with ⟨_, h3⟩ | ⟨m, q, h3, _⟩
      · exact h3
      · rw [hlk] at h3; cases h3⟩)
    rw [hce]
    have HLg := hide hL0
    clear hLg hL0 hlk hce hsb
    go_enter Tryz.func58, Tryz.ntmps58
    go_wp2_with fail
    rw [← unhide HWA]
    clear HWA
    go_region_held3 (fun w' => w'.cell? ⟨s, 2, none⟩ = some (.pointer (some ⟨O, 0, none⟩)) ∧ w'.cell? ⟨w.heap.size, 0, none⟩ = some (.string ⟨n.toArray⟩) ∧ w'.cell? ⟨w.heap.size, 1, none⟩ = some (.string ⟨sec.toArray⟩)) (go_keep)
      (first | (go_at_call 93; refine (unhide HLg).mono ?_; rintro e w1 ⟨hb1, rfl⟩; have t0 := (hb1.cell (p := ⟨s, 2, none⟩) (show s < wa.heap.size by omega)).trans r2; have t1 := (hb1.cell (p := ⟨w.heap.size, 0, none⟩) (show w.heap.size < wa.heap.size by omega)).trans g0; have t2 := (hb1.cell (p := ⟨w.heap.size, 1, none⟩) (show w.heap.size < wa.heap.size by omega)).trans g1))
    go_wp2_with fail
    go_ret2
    exact Or.inl ⟨by decide, rfl, (unhide HBA).drew.trans (hb1.mono (show w.heap.size ≤ wa.heap.size by omega))⟩
  | some m =>
    have hm := loginK_lt hlk
    obtain ⟨q, hq⟩ : ∃ q, Qs[m]? = some q := ⟨_, List.getElem?_eq_getElem (by rw [hsb.len]; exact hm)⟩
    have hL0 : Calls Tryz.prog 93 #[.pointer (some ⟨O, 0, none⟩), .agg #[.string ⟨n.toArray⟩, .string ⟨sec.toArray⟩]] wa.drew fun e w' => Below wa.drew.heap.size wa.drew w' ∧ e = .returned (.tuple #[.pointer (some ⟨q, 0, none⟩), .int .i64 0]) := hLg.mono (fun e w' ⟨h1, h2⟩ => ⟨h1, by
      rcases h2 with ⟨h3, _⟩ | ⟨m2, q2, h3, h4, h5⟩
      · rw [hlk] at h3; cases h3
      · rw [hlk] at h3; cases h3; rw [hq] at h4; cases h4; exact h5⟩)
    obtain ⟨hqs, p2, p3, p4, hcell, hP2, hP3, hP4⟩ := hsb.cli m q hq
    have HLg := hide hL0
    have HM := hide (And.intro hm (And.intro hq hlk))
    have hqs' : q < s := hqs
    clear hLg hL0 hlk hq hm hP2 hP3 hP4 hcell hqs
    go_enter Tryz.func58, Tryz.ntmps58
    go_wp2_with fail
    rw [← unhide HWA]
    clear HWA
    go_region_held3 (fun w' => w'.cell? ⟨s, 2, none⟩ = some (.pointer (some ⟨O, 0, none⟩)) ∧ w'.cell? ⟨w.heap.size, 0, none⟩ = some (.string ⟨n.toArray⟩) ∧ w'.cell? ⟨w.heap.size, 1, none⟩ = some (.string ⟨sec.toArray⟩)) (go_keep)
      (first | (go_at_call 93; refine (unhide HLg).mono ?_; rintro e w1 ⟨hb1, rfl⟩; have t0 := (hb1.cell (p := ⟨s, 2, none⟩) (show s < wa.heap.size by omega)).trans r2; have t1 := (hb1.cell (p := ⟨w.heap.size, 0, none⟩) (show w.heap.size < wa.heap.size by omega)).trans g0; have t2 := (hb1.cell (p := ⟨w.heap.size, 1, none⟩) (show w.heap.size < wa.heap.size by omega)).trans g1))
    have hs1 : wa.heap.size ≤ w1.heap.size := hb1.size
    have hbw1 : Below w.heap.size w w1 := (unhide HBA).drew.trans (hb1.mono (show w.heap.size ≤ wa.heap.size by omega))
    have HB1 := hide hbw1
    have hce : consE cs n sec sub scp aud life now G.length = if (nameN sub && listB scp && listB aud) = false then 2 else if someB scp (cs.getD m default).sc = false then 8 else if someB aud (cs.getD m default).tg = false then 9 else roomE now life G.length := by unfold consE; rw [(unhide HM).2.2]
    have HCE := hide hce
    clear hce hbw1 hb1 t0 t1 t2 r2 g0 g1 HLg HBA
    go_wp2_with fail
    refine (IsName_any sub w1 (unhide HL).1 ((unhide HT).ut.belowS (unhide HB1))).mono ?_
    rintro e w2 ⟨rfl, hb2⟩
    have hs2 := hb2.size
    have HB2 := hide ((unhide HB1).trans (hb2.mono (by omega)))
    clear hb2
    cases hx1 : nameN sub with
    | false =>
      have hc2 : consE cs n sec sub scp aud life now G.length = 2 := by rw [unhide HCE, hx1]; rfl
      have HC2 := hide hc2
      clear hc2 hx1
      go_wp2_with fail
      go_ret2
      exact Or.inl ⟨by rw [unhide HC2]; decide, by rw [unhide HC2]; rfl, unhide HB2⟩
    | true =>
    go_wp2_with fail
    refine (IsList_any _ scp w2 w.heap.size (by omega) (unhide HL).2.1 (unhide HL).2.2.2.1 ((unhide HK2).below (unhide HB2)) ((unhide HT).ut.belowS (unhide HB2))).mono ?_
    rintro e w3 ⟨rfl, hb3⟩
    have hs3 := hb3.size
    have HB3 := hide ((unhide HB2).trans (hb3.mono (by omega)))
    clear hb3
    cases hx2 : listB scp with
    | false =>
      have hc2 : consE cs n sec sub scp aud life now G.length = 2 := by rw [unhide HCE, hx1, hx2]; rfl
      have HC2 := hide hc2
      clear hc2 hx1 hx2
      go_wp2_with fail
      go_ret2
      exact Or.inl ⟨by rw [unhide HC2]; decide, by rw [unhide HC2]; rfl, unhide HB3⟩
    | true =>
    go_wp2_with fail
    refine (IsList_any _ aud w3 w.heap.size (by omega) (unhide HL).2.2.1 (unhide HL).2.2.2.2.1 ((unhide HK3).below (unhide HB3)) ((unhide HT).ut.belowS (unhide HB3))).mono ?_
    rintro e w4 ⟨rfl, hb4⟩
    have hs4 := hb4.size
    have HB4 := hide ((unhide HB3).trans (hb4.mono (by omega)))
    clear hb4
    cases hx3 : listB aud with
    | false =>
      have hc2 : consE cs n sec sub scp aud life now G.length = 2 := by rw [unhide HCE, hx1, hx2, hx3]; rfl
      have HC2 := hide hc2
      clear hc2 hx1 hx2 hx3
      go_wp2_with fail
      go_ret2
      exact Or.inl ⟨by rw [unhide HC2]; decide, by rw [unhide HC2]; rfl, unhide HB4⟩
    | true =>
    have hS4 := (unhide HS).below (unhide HB4)
    obtain ⟨_, p2, p3, p4, hcell, hP2, hP3, _⟩ := hS4.sb.cli m q (unhide HM).2.1
    have q1 : w4.cell? ⟨q, 1, none⟩ = some (.func (.func 188) #[] #[.pointer (some ⟨p2, 0, none⟩)]) := hcell 1 (by decide)
    have q2 : w4.cell? ⟨q, 2, none⟩ = some (.func (.func 188) #[] #[.pointer (some ⟨p3, 0, none⟩)]) := hcell 2 (by decide)
    have hcl := clientsB_at hS4.sb.cb m (unhide HM).1
    have HA2 := hide (areSome_any _ scp p2 (cs.getD m default).sc w4 w.heap.size (· < s) (fun k hk => by have : k < s := hk; omega) (unhide HL).2.1 (by have := listB_len hcl.1; omega) ((unhide HK2).below (unhide HB4)) hP2)
    have HA3 := hide (areSome_any _ aud p3 (cs.getD m default).tg w4 w.heap.size (· < s) (fun k hk => by have : k < s := hk; omega) (unhide HL).2.2.1 (by have := listB_len hcl.2.1; omega) ((unhide HK3).below (unhide HB4)) hP3)
    have HX := hide (And.intro hx1 (And.intro hx2 hx3))
    have HCE2 : Hid (consE cs n sec sub scp aud life now G.length = if someB scp (cs.getD m default).sc = false then 8 else if someB aud (cs.getD m default).tg = false then 9 else roomE now life G.length) := by unfold Hid; rw [unhide HCE, hx1, hx2, hx3]; rfl
    have HRm := hide (checkRoom_any life (unhide HL).2.2.2.2.2 hS4)
    have HS4 := hide hS4
    clear hcell hP2 hP3 hcl hx1 hx2 hx3 HCE hS4
    go_wp2_with fail
    refine (unhide HA2).mono ?_
    rintro e w5 ⟨rfl, rfl⟩
    cases hy1 : someB scp (cs.getD m default).sc with
    | false =>
      have hc2 : consE cs n sec sub scp aud life now G.length = 8 := by rw [unhide HCE2, hy1]; rfl
      have HC2 := hide hc2
      clear hc2 hy1
      go_wp2_with fail
      go_ret2
      exact Or.inl ⟨by rw [unhide HC2]; decide, by rw [unhide HC2]; rfl, unhide HB4⟩
    | true =>
    go_wp2_with fail
    refine (unhide HA3).mono ?_
    rintro e w6 ⟨rfl, rfl⟩
    cases hy2 : someB aud (cs.getD m default).tg with
    | false =>
      have hc2 : consE cs n sec sub scp aud life now G.length = 9 := by rw [unhide HCE2, hy1, hy2]; rfl
      have HC2 := hide hc2
      clear hc2 hy1 hy2
      go_wp2_with fail
      go_ret2
      exact Or.inl ⟨by rw [unhide HC2]; decide, by rw [unhide HC2]; rfl, unhide HB4⟩
    | true =>
    have hc3 : consE cs n sec sub scp aud life now G.length = roomE now life G.length := by rw [unhide HCE2, hy1, hy2]; rfl
    have HC3 := hide hc3
    clear hc3 hy1 hy2 HCE2 HA2 HA3
    go_wp2_with fail
    refine (unhide HRm).mono ?_
    rintro e w7 ⟨rfl, rfl⟩
    clear HRm
    by_cases hz : roomE now life G.length = 0
    · obtain ⟨hl1, hl2, hl3, hl4⟩ := room0 hz
      obtain ⟨xe, hxe⟩ : ∃ xe : Nat, xe = now + life.toNat := ⟨_, rfl⟩
      have hw : wrap64 ((now : Int) + life) = ((xe : Nat) : Int) := by rw [hxe, w64 _ (by omega) (by omega)]; omega
      have hxe9 : xe ≤ 999999999999 := by omega
      obtain ⟨wb, hwb⟩ : ∃ wb, wb = w7.alloc (.cells #[.int .i64 0, .string ⟨sub.toArray⟩, .slice a2 scp.length c2, .slice a3 aud.length c3, .slice none 0 0, .int .i64 (xe : Nat)] 60) := ⟨_, rfl⟩
      have hbb : Below w7.heap.size w7 wb := by rw [hwb]; exact (Below.refl _ _).alloc (Nat.le_refl _) _
      have hsb' : wb.heap.size = w7.heap.size + 1 := by rw [hwb]; simp
      have hBwb : Below w.heap.size w wb := (unhide HB4).trans (hbb.mono (by omega))
      obtain ⟨hx1, hx2, hx3⟩ := unhide HX
      have hcz : CzS (firstC sub scp aud xe).z := ⟨(unhide HL).1, (unhide HL).2.1, (unhide HL).2.2.1, by show 0 ≤ _; omega, (unhide HL).2.2.2.1, (unhide HL).2.2.2.2.1, fun i hi => absurd hi (by show ¬ i < 0; omega)⟩
      have hcl : CzL wb wb.heap.size (firstC sub scp aud xe).z ⟨a2, c2, a3, c3, none, 0⟩ := ⟨((unhide HK2).below hBwb).up (by omega), ((unhide HK3).below hBwb).up (by omega), ⟨none, 0, rfl, Nat.le_refl _, fun h => absurd h (by show ¬ 0 < 0; omega)⟩⟩
      have hrt : rightB { firstC sub scp aud xe with id := G.length + 1 }.z = true := by
        rw [rightB_eq]
        show (nameN sub && (listB scp && (listB aud && (listB [] && numsB ((G.length + 1 : Nat) : Int) ((xe : Nat) : Int))))) = true
        rw [hx1, hx2, hx3]
        have hn : numsB ((G.length + 1 : Nat) : Int) ((xe : Nat) : Int) = true := by unfold numsB; simp; omega
        rw [hn]; rfl
      have HGv := hide (give_any (firstC sub scp aud xe) ⟨a2, c2, a3, c3, none, 0⟩ m none wb s R O now vk vs vg ks cs Qs G ((unhide HS4).below hbb) hcz hcl (unhide HM).1 (fun k h => by cases h) hrt hl4 ((unhide HT).below (hBwb.mono (Nat.le_of_lt hsl))))
      have hqm : Qs.getD m 0 = q := by simp [List.getD, (unhide HM).2.1]
      rw [hqm] at HGv
      have r0 : w7.cell? ⟨s, 0, none⟩ = some (.int .i64 (now : Nat)) := (unhide HS4).row.cell (j := 0) (by decide)
      have HXE := hide hxe
      have HWB := hide hwb
      have HBWB := hide hBwb
      have HZ0 := hide hz
      clear hcz hcl hrt hqm hx1 hx2 hx3 hxe hxe9 hwb hBwb hl1 hl2 hl3 hl4 q1 q2
      rw [hz]
      clear hz
      generalize ((now : Nat) : Int) = nw at *
      go_wp2_with fail
      rw [← unhide HWB]
      refine (unhide HGv).mono ?_
      rintro e w8 ⟨rfl, hgv⟩
      have HGR : Hid (GaveR w s R O now vk vs vg ks cs Qs G m none (firstC sub scp aud xe) w8) := by
        obtain ⟨vg', b, pl, h1, h2, h3, h4⟩ := hgv
        refine ⟨vg', b, pl, h1, ((unhide HBWB).mono (Nat.le_of_lt hsl)).trans h2, fun k hk hf => ?_, h4.keep (fun k hk => ⟨rfl, by have h5 : wb.heap.size ≤ k := hk.1; show w.heap.size ≤ k; omega, hk.2⟩)⟩
        obtain ⟨e1, e2⟩ := h3 k (by omega) hf
        exact ⟨e1.trans ((unhide HBWB).block k hk), e2⟩
      generalize htok : tokS (ks.getD 0 default) (plainS { firstC sub scp aud xe with id := G.length + 1 }) = tok
      have HTok := hide htok
      clear htok hgv HGv HWB r0
      go_wp2_with fail
      go_ret2
      refine Or.inr ⟨by rw [unhide HC3, unhide HZ0], m, rfl, ?_, ?_⟩
      · rw [← unhide HXE, unhide HTok]; rfl
      · rw [← unhide HXE]; exact unhide HGR
    · have HZ := hide hz
      have hzI : ¬ roomE now life G.length = 0 := hz
      generalize roomE now life G.length = rm at *
      go_wp2_with fail
      go_ret2
      exact Or.inl ⟨by rw [unhide HC3]; exact unhide HZ, by rw [unhide HC3]; rfl, unhide HB4⟩
end Go.Proofs.YtkmkkmdpjliifaaGreatDoor
