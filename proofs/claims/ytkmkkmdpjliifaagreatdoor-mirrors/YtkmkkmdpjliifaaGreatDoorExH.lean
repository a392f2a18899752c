import Derived.Test.YtkmkkmdpjliifaaGreatDoorExG
import Derived.Deep.CutRange
namespace Go.Proofs.YtkmkkmdpjliifaaGreatDoor
open Go.ChangeShapes Go.WideShapes Go.ChangeAt Go.RowKit

theorem actS_name {w : World} {s R O now : Nat} {vk vs vg : Value} {ks : List Ky} {cs : List Cl} {Qs : List Nat} {G : List Gt} (hS : Sv w s R O now vk vs vg ks cs Qs G) (m i : Nat) (actor : List UInt8) : ∀ x ∈ (actS ks cs G now m i actor).1, nameN x = true := by
  intro x hx
  unfold actS at hx
  split at hx
  · split at hx <;> simp at hx
  · by_cases hz : (takeS ks G now actor).2 = 0
    · obtain ⟨j, htk, hj, _⟩ := takeS_ok hz
      rw [htk] at hx
      dsimp only at hx
      split at hx
      · have e : x = (G.getD j default).c.sub := by
          generalize (G.getD j default).c.sub = y at hx
          simpa using hx
        rw [e]
        have h := hS.right j hj
        rw [rightB_eq, Bool.and_eq_true] at h
        exact h.1
      · simp at hx
    · have hN := takeS_none hz
      generalize takeS ks G now actor = z at hx hN
      obtain ⟨z1, z2⟩ := z
      dsimp only at hN
      subst hN
      simp at hx
theorem names_fits {l : List (List UInt8)} (h : ∀ x ∈ l, nameN x = true) : Fits l := fun i hi => by
  have hm : l.getD i [] ∈ l := by rw [List.getD_eq_getElem?_getD, List.getElem?_eq_getElem hi]; exact List.getElem_mem hi
  have h2 := h _ hm
  unfold nameN at h2
  simp only [Bool.and_eq_true, decide_eq_true_eq] at h2
  omega
/-- behind the narrowing: the claims in a block of their own -/
def ExQ (w1 : World) (nn : Cz × Int) (ev pt : Value) (wc : World) : Prop :=
  ∃ p' g, ev = .int .i64 nn.2 ∧ pt = .pointer (some ⟨g, 0, none⟩) ∧ Row wc g 60 6 (czF nn.1 p') ∧ CzN wc (fun k => k ≠ g ∧ k < wc.heap.size) nn.1 p' ∧ w1.heap.size ≤ g ∧ Below w1.heap.size w1 wc

theorem exqS {w1 wC : World} {nn : Cz × Int} {pC : Pl} {g : Nat} {f : Nat → Value} {N : Nat → Prop} (hR : Row wC g 60 6 f) (hN : CzN wC N nn.1 pC) (hne : ∀ k, N k → k ≠ g ∧ k < wC.heap.size) (hg : w1.heap.size ≤ g) (hB : Below w1.heap.size w1 wC) :
    ExQ w1 nn (.int .i64 nn.2) (.pointer (some ⟨g, 0, none⟩)) (st6 wC g nn.1 pC) := by
  have b6 := st6_but wC g nn.1 pC
  refine ⟨pC, g, rfl, rfl, st6_row hR nn.1 pC, hN.keep (fun k hk => ⟨b6.block k (hne k hk).1, (hne k hk).1, ?_⟩), hg, hB.trans (b6.below hg)⟩
  rw [b6.size]
  exact (hne k hk).2
theorem exqA {w1 wB wC : World} {nn : Cz × Int} {pC : Pl} (h : CzN wC (fun k => ((New w1.drew wB k ∨ k < w1.heap.size) ∨ wB.heap.size ≤ k) ∧ k < wC.heap.size) nn.1 pC ∧ Below wB.heap.size wB wC ∧ Below w1.heap.size w1 wC) :
    ExQ w1 nn (.int .i64 nn.2) (.pointer (some ⟨wC.heap.size, 0, none⟩)) (wC.alloc (.cells #[.int .i64 nn.1.id, .string ⟨nn.1.sub.toArray⟩, .slice pC.a2 nn.1.scp.length pC.c2, .slice pC.a3 nn.1.aud.length pC.c3, .slice pC.a4 nn.1.act.length pC.c4, .int .i64 nn.1.exp] 60)) := by
  have hb : ∀ o, Below wC.heap.size wC (wC.alloc o) := fun o => (Below.refl _ _).alloc (Nat.le_refl _) o
  refine ⟨pC, wC.heap.size, rfl, rfl, Row.new wC 60 _ _ 6 rfl (six rfl rfl rfl rfl rfl rfl), h.1.keep (fun k hk => ⟨(hb _).block k hk.2, by have := hk.2; omega, Nat.lt_of_lt_of_le hk.2 (hb _).size⟩), h.2.2.size, h.2.2.trans ((hb _).mono h.2.2.size)⟩
theorem exqB {w1 wB wC : World} {nn : Cz × Int} {pC : Pl} {ob : Obj} {f : Nat → Value} (hbB : Below w1.heap.size w1 wB) (h : CzN wC (fun k => ((New w1.drew wB k ∨ k < w1.heap.size) ∨ (wB.alloc ob).heap.size ≤ k) ∧ k < wC.heap.size) nn.1 pC ∧ Below (wB.alloc ob).heap.size (wB.alloc ob) wC ∧ Below w1.heap.size w1 wC) (hR : Row wC wB.heap.size 60 6 f) :
    ExQ w1 nn (.int .i64 nn.2) (.pointer (some ⟨wB.heap.size, 0, none⟩)) (st6 wC wB.heap.size nn.1 pC) := by
  have e : (wB.alloc ob).heap.size = wB.heap.size + 1 := by simp
  have hs := hbB.size
  refine exqS hR h.1 (fun k hk => ⟨?_, hk.2⟩) hs h.2.2
  rcases hk.1 with (hk | hk) | hk
  · have := hk.2; omega
  · omega
  · omega
theorem exqC {w1 wB wC : World} {nn : Cz × Int} {pC : Pl} {ob : Obj} {f : Nat → Value} (hbB : Below (w1.drew.alloc ob).heap.size (w1.drew.alloc ob) wB) (h : CzN wC (fun k => ((New (w1.drew.alloc ob) wB k ∨ k < w1.heap.size) ∨ wB.heap.size ≤ k) ∧ k < wC.heap.size) nn.1 pC ∧ Below wB.heap.size wB wC ∧ Below w1.heap.size w1 wC) (hR : Row wC w1.heap.size 60 6 f) :
    ExQ w1 nn (.int .i64 nn.2) (.pointer (some ⟨w1.heap.size, 0, none⟩)) (st6 wC w1.heap.size nn.1 pC) := by
  have e : (w1.drew.alloc ob).heap.size = w1.heap.size + 1 := by
    show (w1.heap.push ob).size = _
    simp
  have hs := hbB.size
  refine exqS hR h.1 (fun k hk => ⟨?_, hk.2⟩) (Nat.le_refl _) h.2.2
  rcases hk.1 with (hk | hk) | hk
  · have : (w1.drew.alloc ob).heap.size ≤ k := hk.1; omega
  · omega
  · omega

set_option linter.unusedSimpArgs false in
set_option maxRecDepth 20000 in
set_option maxHeartbeats 4000000 in
theorem exchange_any (m q i : Nat) (actor : List UInt8) (v1 v2 : Value) (t1 t2 : List (List UInt8)) (life : Int) (w : World) (s R O now : Nat) (vk vs vg : Value) (ks : List Ky) (cs : List Cl) (Qs : List Nat) (G : List Gt) (hS : Sv w s R O now vk vs vg ks cs Qs G) (hT : Tb s w) (hm : MX w) (h4 : 4 < s) (hnow : now ≤ 999999999999) (hi : i < G.length) (hq : Qs[m]? = some q) (ha : actor.length ≤ 1048576)
    (l1 : t1.length ≤ 8796093022208) (l2 : t2.length ≤ 8796093022208) (f1 : Fits t1) (f2 : Fits t2) (k1 : Ls w w.heap.size v1 t1) (k2 : Ls w w.heap.size v2 t2) :
    Calls Tryz.prog 74 #[.pointer (some ⟨s, 0, none⟩), .pointer (some ⟨q, 0, none⟩), .pointer (some ⟨(G.getD i default).b, 0, none⟩), .agg #[.string ⟨actor.toArray⟩, v1, v2, .int .i64 life]] w fun e w' =>
      (exE ks cs G now m i actor t1 t2 life ≠ 0 ∧ e = .returned (.tuple #[.string ⟨#[]⟩, .int .i64 (exE ks cs G now m i actor t1 t2 life)]) ∧ Below w.heap.size w w') ∨
      (exE ks cs G now m i actor t1 t2 life = 0 ∧ e = .returned (.tuple #[.string ⟨(tokS (ks.getD 0 default) (plainS { exC ks cs G now m i actor t1 t2 life with id := G.length + 1 })).toArray⟩, .int .i64 0]) ∧ GaveR w s R O now vk vs vg ks cs Qs G m (some i) (exC ks cs G now m i actor t1 t2 life) w') := by
  have hmm : m < cs.length := by
    rcases Nat.lt_or_ge m Qs.length with h | h
    · rw [← hS.sb.len]; exact h
    · rw [List.getElem?_eq_none h] at hq; cases hq
  have hsl := hS.lt
  have HK1 := hide k1
  have HK2 := hide k2
  obtain ⟨a1, d1, rfl, x1⟩ := k1
  obtain ⟨a2, d2, rfl, x2⟩ := k2
  clear x1 x2
  obtain ⟨w0, hw0⟩ : ∃ w0, w0 = w.alloc (.cells #[.string ⟨actor.toArray⟩, .slice a1 t1.length d1, .slice a2 t2.length d2, .int .i64 life] 124) := ⟨_, rfl⟩
  have hb0 : Below w.heap.size w w0 := by rw [hw0]; exact (Below.refl _ _).alloc (Nat.le_refl _) _
  have hs0 : w0.heap.size = w.heap.size + 1 := by rw [hw0]; simp
  have hR0 : Row w0 w.heap.size 124 4 (fun j => if j = 0 then .string ⟨actor.toArray⟩ else if j = 1 then .slice a1 t1.length d1 else if j = 2 then .slice a2 t2.length d2 else .int .i64 life) := by rw [hw0]; exact Row.new w 124 _ _ 4 rfl (four rfl rfl rfl rfl)
  have g0 : w0.cell? ⟨w.heap.size, 0, none⟩ = some (.string ⟨actor.toArray⟩) := hR0.cell (by decide)
  have hFa := findActor_any m q i actor w0 s R O now vk vs vg ks cs Qs G (hS.below hb0) (hT.below (hb0.mono (Nat.le_of_lt hsl))) (hm.below (show 4 < w.heap.size by omega) hb0) h4 hi hq ha
  have HE : Hid (exE ks cs G now m i actor t1 t2 life = if (actS ks cs G now m i actor).2 ≠ 0 then (actS ks cs G now m i actor).2 else if (narrowS (G.getD i default).c.z (cs.getD m default) t1 t2).2 ≠ 0 then (narrowS (G.getD i default).c.z (cs.getD m default) t1 t2).2 else if roomE now life G.length ≠ 0 then roomE now life G.length else if listB ((actS ks cs G now m i actor).1 ++ (G.getD i default).c.act) = false then 11 else 0) := rfl
  have HC : Hid (exC ks cs G now m i actor t1 t2 life = ⟨(G.getD i default).c.id, (G.getD i default).c.sub, chooseL (G.getD i default).c.scp t1 (cs.getD m default).sc, chooseL (G.getD i default).c.aud t2 (cs.getD m default).tg, (actS ks cs G now m i actor).1 ++ (G.getD i default).c.act, min (G.getD i default).c.exp (now + life.toNat)⟩) := rfl
  have HAl := hide (And.intro (actS_len ks cs G now m i actor) (actS_name hS m i actor))
  generalize exE ks cs G now m i actor t1 t2 life = ex at *
  generalize exC ks cs G now m i actor t1 t2 life = cx at *
  generalize actS ks cs G now m i actor = A at *
  have HFa := hide hFa
  have HS := hide hS
  have HT := hide (And.intro hT (And.intro hm h4))
  have HI := hide (And.intro hi (And.intro hq (And.intro hmm hnow)))
  have HW0 := hide hw0
  have HB0 := hide hb0
  have HR0 := hide hR0
  have HLL := hide (And.intro l1 (And.intro l2 (And.intro f1 f2)))
  have HG : Hid (∃ gb, gb = (G.getD i default).b) := ⟨_, rfl⟩
  clear hS hT hm h4 hi hq hmm hnow hw0 hb0 hR0 l1 l2 f1 f2 hFa ha
  go_enter Tryz.func74, Tryz.ntmps74
  go_wp2_with fail
  rw [← unhide HW0]
  refine (unhide HFa).mono ?_
  rintro e w1 ⟨va, rfl, hLa, hb1⟩
  have hs1 := hb1.size
  have HLa := hide hLa
  have hR1 := (unhide HR0).below hb1 (by omega)
  have HR1 := hide hR1
  have HB1 := hide ((unhide HB0).trans (hb1.mono (by omega)))
  clear HFa HW0 HB0 HR0 hLa hb1 g0 HG
  by_cases hA : A.2 = 0
  · have HE2 : Hid (ex = if (narrowS (G.getD i default).c.z (cs.getD m default) t1 t2).2 ≠ 0 then (narrowS (G.getD i default).c.z (cs.getD m default) t1 t2).2 else if roomE now life G.length ≠ 0 then roomE now life G.length else if listB (A.1 ++ (G.getD i default).c.act) = false then 11 else 0) := by unfold Hid; rw [unhide HE, if_neg (fun h => h hA)]
    have hOk := fun h => narrowS_ok (c := (G.getD i default).c.z) (x := cs.getD m default) (t1 := t1) (t2 := t2) h
    have g0 : w1.cell? ⟨w.heap.size, 0, none⟩ = some (.string ⟨actor.toArray⟩) := hR1.cell (by decide)
    have g1 : w1.cell? ⟨w.heap.size, 1, none⟩ = some (.slice a1 t1.length d1) := hR1.cell (by decide)
    have g2 : w1.cell? ⟨w.heap.size, 2, none⟩ = some (.slice a2 t2.length d2) := hR1.cell (by decide)
    have g3 : w1.cell? ⟨w.heap.size, 3, none⟩ = some (.int .i64 life) := hR1.cell (by decide)
    have HCl : Hid (∀ u : World, Below w1.heap.size w1 u → Calls Tryz.prog 71 #[.pointer (some ⟨(G.getD i default).b, 0, none⟩)] u fun e w' => ∃ p', e = .returned (.agg #[.int .i64 (G.getD i default).c.z.id, .string ⟨(G.getD i default).c.z.sub.toArray⟩, .slice p'.a2 (G.getD i default).c.z.scp.length p'.c2, .slice p'.a3 (G.getD i default).c.z.aud.length p'.c3, .slice p'.a4 (G.getD i default).c.z.act.length p'.c4, .int .i64 (G.getD i default).c.z.exp]) ∧ CzN w' (New u w') (G.getD i default).c.z p' ∧ Below u.heap.size u w' ∧ Below w1.heap.size w1 w') := fun u hu =>
      (Claims_any i u s R O now vk vs vg ks cs Qs G ((unhide HS).below ((unhide HB1).trans (hu.mono (by omega)))) (unhide HI).1).mono (fun e w' ⟨p', h1, h2, h3⟩ => ⟨p', h1, h2, h3, hu.trans (h3.mono hu.size)⟩)
    have hcb := clientsB_at (unhide HS).sb.cb m (unhide HI).2.2.1
    have HNa : Hid (∀ (u0 wB u : World) (p' : Pl), CzN wB (New u0 wB) (G.getD i default).c.z p' → Below u0.heap.size u0 wB → Below w1.heap.size w1 wB → Below wB.heap.size wB u → w1.heap.size ≤ u0.heap.size → Calls Tryz.prog 109 #[.agg #[.int .i64 (G.getD i default).c.z.id, .string ⟨(G.getD i default).c.z.sub.toArray⟩, .slice p'.a2 (G.getD i default).c.z.scp.length p'.c2, .slice p'.a3 (G.getD i default).c.z.aud.length p'.c3, .slice p'.a4 (G.getD i default).c.z.act.length p'.c4, .int .i64 (G.getD i default).c.z.exp], .pointer (some ⟨q, 0, none⟩), .agg #[.string ⟨actor.toArray⟩, .slice a1 t1.length d1, .slice a2 t2.length d2, .int .i64 life]] u fun e w' => ∃ p'', e = .returned (.tuple #[.agg #[.int .i64 (narrowS (G.getD i default).c.z (cs.getD m default) t1 t2).1.id, .string ⟨(narrowS (G.getD i default).c.z (cs.getD m default) t1 t2).1.sub.toArray⟩, .slice p''.a2 (narrowS (G.getD i default).c.z (cs.getD m default) t1 t2).1.scp.length p''.c2, .slice p''.a3 (narrowS (G.getD i default).c.z (cs.getD m default) t1 t2).1.aud.length p''.c3, .slice p''.a4 (narrowS (G.getD i default).c.z (cs.getD m default) t1 t2).1.act.length p''.c4, .int .i64 (narrowS (G.getD i default).c.z (cs.getD m default) t1 t2).1.exp], .int .i64 (narrowS (G.getD i default).c.z (cs.getD m default) t1 t2).2]) ∧
        CzN w' (fun k => ((New u0 wB k ∨ k < w1.heap.size) ∨ u.heap.size ≤ k) ∧ k < w'.heap.size) (narrowS (G.getD i default).c.z (cs.getD m default) t1 t2).1 p'' ∧ Below u.heap.size u w' ∧ Below w1.heap.size w1 w') := fun u0 wB u p' hN hb0 hb1 hbu hle => by
      have hsB := hb1.size
      have hsu := hbu.size
      have hwu : Below w.heap.size w u := ((unhide HB1).trans (hb1.mono (by omega))).trans (hbu.mono (by omega))
      refine (narrow_any (G.getD i default).c.z p' (cs.getD m default) q s actor (.slice a1 t1.length d1) (.slice a2 t2.length d2) t1 t2 life u (by omega) ((unhide HT).1.ut.belowS hwu) (right_czs ((unhide HS).right i (unhide HI).1)) (fun k => New u0 wB k ∨ k < w1.heap.size) (fun k hk => ?_) (hN.keep (fun k hk => ⟨hbu.block k hk.2, Or.inl hk⟩)) (((unhide HS).sb.cli m q (unhide HI).2.1).keep (fun k hk => ⟨hwu.block k (by have : k < s := hk; omega), hk⟩)) (listB_len hcb.1) (listB_len hcb.2.1) (unhide HLL).1 (unhide HLL).2.1 (unhide HLL).2.2.1 (unhide HLL).2.2.2 ?_ ?_).mono (fun e w' ⟨p'', h1, h2, h3⟩ => ⟨p'', h1, h2, h3, (hb1.trans (hbu.mono hsB)).trans (h3.mono (by omega))⟩)
      · rcases hk with hk | hk
        · exact Nat.lt_of_lt_of_le hk.2 hsu
        · omega
      · exact LsN.keep (N := (· < w.heap.size)) (unhide HK1) (fun k hk => ⟨hwu.block k hk, Or.inr (by have : k < w.heap.size := hk; omega)⟩)
      · exact LsN.keep (N := (· < w.heap.size)) (unhide HK2) (fun k hk => ⟨hwu.block k hk, Or.inr (by have : k < w.heap.size := hk; omega)⟩)
    have HOk := hide hOk
    clear hOk hcb HE
    generalize hnn : narrowS (G.getD i default).c.z (cs.getD m default) t1 t2 = nn at *
    have HNN := hide hnn
    clear hnn
    generalize hgi : G.getD i default = gi at *
    have HGI := hide hgi
    clear hgi hR1
    obtain ⟨aa, da, rfl, xa⟩ := unhide HLa
    clear xa
    have nnw : w.heap.size ≠ w1.heap.size := by omega
    have mmw : w1.heap.size ≠ w.heap.size := by omega
    go_wp2_with fail
    go_cut [11, 12] from 26 to 33 (fun ev pt wc => ExQ w1 nn ev pt wc)
    case first =>
      go_region_held3 (fun w' => w'.cell? ⟨w.heap.size, 0, none⟩ = some (.string ⟨actor.toArray⟩) ∧ w'.cell? ⟨w.heap.size, 1, none⟩ = some (.slice a1 t1.length d1) ∧ w'.cell? ⟨w.heap.size, 2, none⟩ = some (.slice a2 t2.length d2) ∧ w'.cell? ⟨w.heap.size, 3, none⟩ = some (.int .i64 life)) (go_keep)
        (first
          | (go_at_call 71; refine (unhide HCl _ (by first | exact (Below.refl _ _).drew | exact ((Below.refl _ _).drew.alloc (Nat.le_refl _) _))).mono ?_; rintro e wB ⟨pB, rfl, nB, bB, BB⟩; have x0 := (BB.cell (p := ⟨w.heap.size, 0, none⟩) (by show w.heap.size < w1.heap.size; omega)).trans g0; have x1 := (BB.cell (p := ⟨w.heap.size, 1, none⟩) (by show w.heap.size < w1.heap.size; omega)).trans g1; have x2 := (BB.cell (p := ⟨w.heap.size, 2, none⟩) (by show w.heap.size < w1.heap.size; omega)).trans g2; have x3 := (BB.cell (p := ⟨w.heap.size, 3, none⟩) (by show w.heap.size < w1.heap.size; omega)).trans g3; (try (have R9 : Row wB w1.heap.size 60 6 (czF cz0 pl0) := (Row.new w1.drew 60 #[.int .i64 0, .string ⟨#[]⟩, .slice none 0 0, .slice none 0 0, .slice none 0 0, .int .i64 0] (czF cz0 pl0) 6 rfl (six rfl rfl rfl rfl rfl rfl)).below bB (by simp); have q0 : wB.cell? ⟨w1.heap.size, 0, none⟩ = some (.int .i64 0) := R9.cell (by decide); have f0 := R9.frozen 0; have q1 : wB.cell? ⟨w1.heap.size, 1, none⟩ = some (.string ⟨#[]⟩) := R9.cell (by decide); have f1 := R9.frozen 1; have q2 : wB.cell? ⟨w1.heap.size, 2, none⟩ = some (.slice none 0 0) := R9.cell (by decide); have f2 := R9.frozen 2; have q3 : wB.cell? ⟨w1.heap.size, 3, none⟩ = some (.slice none 0 0) := R9.cell (by decide); have f3 := R9.frozen 3; have q4 : wB.cell? ⟨w1.heap.size, 4, none⟩ = some (.slice none 0 0) := R9.cell (by decide); have f4 := R9.frozen 4; have q5 : wB.cell? ⟨w1.heap.size, 5, none⟩ = some (.int .i64 0) := R9.cell (by decide); have f5 := R9.frozen 5)); have nnB : w.heap.size ≠ wB.heap.size := (by have := BB.size; omega); have mmB : wB.heap.size ≠ w.heap.size := (by have := BB.size; omega); have R2 := hide (And.intro nB (And.intro bB BB)); clear nB bB BB)
          | (go_at_call 109; refine (unhide HNa _ wB _ pB (unhide R2).1 (unhide R2).2.1 (unhide R2).2.2 (by first | exact Below.refl _ _ | exact (Below.refl _ _).alloc (Nat.le_refl _) _) (by first | exact Nat.le_refl _ | (simp; done))).mono ?_; rintro e wC ⟨pC, rfl, nC, bC, BC⟩; have y0 := (BC.cell (p := ⟨w.heap.size, 0, none⟩) (by show w.heap.size < w1.heap.size; omega)).trans g0; have y1 := (BC.cell (p := ⟨w.heap.size, 1, none⟩) (by show w.heap.size < w1.heap.size; omega)).trans g1; have y2 := (BC.cell (p := ⟨w.heap.size, 2, none⟩) (by show w.heap.size < w1.heap.size; omega)).trans g2; have y3 := (BC.cell (p := ⟨w.heap.size, 3, none⟩) (by show w.heap.size < w1.heap.size; omega)).trans g3; (first | (have R9 : Row wC wB.heap.size 60 6 (czF cz0 pl0) := (Row.new wB 60 #[.int .i64 0, .string ⟨#[]⟩, .slice none 0 0, .slice none 0 0, .slice none 0 0, .int .i64 0] (czF cz0 pl0) 6 rfl (six rfl rfl rfl rfl rfl rfl)).below bC (by simp); have q0 : wC.cell? ⟨_, 0, none⟩ = some (.int .i64 0) := R9.cell (by decide); have f0 := R9.frozen 0; have q1 : wC.cell? ⟨_, 1, none⟩ = some (.string ⟨#[]⟩) := R9.cell (by decide); have f1 := R9.frozen 1; have q2 : wC.cell? ⟨_, 2, none⟩ = some (.slice none 0 0) := R9.cell (by decide); have f2 := R9.frozen 2; have q3 : wC.cell? ⟨_, 3, none⟩ = some (.slice none 0 0) := R9.cell (by decide); have f3 := R9.frozen 3; have q4 : wC.cell? ⟨_, 4, none⟩ = some (.slice none 0 0) := R9.cell (by decide); have f4 := R9.frozen 4; have q5 : wC.cell? ⟨_, 5, none⟩ = some (.int .i64 0) := R9.cell (by decide); have f5 := R9.frozen 5) | (have R9 := Row.below R9 bC (Row.lt R9); have q0 : wC.cell? ⟨_, 0, none⟩ = some (.int .i64 0) := R9.cell (by decide); have f0 := R9.frozen 0; have q1 : wC.cell? ⟨_, 1, none⟩ = some (.string ⟨#[]⟩) := R9.cell (by decide); have f1 := R9.frozen 1; have q2 : wC.cell? ⟨_, 2, none⟩ = some (.slice none 0 0) := R9.cell (by decide); have f2 := R9.frozen 2; have q3 : wC.cell? ⟨_, 3, none⟩ = some (.slice none 0 0) := R9.cell (by decide); have f3 := R9.frozen 3; have q4 : wC.cell? ⟨_, 4, none⟩ = some (.slice none 0 0) := R9.cell (by decide); have f4 := R9.frozen 4; have q5 : wC.cell? ⟨_, 5, none⟩ = some (.int .i64 0) := R9.cell (by decide); have f5 := R9.frozen 5) | skip); have nnC : w.heap.size ≠ wC.heap.size := (by have := BC.size; omega); have mmC : wC.heap.size ≠ w.heap.size := (by have := BC.size; omega); have R3 := hide (And.intro nC (And.intro bC BC)); clear nC bC BC))
      · go_wp2_with fail
        go_meet
        exact exqA (unhide R3)
      · go_wp2_with fail
        go_meet
        exact exqB (unhide R2).2.2 (unhide R3) R9
      · go_wp2_with fail
        go_meet
        exact exqC (unhide R2).2.1 (unhide R3) R9
    case rest =>
      obtain ⟨p', g, rfl, rfl, hRow, hN, hg, hbc⟩ := hcut
      have hsc := hbc.size
      have hwc := (unhide HB1).trans (hbc.mono (show w.heap.size ≤ w1.heap.size by omega))
      have hSc := (unhide HS).below hwc
      have HSc := hide hSc
      have HRm := hide (checkRoom_any life (unhide HI).2.2.2 hSc)
      have HWC := hide hwc
      have c3 : wc.cell? ⟨w.heap.size, 3, none⟩ = some (.int .i64 life) := (hbc.cell (p := ⟨w.heap.size, 3, none⟩) (show w.heap.size < w1.heap.size by omega)).trans g3
      have HRow := hide hRow
      have HN := hide hN
      have hgl := hRow.lt
      have HBC := hide hbc
      clear HCl HNa hSc hwc hRow hN g0 g1 g2 g3 hbc
      by_cases hn0 : nn.2 = 0
      · obtain ⟨hn1, hl1, hl2⟩ := unhide HOk hn0
        have HE3 : Hid (ex = if roomE now life G.length ≠ 0 then roomE now life G.length else if listB (A.1 ++ gi.c.act) = false then 11 else 0) := by unfold Hid; rw [unhide HE2, if_neg (fun h => h hn0)]
        have HL12 := hide (And.intro hl1 hl2)
        obtain ⟨nn1, nn2⟩ := nn
        dsimp only at hn0 hn1
        subst hn0
        subst hn1
        dsimp only at HRow HN
        clear HOk HE2 HNN hl1 hl2
        by_cases hr : roomE now life G.length = 0
        · obtain ⟨e1, e2, e3, e4⟩ := room0 hr
          have HRM := hide (And.intro e1 (And.intro e2 (And.intro e3 e4)))
          rw [hr] at HRm
          have HE4 : Hid (ex = if listB (A.1 ++ gi.c.act) = false then 11 else 0) := by unfold Hid; rw [unhide HE3, if_neg (fun h => h hr)]
          have hri := (unhide HS).right i (unhide HI).1
          rw [unhide HGI, rightB_eq] at hri
          simp only [Bool.and_eq_true] at hri
          obtain ⟨q1, q2, q3, q4, q5⟩ := hri
          have hact6 := listB_len q4
          have hact6' : gi.c.act.length ≤ 6 := hact6
          obtain ⟨wd, hwd⟩ : ∃ wd, wd = wc.alloc (.cells #[.slice aa A.1.length da, .slice p'.a4 gi.c.act.length p'.c4] 35) := ⟨_, rfl⟩
          have hbd : Below wc.heap.size wc wd := by rw [hwd]; exact (Below.refl _ _).alloc (Nat.le_refl _) _
          have hsd : wd.heap.size = wc.heap.size + 1 := by rw [hwd]; simp
          have hLa := (((unhide HLa).below (unhide HBC)).up (show w1.heap.size ≤ wc.heap.size by omega)).below hbd
          have hLb : Ls wd wc.heap.size (.slice p'.a4 gi.c.act.length p'.c4) gi.c.act := ((unhide HN).k4.ls (B := wc.heap.size) (fun k hk => hk.2)).below hbd
          have HCc := hide (Concat_any wc.heap.size (.slice aa A.1.length da) (.slice p'.a4 gi.c.act.length p'.c4) A.1 gi.c.act wd (by have := (unhide HAl).1; omega) (by omega) (by rw [hwd]; simp) (by rw [hwd]; simp) (by omega) (hLa.up (by omega)) (hLb.up (by omega)))
          have r4 : wc.cell? ⟨g, 4, none⟩ = some (.slice p'.a4 gi.c.act.length p'.c4) := (unhide HRow).cell (by decide)
          have HRi := hide (And.intro q1 (And.intro q2 (And.intro q3 (And.intro q4 q5))))
          have HFL : Hid (Fits (A.1 ++ gi.c.act)) := names_fits (fun x hx => (List.mem_append.1 hx).elim ((unhide HAl).2 x) (((listB_iff _).1 q4).2.1 x))
          have HLen : Hid ((A.1 ++ gi.c.act).length ≤ 1000) := by unfold Hid; rw [List.length_append]; have := (unhide HAl).1; omega
          have HWD := hide hwd
          have HBD := hide hbd
          clear q1 q2 q3 q4 q5 hact6 hact6' e1 e2 e3 e4 HE3 hwd hLa hLb hbd hr
          go_wp2_with fail
          refine (unhide HRm).mono ?_
          rintro e w5 ⟨rfl, hy⟩
          rw [hy]
          clear HRm hy
          go_wp2_with fail
          rw [← unhide HWD]
          refine (unhide HCc).mono ?_
          rintro e w5 ⟨v5, rfl, hO5, hb5⟩
          have hs5 := hb5.size
          have hbc5 : Below wc.heap.size wc w5 := (unhide HBD).trans (hb5.mono (by omega))
          generalize hLL : A.1 ++ gi.c.act = L at *
          have HLL5 := hide hLL
          have HO5 := hide hO5
          obtain ⟨a5, d5, rfl, x5⟩ := hO5.ls
          have hR5 := (unhide HRow).below hbc5 hgl
          have c54 : w5.cell? ⟨g, 4, none⟩ = some (.slice p'.a4 gi.c.act.length p'.c4) := hR5.cell (by decide)
          have z54 := hR5.frozen 4
          have hB6 := (But.refl g w5).setCell 4 (.slice a5 L.length d5)
          have hR6 := hR5.set_czF 4 (.slice a5 L.length d5) (c' := { gi.c.z with scp := chooseL gi.c.z.scp t1 (cs.getD m default).sc, aud := chooseL gi.c.z.aud t2 (cs.getD m default).tg, act := L }) (p' := { p' with a4 := a5, c4 := d5 }) (six rfl rfl rfl rfl rfl rfl)
          have hs6 : (w5.setCell ⟨g, 4, none⟩ (.slice a5 L.length d5)).heap.size = w5.heap.size := hB6.size
          have hO6 : OwnS (w5.setCell ⟨g, 4, none⟩ (.slice a5 L.length d5)) wd.heap.size (.slice a5 L.length d5) L := (unhide HO5).keep (fun k hk _ => hB6.block k (by omega))
          have hbw6 : Below w.heap.size w (w5.setCell ⟨g, 4, none⟩ (.slice a5 L.length d5)) := ((unhide HWC).trans (hbc5.mono (by omega))).trans (hB6.below (by omega))
          have HN6 : Hid (CzN (w5.setCell ⟨g, 4, none⟩ (.slice a5 L.length d5)) (fun k => k ≠ g ∧ k < w5.heap.size) { gi.c.z with scp := chooseL gi.c.z.scp t1 (cs.getD m default).sc, aud := chooseL gi.c.z.aud t2 (cs.getD m default).tg } p') := (unhide HN).keep (fun k hk => ⟨(hB6.block k hk.1).trans (hbc5.block k hk.2), hk.1, by have := hk.2; omega⟩)
          have HB56 := hide ((hbc5.mono (show g ≤ wc.heap.size by omega)).trans (hB6.below (Nat.le_refl g)))
          generalize hw6 : w5.setCell ⟨g, 4, none⟩ (.slice a5 L.length d5) = w6 at *
          have HIl := hide (IsList_any (.slice a5 L.length d5) L w6 w6.heap.size (Nat.le_refl _) (by have := unhide HLen; omega) (unhide HFL) hO6.ls ((unhide HT).1.ut.belowS hbw6))
          have r64 : w6.cell? ⟨g, 4, none⟩ = some (.slice a5 L.length d5) := hR6.cell (by decide)
          have HR6 := hide hR6
          have HO6 := hide hO6
          have HBW6 := hide hbw6
          have HW6 := hide hw6
          clear x5 hO5 hR5 hB6 hR6 hO6 hbw6 hw6 HCc HWD hb5 HN HRow hLL HO5
          go_wp2_with fail
          rw [unhide HW6]
          refine (unhide HIl).mono ?_
          rintro e w7 ⟨rfl, hb7⟩
          have hs7 := hb7.size
          have hbw7 := (unhide HBW6).trans (hb7.mono (by omega))
          have HBW7 := hide hbw7
          have hR7 := (unhide HR6).below hb7 (by omega)
          have HR7 := hide hR7
          cases hlb : listB L with
          | false =>
            have hex : ex = 11 := by rw [unhide HE4, hlb]; rfl
            have HEX := hide hex
            clear HE4 hex hlb hR7 hbw7 hb7 HIl HW6
            go_wp2_with fail
            go_ret2
            exact Or.inl ⟨by rw [unhide HEX]; decide, by rw [unhide HEX]; rfl, unhide HBW7⟩
          | true =>
            have hex : ex = 0 := by rw [unhide HE4, hlb]; rfl
            have HEX := hide hex
            have HLB := hide hlb
            obtain ⟨e1, e2, e3, e4⟩ := unhide HRM
            obtain ⟨xe, hxe⟩ : ∃ xe : Nat, xe = now + life.toNat := ⟨_, rfl⟩
            have hw : wrap64 ((now : Int) + life) = ((xe : Nat) : Int) := by rw [hxe, w64 _ (by omega) (by omega)]; omega
            have r75 : w7.cell? ⟨g, 5, none⟩ = some (.int .i64 (gi.c.exp : Nat)) := hR7.cell (by decide)
            have z75 := hR7.frozen 5
            have r70 : w7.cell? ⟨s, 0, none⟩ = some (.int .i64 (now : Nat)) := ((unhide HS).below hbw7).row.cell (j := 0) (by decide)
            have r73 : w7.cell? ⟨w.heap.size, 3, none⟩ = some (.int .i64 life) := by
              rw [hb7.cell (p := ⟨w.heap.size, 3, none⟩) (show w.heap.size < w6.heap.size by omega), (unhide HB56).cell (p := ⟨w.heap.size, 3, none⟩) (show w.heap.size < g by omega)]
              exact c3
            have hwi : IntKind.i64.wrap ((now : Int) + life) = ((xe : Nat) : Int) := by
              rw [IntKind.wrap_i64]
              have h := hw
              unfold wrap64 at h
              exact h
            obtain ⟨me, hme⟩ : ∃ me : Nat, me = min gi.c.exp xe := ⟨_, rfl⟩
            have hmin : min ((gi.c.exp : Nat) : Int) ((xe : Nat) : Int) = ((me : Nat) : Int) := by rw [hme]; omega
            have hcx : cx = ⟨gi.c.id, gi.c.sub, chooseL gi.c.scp t1 (cs.getD m default).sc, chooseL gi.c.aud t2 (cs.getD m default).tg, L, me⟩ := by rw [unhide HC, hme, hxe]
            have HCX := hide hcx
            have hB8 : But g w7 ((w7.setCell ⟨g, 5, none⟩ (.int .i64 (me : Nat))).drew) := ((But.refl g w7).setCell 5 _).drew
            have hR8 : Row ((w7.setCell ⟨g, 5, none⟩ (.int .i64 (me : Nat))).drew) g 60 6 (czF cx.z { p' with a4 := a5, c4 := d5 }) := by
              rw [hcx]
              exact (hR7.set_czF 5 (.int .i64 (me : Nat)) (c' := (⟨gi.c.id, gi.c.sub, chooseL gi.c.scp t1 (cs.getD m default).sc, chooseL gi.c.aud t2 (cs.getD m default).tg, L, me⟩ : Cm).z) (p' := { p' with a4 := a5, c4 := d5 }) (six rfl rfl rfl rfl rfl rfl)).below (Below.refl (g + 1) _).drew (Nat.lt_succ_self g)
            obtain ⟨w8, hw8⟩ : ∃ w8, w8 = ((w7.setCell ⟨g, 5, none⟩ (.int .i64 (me : Nat))).drew) := ⟨_, rfl⟩
            rw [← hw8] at hB8 hR8
            have hs8 : w8.heap.size = w7.heap.size := hB8.size
            have hbw8 : Below w.heap.size w w8 := hbw7.trans (hB8.below (by omega))
            have hS8 := (unhide HS).below hbw8
            have hcl8 : CzL w8 w8.heap.size cx.z { p' with a4 := a5, c4 := d5 } := by
              rw [hcx]
              refine ⟨?_, ?_, ?_⟩
              · exact ((unhide HN6).k2.keep (N' := (· < w8.heap.size)) (fun k hk => ⟨(hB8.block k hk.1).trans (hb7.block k (by have := hk.2; omega)), by have := hk.2; show k < w8.heap.size; omega⟩)).ls (fun k hk => hk)
              · exact ((unhide HN6).k3.keep (N' := (· < w8.heap.size)) (fun k hk => ⟨(hB8.block k hk.1).trans (hb7.block k (by have := hk.2; omega)), by have := hk.2; show k < w8.heap.size; omega⟩)).ls (fun k hk => hk)
              · exact (((unhide HO6).below hb7).keep (fun k hk _ => hB8.block k (by omega))).ls
            obtain ⟨q1, q2, q3, q4, q5⟩ := unhide HRi
            have hrt : rightB { cx with id := G.length + 1 }.z = true := by
              rw [hcx, rightB_eq]
              show (nameN gi.c.sub && (listB (chooseL gi.c.scp t1 (cs.getD m default).sc) && (listB (chooseL gi.c.aud t2 (cs.getD m default).tg) && (listB L && numsB ((G.length + 1 : Nat) : Int) ((me : Nat) : Int))))) = true
              have hn : numsB ((G.length + 1 : Nat) : Int) ((me : Nat) : Int) = true := by unfold numsB; simp; omega
              have q1' : nameN gi.c.sub = true := q1
              rw [q1', chooseL_list (L := (cs.getD m default).sc) (show listB gi.c.scp = true from q2) (unhide HL12).1, chooseL_list (L := (cs.getD m default).tg) (show listB gi.c.aud = true from q3) (unhide HL12).2, hlb, hn]
              rfl
            have hcs8 : CzS cx.z := by
              obtain ⟨y1, y2, y3, y4, y5, y6, y7⟩ := right_czs hrt
              exact ⟨y1, y2, y3, y4, y5, y6, y7⟩
            have hGv := give_any cx { p' with a4 := a5, c4 := d5 } m (some i) w8 s R O now vk vs vg ks cs Qs G hS8 hcs8 hcl8 (unhide HI).2.2.1 (fun k hk => by cases hk; exact (unhide HI).1) hrt e4 ((unhide HT).1.below (hbw8.mono (by omega)))
            have hqm : Qs.getD m 0 = q := by simp [List.getD, (unhide HI).2.1]
            rw [hqm] at hGv
            have hpp : ((some i : Option Nat).map fun k => (G.getD k default).b).map (fun b => (⟨b, 0, none⟩ : Addr)) = some ⟨gi.b, 0, none⟩ := by rw [Option.map_some, Option.map_some, unhide HGI]
            rw [hpp] at hGv
            unfold czA at hGv
            have HGv := hide hGv
            have HBW8 := hide hbw8
            have t0 : w8.cell? ⟨g, 0, none⟩ = some (.int .i64 cx.z.id) := hR8.cell (by decide)
            have t1' : w8.cell? ⟨g, 1, none⟩ = some (.string ⟨cx.z.sub.toArray⟩) := hR8.cell (by decide)
            have t2' : w8.cell? ⟨g, 2, none⟩ = some (.slice p'.a2 cx.z.scp.length p'.c2) := hR8.cell (by decide)
            have t3 : w8.cell? ⟨g, 3, none⟩ = some (.slice p'.a3 cx.z.aud.length p'.c3) := hR8.cell (by decide)
            have t4 : w8.cell? ⟨g, 4, none⟩ = some (.slice a5 cx.z.act.length d5) := hR8.cell (by decide)
            have t5 : w8.cell? ⟨g, 5, none⟩ = some (.int .i64 cx.z.exp) := hR8.cell (by decide)
            have HW8 := hide hw8
            clear hB8 hR8 hw8 hbw8 hS8 hcl8 hrt hcs8 hGv hqm hpp q1 q2 q3 q4 q5 hcx hme hw HCX HC
            have HXE := hide hxe
            clear HE4 hex hlb hR7 hbw7 hb7 HIl HW6 e1 e2 e3 e4 hxe
            generalize ((now : Nat) : Int) = nw at *
            go_wp2_with fail
            refine wp_region_L 11 (fun w' => w'.cell? ⟨g, 5, none⟩ = some (.int .i64 (gi.c.exp : Nat)) ∧ w'.cell? ⟨s, 0, none⟩ = some (.int .i64 nw) ∧ w'.cell? ⟨w.heap.size, 3, none⟩ = some (.int .i64 life)) (by kernel_rfl) ?_
            have hH : (w7.drew.cell? ⟨g, 5, none⟩ = some (.int .i64 (gi.c.exp : Nat)) ∧ w7.drew.cell? ⟨s, 0, none⟩ = some (.int .i64 nw) ∧ w7.drew.cell? ⟨w.heap.size, 3, none⟩ = some (.int .i64 life)) := ⟨r75, r70, r73⟩
            refine wpAnyL_take (i := 0) (oi := _) (v := ?_) rfl (by kernel_rfl) (by kernel_rfl) (by kernel_rfl) (by kernel_rfl) (fun _ _ _ h => h) (Or.inl ⟨by rfl, ?_⟩) hH ?_
            rotate_left
            · intro u hSu
              try dsimp only at hSu
              go_simp
              try with_reducible rfl
            try simp only [Act.put, List.setIfInBounds_toArray, List.set_cons_zero, List.set_cons_succ]
            refine wpAnyL_take (i := 1) (oi := _) (v := ?_) rfl (by kernel_rfl) (by kernel_rfl) (by kernel_rfl) (by kernel_rfl) (fun _ _ _ h => h) (Or.inl ⟨by rfl, ?_⟩) hH ?_
            rotate_left
            · intro u hSu
              try dsimp only at hSu
              go_simp
              try with_reducible rfl
            try simp only [Act.put, List.setIfInBounds_toArray, List.set_cons_zero, List.set_cons_succ]
            refine wpAnyL_take (i := 2) (oi := _) (v := ?_) rfl (by kernel_rfl) (by kernel_rfl) (by kernel_rfl) (by kernel_rfl) (fun _ _ _ h => h) (Or.inl ⟨by rfl, ?_⟩) hH ?_
            rotate_left
            · intro u hSu
              try dsimp only at hSu
              go_simp
              try with_reducible rfl
            try simp only [Act.put, List.setIfInBounds_toArray, List.set_cons_zero, List.set_cons_succ]
            refine wpAnyL_take (i := 6) (oi := _) (v := ?_) rfl (by kernel_rfl) (by kernel_rfl) (by kernel_rfl) (by kernel_rfl) (fun _ _ _ h => h) (Or.inl ⟨by rfl, ?_⟩) hH ?_
            rotate_left
            · intro u hSu
              try dsimp only at hSu
              go_simp
              try with_reducible rfl
            try simp only [Act.put, List.setIfInBounds_toArray, List.set_cons_zero, List.set_cons_succ]
            refine wpAnyL_take (i := 7) (oi := _) (v := ?_) rfl (by kernel_rfl) (by kernel_rfl) (by kernel_rfl) (by kernel_rfl) (fun _ _ _ h => h) (Or.inl ⟨by rfl, ?_⟩) hH ?_
            rotate_left
            · intro u hSu
              try dsimp only at hSu
              go_simp
              try with_reducible rfl
            try simp only [Act.put, List.setIfInBounds_toArray, List.set_cons_zero, List.set_cons_succ]
            refine wpAnyL_one (i := 3) (by kernel_rfl) ?_
            refine wpOp_step (o := _) rfl (fun K hK => ?_)
            go_simp
            refine hK _ _ ⟨fun _ => hH, ?_⟩
            clear hK K
            try simp only [Act.put, List.setIfInBounds_toArray, List.set_cons_zero, List.set_cons_succ]
            refine wpAnyL_take (i := 4) (oi := _) (v := ?_) rfl (by kernel_rfl) (by kernel_rfl) (by kernel_rfl) (by kernel_rfl) (fun _ _ _ h => h) (Or.inl ⟨by rfl, ?_⟩) hH ?_
            rotate_left
            · intro u hSu
              try dsimp only at hSu
              go_simp
              try with_reducible rfl
            try simp only [Act.put, List.setIfInBounds_toArray, List.set_cons_zero, List.set_cons_succ]
            refine wpAnyL_take (i := 5) (oi := _) (v := ?_) rfl (by kernel_rfl) (by kernel_rfl) (by kernel_rfl) (by kernel_rfl) (fun _ _ _ h => h) (Or.inl ⟨by rfl, ?_⟩) hH ?_
            rotate_left
            · intro u hSu
              try dsimp only at hSu
              go_simp
              try with_reducible rfl
            try simp only [Act.put, List.setIfInBounds_toArray, List.set_cons_zero, List.set_cons_succ]
            refine wpAnyL_take (i := 8) (oi := _) (v := ?_) rfl (by kernel_rfl) (by kernel_rfl) (by kernel_rfl) (by kernel_rfl) (fun _ _ _ h => h) (Or.inl ⟨by rfl, ?_⟩) hH ?_
            rotate_left
            · intro u hSu
              try dsimp only at hSu
              go_simp
              try with_reducible rfl
            try simp only [Act.put, List.setIfInBounds_toArray, List.set_cons_zero, List.set_cons_succ]
            refine wpAnyL_one (i := 9) (by kernel_rfl) ?_
            refine wpOp_step (o := _) rfl (fun K hK => ?_)
            go_simp
            refine hK _ _ ⟨fun _ => hH, ?_⟩
            clear hK K
            try simp only [Act.put, List.setIfInBounds_toArray, List.set_cons_zero, List.set_cons_succ]
            refine wpAnyL_one (i := 10) (by kernel_rfl) ?_
            refine wpOp_step (o := _) rfl (fun K hK => ?_)
            go_simp
            refine hK _ _ ⟨fun _ => hH, ?_⟩
            clear hK K
            try simp only [Act.put, List.setIfInBounds_toArray, List.set_cons_zero, List.set_cons_succ]
            refine wpAnyL_one (i := 11) (by kernel_rfl) ?_
            refine wpOp_step (o := _) rfl (fun K hK => ?_)
            go_simp
            refine hK _ _ ⟨fun h => absurd rfl h, ?_⟩
            clear hK K
            refine wpAnyL_done (by kernel_rfl) ?_ _
            rw [← unhide HW8]
            go_wp2_with fail
            refine (unhide HGv).mono ?_
            rintro e w9 ⟨rfl, hgv⟩
            have HGR : Hid (GaveR w s R O now vk vs vg ks cs Qs G m (some i) cx w9) := by
              obtain ⟨vg', b, pl, h1, h2, h3, h4⟩ := hgv
              refine ⟨vg', b, pl, h1, ((unhide HBW8).mono (by omega)).trans h2, fun k hk hf => ?_, h4.keep (fun k hk => ⟨rfl, by have h5 : w8.heap.size ≤ k := hk.1; show w.heap.size ≤ k; omega, hk.2⟩)⟩
              obtain ⟨e1, e2⟩ := h3 k (by omega) hf
              exact ⟨e1.trans ((unhide HBW8).block k hk), e2⟩
            generalize htok : tokS (ks.getD 0 default) (plainS { cx with id := G.length + 1 }) = tok
            have HTok := hide htok
            clear htok hgv HGv HW8 t0 t1' t2' t3 t4 t5 hH
            go_wp2_with fail
            go_ret2
            refine Or.inr ⟨unhide HEX, ?_, unhide HGR⟩
            rw [unhide HTok]; rfl
        · have hex : ex = roomE now life G.length := by rw [unhide HE3, if_pos hr]
          have HEX := hide hex
          have HA := hide hr
          generalize roomE now life G.length = A2 at *
          clear HE3 hex HN HRow
          go_wp2_with fail
          refine (unhide HRm).mono ?_
          rintro e w5 ⟨rfl, rfl⟩
          go_wp2_with fail
          go_ret2
          exact Or.inl ⟨by rw [unhide HEX]; exact unhide HA, by rw [unhide HEX]; rfl, unhide HWC⟩
      · have hex : ex = nn.2 := by rw [unhide HE2, if_pos hn0]
        have HEX := hide hex
        have HA := hide hn0
        generalize nn.2 = A2 at *
        clear HE2 hex HOk HNN HN HRow
        go_wp2_with fail
        go_ret2
        exact Or.inl ⟨by rw [unhide HEX]; exact unhide HA, by rw [unhide HEX]; rfl, unhide HWC⟩
  · have hex : ex = A.2 := by rw [unhide HE, if_pos hA]
    have HEX := hide hex
    have HA := hide hA
    generalize A.2 = A2 at *
    clear HE hex
    obtain ⟨aa, da, rfl, _⟩ := unhide HLa
    go_wp2_with fail
    go_ret2
    exact Or.inl ⟨by rw [unhide HEX]; exact unhide HA, by rw [unhide HEX]; rfl, unhide HB1⟩
end Go.Proofs.YtkmkkmdpjliifaaGreatDoor
