import Derived.Test.YtkmkkmdpjliifaaGreatDoorCaA
namespace Go.Proofs.YtkmkkmdpjliifaaGreatDoor
open Go.ChangeShapes Go.WideShapes Go.ChangeAt Go.RowKit

theorem small_numC {k : Nat} (h : k < 40) : wrap64 ((k : Int) + 1) = (k : Int) + 1 := w64 _ (by omega) (by omega)
set_option maxRecDepth 20000 in
set_option maxHeartbeats 4000000 in
set_option linter.unusedSimpArgs false in
theorem Cascaded_any (v : Value) (St : List Stp) (m : Int) (w : World) (hT : TT w.heap.size w) (hm : In64 m) (hl : St.length ≤ 8796093022208) (hSt : LsT w w.heap.size v St) :
    Calls Tryz.prog 7 #[v, .int .i64 m] w fun e w' => e = .returned (.bool true) ∧ Below w.heap.size w w' := by
  have HTr := hide (tree_any v St w hT hl hSt)
  obtain ⟨ast, cst, rfl, _⟩ := hSt
  have HT := hide hT
  have HMm := hide hm
  clear hT hl hm
  go_enter Tryz.func7, Tryz.ntmps7
  go_wp2_with fail
  refine (unhide HTr).mono ?_
  rintro e w1 ⟨gp, s, R, O, vk, vs, vg, Qs, G, vt, vc, vp, C, rfl, hS, h3⟩
  have r4 : w1.cell? ⟨gp, 4, none⟩ = some (.bool false) := hS.tr.row.cell (j := 4) (by decide)
  obtain ⟨gy, cy, gc1, cc1, ga1, ca1, hV1⟩ := hS.tr.view hS.cm h3
  have r0 := hV1.r0
  have r1 := hV1.r1
  obtain ⟨hn1, hn2⟩ := pickN_lt m G.length (by omega)
  have h40 := hS.tr.sv.small
  have HPk : Hid (∀ u : World, Calls Tryz.prog 26 #[.int .i64 m, .int .i64 (G.length : Nat)] u fun e w' => e = .returned (.int .i64 (pickN m G.length : Nat)) ∧ u = w') := fun u => by
    have h := pickK_any m (G.length : Nat) u (unhide HMm) ⟨by omega, by omega⟩
    rw [hn2] at h
    exact h.mono (fun e w' ⟨h1, h2⟩ => ⟨h1, h2.symm⟩)
  generalize pickN m G.length = n at *
  have hT1 := (unhide HT).below hS.bel
  have hs4 := hS.s4 (unhide HT)
  have HQ : Hid (∀ u, Below w1.heap.size w1 u → Calls Tryz.prog 30 #[.pointer (some ⟨s, 0, none⟩), .agg #[.string ⟨#[99, 48]⟩, .string ⟨#[115, 48]⟩], .string ⟨(tokG G n).toArray⟩] u fun e w' => e = .returned (.int .i64 0) ∧ ((Tr w' gp s R O 0 vk vs vg Qs (revG G n) vt vc vp false ((List.range G.length).map (tokG G)) C (G.map parI) ∧ Below s w1 w') ∧ w'.cell? ⟨gp, 0, none⟩ = some (.pointer (some ⟨s, 0, none⟩)) ∧ w'.cell? ⟨gp, 1, none⟩ = some (.slice (some ⟨gy, 0, none⟩) G.length cy) ∧ w'.cell? ⟨gy, n, none⟩ = some (.string ⟨(tokG G n).toArray⟩))) := fun u hu => by
    have hTu := hS.tr.below hu
    have hbs := hu.mono (Nat.le_of_lt hS.tr.sv.lt)
    refine (revoke_tr hS.ok hTu.sv ((hT1.tb hS.w0s).below hbs) (hT1.mx.below (Nat.lt_trans hs4 hS.tr.sv.lt) hu) hs4 hn1).mono ?_
    rintro e w' ⟨h1, h2, h3, h4⟩
    have hTw := hTu.rev hn1 h2 h3 h4
    have e1 : vt = .slice (some ⟨gy, 0, none⟩) G.length cy := Option.some.inj ((hS.tr.row.cell (j := 1) (by decide)).symm.trans r1)
    refine ⟨h1, ⟨hTw, hbs.trans h3⟩, hTw.row.cell (j := 0) (by decide), (hTw.row.cell (j := 1) (by decide)).trans (congrArg some e1), ?_⟩
    have h5 := (h4 gy (Nat.lt_of_lt_of_le hV1.b2 hu.size) (fun e => (hS.tr.ft gy (by rw [e1]; rfl)).g n hn1 e.symm)).trans (hu.block gy hV1.b2)
    exact (World.cell?_of_block (a := ⟨gy, n, none⟩) h5).trans (hV1.t n hn1)
  have HB1 := hide hS.bel
  have HFin : Hid (∀ w2 : World, (Tr w2 gp s R O 0 vk vs vg Qs (revG G n) vt vc vp false ((List.range G.length).map (tokG G)) C (G.map parI) ∧ Below s w1 w2) →
      Below w.heap.size w w2 ∧ (∃ gy cy gc cc ga ca, TrV w2.heap.size w2 gp s gy cy gc cc ga ca G (fun i => (C.getD i (cm0, pl0)).2)) ∧
      (∀ i, i < G.length → ∀ u : World, Below w2.heap.size w2 u → Calls Tryz.prog 32 #[.pointer (some ⟨s, 0, none⟩), .agg #[.string ⟨#[99, 49]⟩, .string ⟨#[115, 49]⟩], .string ⟨(tokG G i).toArray⟩] u fun e w' => ∃ p', e = .returned (.tuple #[.agg (czA (lkC (revG G n) (aliveG (revG G n) 0 (some i)) i) p'), .bool (aliveG (revG G n) 0 (some i)), .int .i64 0]) ∧ CzN w' (New u w') (lkC (revG G n) (aliveG (revG G n) 0 (some i)) i) p' ∧ Below u.heap.size u w') ∧
      (∀ i, i < G.length → aliveG (revG G n) 0 (some i) = false → ∀ u : World, Below w2.heap.size w2 u → Calls Tryz.prog 33 #[.pointer (some ⟨s, 0, none⟩), .agg #[.string ⟨#[99, 48]⟩, .string ⟨#[115, 48]⟩], .string ⟨(tokG G i).toArray⟩, .string ⟨#[]⟩, .slice none 0 0, .slice none 0 0, .int .i64 5] u fun e w' => e = .returned (.tuple #[.string ⟨#[]⟩, .int .i64 6]) ∧ Below u.heap.size u w') ∧
      (∀ i, i < G.length → aliveG (revG G n) 0 (some i) = false → ∀ u : World, Below w2.heap.size w2 u → Calls Tryz.prog 30 #[.pointer (some ⟨s, 0, none⟩), .agg #[.string ⟨#[99, 48]⟩, .string ⟨#[115, 48]⟩], .string ⟨(tokG G i).toArray⟩] u fun e w' => e = .returned (.int .i64 6) ∧ Below u.heap.size u w')) := fun w2 ⟨hTr2, hb12⟩ => by
    have hbw := hS.bel.trans (hb12.mono hS.w0s)
    have hT2 := (unhide HT).below hbw
    have tb : ∀ u, Below w2.heap.size w2 u → Tb s u := fun u hu => (hT2.tb hS.w0s).below (hu.mono (Nat.le_of_lt hTr2.sv.lt))
    have mx : ∀ u, Below w2.heap.size w2 u → MX u := fun u hu => hT2.mx.below (Nat.lt_trans hs4 hTr2.sv.lt) hu
    refine ⟨hbw, hTr2.view hS.cm h3, fun i hi u hu => look_tr (m := 1) (hTr2.sv.below hu) (tb u hu) (mx u hu) hs4 (by decide) (by rw [revG_len]; exact hi) (revG_tok hn1 i).symm, fun i hi hg u hu => ex_gone (hTr2.sv.below hu) (tb u hu) (mx u hu) hs4 (by decide) (by rw [revG_len]; exact hi) hg (revG_tok hn1 i).symm, fun i hi hg u hu => rev_gone (hTr2.sv.below hu) (tb u hu) (mx u hu) hs4 (by rw [revG_len]; exact hi) hg (revG_tok hn1 i).symm⟩
  have HOk := hide hS.ok
  have HRt : Hid (∀ i, i < G.length → CzS (G.getD i default).c.z) := fun i hi => right_czs (hS.tr.sv.right i hi)
  have HN1 := hide hn1
  have H40 := hide h40
  have hnI : (n : Int) < (G.length : Int) := Int.ofNat_lt.2 hn1
  have HV1 := hide hV1
  have tn := hV1.t n hn1
  clear hS h3 hV1 hn2 h40 hT1 hs4 hn1
  have HL0 : Hid (∀ u : World, Calls Tryz.prog 31 #[.int .i64 0] u fun e w' => e = .returned (.agg #[.string ⟨#[99, 48]⟩, .string ⟨#[115, 48]⟩]) ∧ Below u.heap.size u w') := fun u => login_any 0 (by decide) u
  try dsimp only
  go_wp2_with fail
  refine (unhide HPk w1).mono ?_
  rintro e w' ⟨rfl, rfl⟩
  try dsimp only
  go_wp2_with fail
  go_region_held3 (fun w' => w'.cell? ⟨gp, 0, none⟩ = some (.pointer (some ⟨s, 0, none⟩)) ∧ w'.cell? ⟨gp, 1, none⟩ = some (.slice (some ⟨gy, 0, none⟩) G.length cy) ∧ w'.cell? ⟨gy, n, none⟩ = some (.string ⟨(tokG G n).toArray⟩)) (go_keep)
    (first
      | (go_at_call 31; refine (unhide HL0 _).mono ?_; rintro e wB ⟨rfl, bB⟩; have BBb := ((Below.refl w1.heap.size w1).drew).trans (bB.mono (Nat.le_refl _)); have hVB := (unhide HV1).below BBb; have x0 := hVB.r0; have x1 := hVB.r1; have x2 := hVB.t n (unhide HN1); have R2 := hide BBb; clear bB BBb hVB; try dsimp only)
      | (go_at_call 30; refine (unhide HQ _ (unhide R2)).mono ?_; rintro e w2 ⟨rfl, hq, y0, y1, y2⟩; have HQ2 := hide hq; clear hq; try dsimp only))
  obtain ⟨hb2, ⟨gt, ct, gc, cc, ga, ca, hV2⟩, hLK, hEX, hRV⟩ := unhide HFin w2 (unhide HQ2)
  have HB2 := hide hb2
  have HLK := hide hLK
  have HEX := hide hEX
  have HRV := hide hRV
  have HB : Hid (∀ u, Below w2.heap.size w2 u → TrV w2.heap.size u gp s gt ct gc cc ga ca G (fun i => (C.getD i (cm0, pl0)).2)) := fun u hu => hV2.below hu
  have HLT := hide (And.intro hV2.b1 hV2.b2)
  clear hb2 hLK hEX hRV hV2 HFin HQ HQ2 HV1 R2 y0 y1 y2 x0 x1 x2 r0 r1 r4 tn HTr HPk HMm
  go_wp2_with fail
  go_loopg [8] G.length (fun q i wr => ∃ k : Nat, k + q = G.length ∧ i = .int .i64 (k : Nat) ∧ Below w2.heap.size w2 wr)
  case atStart => exact ⟨0, Nat.zero_add _, rfl, Below.refl _ _⟩
  case round =>
    obtain ⟨k, hk, rfl, hb⟩ := hrel
    have HBr := hide hb
    have hV := unhide HB wr hb
    have q1 := hV.r1
    by_cases hlt : k < G.length
    · have hkI : (k : Int) < (G.length : Int) := Int.ofNat_lt.2 hlt
      obtain ⟨gq, HM⟩ : ∃ gq, Hid (gq < gk ∧ k + 1 + gq = G.length) := ⟨gk - 1, by omega, by omega⟩
      have HW := hide (small_numC (Nat.lt_of_lt_of_le hlt (unhide H40)))
      have hwr := hb.size
      have q0 := hV.r0
      have q2 := hV.t k hlt
      have q3 := hV.r3
      have HLt : Hid (gp < wr.heap.size ∧ gt < wr.heap.size) := ⟨Nat.lt_of_lt_of_le (unhide HLT).1 hwr, Nat.lt_of_lt_of_le (unhide HLT).2 hwr⟩
      have HCl : Hid (∀ u, Below wr.heap.size wr u → u.cell? ⟨gp, 0, none⟩ = some (.pointer (some ⟨s, 0, none⟩)) ∧ u.cell? ⟨gp, 1, none⟩ = some (.slice (some ⟨gt, 0, none⟩) G.length ct) ∧ u.cell? ⟨gt, k, none⟩ = some (.string ⟨(tokG G k).toArray⟩)) := fun u hu =>
        let z := unhide HB u (hb.trans (hu.mono hwr))
        ⟨z.r0, z.r1, z.t k hlt⟩
      have HPa : Hid (∀ x, x < G.length → wr.cell? ⟨ga, x, none⟩ = some (.int .i64 (oI (G.getD x default).p))) := fun x hx => (hV.p x hx).trans (congrArg (fun z => some (Value.int .i64 z)) (parI_o _))
      have HLo : Hid (∀ u : World, Below wr.heap.size wr u → Calls Tryz.prog 31 #[.int .i64 1] u fun e w' => e = .returned (.agg #[.string ⟨#[99, 49]⟩, .string ⟨#[115, 49]⟩]) ∧ Below u.heap.size u w' ∧ Below wr.heap.size wr w') := fun u hu =>
        (login_any 1 (by decide) u).mono (fun e w' ⟨h1, h2⟩ => ⟨h1, h2, hu.trans (h2.mono hu.size)⟩)
      have HLk : Hid (∀ u : World, Below wr.heap.size wr u → Calls Tryz.prog 32 #[.pointer (some ⟨s, 0, none⟩), .agg #[.string ⟨#[99, 49]⟩, .string ⟨#[115, 49]⟩], .string ⟨(tokG G k).toArray⟩] u fun e w' => ∃ p', e = .returned (.tuple #[.agg #[.int .i64 (lkC (revG G n) (aliveG (revG G n) 0 (some k)) k).id, .string ⟨(lkC (revG G n) (aliveG (revG G n) 0 (some k)) k).sub.toArray⟩, .slice p'.a2 (lkC (revG G n) (aliveG (revG G n) 0 (some k)) k).scp.length p'.c2, .slice p'.a3 (lkC (revG G n) (aliveG (revG G n) 0 (some k)) k).aud.length p'.c3, .slice p'.a4 (lkC (revG G n) (aliveG (revG G n) 0 (some k)) k).act.length p'.c4, .int .i64 (lkC (revG G n) (aliveG (revG G n) 0 (some k)) k).exp], .bool (aliveG (revG G n) 0 (some k)), .int .i64 0]) ∧ CzN w' (New u w') (lkC (revG G n) (aliveG (revG G n) 0 (some k)) k) p' ∧ Below u.heap.size u w' ∧ Below wr.heap.size wr w') := fun u hu =>
        (unhide HLK k hlt u (hb.trans (hu.mono hwr))).mono (fun e w' ⟨p', h1, h2, h3⟩ => ⟨p', h1, h2, h3, hu.trans (h3.mono hu.size)⟩)
      have HEx : Hid (aliveG (revG G n) 0 (some k) = false → ∀ u : World, Below wr.heap.size wr u → Calls Tryz.prog 33 #[.pointer (some ⟨s, 0, none⟩), .agg #[.string ⟨#[99, 48]⟩, .string ⟨#[115, 48]⟩], .string ⟨(tokG G k).toArray⟩, .string ⟨#[]⟩, .slice none 0 0, .slice none 0 0, .int .i64 5] u fun e w' => e = .returned (.tuple #[.string ⟨#[]⟩, .int .i64 6]) ∧ Below wr.heap.size wr w') := fun hg u hu =>
        (unhide HEX k hlt hg u (hb.trans (hu.mono hwr))).mono (fun e w' ⟨h1, h2⟩ => ⟨h1, hu.trans (h2.mono hu.size)⟩)
      have HRv : Hid (aliveG (revG G n) 0 (some k) = false → ∀ u : World, Below wr.heap.size wr u → Calls Tryz.prog 30 #[.pointer (some ⟨s, 0, none⟩), .agg #[.string ⟨#[99, 48]⟩, .string ⟨#[115, 48]⟩], .string ⟨(tokG G k).toArray⟩] u fun e w' => e = .returned (.int .i64 6) ∧ Below wr.heap.size wr w') := fun hg u hu =>
        (unhide HRV k hlt hg u (hb.trans (hu.mono hwr))).mono (fun e w' ⟨h1, h2⟩ => ⟨h1, hu.trans (h2.mono hu.size)⟩)
      have HCz : Hid ((aliveG (revG G n) 0 (some k) = true → lkC (revG G n) (aliveG (revG G n) 0 (some k)) k = (G.getD k default).c.z) ∧ (aliveG (revG G n) 0 (some k) = false → lkC (revG G n) (aliveG (revG G n) 0 (some k)) k = cz0)) := by
        refine ⟨fun h => ?_, fun h => ?_⟩
        · unfold lkC
          rw [if_pos h, revG_of (unhide HN1) (fun g => g.c) (fun _ => rfl) k]
        · unfold lkC
          rw [if_neg (by rw [h]; decide)]
      have HGn : Hid (goneG G n (some k) = !aliveG (revG G n) 0 (some k)) := rfl
      generalize lkC (revG G n) (aliveG (revG G n) 0 (some k)) k = cz at *
      generalize aliveG (revG G n) 0 (some k) = AB at *
      generalize tokG G k = tx at *
      have nnw : gp ≠ wr.heap.size := by have := unhide HLt; omega
      have mmw : wr.heap.size ≠ gp := by have := unhide HLt; omega
      have nnx : gt ≠ wr.heap.size := by have := unhide HLt; omega
      have mmx : wr.heap.size ≠ gt := by have := unhide HLt; omega
      have HV := hide hV
      clear hV hb
      go_wp2_with fail
      go_loopg [9, 10] (k + 1) (fun q vg9 vj wz => ∃ (o : Option Nat) (gb : Bool), q = oQ o ∧ vg9 = .bool gb ∧ vj = .int .i64 (oI o) ∧ (∀ x, o = some x → x < G.length) ∧ (gb || goneG G n o) = goneG G n (some k) ∧ wz = wr)
      case atStart => exact ⟨some k, false, rfl, rfl, rfl, fun x e => by obtain rfl := Option.some.inj e; exact hlt, by simp, rfl⟩
      case round =>
        obtain ⟨o, gb, hq, rfl, hvj, ho, hgo, rfl⟩ := hrel
        cases o with
        | some x =>
          have hvj2 : _ = Value.int .i64 ((x : Nat) : Int) := hvj
          clear hvj
          subst hvj2
          have hxl := ho x rfl
          have hxI : (x : Int) < (G.length : Int) := Int.ofNat_lt.2 hxl
          have hx0 : (0 : Int) ≤ (x : Int) := Int.natCast_nonneg _
          have hxd : decide ((0 : Int) ≤ (x : Int)) = true := decide_eq_true hx0
          have q4 := unhide HPa x hxl
          have HGS := hide ((unhide HOk).gone (unhide HN1) hxl)
          have HPr := hide ((unhide HOk).pr x hxl)
          have HGo := hide hgo
          have HGk := hide hq
          generalize (G.getD x default).p = po at *
          clear hgo hq ho
          cases gb with
          | true =>
            go_wp2_with fail
            go_roundg (oQ po)
            case measure =>
              have e : oQ (some x) = x + 1 := rfl
              rw [unhide HGk, e]
              cases po with
              | none => exact Nat.succ_pos _
              | some y => exact Nat.succ_lt_succ (unhide HPr y rfl)
            case rel => exact ⟨po, true, rfl, rfl, rfl, fun y e => Nat.lt_trans (unhide HPr y e) hxl, by have := unhide HGo; simpa using this, rfl⟩
          | false =>
            by_cases hxn : x = n
            · subst hxn
              go_wp2_with fail
              go_roundg (oQ po)
              case measure =>
                have e : oQ (some x) = x + 1 := rfl
                rw [unhide HGk, e]
                cases po with
                | none => exact Nat.succ_pos _
                | some y => exact Nat.succ_lt_succ (unhide HPr y rfl)
              case rel => exact ⟨po, true, rfl, rfl, rfl, fun y e => Nat.lt_trans (unhide HPr y e) hxl, by have h1 := unhide HGo; have h2 := unhide HGS; rw [h2] at h1; simpa using h1, rfl⟩
            · have hxe : ((x : Int) == (n : Int)) = false := beq_eq_false_iff_ne.2 (fun e => hxn (Int.ofNat.inj e))
              have hxe2 : decide ((x : Int) = (n : Int)) = false := decide_eq_false (fun e => hxn (Int.ofNat.inj e))
              have hxe3 : ¬ (x : Int) = (n : Int) := (fun e => hxn (Int.ofNat.inj e))
              have HXN := hide hxn
              clear hxn
              go_wp2_with fail
              go_roundg (oQ po)
              case measure =>
                have e : oQ (some x) = x + 1 := rfl
                rw [unhide HGk, e]
                cases po with
                | none => exact Nat.succ_pos _
                | some y => exact Nat.succ_lt_succ (unhide HPr y rfl)
              case rel => exact ⟨po, false, rfl, rfl, rfl, fun y e => Nat.lt_trans (unhide HPr y e) hxl, by have h1 := unhide HGo; have h2 := unhide HGS; rw [decide_eq_false (unhide HXN)] at h2; rw [h2] at h1; simpa using h1, rfl⟩
        | none =>
          have hvj2 : _ = Value.int .i64 (-1) := hvj
          clear hvj
          subst hvj2
          have hgb : gb = !AB := by rw [goneG_none, Bool.or_false, unhide HGn] at hgo; exact hgo
          subst hgb
          clear hgo ho hq
          go_wp2_with fail
          go_cut [11, 12, 13] from 50 to 158 (fun pt ok er wc => LkQ wr cz AB pt ok er wc)
          case first =>
            go_region_held3 (fun w' => w'.cell? ⟨gp, 0, none⟩ = some (.pointer (some ⟨s, 0, none⟩)) ∧ w'.cell? ⟨gp, 1, none⟩ = some (.slice (some ⟨gt, 0, none⟩) G.length ct) ∧ w'.cell? ⟨gt, k, none⟩ = some (.string ⟨tx.toArray⟩)) (go_keep)
              (first
                | (go_at_call 31; refine (unhide HLo _ (by first | exact (Below.refl _ _).drew | exact ((Below.refl _ _).drew.alloc (Nat.le_refl _) _))).mono ?_; rintro e wB ⟨rfl, bB, BBb⟩; obtain ⟨x0b, x1b, x2b⟩ := unhide HCl wB BBb; (try (have R9 : Row wB wr.heap.size 60 6 (czF cz0 pl0) := (Row.new wr.drew 60 #[.int .i64 0, .string ⟨#[]⟩, .slice none 0 0, .slice none 0 0, .slice none 0 0, .int .i64 0] (czF cz0 pl0) 6 rfl (six rfl rfl rfl rfl rfl rfl)).below bB (by simp); have q0 : wB.cell? ⟨wr.heap.size, 0, none⟩ = some (.int .i64 0) := R9.cell (by decide); have f0 := R9.frozen 0; have q1 : wB.cell? ⟨wr.heap.size, 1, none⟩ = some (.string ⟨#[]⟩) := R9.cell (by decide); have f1 := R9.frozen 1; have q2 : wB.cell? ⟨wr.heap.size, 2, none⟩ = some (.slice none 0 0) := R9.cell (by decide); have f2 := R9.frozen 2; have q3 : wB.cell? ⟨wr.heap.size, 3, none⟩ = some (.slice none 0 0) := R9.cell (by decide); have f3 := R9.frozen 3; have q4 : wB.cell? ⟨wr.heap.size, 4, none⟩ = some (.slice none 0 0) := R9.cell (by decide); have f4 := R9.frozen 4; have q5 : wB.cell? ⟨wr.heap.size, 5, none⟩ = some (.int .i64 0) := R9.cell (by decide); have f5 := R9.frozen 5)); have n1b : gp ≠ wB.heap.size := (by have := BBb.size; have := unhide HLt; omega); have m1b : wB.heap.size ≠ gp := (by have := BBb.size; have := unhide HLt; omega); have n2b : gt ≠ wB.heap.size := (by have := BBb.size; have := unhide HLt; omega); have m2b : wB.heap.size ≠ gt := (by have := BBb.size; have := unhide HLt; omega); have R2 := hide (And.intro bB BBb); clear bB BBb)
                | (go_at_call 32; refine (unhide HLk _ (by first | exact (unhide R2).2 | exact (unhide R2).2.alloc (unhide R2).2.size _)).mono ?_; rintro e wC ⟨pC, rfl, nC, bC, BBc⟩; obtain ⟨x0c, x1c, x2c⟩ := unhide HCl wC BBc; (first | (have R9 : Row wC wB.heap.size 60 6 (czF cz0 pl0) := (Row.new wB 60 #[.int .i64 0, .string ⟨#[]⟩, .slice none 0 0, .slice none 0 0, .slice none 0 0, .int .i64 0] (czF cz0 pl0) 6 rfl (six rfl rfl rfl rfl rfl rfl)).below bC (by simp); have q0 : wC.cell? ⟨_, 0, none⟩ = some (.int .i64 0) := R9.cell (by decide); have f0 := R9.frozen 0; have q1 : wC.cell? ⟨_, 1, none⟩ = some (.string ⟨#[]⟩) := R9.cell (by decide); have f1 := R9.frozen 1; have q2 : wC.cell? ⟨_, 2, none⟩ = some (.slice none 0 0) := R9.cell (by decide); have f2 := R9.frozen 2; have q3 : wC.cell? ⟨_, 3, none⟩ = some (.slice none 0 0) := R9.cell (by decide); have f3 := R9.frozen 3; have q4 : wC.cell? ⟨_, 4, none⟩ = some (.slice none 0 0) := R9.cell (by decide); have f4 := R9.frozen 4; have q5 : wC.cell? ⟨_, 5, none⟩ = some (.int .i64 0) := R9.cell (by decide); have f5 := R9.frozen 5) | (have R9 := Row.below R9 bC (Row.lt R9); have q0 : wC.cell? ⟨_, 0, none⟩ = some (.int .i64 0) := R9.cell (by decide); have f0 := R9.frozen 0; have q1 : wC.cell? ⟨_, 1, none⟩ = some (.string ⟨#[]⟩) := R9.cell (by decide); have f1 := R9.frozen 1; have q2 : wC.cell? ⟨_, 2, none⟩ = some (.slice none 0 0) := R9.cell (by decide); have f2 := R9.frozen 2; have q3 : wC.cell? ⟨_, 3, none⟩ = some (.slice none 0 0) := R9.cell (by decide); have f3 := R9.frozen 3; have q4 : wC.cell? ⟨_, 4, none⟩ = some (.slice none 0 0) := R9.cell (by decide); have f4 := R9.frozen 4; have q5 : wC.cell? ⟨_, 5, none⟩ = some (.int .i64 0) := R9.cell (by decide); have f5 := R9.frozen 5) | skip); have n1c : gp ≠ wC.heap.size := (by have := BBc.size; have := unhide HLt; omega); have m1c : wC.heap.size ≠ gp := (by have := BBc.size; have := unhide HLt; omega); have n2c : gt ≠ wC.heap.size := (by have := BBc.size; have := unhide HLt; omega); have m2c : wC.heap.size ≠ gt := (by have := BBc.size; have := unhide HLt; omega); have R3 := hide (And.intro nC (And.intro bC BBc)); clear nC bC BBc))
            · go_wp2_with fail
              go_meet
              exact lkq_of (grqA (unhide R2).2 (unhide R3))
            · go_wp2_with fail
              go_meet
              exact lkq_of (grqB (unhide R2).2 (unhide R3) R9)
            · go_wp2_with fail
              go_meet
              exact lkq_of (grqC (unhide R2).1 (unhide R3) R9)
          case rest =>
            obtain ⟨p', g, rfl, rfl, rfl, hRow, hN, _, hbc⟩ := hcut
            have HBC := hide hbc
            have hVc := unhide HB wc ((unhide HBr).trans (hbc.mono hwr))
            have d2 := hVc.r2
            have HZk := hide (And.intro (unhide HCz) (unhide HRt k hlt))
            have hcc := hVc.c k hlt
            have hll := (hVc.l k hlt).up (Nat.le_trans hwr hbc.size)
            have hlc := hN.l (fun k hk => hk.2.2)
            generalize (C.getD k (cm0, pl0)).2 = pk at *
            generalize (G.getD k default).c.z = zk at *
            have e0 : wc.cell? ⟨gc, k * 6, none⟩ = some (.int .i64 zk.id) := hcc 0 (by decide)
            have e1 : wc.cell? ⟨gc, k * 6 + 1, none⟩ = some (.string ⟨zk.sub.toArray⟩) := hcc 1 (by decide)
            have e2 : wc.cell? ⟨gc, k * 6 + 2, none⟩ = some (.slice pk.a2 zk.scp.length pk.c2) := hcc 2 (by decide)
            have e3 : wc.cell? ⟨gc, k * 6 + 3, none⟩ = some (.slice pk.a3 zk.aud.length pk.c3) := hcc 3 (by decide)
            have e4 : wc.cell? ⟨gc, k * 6 + 4, none⟩ = some (.slice pk.a4 zk.act.length pk.c4) := hcc 4 (by decide)
            have e5 : wc.cell? ⟨gc, k * 6 + 5, none⟩ = some (.int .i64 zk.exp) := hcc 5 (by decide)
            have t0 : wc.cell? ⟨g, 0, none⟩ = some (.int .i64 cz.id) := hRow.cell (by decide)
            have t1 : wc.cell? ⟨g, 1, none⟩ = some (.string ⟨cz.sub.toArray⟩) := hRow.cell (by decide)
            have t2 : wc.cell? ⟨g, 2, none⟩ = some (.slice p'.a2 cz.scp.length p'.c2) := hRow.cell (by decide)
            have t3 : wc.cell? ⟨g, 3, none⟩ = some (.slice p'.a3 cz.aud.length p'.c3) := hRow.cell (by decide)
            have t4 : wc.cell? ⟨g, 4, none⟩ = some (.slice p'.a4 cz.act.length p'.c4) := hRow.cell (by decide)
            have t5 : wc.cell? ⟨g, 5, none⟩ = some (.int .i64 cz.exp) := hRow.cell (by decide)
            have HAk : Hid (∀ u : World, Below wc.heap.size wc u → Calls Tryz.prog 21 #[.agg #[.int .i64 cz.id, .string ⟨cz.sub.toArray⟩, .slice p'.a2 cz.scp.length p'.c2, .slice p'.a3 cz.aud.length p'.c3, .slice p'.a4 cz.act.length p'.c4, .int .i64 cz.exp], .agg #[.int .i64 zk.id, .string ⟨zk.sub.toArray⟩, .slice pk.a2 zk.scp.length pk.c2, .slice pk.a3 zk.aud.length pk.c3, .slice pk.a4 zk.act.length pk.c4, .int .i64 zk.exp]] u fun e w' => e = .returned (.bool (sameZ cz zk)) ∧ Below wc.heap.size wc w') := fun u hu => by
              have hcs : CzS cz := by
                cases AB with
                | true => rw [(unhide HZk).1.1 rfl]; exact (unhide HZk).2
                | false => rw [(unhide HZk).1.2 rfl]; exact czs0
              exact (alike_any cz zk p' pk u wc.heap.size hu.size hcs (hlc.below hu) (hll.below hu)).mono (fun e w' ⟨h1, h2⟩ => ⟨h1, hu.trans (h2.mono hu.size)⟩)
            have HSz : Hid (AB = true → sameZ cz zk = true) := fun h => (sameZ_iff _ _).2 ((unhide HZk).1.1 h)
            have HC0 : Hid (AB = false → cz.id = 0) := fun h => by rw [(unhide HZk).1.2 h]; rfl
            generalize sameZ cz zk = sb at *
            have HRow := hide hRow
            clear hVc hbc hcc hll hlc hRow hN HZk HCz
            go_wp2_with fail
            go_region_held3 (fun w' => w'.cell? ⟨gp, 2, none⟩ = some (.slice (some ⟨gc, 0, none⟩) G.length cc) ∧ w'.cell? ⟨g, 0, none⟩ = some (.int .i64 cz.id) ∧ w'.cell? ⟨g, 1, none⟩ = some (.string ⟨cz.sub.toArray⟩) ∧ w'.cell? ⟨g, 2, none⟩ = some (.slice p'.a2 cz.scp.length p'.c2) ∧ w'.cell? ⟨g, 3, none⟩ = some (.slice p'.a3 cz.aud.length p'.c3) ∧ w'.cell? ⟨g, 4, none⟩ = some (.slice p'.a4 cz.act.length p'.c4) ∧ w'.cell? ⟨g, 5, none⟩ = some (.int .i64 cz.exp) ∧ w'.cell? ⟨gc, k * 6, none⟩ = some (.int .i64 zk.id) ∧ w'.cell? ⟨gc, k * 6 + 1, none⟩ = some (.string ⟨zk.sub.toArray⟩) ∧ w'.cell? ⟨gc, k * 6 + 2, none⟩ = some (.slice pk.a2 zk.scp.length pk.c2) ∧ w'.cell? ⟨gc, k * 6 + 3, none⟩ = some (.slice pk.a3 zk.aud.length pk.c3) ∧ w'.cell? ⟨gc, k * 6 + 4, none⟩ = some (.slice pk.a4 zk.act.length pk.c4) ∧ w'.cell? ⟨gc, k * 6 + 5, none⟩ = some (.int .i64 zk.exp)) (go_keep)
              ((go_at_call 21; refine (unhide HAk _ (by first | exact (Below.refl _ _).drew | exact Below.refl _ _)).mono ?_; rintro e wd ⟨rfl, hbd⟩; have HBD := hide hbd; have hcc := (unhide HB wd ((unhide HBr).trans (((unhide HBC).trans (hbd.mono (unhide HBC).size)).mono hwr))); have e2d := hcc.r2; have c0d : wd.cell? ⟨gc, k * 6, none⟩ = some (.int .i64 zk.id) := (hbd.cell (p := ⟨gc, k * 6, none⟩) (World.block_lt_of_cell? _ _ e0)).trans e0; have c1d : wd.cell? ⟨gc, k * 6 + 1, none⟩ = some (.string ⟨zk.sub.toArray⟩) := (hbd.cell (p := ⟨gc, k * 6 + 1, none⟩) (World.block_lt_of_cell? _ _ e1)).trans e1; have c2d : wd.cell? ⟨gc, k * 6 + 2, none⟩ = some (.slice pk.a2 zk.scp.length pk.c2) := (hbd.cell (p := ⟨gc, k * 6 + 2, none⟩) (World.block_lt_of_cell? _ _ e2)).trans e2; have c3d : wd.cell? ⟨gc, k * 6 + 3, none⟩ = some (.slice pk.a3 zk.aud.length pk.c3) := (hbd.cell (p := ⟨gc, k * 6 + 3, none⟩) (World.block_lt_of_cell? _ _ e3)).trans e3; have c4d : wd.cell? ⟨gc, k * 6 + 4, none⟩ = some (.slice pk.a4 zk.act.length pk.c4) := (hbd.cell (p := ⟨gc, k * 6 + 4, none⟩) (World.block_lt_of_cell? _ _ e4)).trans e4; have c5d : wd.cell? ⟨gc, k * 6 + 5, none⟩ = some (.int .i64 zk.exp) := (hbd.cell (p := ⟨gc, k * 6 + 5, none⟩) (World.block_lt_of_cell? _ _ e5)).trans e5; have g0d : wd.cell? ⟨g, 0, none⟩ = some (.int .i64 cz.id) := (hbd.cell (p := ⟨g, 0, none⟩) (World.block_lt_of_cell? _ _ t0)).trans t0; have g1d : wd.cell? ⟨g, 1, none⟩ = some (.string ⟨cz.sub.toArray⟩) := (hbd.cell (p := ⟨g, 1, none⟩) (World.block_lt_of_cell? _ _ t1)).trans t1; have g2d : wd.cell? ⟨g, 2, none⟩ = some (.slice p'.a2 cz.scp.length p'.c2) := (hbd.cell (p := ⟨g, 2, none⟩) (World.block_lt_of_cell? _ _ t2)).trans t2; have g3d : wd.cell? ⟨g, 3, none⟩ = some (.slice p'.a3 cz.aud.length p'.c3) := (hbd.cell (p := ⟨g, 3, none⟩) (World.block_lt_of_cell? _ _ t3)).trans t3; have g4d : wd.cell? ⟨g, 4, none⟩ = some (.slice p'.a4 cz.act.length p'.c4) := (hbd.cell (p := ⟨g, 4, none⟩) (World.block_lt_of_cell? _ _ t4)).trans t4; have g5d : wd.cell? ⟨g, 5, none⟩ = some (.int .i64 cz.exp) := (hbd.cell (p := ⟨g, 5, none⟩) (World.block_lt_of_cell? _ _ t5)).trans t5; clear hcc hbd; try dsimp only))
            have hbd := unhide HBD
            have HBd := hide ((unhide HBC).trans (hbd.mono (unhide HBC).size))
            have t0d : wd.cell? ⟨g, 0, none⟩ = some (.int .i64 cz.id) := ((unhide HRow).below hbd (unhide HRow).lt).cell (by decide)
            clear hbd t0 t1 t2 t3 t4 t5 e0 e1 e2 e3 e4 e5 d2 q0 q1 q2 q3 HAk HRow g0d g1d g2d g3d g4d g5d c0d c1d c2d c3d c4d c5d e2d
            obtain ⟨y0, y1, y2⟩ := unhide HCl wd (unhide HBd)
            have hw := unhide HW
            cases AB with
            | true =>
              have hsb := unhide HSz rfl
              subst hsb
              clear HSz HC0 HEx HRv HLk
              simp only [Bool.not_true] at *
              go_wp2_with fail
              go_roundg gq
              case measure => exact (unhide HM).1
              case rel => exact ⟨k + 1, (unhide HM).2, by first | exact num1 hw | rfl, (unhide HBr).trans ((unhide HBd).mono hwr)⟩
            | false =>
              have hid := unhide HC0 rfl
              have HE := hide (unhide HEx rfl)
              have HR := hide (unhide HRv rfl)
              clear HSz HC0 HEx HRv HLk
              generalize cz.id = ci at *
              subst hid
              simp only [Bool.not_false] at *
              go_wp2_with fail
              go_region_held3 (fun w' => w'.cell? ⟨gp, 0, none⟩ = some (.pointer (some ⟨s, 0, none⟩)) ∧ w'.cell? ⟨gp, 1, none⟩ = some (.slice (some ⟨gt, 0, none⟩) G.length ct) ∧ w'.cell? ⟨gt, k, none⟩ = some (.string ⟨tx.toArray⟩)) (go_keep)
                (first
                  | (go_at_call 31; refine (unhide HL0 _).mono ?_; rintro e wB ⟨rfl, bB⟩; have BBb := ((unhide HBd).drew).trans (bB.mono (unhide HBd).drew.size); obtain ⟨x0b, x1b, x2b⟩ := unhide HCl wB BBb; have R2 := hide BBb; clear bB BBb; try dsimp only)
                  | (go_at_call 33; refine (unhide HE _ (unhide R2)).mono ?_; rintro e wC ⟨rfl, BBc⟩; obtain ⟨x0c, x1c, x2c⟩ := unhide HCl wC BBc; have R3 := hide BBc; clear BBc; try dsimp only))
              clear R2 x0b x1b x2b y0 y1 y2 t0d
              go_wp2_with fail
              go_region_held3 (fun w' => w'.cell? ⟨gp, 0, none⟩ = some (.pointer (some ⟨s, 0, none⟩)) ∧ w'.cell? ⟨gp, 1, none⟩ = some (.slice (some ⟨gt, 0, none⟩) G.length ct) ∧ w'.cell? ⟨gt, k, none⟩ = some (.string ⟨tx.toArray⟩)) (go_keep)
                (first
                  | (go_at_call 31; refine (unhide HL0 _).mono ?_; rintro e wD ⟨rfl, bB⟩; have BBb := ((unhide R3).drew).trans (bB.mono (unhide R3).drew.size); obtain ⟨x0b, x1b, x2b⟩ := unhide HCl wD BBb; have R4 := hide BBb; clear bB BBb; try dsimp only)
                  | (go_at_call 30; refine (unhide HR _ (unhide R4)).mono ?_; rintro e wE ⟨rfl, BBe⟩; obtain ⟨x0e, x1e, x2e⟩ := unhide HCl wE BBe; have R5 := hide BBe; clear BBe; try dsimp only))
              clear R3 R4 x0b x1b x2b x0c x1c x2c
              go_wp2_with fail
              go_roundg gq
              case measure => exact (unhide HM).1
              case rel => exact ⟨k + 1, (unhide HM).2, by first | exact num1 hw | rfl, (unhide HBr).trans ((unhide R5).mono hwr)⟩
    · have hkn : k = G.length := by omega
      have hkd : decide ((k : Int) < (G.length : Int)) = false := decide_eq_false (by omega)
      subst hkn
      clear hk hb hV
      go_wp2_with fail
      go_ret
      exact ⟨rfl, (unhide HB2).trans ((unhide HBr).mono (unhide HB2).size)⟩
end Go.Proofs.YtkmkkmdpjliifaaGreatDoor
