import Derived.Test.YtkmkkmdpjliifaaDoorJzI
namespace Go.Proofs.YtkmkkmdpjliifaaDoor
open Go.ChangeShapes Go.WideShapes Go.ChangeAt Go.RowKit

/-- the next sign of a text -/
def SignK (l : List UInt8) (k : Nat) (t : List UInt8) (n : Nat) (u : List UInt8) : Prop :=
  match skipB l with
  | [] => k = 1
  | c :: r => if c = 34 then TxtK (txtS r) k t n u else if digN c = true then NumK (numT (c :: r)) k t n u else k = markN c ∧ u = r
theorem SignK.nil {l : List UInt8} {t : List UInt8} {n : Nat} {u : List UInt8} (h : skipB l = []) : SignK l 1 t n u := by unfold SignK; rw [h]
theorem SignK.cons {l : List UInt8} {c : UInt8} {r : List UInt8} {k : Nat} {t : List UInt8} {n : Nat} {u : List UInt8} (h : skipB l = c :: r) (hk : if c = 34 then TxtK (txtS r) k t n u else if digN c = true then NumK (numT (c :: r)) k t n u else k = markN c ∧ u = r) : SignK l k t n u := by
  unfold SignK
  rw [h]
  exact hk

set_option maxRecDepth 20000 in
set_option maxHeartbeats 2000000 in
theorem next_any (g : Nat) (T : List UInt8) (a : Nat) (w : World) (hT : T.length ≤ 1048576) (ha : a ≤ T.length) (h2 : 2 < g) (hR : Sc w g T a) (hU : UT w) :
    Calls Tryd.prog 106 #[.pointer (some ⟨g, 0, none⟩)] w (SigR g T (SignK (T.drop a)) w) := by
  have HT := hide hT
  have hgl := hR.lt
  obtain ⟨w1, hw1⟩ : ∃ w1, w1 = w.alloc (.cells #[.int .i64 0, .string ⟨#[]⟩, .int .i64 0] 155) := ⟨_, rfl⟩
  have hM1 : TM w w1 g T a (.slice none 0 0) [] := by rw [hw1]; exact TM.start w _ g T a h2 rfl (Gr.refl _ _) hR hU
  have HW1 := hide hw1
  have hgn : g ≠ w.heap.size := by omega
  clear hw1 hT hR hU
  go_enter Tryd.func106, Tryd.ntmps106
  go_wp2_with fail
  rw [← unhide HW1]
  clear HW1
  refine (skipBlanks_any g T a _ (unhide HT) ha hM1.sc).mono ?_
  rintro e w2 ⟨⟨v2, rfl⟩, ⟨b, hb, hab, hsk, hR2⟩, hB2⟩
  have hM := hM1.go h2 hgl (Gr.ofBut hB2) hR2
  clear hM1 hR2 hB2 hab ha
  have hc0 := hM.sc.c0
  have hc1 := hM.sc.c1
  have hf1 := hM.sc.frozen 1
  have s0 : w2.cell? ⟨w.heap.size, 0, none⟩ = some (.int .i64 0) := hM.res.cell (by decide)
  have s1 : w2.cell? ⟨w.heap.size, 1, none⟩ = some (.string ⟨#[]⟩) := hM.res.cell (by decide)
  have s2 : w2.cell? ⟨w.heap.size, 2, none⟩ = some (.int .i64 0) := hM.res.cell (by decide)
  have z0 := hM.res.frozen 0
  have z1 := hM.res.frozen 1
  have z2 := hM.res.frozen 2
  by_cases hend : b = T.length
  · have d2 : (((b : Nat) : Int) == ((T.length : Nat) : Int)) = true := by simp [hend]
    have HN : Hid (skipB (T.drop a) = []) := by unfold Hid; rw [← hsk, List.drop_eq_nil_of_le (by omega)]
    clear hend hsk
    go_wp2_with fail
    go_quiet (fail)
    go_wp2_with fail
    exact ret_sg Tryd.results106 (st3_row (hM.drewN _).res 1 [] 0) rfl rfl ⟨1, [], 0, b, rfl, hb, Nat.zero_le _, Row.but (hM.drewN _).sc (st3_but _ _ 1 [] 0) hgn, gr_st (hM.drewN _).gr 1 [] 0, SignK.nil (unhide HN)⟩
  · have hlt : b < T.length := by omega
    have hbl : (b : Int) < (T.length : Int) := by omega
    have hix := ix_any T b hlt
    have hby : by_ T b = (T.getD b 0).toNat := rfl
    rw [hby] at hix
    have hdc := drop_cons hlt
    generalize T.getD b 0 = c at *
    have hcl := c.toNat_lt
    have d2 : (((b : Nat) : Int) == ((T.length : Nat) : Int)) = false := by simp only [beq_eq_false_iff_ne, ne_eq]; omega
    have hskc : skipB (T.drop a) = c :: T.drop (b + 1) := by rw [← hsk]; exact hdc
    have HS := hide hskc
    have HDC := hide hdc
    have HW : Hid (wrap64 ((b : Int) + 1) = (b : Int) + 1) := hide (w64 _ (by omega) (by have := unhide HT; omega))
    clear hend hskc hsk hdc
    by_cases e1 : c = 34
    · subst e1
      go_wp2_with fail
      go_quiet (fail)
      go_wp2_with fail
      go_quiet (fail)
      go_wp2_with fail
      refine (readText_any g T b _ (unhide HT) hlt h2 (hM.drewN _).sc (hM.drewN _).ut).mono ?_
      rintro e w3 ⟨k, t, n, d, rfl, hd, htl, hR3, hG3, hK⟩
      have hM3 := (hM.drewN _).go h2 hgl hG3 hR3
      have t0 : w3.cell? ⟨w.heap.size, 0, none⟩ = some (.int .i64 0) := hM3.res.cell (by decide)
      have t1 : w3.cell? ⟨w.heap.size, 1, none⟩ = some (.string ⟨#[]⟩) := hM3.res.cell (by decide)
      have t2 : w3.cell? ⟨w.heap.size, 2, none⟩ = some (.int .i64 0) := hM3.res.cell (by decide)
      have y0 := hM3.res.frozen 0
      have y1 := hM3.res.frozen 1
      have y2 := hM3.res.frozen 2
      have HK := hide hK
      clear hK
      unfold sgA
      go_wp2_with fail
      exact ret_sg Tryd.results106 (st3_row hM3.res k t n) rfl rfl ⟨k, t, n, d, rfl, hd, htl, Row.but hM3.sc (st3_but _ _ k t n) hgn, gr_st hM3.gr k t n, SignK.cons (unhide HS) (by rw [if_pos rfl]; exact unhide HK)⟩
    · have m1 : (((c.toNat : Nat) : Int) == 34) = false := nb (n := 34) (by decide) e1
      have HC := hide (fun w => isDigit_any c.toNat w)
      have hdn : digN c = (decide (48 ≤ c.toNat) && decide (c.toNat ≤ 57)) := rfl
      rw [← hdn] at HC
      clear hdn
      cases hdg : digN c with
      | true =>
        rw [hdg] at HC
        have hd0 : 0 < dk (T.drop b) := by rw [unhide HDC, dk, if_pos hdg]; omega
        have HDG := hide hdg
        clear hdg
        go_wp2_with fail
        go_quiet (fail)
        go_wp2_with fail
        go_quiet (fail)
        go_wp2_with (go_at_call 113; refine (unhide HC _).mono ?_; rintro e w5 ⟨rfl, rfl⟩)
        refine (readNumber_any g T b _ (unhide HT) hlt h2 hd0 (hM.drewN _).sc (hM.drewN _).ut).mono ?_
        rintro e w3 ⟨k, t, n, d, rfl, hd, htl, hR3, hG3, hK⟩
        have hM3 := (hM.drewN _).go h2 hgl hG3 hR3
        have t0 : w3.cell? ⟨w.heap.size, 0, none⟩ = some (.int .i64 0) := hM3.res.cell (by decide)
        have t1 : w3.cell? ⟨w.heap.size, 1, none⟩ = some (.string ⟨#[]⟩) := hM3.res.cell (by decide)
        have t2 : w3.cell? ⟨w.heap.size, 2, none⟩ = some (.int .i64 0) := hM3.res.cell (by decide)
        have y0 := hM3.res.frozen 0
        have y1 := hM3.res.frozen 1
        have y2 := hM3.res.frozen 2
        have HK := hide hK
        clear hK
        unfold sgA
        go_wp2_with fail
        exact ret_sg Tryd.results106 (st3_row hM3.res k t n) rfl rfl ⟨k, t, n, d, rfl, hd, htl, Row.but hM3.sc (st3_but _ _ k t n) hgn, gr_st hM3.gr k t n, SignK.cons (unhide HS) (by rw [if_neg e1, if_pos (unhide HDG), ← unhide HDC]; exact unhide HK)⟩
      | false =>
        rw [hdg] at HC
        have HDG := hide hdg
        have HMK := hide (fun w => markKind_any c w)
        have hw := unhide HW
        have hM2 := fun n => (hM.drewN n).go h2 hgl ((Gr.refl g _).setCell 1 (.int .i64 ((b : Int) + 1))) ((hM.drewN n).sc.set1 (b + 1) _ rfl)
        clear hdg
        go_wp2_with fail
        go_quiet (fail)
        go_wp2_with fail
        go_quiet (fail)
        go_wp2_with (first | (go_at_call 113; refine (unhide HC _).mono ?_; rintro e w5 ⟨rfl, rfl⟩) | (go_at_call 129; refine (unhide HMK _).mono ?_; rintro e w6 ⟨rfl, rfl⟩))
        exact ret_sg Tryd.results106 (st3_row (hM2 _).res (markN c) [] 0) rfl rfl ⟨markN c, [], 0, b + 1, rfl, hlt, Nat.zero_le _, Row.but (hM2 _).sc (st3_but _ _ (markN c) [] 0) hgn, gr_st (hM2 _).gr (markN c) [] 0, SignK.cons (unhide HS) (by rw [if_neg e1, if_neg (by rw [unhide HDG]; decide)]; exact ⟨rfl, rfl⟩)⟩
end Go.Proofs.YtkmkkmdpjliifaaDoor
