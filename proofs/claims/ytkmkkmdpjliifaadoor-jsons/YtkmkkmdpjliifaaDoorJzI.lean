import Derived.Test.YtkmkkmdpjliifaaDoorJzH
namespace Go.Proofs.YtkmkkmdpjliifaaDoor
open Go.ChangeShapes Go.WideShapes Go.ChangeAt Go.RowKit

def NumK (o : Option (Nat × List UInt8)) (k : Nat) (_t : List UInt8) (n : Nat) (u : List UInt8) : Prop := (k = 9 ∧ o = some (n, u)) ∨ (k = 0 ∧ o = none)
theorem by_drop (T : List UInt8) (a k : Nat) : by_ (T.drop a) k = by_ T (a + k) := by
  unfold by_
  simp [List.getD, List.getElem?_drop]
theorem dig_of {s : List UInt8} {k : Nat} (h : k < dk s) : (decide (48 ≤ by_ s k) && decide (by_ s k ≤ 57)) = true := by
  have := dk_dig s k h
  simp [this.1, this.2]
theorem dig_no {s : List UInt8} (h : dk s < s.length) : (decide (48 ≤ by_ s (dk s)) && decide (by_ s (dk s) ≤ 57)) = false := by
  have := dk_end s h
  simp
  omega
theorem numstep {v d : Nat} (hv : v ≤ 999999999999) (h48 : 48 ≤ d) (hd : d ≤ 57) :
    IntKind.i64.wrap (10 * (v : Int)) = 10 * (v : Int) ∧ IntKind.u8.wrap ((d : Int) - 48) = ((d - 48 : Nat) : Int) ∧ IntKind.i64.wrap ((d - 48 : Nat) : Int) = ((d - 48 : Nat) : Int) ∧ IntKind.i64.wrap (10 * (v : Int) + ((d - 48 : Nat) : Int)) = ((10 * v + (d - 48) : Nat) : Int) ∧
    wrap64 (10 * (v : Int)) = 10 * (v : Int) ∧ ((d : Int) - 48) % 256 = ((d - 48 : Nat) : Int) ∧ wrap64 ((d - 48 : Nat) : Int) = ((d - 48 : Nat) : Int) ∧ wrap64 (10 * (v : Int) + ((d - 48 : Nat) : Int)) = ((10 * v + (d - 48) : Nat) : Int) := by
  refine ⟨by rw [IntKind.wrap_i64]; omega, ?_, by rw [IntKind.wrap_i64]; omega, by rw [IntKind.wrap_i64]; omega, w64 _ (by omega) (by omega), by omega, w64 _ (by omega) (by omega), ?_⟩
  · rw [IntKind.wrap_u8]; omega
  · rw [w64 _ (by omega) (by omega)]; omega
theorem numT_big {s : List UInt8} {k : Nat} (h : k ≤ dk s) (hb : 999999999999 < dv s k) : numT s = none := by
  unfold numT
  rw [if_pos (Or.inr (Or.inr (Nat.lt_of_lt_of_le hb (dv_mono s h))))]

set_option maxRecDepth 20000 in
set_option maxHeartbeats 2000000 in
theorem readNumber_any (g : Nat) (T : List UInt8) (a : Nat) (w : World) (hT : T.length ≤ 1048576) (ha : a < T.length) (h2 : 2 < g) (hd0 : 0 < dk (T.drop a)) (hR : Sc w g T a) (hU : UT w) :
    Calls Tryd.prog 128 #[.pointer (some ⟨g, 0, none⟩)] w (SigR g T (NumK (numT (T.drop a))) w) := by
  have HT := hide hT
  have hgl := hR.lt
  obtain ⟨w1, hw1⟩ : ∃ w1, w1 = w.alloc (.cells #[.int .i64 0, .string ⟨#[]⟩, .int .i64 0] 155) := ⟨_, rfl⟩
  have hM1 : TM w w1 g T a (.slice none 0 0) [] := by rw [hw1]; exact TM.start w _ g T a h2 rfl (Gr.refl _ _) hR hU
  have hc1 := hR.c1
  have HW1 := hide hw1
  have hgn : g ≠ w.heap.size := by omega
  clear hw1 hT hR hU
  go_enter Tryd.func128, Tryd.ntmps128
  go_wp2_with fail
  rw [← unhide HW1]
  clear HW1 hc1
  obtain ⟨s, hs⟩ : ∃ s, T.drop a = s := ⟨_, rfl⟩
  have hsl : s.length = T.length - a := by rw [← hs, List.length_drop]
  have hdl := dk_le s
  have HBY : Hid (∀ k, by_ s k = by_ T (a + k)) := fun k => by rw [← hs]; exact by_drop T a k
  have HDR : Hid (∀ k, s.drop k = T.drop (a + k)) := fun k => by rw [← hs, List.drop_drop]
  rw [hs] at hd0
  have HS := hide hs
  go_loopg [4] (T.length - a) (fun q n wr => ∃ (k b : Nat), k + q = T.length - a ∧ b = a + k ∧ k ≤ dk s ∧ dv s k ≤ 999999999999 ∧ n = .int .i64 (dv s k : Nat) ∧ TM w wr g T b (.slice none 0 0) [])
  case atStart => exact ⟨0, a, by omega, rfl, Nat.zero_le _, Nat.zero_le _, rfl, hM1⟩
  case round =>
    clear hM1 hs
    obtain ⟨k, b, hq, hbk, hkd, hv, rfl, hM⟩ := hrel
    have hc0 := hM.sc.c0
    have hc1 := hM.sc.c1
    have hf1 := hM.sc.frozen 1
    have s0 : wr.cell? ⟨w.heap.size, 0, none⟩ = some (.int .i64 0) := hM.res.cell (by decide)
    have s1 : wr.cell? ⟨w.heap.size, 1, none⟩ = some (.string ⟨#[]⟩) := hM.res.cell (by decide)
    have s2 : wr.cell? ⟨w.heap.size, 2, none⟩ = some (.int .i64 0) := hM.res.cell (by decide)
    have z0 := hM.res.frozen 0
    have z1 := hM.res.frozen 1
    have z2 := hM.res.frozen 2
    by_cases hlt : k < dk s
    · have hbT : b < T.length := by omega
      have hbl : (b : Int) < (T.length : Int) := by omega
      have hix := ix_any T b hbT
      have hdd := dk_dig s k hlt
      have hdig := dig_of hlt
      have hdv : dv s (k + 1) = 10 * dv s k + (by_ s k - 48) := rfl
      rw [unhide HBY k, ← hbk] at hdig hdd hdv
      have HC := hide (fun w => isDigit_any (by_ T b) w)
      rw [hdig] at HC
      have hw : wrap64 ((b : Int) + 1) = (b : Int) + 1 := w64 _ (by omega) (by have := unhide HT; omega)
      obtain ⟨e1, e2, e3, e4, e5, e6, e7, e8⟩ := numstep hv hdd.1 hdd.2
      rw [← hdv] at e4 e8
      have hk1 : k + 1 ≤ dk s := hlt
      have hgt : decide ((999999999999 : Int) < ((dv s (k + 1) : Nat) : Int)) = decide (999999999999 < dv s (k + 1)) := by
        by_cases h : 999999999999 < dv s (k + 1)
        · rw [decide_eq_true h]; exact decide_eq_true (Int.ofNat_lt.2 h)
        · rw [decide_eq_false h]; exact decide_eq_false (fun h' => h (Int.ofNat_lt.1 h'))
      have HQ : Hid (k + gk = T.length - a ∧ b = a + k) := ⟨hq, hbk⟩
      have HV := hide hv
      have HB := hide (numT_big hk1)
      generalize hv1 : dv s (k + 1) = v1 at *
      have HV1 := hide hv1
      generalize dv s k = v0 at *
      generalize by_ T b = y at *
      generalize ((y - 48 : Nat) : Int) = z at *
      clear hq hbk hv hdd hdig hdv hkd hlt hv1 hsl hdl
      cases hbig : decide (999999999999 < v1) with
      | true =>
        rw [hbig] at hgt
        have HN : Hid (numT (T.drop a) = none) := by unfold Hid; rw [unhide HS]; exact unhide HB (of_decide_eq_true hbig)
        clear hbig
        go_wp2_with fail
        go_quiet (first | (go_at_call 113; exact Calls.quiet_of_same (unhide HC _)))
        go_wp2_with fail
        go_quiet (fail)
        go_wp2_with fail
        have hMn := fun n => hM.drewN n
        have hbT2 := Nat.le_of_lt hbT
        exact ret_sg Tryd.results128 (st3_row (hMn _).res 0 [] 0) rfl rfl ⟨0, [], 0, b, rfl, hbT2, Nat.zero_le _, Row.but (hMn _).sc (st3_but _ _ 0 [] 0) hgn, gr_st (hMn _).gr 0 [] 0, Or.inr ⟨rfl, unhide HN⟩⟩
      | false =>
        rw [hbig] at hgt
        have HL1 := hide (of_decide_eq_false hbig)
        clear hbig
        go_wp2_with fail
        go_quiet (first | (go_at_call 113; exact Calls.quiet_of_same (unhide HC _)))
        go_wp2_with fail
        go_quiet (fail)
        go_wp2_with fail
        have hMn := fun n => (hM.drewN n).go h2 hgl ((Gr.refl g _).setCell 1 (.int .i64 ((b : Int) + 1))) ((hM.drewN n).sc.set1 (b + 1) _ rfl)
        go_roundg (gk - 1)
        case measure => have := unhide HQ; omega
        case rel => exact ⟨k + 1, b + 1, by have := unhide HQ; omega, by have := unhide HQ; omega, hk1, by rw [unhide HV1]; exact Nat.le_of_not_lt (unhide HL1), by rw [unhide HV1], hMn _⟩
    · have hkk : k = dk s := by omega
      have hbT : b ≤ T.length := by omega
      have hix0 := ix_any T a ha
      have hal : (a : Int) < (T.length : Int) := by omega
      have HW0 : Hid (wrap64 ((a : Int) + 1) = (a : Int) + 1) := hide (w64 _ (by omega) (by have := unhide HT; omega))
      have hy0 : by_ s 0 = by_ T a := unhide HBY 0
      have hdr : s.drop k = T.drop b := by rw [unhide HDR k, hbk]
      have hnum : numT (T.drop a) = if 1 < k ∧ by_ T a = 48 then none else some (dv s k, T.drop b) := by
        rw [unhide HS]
        unfold numT
        rw [← hkk, hdr, hy0]
        by_cases h : 1 < k ∧ by_ T a = 48
        · rw [if_pos (Or.inr (Or.inl h)), if_pos h]
        · rw [if_neg (fun h' => h'.elim (fun h0 => absurd h0 (Nat.ne_of_gt (hkk ▸ hd0))) (fun h' => h'.elim h (fun h0 => Nat.not_lt_of_le hv h0))), if_neg h]
      have HNUM := hide hnum
      have hcs : (((by_ T a : Nat) : Int) == 48) = true ∧ decide ((a : Int) + 1 < (b : Int)) = true ∧ (1 < k ∧ by_ T a = 48) ∨ (((by_ T a : Nat) : Int) == 48) = true ∧ decide ((a : Int) + 1 < (b : Int)) = false ∧ ¬ (1 < k ∧ by_ T a = 48) ∨ (((by_ T a : Nat) : Int) == 48) = false ∧ ¬ (1 < k ∧ by_ T a = 48) := by
        by_cases h1 : by_ T a = 48
        · have h1' : (((by_ T a : Nat) : Int) == 48) = true := by simp [h1]
          by_cases h3 : 1 < k
          · exact Or.inl ⟨h1', decide_eq_true (by omega), h3, h1⟩
          · exact Or.inr (Or.inl ⟨h1', decide_eq_false (by omega), fun h => h3 h.1⟩)
        · exact Or.inr (Or.inr ⟨by simp only [beq_eq_false_iff_ne, ne_eq]; omega, fun h => h1 h.2⟩)
      have HCS := hide hcs
      have hex : (decide ((b : Int) < (T.length : Int)) = false ∧ ¬ b < T.length) ∨ (b < T.length ∧ ∃ y : Nat, (∀ u, (Instr.index 9 (.string ⟨T.toArray⟩) (.int .i64 (b : Nat))).run Tryd.prog u = .ok (.int .u8 (y : Nat)) u) ∧ ∀ w, Calls Tryd.prog 113 #[.int .u8 (y : Nat)] w fun e w' => e = .returned (.bool false) ∧ w' = w) := by
        by_cases h : b < T.length
        · refine Or.inr ⟨h, by_ T b, ix_any T b h, fun w => ?_⟩
          have h1 := isDigit_any (by_ T b) w
          have h3 := dig_no (s := s) (by omega)
          rw [← hkk, unhide HBY k, ← hbk] at h3
          rw [h3] at h1
          exact h1
        · exact Or.inl ⟨decide_eq_false (by omega), h⟩
      generalize dv s k = v0 at *
      generalize by_ T a = ya at *
      clear hnum hcs hdr hy0 hq hbk hkd hv hlt hkk hsl hdl
      have hw0 := unhide HW0
      rcases hex with ⟨d1, hnl⟩ | ⟨hbl0, y, hixb, hcall⟩
      · go_wp2_with fail
        go_quiet (first | (go_at_call 113; fail))
        rcases unhide HCS with ⟨q1, q2, q3⟩ | ⟨q1, q2, q3⟩ | ⟨q1, q3⟩
        · have HN : Hid (numT (T.drop a) = none) := by unfold Hid; rw [unhide HNUM, if_pos q3]
          clear q3
          go_wp2_with fail
          exact ret_sg Tryd.results128 (st3_row (hM.drewN _).res 0 [] 0) rfl rfl ⟨0, [], 0, b, rfl, hbT, Nat.zero_le _, Row.but (hM.drewN _).sc (st3_but _ _ 0 [] 0) hgn, gr_st (hM.drewN _).gr 0 [] 0, Or.inr ⟨rfl, unhide HN⟩⟩
        all_goals
          have HN : Hid (numT (T.drop a) = some (v0, T.drop b)) := by unfold Hid; rw [unhide HNUM, if_neg q3]
          clear q3
          go_wp2_with fail
          exact ret_sg Tryd.results128 (st3_row (hM.drewN _).res 9 [] v0) rfl rfl ⟨9, [], v0, b, rfl, hbT, Nat.zero_le _, Row.but (hM.drewN _).sc (st3_but _ _ 9 [] v0) hgn, gr_st (hM.drewN _).gr 9 [] v0, Or.inl ⟨rfl, unhide HN⟩⟩
      · have hbl : (b : Int) < (T.length : Int) := by omega
        have HC := hide hcall
        clear hcall
        go_wp2_with fail
        go_quiet (first | (go_at_call 113; exact Calls.quiet_of_same (unhide HC _)))
        rcases unhide HCS with ⟨q1, q2, q3⟩ | ⟨q1, q2, q3⟩ | ⟨q1, q3⟩
        · have HN : Hid (numT (T.drop a) = none) := by unfold Hid; rw [unhide HNUM, if_pos q3]
          clear q3
          go_wp2_with fail
          exact ret_sg Tryd.results128 (st3_row (hM.drewN _).res 0 [] 0) rfl rfl ⟨0, [], 0, b, rfl, hbT, Nat.zero_le _, Row.but (hM.drewN _).sc (st3_but _ _ 0 [] 0) hgn, gr_st (hM.drewN _).gr 0 [] 0, Or.inr ⟨rfl, unhide HN⟩⟩
        all_goals
          have HN : Hid (numT (T.drop a) = some (v0, T.drop b)) := by unfold Hid; rw [unhide HNUM, if_neg q3]
          clear q3
          go_wp2_with fail
          exact ret_sg Tryd.results128 (st3_row (hM.drewN _).res 9 [] v0) rfl rfl ⟨9, [], v0, b, rfl, hbT, Nat.zero_le _, Row.but (hM.drewN _).sc (st3_but _ _ 9 [] v0) hgn, gr_st (hM.drewN _).gr 9 [] v0, Or.inl ⟨rfl, unhide HN⟩⟩
end Go.Proofs.YtkmkkmdpjliifaaDoor
