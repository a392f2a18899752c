import Derived.Test.YtkmkkmdpjliifaaDoorTxQ
namespace Go.Proofs.YtkmkkmdpjliifaaDoor
open Go.ChangeShapes Go.WideShapes Go.ChangeAt Go.RowKit

theorem limbsV (n : Nat) (w : World) (hn : n ≤ 1099511627776) :
    Calls Tryd.prog 53 #[.int .i64 n] w fun e w' => ∃ (g cap : Nat) (f : Nat → Nat), e = .returned (.slice (some ⟨g, 0, none⟩) 4 cap) ∧ g < w'.heap.size ∧ Cel w' g 0 4 (fun j => .int .i64 (f j : Nat)) ∧ V f 4 = n ∧ (∀ j, j < 4 → f j < 65536) ∧ Below w.heap.size w w' := by
  refine (limbs_any n w hn).mono ?_
  rintro e w' ⟨g, cap, rfl, h1, h2, h3⟩
  refine ⟨g, cap, fun j => n / 65536 ^ j % 65536, rfl, h1, h2.congr (fun j hj => ?_), ?_, fun j _ => Nat.mod_lt _ (by decide), h3⟩
  · have : (limb n 4).getD j 0 = n / 65536 ^ j % 65536 := by
      unfold limb; rw [List.getD_eq_getElem?_getD, List.getElem?_map, List.getElem?_range hj]; rfl
    rw [this]
  · rw [V_limb, Nat.mod_eq_of_lt]; omega
theorem shl_get (n by_ j : Nat) (hj : j < by_ + 1) : (shl n by_).getD j 0 = if j = by_ then n else 0 := by
  unfold shl
  rw [List.getD_eq_getElem?_getD]
  by_cases e : j = by_
  · subst e; simp
  · rw [List.getElem?_append_left (by simp; omega), if_neg e, List.getElem?_replicate_of_lt (by omega)]; rfl
theorem shiftV4 (n : Nat) (w : World) (hn : n < 65536) :
    Calls Tryd.prog 55 #[.int .i64 n, .int .i64 4] w fun e w' => ∃ (g cap : Nat) (f : Nat → Nat), e = .returned (.slice (some ⟨g, 0, none⟩) 5 cap) ∧ g < w'.heap.size ∧ Cel w' g 0 5 (fun j => .int .i64 (f j : Nat)) ∧ V f 5 = n * 65536 ^ 4 ∧ (∀ j, j < 5 → f j < 65536) ∧ Below w.heap.size w w' := by
  refine (shifted4 n w).mono ?_
  rintro e w' ⟨g, cap, rfl, h1, h2, h3⟩
  exact ⟨g, cap, fun j => if j = 4 then n else 0, rfl, h1, h2.congr (fun j hj => by rw [shl_get n 4 j hj]), V_shift n 4, fun j _ => by show (if j = 4 then n else 0) < 65536; split <;> omega, h3⟩
theorem shiftV6 (n : Nat) (w : World) (hn : n < 65536) :
    Calls Tryd.prog 55 #[.int .i64 n, .int .i64 6] w fun e w' => ∃ (g cap : Nat) (f : Nat → Nat), e = .returned (.slice (some ⟨g, 0, none⟩) 7 cap) ∧ g < w'.heap.size ∧ Cel w' g 0 7 (fun j => .int .i64 (f j : Nat)) ∧ V f 7 = n * 65536 ^ 6 ∧ (∀ j, j < 7 → f j < 65536) ∧ Below w.heap.size w w' := by
  refine (shifted6 n w).mono ?_
  rintro e w' ⟨g, cap, rfl, h1, h2, h3⟩
  exact ⟨g, cap, fun j => if j = 6 then n else 0, rfl, h1, h2.congr (fun j hj => by rw [shl_get n 6 j hj]), V_shift n 6, fun j _ => by show (if j = 6 then n else 0) < 65536; split <;> omega, h3⟩

theorem times44 (a b : Nat → Nat) (ga gb ca cb : Nat) (w : World) (hga : ga < w.heap.size) (hgb : gb < w.heap.size)
    (ha : Cel w ga 0 4 (fun j => .int .i64 (a j : Nat))) (hb : Cel w gb 0 4 (fun j => .int .i64 (b j : Nat)))
    (da : ∀ j, j < 4 → a j < 65536) (db : ∀ j, j < 4 → b j < 65536) :
    Calls Tryd.prog 54 #[.slice (some ⟨ga, 0, none⟩) 4 ca, .slice (some ⟨gb, 0, none⟩) 4 cb] w fun e w' => ∃ (g : Nat) (r : Nat → Nat), e = .returned (.slice (some ⟨g, 0, none⟩) 8 8) ∧ g < w'.heap.size ∧
      Cel w' g 0 8 (fun j => .int .i64 (r j : Nat)) ∧ V r 8 = V a 4 * V b 4 ∧ (∀ j, j < 8 → r j < 65536) ∧ Below w.heap.size w w' :=
  times_any a b 4 4 ga gb ca cb w (by decide) (by decide) (by decide) (by decide) hga hgb ha hb da db
theorem times84 (a b : Nat → Nat) (ga gb ca cb : Nat) (w : World) (hga : ga < w.heap.size) (hgb : gb < w.heap.size)
    (ha : Cel w ga 0 8 (fun j => .int .i64 (a j : Nat))) (hb : Cel w gb 0 4 (fun j => .int .i64 (b j : Nat)))
    (da : ∀ j, j < 8 → a j < 65536) (db : ∀ j, j < 4 → b j < 65536) :
    Calls Tryd.prog 54 #[.slice (some ⟨ga, 0, none⟩) 8 ca, .slice (some ⟨gb, 0, none⟩) 4 cb] w fun e w' => ∃ (g : Nat) (r : Nat → Nat), e = .returned (.slice (some ⟨g, 0, none⟩) 12 12) ∧ g < w'.heap.size ∧
      Cel w' g 0 12 (fun j => .int .i64 (r j : Nat)) ∧ V r 12 = V a 8 * V b 4 ∧ (∀ j, j < 12 → r j < 65536) ∧ Below w.heap.size w w' :=
  times_any a b 8 4 ga gb ca cb w (by decide) (by decide) (by decide) (by decide) hga hgb ha hb da db
theorem mid_eq (lo hi : Nat) (h1 : lo ≤ hi) (h : hi ≤ 1099511627776) : wrap64 ((wrap64 ((lo : Int) + (hi : Int))).tdiv 2) = (((lo + hi) / 2 : Nat) : Int) := by
  rw [w64 ((lo : Int) + hi) (by omega) (by omega), Int.tdiv_eq_ediv_of_nonneg (by omega), w64 _ (by omega) (by omega)]; omega

set_option maxHeartbeats 1000000 in
theorem root_sq (p : Nat) (w : World) (hp : p < 1000) :
    Calls Tryd.prog 26 #[.int .i64 p, .bool false] w fun e w' => ∃ x : Nat, e = .returned (.int .i64 ((x % 4294967296 : Nat) : Int)) ∧ x * x ≤ p * 65536 ^ 4 ∧ p * 65536 ^ 4 < (x + 1) * (x + 1) ∧ Below w.heap.size w w' := by
  go_enter Tryd.func26, Tryd.ntmps26
  go_wp2
  go_loopg [5, 6] 1099511627776 (fun q l h wr => ∃ lo hi : Nat, hi = lo + q ∧ 0 < q ∧ hi ≤ 1099511627776 ∧ l = .int .i64 lo ∧ h = .int .i64 hi ∧ lo * lo ≤ p * 65536 ^ 4 ∧ p * 65536 ^ 4 < hi * hi ∧ Below w.heap.size w wr)
  case atStart => exact ⟨0, 1099511627776, rfl, by decide, Nat.le_refl _, rfl, rfl, by omega, by omega, Below.refl _ _⟩
  case round =>
    obtain ⟨lo, hi, hq, hq0, hmx, rfl, rfl, h1, h2, hB⟩ := hrel
    have HX : Hid (hi = lo + gk ∧ hi ≤ 1099511627776 ∧ lo * lo ≤ p * 65536 ^ 4 ∧ p * 65536 ^ 4 < hi * hi) := ⟨hq, hmx, h1, h2⟩
    clear hq hmx h1 h2
    have hB0 := hB.size
    have hw1 : wrap64 ((lo : Int) + 1) = (lo : Int) + 1 := by have := HX.out; exact w64 _ (by omega) (by omega)
    by_cases hlt : (lo : Int) + 1 < hi
    · go_wp2_with fail
      obtain ⟨mid, hmid⟩ : ∃ mid, mid = (lo + hi) / 2 := ⟨_, rfl⟩
      rw [mid_eq lo hi (by omega) HX.out.2.1, ← hmid]
      have HM : Hid (mid = (lo + hi) / 2) := hmid
      have hm40 : mid ≤ 1099511627776 := by have := HX.out; omega
      have HM40 := hide hm40
      clear hmid hm40
      refine (limbsV mid _ (unhide HM40)).mono ?_
      rintro e w1 ⟨g1, c1, f1, rfl, hg1, hC1, hV1, hd1, hb1⟩
      have HV1 : Hid (V f1 4 = mid ∧ ∀ j, j < 4 → f1 j < 65536) := ⟨hV1, hd1⟩
      clear hV1 hd1
      go_wp2_with fail
      refine (times44 f1 f1 g1 g1 _ _ _ hg1 hg1 hC1 hC1 HV1.out.2 HV1.out.2).mono ?_
      rintro e w2 ⟨g2, f2, rfl, hg2, hC2, hV2, hd2, hb2⟩
      have HV2 : Hid (V f2 8 = V f1 4 * V f1 4 ∧ ∀ j, j < 8 → f2 j < 65536) := ⟨hV2, hd2⟩
      clear hV2 hd2
      go_wp2_with fail
      refine (shiftV4 p _ (by omega)).mono ?_
      rintro e w3 ⟨g3, c3, f3, rfl, hg3, hC3, hV3, hd3, hb3⟩
      have HV3 : Hid (V f3 5 = p * 65536 ^ 4 ∧ ∀ j, j < 5 → f3 j < 65536) := ⟨hV3, hd3⟩
      clear hV3 hd3
      go_wp2_with fail
      refine (above_any f2 f3 8 5 g2 g3 _ _ _ (by decide) (by decide) (hC2.below hb3 hg2) hC3 HV2.out.2 HV3.out.2).mono ?_
      rintro e w4 ⟨rfl, rfl⟩
      have hB3 : Below w.heap.size w w4 := hB.trans ((hb1.mono hB0).trans ((hb2.mono (by have := hb1.size; omega)).trans (hb3.mono (by have := hb1.size; have := hb2.size; omega))))
      have hdec : (V f3 5 < V f2 8) ↔ p * 65536 ^ 4 < mid * mid := by rw [HV3.out.1, HV2.out.1, HV1.out.1]
      by_cases hcmp : p * 65536 ^ 4 < mid * mid
      · have ht : decide (V f3 5 < V f2 8) = true := decide_eq_true (hdec.2 hcmp)
        rw [ht]
        have HC := hide hcmp
        clear hcmp hdec ht
        go_wp2
        go_roundg (mid - lo)
        case measure => have := HX.out; have := HM.out; omega
        case rel =>
          have h3 := HX.out; have h4 := HM.out
          exact ⟨lo, mid, by omega, by omega, by omega, rfl, rfl, h3.2.2.1, unhide HC, hB3⟩
      · have ht : decide (V f3 5 < V f2 8) = false := decide_eq_false (fun h => hcmp (hdec.1 h))
        rw [ht]
        have HC := hide hcmp
        clear hcmp hdec ht
        go_wp2
        go_roundg (hi - mid)
        case measure => have := HX.out; have := HM.out; omega
        case rel =>
          have h3 := HX.out; have h4 := HM.out
          exact ⟨mid, hi, by omega, by omega, by omega, rfl, rfl, Nat.le_of_not_lt (unhide HC), h3.2.2.2, hB3⟩
    · go_wp2
      go_ret
      have h3 := HX.out
      refine ⟨lo, ret_int ?_, h3.2.2.1, ?_, hB⟩
      · omega
      · have : hi = lo + 1 := by omega
        rw [← this]; exact h3.2.2.2
set_option maxHeartbeats 1000000 in
theorem root_cu (p : Nat) (w : World) (hp : p < 1000) :
    Calls Tryd.prog 26 #[.int .i64 p, .bool true] w fun e w' => ∃ x : Nat, e = .returned (.int .i64 ((x % 4294967296 : Nat) : Int)) ∧ x * x * x ≤ p * 65536 ^ 6 ∧ p * 65536 ^ 6 < (x + 1) * (x + 1) * (x + 1) ∧ Below w.heap.size w w' := by
  go_enter Tryd.func26, Tryd.ntmps26
  go_wp2
  go_loopg [5, 6] 1099511627776 (fun q l h wr => ∃ lo hi : Nat, hi = lo + q ∧ 0 < q ∧ hi ≤ 1099511627776 ∧ l = .int .i64 lo ∧ h = .int .i64 hi ∧ lo * lo * lo ≤ p * 65536 ^ 6 ∧ p * 65536 ^ 6 < hi * hi * hi ∧ Below w.heap.size w wr)
  case atStart => exact ⟨0, 1099511627776, rfl, by decide, Nat.le_refl _, rfl, rfl, by omega, by omega, Below.refl _ _⟩
  case round =>
    obtain ⟨lo, hi, hq, hq0, hmx, rfl, rfl, h1, h2, hB⟩ := hrel
    have HX : Hid (hi = lo + gk ∧ hi ≤ 1099511627776 ∧ lo * lo * lo ≤ p * 65536 ^ 6 ∧ p * 65536 ^ 6 < hi * hi * hi) := ⟨hq, hmx, h1, h2⟩
    clear hq hmx h1 h2
    have hB0 := hB.size
    have hw1 : wrap64 ((lo : Int) + 1) = (lo : Int) + 1 := by have := HX.out; exact w64 _ (by omega) (by omega)
    by_cases hlt : (lo : Int) + 1 < hi
    · go_wp2_with fail
      obtain ⟨mid, hmid⟩ : ∃ mid, mid = (lo + hi) / 2 := ⟨_, rfl⟩
      rw [mid_eq lo hi (by omega) HX.out.2.1, ← hmid]
      have HM : Hid (mid = (lo + hi) / 2) := hmid
      have hm40 : mid ≤ 1099511627776 := by have := HX.out; omega
      have HM40 := hide hm40
      clear hmid hm40
      refine (limbsV mid _ (unhide HM40)).mono ?_
      rintro e w1 ⟨g1, c1, f1, rfl, hg1, hC1, hV1, hd1, hb1⟩
      have HV1 : Hid (V f1 4 = mid ∧ ∀ j, j < 4 → f1 j < 65536) := ⟨hV1, hd1⟩
      clear hV1 hd1
      go_wp2_with fail
      refine (times44 f1 f1 g1 g1 _ _ _ hg1 hg1 hC1 hC1 HV1.out.2 HV1.out.2).mono ?_
      rintro e w2 ⟨g2, f2, rfl, hg2, hC2, hV2, hd2, hb2⟩
      have HV2 : Hid (V f2 8 = V f1 4 * V f1 4 ∧ ∀ j, j < 8 → f2 j < 65536) := ⟨hV2, hd2⟩
      clear hV2 hd2
      go_wp2_with fail
      refine (shiftV4 p _ (by omega)).mono ?_
      rintro e w3 ⟨g3, c3, f3, rfl, hg3, hC3, hV3, hd3, hb3⟩
      clear hV3 hd3 hC3 hg3
      have hB3 : Below w.heap.size w w3 := hB.trans ((hb1.mono hB0).trans ((hb2.mono (by have := hb1.size; omega)).trans (hb3.mono (by have := hb1.size; have := hb2.size; omega))))
      have hB3s := hB3.size
      go_wp2_with fail
      refine (times84 f2 f1 g2 g1 _ _ _ (by have := hb3.size; omega) (by have := hb3.size; have := hb2.size; omega) (hC2.below hb3 hg2) ((hC1.below hb2 hg1).below hb3 (by have := hb2.size; omega)) HV2.out.2 HV1.out.2).mono ?_
      rintro e w4 ⟨g4, f4, rfl, hg4, hC4, hV4, hd4, hb4⟩
      have HV4 : Hid (V f4 12 = V f2 8 * V f1 4 ∧ ∀ j, j < 12 → f4 j < 65536) := ⟨hV4, hd4⟩
      clear hV4 hd4
      go_wp2_with fail
      refine (shiftV6 p _ (by omega)).mono ?_
      rintro e w5 ⟨g5, c5, f5, rfl, hg5, hC5, hV5, hd5, hb5⟩
      have HV5 : Hid (V f5 7 = p * 65536 ^ 6 ∧ ∀ j, j < 7 → f5 j < 65536) := ⟨hV5, hd5⟩
      clear hV5 hd5
      go_wp2_with fail
      refine (above_any f4 f5 12 7 g4 g5 _ _ _ (by decide) (by decide) (hC4.below hb5 hg4) hC5 HV4.out.2 HV5.out.2).mono ?_
      rintro e w6 ⟨rfl, rfl⟩
      have hB6 : Below w.heap.size w w6 := hB3.trans ((hb4.mono hB3s).trans (hb5.mono (by have := hb4.size; omega)))
      have hdec : (V f5 7 < V f4 12) ↔ p * 65536 ^ 6 < mid * mid * mid := by rw [HV5.out.1, HV4.out.1, HV2.out.1, HV1.out.1]
      by_cases hcmp : p * 65536 ^ 6 < mid * mid * mid
      · have ht : decide (V f5 7 < V f4 12) = true := decide_eq_true (hdec.2 hcmp)
        rw [ht]
        have HC := hide hcmp
        clear hcmp hdec ht
        go_wp2
        go_roundg (mid - lo)
        case measure => have := HX.out; have := HM.out; omega
        case rel =>
          have h3 := HX.out; have h4 := HM.out
          exact ⟨lo, mid, by omega, by omega, by omega, rfl, rfl, h3.2.2.1, unhide HC, hB6⟩
      · have ht : decide (V f5 7 < V f4 12) = false := decide_eq_false (fun h => hcmp (hdec.1 h))
        rw [ht]
        have HC := hide hcmp
        clear hcmp hdec ht
        go_wp2
        go_roundg (hi - mid)
        case measure => have := HX.out; have := HM.out; omega
        case rel =>
          have h3 := HX.out; have h4 := HM.out
          exact ⟨mid, hi, by omega, by omega, by omega, rfl, rfl, Nat.le_of_not_lt (unhide HC), h3.2.2.2, hB6⟩
    · go_wp2
      go_ret
      have h3 := HX.out
      refine ⟨lo, ret_int ?_, h3.2.2.1, ?_, hB⟩
      · omega
      · have : hi = lo + 1 := by omega
        rw [← this]; exact h3.2.2.2
end Go.Proofs.YtkmkkmdpjliifaaDoor
