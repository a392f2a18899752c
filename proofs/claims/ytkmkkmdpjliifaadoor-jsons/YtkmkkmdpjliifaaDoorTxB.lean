import Derived.Test.YtkmkkmdpjliifaaDoorTxA
import Derived.Test.YtkmkkmdpjliifaaDoorTxS
namespace Go.Proofs.YtkmkkmdpjliifaaDoor
open Go.ChangeShapes Go.WideShapes Go.ChangeAt Go.RowKit

theorem mixed_any (x : BitVec 32) (a b c : Nat) (w : World) (a0 : 0 < a) (a1 : a < 32) (b0 : 0 < b) (b1 : b < 32) (c0 : 0 < c) (c1 : c < 32) :
    Calls Tryd.prog 84 #[.int .i64 (wi x), .int .i64 a, .int .i64 b, .int .i64 c] w fun e w' => e = .returned (.int .i64 (wi (sg x a b c))) ∧ ∃ n, w' = w.drewN n := by
  have hx := wi_nn x
  have hx' := wi_lt x
  go_enter Tryd.func84, Tryd.ntmps84
  go_wp2_with (go_at_call 102; refine (right_any _ _ _ (by assumption) (by assumption)).mono ?_; rintro e w' ⟨rfl, nq, rfl⟩)
  go_ret
  refine ⟨ret_int ?_, _, rfl⟩
  rw [xor64, ← wi_shr, xor64]; rfl
theorem turns_any (x : BitVec 32) (a b c : Nat) (w : World) (a0 : 0 < a) (a1 : a < 32) (b0 : 0 < b) (b1 : b < 32) (c0 : 0 < c) (c1 : c < 32) :
    Calls Tryd.prog 85 #[.int .i64 (wi x), .int .i64 a, .int .i64 b, .int .i64 c] w fun e w' => e = .returned (.int .i64 (wi (sg3 x a b c))) ∧ ∃ n, w' = w.drewN n := by
  go_enter Tryd.func85, Tryd.ntmps85
  go_wp2_with (go_at_call 102; refine (right_any _ _ _ (by assumption) (by assumption)).mono ?_; rintro e w' ⟨rfl, nq, rfl⟩)
  go_ret
  refine ⟨ret_int ?_, _, rfl⟩
  rw [xor64, xor64]; rfl

theorem mixed7 (x : BitVec 32) (w : World) :
    Calls Tryd.prog 84 #[.int .i64 (wi x), .int .i64 7, .int .i64 18, .int .i64 3] w fun e w' => e = .returned (.int .i64 (wi (sg x 7 18 3))) ∧ ∃ n, w' = w.drewN n :=
  mixed_any x 7 18 3 w (by decide) (by decide) (by decide) (by decide) (by decide) (by decide)
theorem mixed17 (x : BitVec 32) (w : World) :
    Calls Tryd.prog 84 #[.int .i64 (wi x), .int .i64 17, .int .i64 19, .int .i64 10] w fun e w' => e = .returned (.int .i64 (wi (sg x 17 19 10))) ∧ ∃ n, w' = w.drewN n :=
  mixed_any x 17 19 10 w (by decide) (by decide) (by decide) (by decide) (by decide) (by decide)
theorem turns6 (x : BitVec 32) (w : World) :
    Calls Tryd.prog 85 #[.int .i64 (wi x), .int .i64 6, .int .i64 11, .int .i64 25] w fun e w' => e = .returned (.int .i64 (wi (sg3 x 6 11 25))) ∧ ∃ n, w' = w.drewN n :=
  turns_any x 6 11 25 w (by decide) (by decide) (by decide) (by decide) (by decide) (by decide)
theorem turns2 (x : BitVec 32) (w : World) :
    Calls Tryd.prog 85 #[.int .i64 (wi x), .int .i64 2, .int .i64 13, .int .i64 22] w fun e w' => e = .returned (.int .i64 (wi (sg3 x 2 13 22))) ∧ ∃ n, w' = w.drewN n :=
  turns_any x 2 13 22 w (by decide) (by decide) (by decide) (by decide) (by decide) (by decide)
theorem shift7 (x : BitVec 32) (w : World) :
    Calls Tryd.prog 118 #[.int .u32 (wi x), .int .i64 7, .int .i64 18, .int .i64 3] w fun e w' => e = .returned (.int .u32 (wi (sg x 7 18 3))) ∧ ∃ n, w' = w.drewN n :=
  turnAndShift_any x 7 18 3 w (by decide) (by decide) (by decide) (by decide) (by decide) (by decide)
theorem shift17 (x : BitVec 32) (w : World) :
    Calls Tryd.prog 118 #[.int .u32 (wi x), .int .i64 17, .int .i64 19, .int .i64 10] w fun e w' => e = .returned (.int .u32 (wi (sg x 17 19 10))) ∧ ∃ n, w' = w.drewN n :=
  turnAndShift_any x 17 19 10 w (by decide) (by decide) (by decide) (by decide) (by decide) (by decide)
theorem thrice6 (x : BitVec 32) (w : World) :
    Calls Tryd.prog 101 #[.int .u32 (wi x), .int .i64 6, .int .i64 11, .int .i64 25] w fun e w' => e = .returned (.int .u32 (wi (sg3 x 6 11 25))) ∧ w' = w :=
  turnThrice_any x 6 11 25 w (by decide) (by decide) (by decide) (by decide) (by decide) (by decide)
theorem thrice2 (x : BitVec 32) (w : World) :
    Calls Tryd.prog 101 #[.int .u32 (wi x), .int .i64 2, .int .i64 13, .int .i64 22] w fun e w' => e = .returned (.int .u32 (wi (sg3 x 2 13 22))) ∧ w' = w :=
  turnThrice_any x 2 13 22 w (by decide) (by decide) (by decide) (by decide) (by decide) (by decide)

set_option maxHeartbeats 400000 in
theorem N_any (s : ByteArray) (a : Int) (w : World) (h0 : 0 ≤ a) (h1 : a + 4 ≤ s.size) (hs : s.size ≤ 4194304) :
    Calls Tryd.prog 83 #[.string s, .int .i64 a, .int .i64 4] w fun e w' => e = .returned (.int .i64 (wi (wordAt s.data.toList a.toNat))) ∧ w' = w := by
  obtain ⟨p, rfl⟩ := Int.eq_ofNat_of_zero_le h0
  rw [Int.toNat_natCast]
  go_enter Tryd.func83, Tryd.ntmps83
  go_wp2
  go_loop [7, 8] (fun v i => ∃ k : Nat, k ≤ 4 ∧ i = .int .i64 k ∧ v = .int .i64 (num s.data.toList p k)) (fun _ i => 4 - (intOf i).toNat)
  case atStart => exact ⟨0, by omega, rfl, rfl⟩
  case round =>
    obtain ⟨k, hk, rfl, rfl⟩ := hrel
    by_cases hlt : k < 4
    · have hn := num_lt s.data.toList p k
      have hn' : (256:Nat) ^ k ≤ 16777216 := Nat.le_trans (Nat.pow_le_pow_right (n := 256) (j := 3) (by decide) (by omega)) (by decide)
      have hn2 : num s.data.toList p k < 16777216 := by generalize 256 ^ k = y at hn hn'; omega
      have HN : Hid (num s.data.toList p k < 16777216) := hn2
      clear hn hn' hn2
      go_wp2
      go_round
      case rel =>
        refine ⟨k + 1, by omega, by go_num, ?_⟩
        have hn2 := HN.out
        have hpk : p + k < s.size := by omega
        have hb : (s[p + k]'hpk).toNat = by_ s.data.toList (p + k) := by_get s (p + k) hpk
        have hbl := by_lt s.data.toList (p + k)
        rw [hb, w64 (256 * (num s.data.toList p k : Int)) (by omega) (by omega), w64 (by_ s.data.toList (p + k) : Int) (by omega) (by omega), w64 _ (by omega) (by omega)]
        exact congrArg (Value.int .i64) (by rw [num]; omega)
      case measure => simp [intOf]; omega
    · go_wp2
      go_ret
      obtain rfl : k = 4 := by omega
      exact ⟨ret_int (wi_wordAt _ _).symm, rfl⟩

set_option maxHeartbeats 400000 in
theorem U_any (x : BitVec 32) (w : World) :
    Calls Tryd.prog 62 #[.int .i64 (wi x), .int .i64 4] w fun e w' => e = .returned (.string ⟨(b4s x).toArray⟩) ∧ Below w.heap.size w w' := by
  have hx := wi_nn x
  have hmk : ∀ u : World, (Instr.makeSlice 33 (.int .i64 4) (.int .i64 4)).run Tryd.prog u = .ok (.slice (some ⟨u.heap.size, 0, none⟩) 4 4) (u.alloc (.cells (zc .u8 4) 5)) := make8 4 4 (by decide) (by decide) (by decide)
  go_enter Tryd.func62, Tryd.ntmps62
  go_wp2
  go_loopw [6] (fun i wr => ∃ k : Nat, k ≤ 4 ∧ i = .int .i64 k ∧ Row wr w.heap.size 5 4 (fun j => .int .u8 (if j < k then (b4 x j : Int) else 0)) ∧ Below w.heap.size w wr) (fun i _ => 4 - (intOf i).toNat)
  case atStart => exact ⟨0, by omega, rfl, (Row.zc w .u8 4 5).congr (fun j hj => by simp), (Below.refl _ _).alloc (Nat.le_refl _) _⟩
  case round =>
    obtain ⟨k, hk, rfl, hR, hB⟩ := hrel
    have hfz := hR.frozen k
    by_cases hlt : k < 4
    · have hc := hR.cell hlt
      go_wp2
      go_roundw
      case rel =>
        refine ⟨k + 1, by omega, by go_num, (hR.set k _).congr (fun j hj => ?_), hB.setCell (Nat.le_refl _) _⟩
        have e : wi x / 2 ^ (8 * (3 - k)) % 256 = (b4 x k : Int) := by
          unfold b4 wi
          rw [show (2:Int) ^ (8 * (3 - k)) = ((256 ^ (3 - k) : Nat) : Int) by rw [Int.natCast_pow, Int.pow_mul]; rfl]
          omega
        by_cases e1 : j = k
        · subst e1; simp [e]
        · have e2 : (j < k + 1) ↔ j < k := by omega
          simp [e1, e2]
      case measure => simp [intOf]; omega
    · obtain rfl : k = 4 := by omega
      have hcv := conv8 (w := wr) w.heap.size 0 4 4 (b4 x) (fun i hi => by rw [Nat.zero_add, hR.cell hi]; simp [hi])
      go_wp2
      go_ret
      exact ⟨rfl, hB⟩
end Go.Proofs.YtkmkkmdpjliifaaDoor
