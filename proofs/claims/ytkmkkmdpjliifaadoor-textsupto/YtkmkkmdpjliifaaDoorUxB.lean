import Derived.Test.YtkmkkmdpjliifaaDoorUxA
import Derived.Test.YtkmkkmdpjliifaaDoorUxM
namespace Go.Proofs.YtkmkkmdpjliifaaDoor
open Go.ChangeShapes Go.WideShapes Go.ChangeAt Go.RowKit

/-- the first t bits -/
def bL (l : List UInt8) (t : Nat) : List Nat := (List.range t).map (bx l)
theorem bL_length (l : List UInt8) (t : Nat) : (bL l t).length = t := by simp [bL]
theorem bL_succ (l : List UInt8) (t : Nat) : bL l t ++ [bx l t] = bL l (t + 1) := by simp [bL, List.range_succ]
theorem bL_getD (l : List UInt8) (t j : Nat) (h : j < t) : (bL l t).getD j 0 = bx l j := by
  unfold bL; rw [List.getD_eq_getElem?_getD, List.getElem?_map, List.getElem?_range h]; rfl

theorem cell_new (w : World) (x : Value) (t : TypeId) : (w.alloc (.cells #[x] t)).cell? ⟨w.heap.size, 0, none⟩ = some x := by simp
theorem bit_val (b d j : Nat) (hb : b < 256) (hd : 128 / 2 ^ j = d) (hj : j < 8) : (wrap64 ((b : Int).tdiv (d : Int))).tmod 2 = ((b / 2 ^ (7 - j) % 2 : Nat) : Int) := by
  have e : d = 2 ^ (7 - j) := by
    rw [← hd]
    rcases (show j = 0 ∨ j = 1 ∨ j = 2 ∨ j = 3 ∨ j = 4 ∨ j = 5 ∨ j = 6 ∨ j = 7 by omega) with rfl | rfl | rfl | rfl | rfl | rfl | rfl | rfl <;> decide
  have h1 : (b : Int).tdiv (d : Int) = ((b / d : Nat) : Int) := by
    rw [Int.tdiv_eq_ediv_of_nonneg (Int.natCast_nonneg _)]; exact (Int.natCast_ediv b d).symm
  have h2 : b / d ≤ b := Nat.div_le_self _ _
  rw [h1, ← e]
  generalize b / d = y at h2
  rw [w64 _ (by omega) (by omega), Int.tmod_eq_emod_of_nonneg (Int.natCast_nonneg _)]
  omega

set_option maxHeartbeats 1000000 in
theorem bits_any (l : List UInt8) (w : World) (hl : l.length ≤ 1048576) :
    Calls Tryd.prog 31 #[.string ⟨l.toArray⟩] w fun e w' => ∃ ao cap, e = .returned (.slice ao (8 * l.length) cap) ∧ OwnN w' w.heap.size (.slice ao (8 * l.length) cap) (bL l (8 * l.length)) ∧ Below w.heap.size w w' := by
  have HL := hide hl
  clear hl
  go_enter Tryd.func31, Tryd.ntmps31
  go_wp2
  go_loopg [3, 4] l.length (fun q v i wr => ∃ (k : Nat), k + q = l.length ∧ i = .int .i64 k ∧ OwnN wr w.heap.size v (bL l (8 * k)) ∧ Below w.heap.size w wr)
  case atStart => exact ⟨0, by omega, rfl, Own.nil _ _, Below.refl _ _⟩
  case round =>
    obtain ⟨k, hk, rfl, hO, hB⟩ := hrel
    by_cases hlt : k < l.length
    · have hlk : k < (ByteArray.mk l.toArray).size := by simpa [ByteArray.size] using hlt
      have hbl := by_lt l k
      go_wp2
      rw [by_get ⟨l.toArray⟩ k hlk, show (ByteArray.mk l.toArray).data.toList = l from rfl, w64 (by_ l k : Int) (by omega) (by omega)]
      generalize hbb : by_ l k = b at hbl ⊢
      have HBB := hide hbb
      clear hbb
      go_loopg [3, 6] 8 (fun q v i wq => ∃ (j : Nat), j + q = 8 ∧ i = .int .i64 ((128 / 2 ^ j : Nat) : Int) ∧ OwnN wq w.heap.size v (bL l (8 * k + j)) ∧ Below w.heap.size w wq)
      case atStart => exact ⟨0, rfl, rfl, hO, hB⟩
      case round =>
        clear hO hB
        obtain ⟨j, hj, rfl, hO, hB⟩ := hrel
        have hsz := hB.size
        by_cases hlj : j < 8
        · have hpos : 0 < 128 / 2 ^ j := by
            rcases (show j = 0 ∨ j = 1 ∨ j = 2 ∨ j = 3 ∨ j = 4 ∨ j = 5 ∨ j = 6 ∨ j = 7 by omega) with rfl | rfl | rfl | rfl | rfl | rfl | rfl | rfl <;> decide
          have hnext : 128 / 2 ^ (j + 1) = 128 / 2 ^ j / 2 := by rw [Nat.pow_succ, Nat.div_div_eq_div_mul]
          generalize hd : 128 / 2 ^ j = d at hpos hnext ⊢
          have HD := hide hd
          have HNX := hide hnext
          clear hd hnext
          go_wp2_with (at_builtin; refine app22 rfl _ _ rfl w.heap.size _ _ _ rfl (hO.alloc _) _ rfl (cell_new _ _ _) (by rw [List.length_map, bL_length]; have := unhide HL; omega) (by simp; omega) ?_; intro v' w1 hO1 hg1)
          go_roundg (gk - 1)
          case measure => omega
          case rel =>
            have h128 : 128 / 2 ^ j ≤ 128 := Nat.div_le_self _ _
            rw [unhide HD] at h128
            refine ⟨j + 1, by omega, congrArg (Value.int .i64) ?_, ?_, ?_⟩
            · rw [unhide HNX]
              first
                | omega
                | (rw [w64 _ (by omega) (by omega)]; omega)
            · have e : bx l (8 * k + j) = b / 2 ^ (7 - j) % 2 := by
                unfold bx
                rw [if_pos (by omega), show (8 * k + j) / 8 = k by omega, show (8 * k + j) % 8 = j by omega, unhide HBB]
              rw [← Nat.add_assoc, ← bL_succ, e]
              refine OwnN.snoc ?_
              rw [← bit_val b d j hbl (unhide HD) hlj]
              exact hO1
            · exact below_grown (hB.alloc hsz _) hg1 (by simp; omega) (fun k hk => by have := Own.lt hO k hk; simp; omega) (Nat.le_refl _)
        · obtain rfl : j = 8 := by omega
          go_wp2
          go_roundg (l.length - (k + 1))
          case measure => omega
          case rel =>
            have h9 := unhide HL
            exact ⟨k + 1, by omega, congrArg (Value.int .i64) (by first | omega | (rw [w64 _ (by omega) (by omega)]; omega)), by rw [show 8 * (k + 1) = 8 * k + 8 by omega]; exact hO, hB⟩
    · obtain rfl : k = l.length := by omega
      go_wp2
      go_ret
      obtain ⟨ao, cap, e⟩ := hO.form
      rw [bL_length] at e
      subst e
      exact ⟨ao, cap, rfl, hO, hB⟩
end Go.Proofs.YtkmkkmdpjliifaaDoor
