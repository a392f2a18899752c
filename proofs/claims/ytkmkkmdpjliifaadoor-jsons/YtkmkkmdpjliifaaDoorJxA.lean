import Derived.Test.YtkmkkmdpjliifaaDoorTxJ
import Derived.Test.YtkmkkmdpjliifaaDoorTxS
namespace Go.Proofs.YtkmkkmdpjliifaaDoor
open Go.ChangeShapes Go.WideShapes Go.ChangeAt Go.RowKit

/-- which of n things a raw number speaks of -/
def pickZ (c : Int) (n : Int) : Int := if c < 0 then -((c + 1).tmod n) else c % n
theorem pick_any (c n : Int) (w : World) (hc : -9223372036854775808 ≤ c ∧ c ≤ 9223372036854775807) (hn : 0 < n ∧ n ≤ 100) :
    Calls Tryd.prog 13 #[.int .i64 c, .int .i64 n] w fun e w' => e = .returned (.int .i64 (pickZ c n)) ∧ Below w.heap.size w w' := by
  go_enter Tryd.func13, Tryd.ntmps13
  go_wp2
  all_goals go_ret
  all_goals refine ⟨?_, by first | exact Below.refl _ _ | exact (Below.refl _ _).drew | exact (Below.refl _ _).drew.drew⟩
  all_goals unfold pickZ
  · rw [if_pos (by assumption)]; rfl
  · rw [if_neg (by omega)]; rfl
theorem pickZ_range (c n : Int) (hn : 0 < n) : 0 ≤ pickZ c n ∧ pickZ c n < n := by
  unfold pickZ
  split
  · rename_i h
    have e : (c + 1).tmod n = -((-(c + 1)) % n) := by
      rw [show c + 1 = -(-(c + 1)) by omega, Int.neg_tmod, Int.tmod_eq_emod_of_nonneg (by omega)]
      simp
    have h1 := Int.emod_nonneg (-(c + 1)) (show n ≠ 0 by omega)
    have h2 := Int.emod_lt_of_pos (-(c + 1)) hn
    omega
  · exact ⟨Int.emod_nonneg _ (by omega), Int.emod_lt_of_pos _ hn⟩

/-- what follows of a code point behind its first byte -/
def ptN (l : List UInt8) (p0 : Nat) : Nat → Nat
  | 0 => p0
  | k + 1 => ptN l p0 k * 64 + by_ l (k + 1) % 64
def goodN (l : List UInt8) : Nat → Bool
  | 0 => true
  | k + 1 => goodN l k && decide (by_ l (k + 1) / 64 = 2)
def tailN (l : List UInt8) (n low p : Nat) : Nat :=
  if l.length < n then 0 else if goodN l (n - 1) = false then 0 else
  if ptN l p (n - 1) < low ∨ 1114111 < ptN l p (n - 1) ∨ (55296 ≤ ptN l p (n - 1) ∧ ptN l p (n - 1) < 57344) then 0 else n
def fN (l : List UInt8) : Nat :=
  if by_ l 0 < 128 then 1 else if 192 ≤ by_ l 0 ∧ by_ l 0 < 224 then tailN l 2 128 (by_ l 0 % 32)
  else if 224 ≤ by_ l 0 ∧ by_ l 0 < 240 then tailN l 3 2048 (by_ l 0 % 16)
  else if 240 ≤ by_ l 0 ∧ by_ l 0 < 248 then tailN l 4 65536 (by_ l 0 % 8) else 0

theorem ix_any (l : List UInt8) (p : Nat) (h : p < l.length) (u : World) : (Instr.index 9 (.string ⟨l.toArray⟩) (.int .i64 (p : Int))).run Tryd.prog u = .ok (.int .u8 (by_ l p)) u := by
  have h3 : p < (ByteArray.mk l.toArray).size := by simpa [ByteArray.size] using h
  have h2 := by_get ⟨l.toArray⟩ p h3
  have h4 : (ByteArray.mk l.toArray)[p]? = some ((ByteArray.mk l.toArray)[p]'h3) := ByteArray.getElem?_lt' _ p h3
  unfold Instr.index
  simp only [asIntOf, Sem.run_bind, Sem.run_pure, run_underlying Tryd.underlying9, Result.andThen_ok]
  rw [if_pos (by omega), Int.toNat_natCast, h4]
  simp [h2]

theorem goodN_bad (l : List UInt8) (k : Nat) (h : ¬ by_ l (k + 1) / 64 = 2) : ∀ n, k < n → goodN l n = false
  | 0, hk => by omega
  | n + 1, hk => by
    rw [goodN]
    by_cases e : k = n
    · subst e
      rw [decide_eq_false h, Bool.and_false]
    · rw [goodN_bad l k h n (by omega), Bool.false_and]

set_option maxRecDepth 20000 in
set_option maxHeartbeats 1000000 in
theorem first_2 (l : List UInt8) (w : World) (h0 : 0 < l.length) (hl : l.length ≤ 9223372036854775807) (h1 : 192 ≤ by_ l 0) (h2 : by_ l 0 < 224) :
    Calls Tryd.prog 73 #[.string ⟨l.toArray⟩] w fun e w' => e = .returned (.int .i64 (tailN l 2 128 (by_ l 0 % 32))) ∧ Below w.heap.size w w' := by
  have HL := hide hl
  clear hl
  have hix : ∀ u, (Instr.index 9 (.string ⟨l.toArray⟩) (.int .i64 0)).run Tryd.prog u = .ok (.int .u8 (by_ l 0)) u := fun u => ix_any l 0 h0 u
  have hw : wrap64 (by_ l 0 : Int) = (by_ l 0 : Int) := w64 _ (by omega) (by omega)
  generalize hc : by_ l 0 = c at *
  have HC := hide hc
  clear hc
  have f1 : ¬ (c : Int) < 128 := by omega
  have f2 : (192 : Int) ≤ c := by omega
  have f3 : (c : Int) < 224 := by omega
  go_enter Tryd.func73, Tryd.ntmps73
  go_wp2
  · have : l.length < 2 := by omega
    go_ret
    refine ⟨?_, Below.refl _ _⟩
    unfold tailN
    rw [if_pos this]; rfl
  · have h2l : 2 ≤ l.length := by omega
    have hnl : ¬ l.length < 2 := by omega
    go_loopg [6, 7] 1 (fun q p i wr => ∃ k : Nat, k + q = 1 ∧ i = .int .i64 ((k : Int) + 1) ∧ p = .int .i64 (ptN l (c % 32) k : Nat) ∧ goodN l k = true ∧ ptN l (c % 32) k < 32 * 64 ^ k ∧ Below w.heap.size w wr)
    case atStart => exact ⟨0, rfl, rfl, rfl, rfl, by unfold ptN; omega, Below.refl _ _⟩
    case round =>
      obtain ⟨k, hk, rfl, rfl, hg, hp, hB⟩ := hrel
      have HG := hide hg
      have HP := hide hp
      clear hg hp
      by_cases hlt : k < 1
      · have hbl := by_lt l (k + 1)
        have hix2 : ∀ u, (Instr.index 9 (.string ⟨l.toArray⟩) (.int .i64 ((k : Int) + 1))).run Tryd.prog u = .ok (.int .u8 (by_ l (k + 1))) u := fun u => ix_any l (k + 1) (by omega) u
        generalize hb : by_ l (k + 1) = b at hbl hix2
        generalize hpt : ptN l (c % 32) k = pt at *
        have HB := hide hb
        have HPT := hide hpt
        clear hb hpt
        have hw2 : wrap64 (b : Int) = (b : Int) := w64 _ (by omega) (by omega)
        go_wp2
        · rename_i hne
          go_ret
          refine ⟨?_, hB⟩
          have hbad : ¬ by_ l (k + 1) / 64 = 2 := by
            rw [unhide HB]
            simp only [bne_iff_ne, ne_eq] at hne
            omega
          unfold tailN
          rw [if_neg hnl, if_pos (goodN_bad l k hbad 1 hlt)]; rfl
        · rename_i hne
          have hok : b / 64 = 2 := by
            simp only [bne_eq_false_iff_eq] at hne
            omega
          go_roundg (gk - 1)
          case measure => omega
          case rel =>
            have hpt2 : pt < 524288 := by
              have h := unhide HP
              rcases (show k = 0 by omega) with rfl <;> simp at h <;> omega
            have e : ptN l (c % 32) (k + 1) = pt * 64 + b % 64 := by rw [ptN, unhide HPT, unhide HB]
            refine ⟨k + 1, by omega, congrArg (Value.int .i64) ?_, congrArg (Value.int .i64) ?_, ?_, ?_, hB⟩
            · first | omega | (rw [w64 _ (by omega) (by omega)]; omega) | (push_cast; omega)
            · rw [e, w64 ((pt : Int) * 64) (by omega) (by omega), w64 _ (by omega) (by omega)]
              omega
            · rw [goodN, unhide HG, unhide HB, hok]; rfl
            · rw [e, Nat.pow_succ]
              have h := unhide HP
              have h64 : b % 64 < 64 := Nat.mod_lt _ (by omega)
              calc pt * 64 + b % 64 < (pt + 1) * 64 := by omega
                _ ≤ (32 * 64 ^ k) * 64 := Nat.mul_le_mul_right _ h
                _ = 32 * (64 ^ k * 64) := by rw [Nat.mul_assoc]
      · have hkk : k = 1 := by omega
        have hfin : ∀ r : Nat, (if ptN l (c % 32) k < 128 ∨ 1114111 < ptN l (c % 32) k ∨ (55296 ≤ ptN l (c % 32) k ∧ ptN l (c % 32) k < 57344) then 0 else 2) = r → tailN l 2 128 (c % 32) = r := by
          intro r hr
          unfold tailN
          rw [if_neg hnl, if_neg (by rw [show 2 - 1 = k by omega, unhide HG]; decide), show 2 - 1 = k by omega]
          exact hr
        have HFIN := hide hfin
        clear hfin
        generalize hpt : ptN l (c % 32) k = pt at *
        go_wp2
        all_goals go_ret
        all_goals refine ⟨?_, hB⟩
        all_goals rw [unhide HFIN _ rfl]
        all_goals first
          | (rw [if_pos (by omega)]; rfl)
          | (rw [if_neg (by omega)]; rfl)

set_option maxRecDepth 20000 in
set_option maxHeartbeats 1000000 in
theorem first_3 (l : List UInt8) (w : World) (h0 : 0 < l.length) (hl : l.length ≤ 9223372036854775807) (h1 : 224 ≤ by_ l 0) (h2 : by_ l 0 < 240) :
    Calls Tryd.prog 73 #[.string ⟨l.toArray⟩] w fun e w' => e = .returned (.int .i64 (tailN l 3 2048 (by_ l 0 % 16))) ∧ Below w.heap.size w w' := by
  have HL := hide hl
  clear hl
  have hix : ∀ u, (Instr.index 9 (.string ⟨l.toArray⟩) (.int .i64 0)).run Tryd.prog u = .ok (.int .u8 (by_ l 0)) u := fun u => ix_any l 0 h0 u
  have hw : wrap64 (by_ l 0 : Int) = (by_ l 0 : Int) := w64 _ (by omega) (by omega)
  generalize hc : by_ l 0 = c at *
  have HC := hide hc
  clear hc
  have f1 : ¬ (c : Int) < 128 := by omega
  have f2 : (192 : Int) ≤ c := by omega
  have f3 : ¬ (c : Int) < 224 := by omega
  have f4 : (224 : Int) ≤ c := by omega
  have f5 : (c : Int) < 240 := by omega
  go_enter Tryd.func73, Tryd.ntmps73
  go_wp2
  · have : l.length < 3 := by omega
    go_ret
    refine ⟨?_, Below.refl _ _⟩
    unfold tailN
    rw [if_pos this]; rfl
  · have h2l : 3 ≤ l.length := by omega
    have hnl : ¬ l.length < 3 := by omega
    go_loopg [6, 7] 2 (fun q p i wr => ∃ k : Nat, k + q = 2 ∧ i = .int .i64 ((k : Int) + 1) ∧ p = .int .i64 (ptN l (c % 16) k : Nat) ∧ goodN l k = true ∧ ptN l (c % 16) k < 16 * 64 ^ k ∧ Below w.heap.size w wr)
    case atStart => exact ⟨0, rfl, rfl, rfl, rfl, by unfold ptN; omega, Below.refl _ _⟩
    case round =>
      obtain ⟨k, hk, rfl, rfl, hg, hp, hB⟩ := hrel
      have HG := hide hg
      have HP := hide hp
      clear hg hp
      by_cases hlt : k < 2
      · have hbl := by_lt l (k + 1)
        have hix2 : ∀ u, (Instr.index 9 (.string ⟨l.toArray⟩) (.int .i64 ((k : Int) + 1))).run Tryd.prog u = .ok (.int .u8 (by_ l (k + 1))) u := fun u => ix_any l (k + 1) (by omega) u
        generalize hb : by_ l (k + 1) = b at hbl hix2
        generalize hpt : ptN l (c % 16) k = pt at *
        have HB := hide hb
        have HPT := hide hpt
        clear hb hpt
        have hw2 : wrap64 (b : Int) = (b : Int) := w64 _ (by omega) (by omega)
        go_wp2
        · rename_i hne
          go_ret
          refine ⟨?_, hB⟩
          have hbad : ¬ by_ l (k + 1) / 64 = 2 := by
            rw [unhide HB]
            simp only [bne_iff_ne, ne_eq] at hne
            omega
          unfold tailN
          rw [if_neg hnl, if_pos (goodN_bad l k hbad 2 hlt)]; rfl
        · rename_i hne
          have hok : b / 64 = 2 := by
            simp only [bne_eq_false_iff_eq] at hne
            omega
          go_roundg (gk - 1)
          case measure => omega
          case rel =>
            have hpt2 : pt < 524288 := by
              have h := unhide HP
              rcases (show k = 0 ∨ k = 1 by omega) with rfl | rfl <;> simp at h <;> omega
            have e : ptN l (c % 16) (k + 1) = pt * 64 + b % 64 := by rw [ptN, unhide HPT, unhide HB]
            refine ⟨k + 1, by omega, congrArg (Value.int .i64) ?_, congrArg (Value.int .i64) ?_, ?_, ?_, hB⟩
            · first | omega | (rw [w64 _ (by omega) (by omega)]; omega) | (push_cast; omega)
            · rw [e, w64 ((pt : Int) * 64) (by omega) (by omega), w64 _ (by omega) (by omega)]
              omega
            · rw [goodN, unhide HG, unhide HB, hok]; rfl
            · rw [e, Nat.pow_succ]
              have h := unhide HP
              have h64 : b % 64 < 64 := Nat.mod_lt _ (by omega)
              calc pt * 64 + b % 64 < (pt + 1) * 64 := by omega
                _ ≤ (16 * 64 ^ k) * 64 := Nat.mul_le_mul_right _ h
                _ = 16 * (64 ^ k * 64) := by rw [Nat.mul_assoc]
      · have hkk : k = 2 := by omega
        have hfin : ∀ r : Nat, (if ptN l (c % 16) k < 2048 ∨ 1114111 < ptN l (c % 16) k ∨ (55296 ≤ ptN l (c % 16) k ∧ ptN l (c % 16) k < 57344) then 0 else 3) = r → tailN l 3 2048 (c % 16) = r := by
          intro r hr
          unfold tailN
          rw [if_neg hnl, if_neg (by rw [show 3 - 1 = k by omega, unhide HG]; decide), show 3 - 1 = k by omega]
          exact hr
        have HFIN := hide hfin
        clear hfin
        generalize hpt : ptN l (c % 16) k = pt at *
        go_wp2
        all_goals go_ret
        all_goals refine ⟨?_, hB⟩
        all_goals rw [unhide HFIN _ rfl]
        all_goals first
          | (rw [if_pos (by omega)]; rfl)
          | (rw [if_neg (by omega)]; rfl)

set_option maxRecDepth 20000 in
set_option maxHeartbeats 1000000 in
theorem first_4 (l : List UInt8) (w : World) (h0 : 0 < l.length) (hl : l.length ≤ 9223372036854775807) (h1 : 240 ≤ by_ l 0) (h2 : by_ l 0 < 248) :
    Calls Tryd.prog 73 #[.string ⟨l.toArray⟩] w fun e w' => e = .returned (.int .i64 (tailN l 4 65536 (by_ l 0 % 8))) ∧ Below w.heap.size w w' := by
  have HL := hide hl
  clear hl
  have hix : ∀ u, (Instr.index 9 (.string ⟨l.toArray⟩) (.int .i64 0)).run Tryd.prog u = .ok (.int .u8 (by_ l 0)) u := fun u => ix_any l 0 h0 u
  have hw : wrap64 (by_ l 0 : Int) = (by_ l 0 : Int) := w64 _ (by omega) (by omega)
  generalize hc : by_ l 0 = c at *
  have HC := hide hc
  clear hc
  have f1 : ¬ (c : Int) < 128 := by omega
  have f2 : (192 : Int) ≤ c := by omega
  have f3 : ¬ (c : Int) < 224 := by omega
  have f4 : (224 : Int) ≤ c := by omega
  have f5 : ¬ (c : Int) < 240 := by omega
  have f6 : (240 : Int) ≤ c := by omega
  have f7 : (c : Int) < 248 := by omega
  go_enter Tryd.func73, Tryd.ntmps73
  go_wp2
  · have : l.length < 4 := by omega
    go_ret
    refine ⟨?_, Below.refl _ _⟩
    unfold tailN
    rw [if_pos this]; rfl
  · have h2l : 4 ≤ l.length := by omega
    have hnl : ¬ l.length < 4 := by omega
    go_loopg [6, 7] 3 (fun q p i wr => ∃ k : Nat, k + q = 3 ∧ i = .int .i64 ((k : Int) + 1) ∧ p = .int .i64 (ptN l (c % 8) k : Nat) ∧ goodN l k = true ∧ ptN l (c % 8) k < 8 * 64 ^ k ∧ Below w.heap.size w wr)
    case atStart => exact ⟨0, rfl, rfl, rfl, rfl, by unfold ptN; omega, Below.refl _ _⟩
    case round =>
      obtain ⟨k, hk, rfl, rfl, hg, hp, hB⟩ := hrel
      have HG := hide hg
      have HP := hide hp
      clear hg hp
      by_cases hlt : k < 3
      · have hbl := by_lt l (k + 1)
        have hix2 : ∀ u, (Instr.index 9 (.string ⟨l.toArray⟩) (.int .i64 ((k : Int) + 1))).run Tryd.prog u = .ok (.int .u8 (by_ l (k + 1))) u := fun u => ix_any l (k + 1) (by omega) u
        generalize hb : by_ l (k + 1) = b at hbl hix2
        generalize hpt : ptN l (c % 8) k = pt at *
        have HB := hide hb
        have HPT := hide hpt
        clear hb hpt
        have hw2 : wrap64 (b : Int) = (b : Int) := w64 _ (by omega) (by omega)
        go_wp2
        · rename_i hne
          go_ret
          refine ⟨?_, hB⟩
          have hbad : ¬ by_ l (k + 1) / 64 = 2 := by
            rw [unhide HB]
            simp only [bne_iff_ne, ne_eq] at hne
            omega
          unfold tailN
          rw [if_neg hnl, if_pos (goodN_bad l k hbad 3 hlt)]; rfl
        · rename_i hne
          have hok : b / 64 = 2 := by
            simp only [bne_eq_false_iff_eq] at hne
            omega
          go_roundg (gk - 1)
          case measure => omega
          case rel =>
            have hpt2 : pt < 524288 := by
              have h := unhide HP
              rcases (show k = 0 ∨ k = 1 ∨ k = 2 by omega) with rfl | rfl | rfl <;> simp at h <;> omega
            have e : ptN l (c % 8) (k + 1) = pt * 64 + b % 64 := by rw [ptN, unhide HPT, unhide HB]
            refine ⟨k + 1, by omega, congrArg (Value.int .i64) ?_, congrArg (Value.int .i64) ?_, ?_, ?_, hB⟩
            · first | omega | (rw [w64 _ (by omega) (by omega)]; omega) | (push_cast; omega)
            · rw [e, w64 ((pt : Int) * 64) (by omega) (by omega), w64 _ (by omega) (by omega)]
              omega
            · rw [goodN, unhide HG, unhide HB, hok]; rfl
            · rw [e, Nat.pow_succ]
              have h := unhide HP
              have h64 : b % 64 < 64 := Nat.mod_lt _ (by omega)
              calc pt * 64 + b % 64 < (pt + 1) * 64 := by omega
                _ ≤ (8 * 64 ^ k) * 64 := Nat.mul_le_mul_right _ h
                _ = 8 * (64 ^ k * 64) := by rw [Nat.mul_assoc]
      · have hkk : k = 3 := by omega
        have hfin : ∀ r : Nat, (if ptN l (c % 8) k < 65536 ∨ 1114111 < ptN l (c % 8) k ∨ (55296 ≤ ptN l (c % 8) k ∧ ptN l (c % 8) k < 57344) then 0 else 4) = r → tailN l 4 65536 (c % 8) = r := by
          intro r hr
          unfold tailN
          rw [if_neg hnl, if_neg (by rw [show 4 - 1 = k by omega, unhide HG]; decide), show 4 - 1 = k by omega]
          exact hr
        have HFIN := hide hfin
        clear hfin
        generalize hpt : ptN l (c % 8) k = pt at *
        go_wp2
        all_goals go_ret
        all_goals refine ⟨?_, hB⟩
        all_goals rw [unhide HFIN _ rfl]
        all_goals first
          | (rw [if_pos (by omega)]; rfl)
          | (rw [if_neg (by omega)]; rfl)

set_option maxRecDepth 20000 in
set_option maxHeartbeats 1000000 in
theorem first_1 (l : List UInt8) (w : World) (h0 : 0 < l.length) (h1 : by_ l 0 < 128) :
    Calls Tryd.prog 73 #[.string ⟨l.toArray⟩] w fun e w' => e = .returned (.int .i64 1) ∧ Below w.heap.size w w' := by
  have hix : ∀ u, (Instr.index 9 (.string ⟨l.toArray⟩) (.int .i64 0)).run Tryd.prog u = .ok (.int .u8 (by_ l 0)) u := fun u => ix_any l 0 h0 u
  have hw : wrap64 (by_ l 0 : Int) = (by_ l 0 : Int) := w64 _ (by omega) (by omega)
  have f1 : (by_ l 0 : Int) < 128 := by omega
  go_enter Tryd.func73, Tryd.ntmps73
  go_wp2
  go_ret
  exact ⟨rfl, Below.refl _ _⟩
set_option maxRecDepth 20000 in
set_option maxHeartbeats 1000000 in
theorem first_0 (l : List UInt8) (w : World) (h0 : 0 < l.length) (h1 : 128 ≤ by_ l 0 ∧ by_ l 0 < 192 ∨ 248 ≤ by_ l 0) :
    Calls Tryd.prog 73 #[.string ⟨l.toArray⟩] w fun e w' => e = .returned (.int .i64 0) ∧ Below w.heap.size w w' := by
  have hix : ∀ u, (Instr.index 9 (.string ⟨l.toArray⟩) (.int .i64 0)).run Tryd.prog u = .ok (.int .u8 (by_ l 0)) u := fun u => ix_any l 0 h0 u
  have hw : wrap64 (by_ l 0 : Int) = (by_ l 0 : Int) := w64 _ (by have := by_lt l 0; omega) (by have := by_lt l 0; omega)
  have f1 : ¬ (by_ l 0 : Int) < 128 := by omega
  rcases h1 with h1 | h1
  · have f2 : ¬ (192 : Int) ≤ by_ l 0 := by omega
    have f3 : ¬ (224 : Int) ≤ by_ l 0 := by omega
    have f4 : ¬ (240 : Int) ≤ by_ l 0 := by omega
    go_enter Tryd.func73, Tryd.ntmps73
    go_wp2
    go_ret
    exact ⟨rfl, Below.refl _ _⟩
  · have f2 : (192 : Int) ≤ by_ l 0 := by omega
    have f3 : (224 : Int) ≤ by_ l 0 := by omega
    have f4 : (240 : Int) ≤ by_ l 0 := by omega
    have g2 : ¬ (by_ l 0 : Int) < 224 := by omega
    have g3 : ¬ (by_ l 0 : Int) < 240 := by omega
    have g4 : ¬ (by_ l 0 : Int) < 248 := by omega
    go_enter Tryd.func73, Tryd.ntmps73
    go_wp2
    go_ret
    exact ⟨rfl, Below.refl _ _⟩

/-- the reference's first: how many bytes the first code point has; 0: none -/
theorem first_any (l : List UInt8) (w : World) (h0 : 0 < l.length) (hl : l.length ≤ 9223372036854775807) :
    Calls Tryd.prog 73 #[.string ⟨l.toArray⟩] w fun e w' => e = .returned (.int .i64 (fN l)) ∧ Below w.heap.size w w' := by
  unfold fN
  by_cases c1 : by_ l 0 < 128
  · rw [if_pos c1]; exact first_1 l w h0 c1
  rw [if_neg c1]
  by_cases c2 : 192 ≤ by_ l 0 ∧ by_ l 0 < 224
  · rw [if_pos c2]; exact first_2 l w h0 hl c2.1 c2.2
  rw [if_neg c2]
  by_cases c3 : 224 ≤ by_ l 0 ∧ by_ l 0 < 240
  · rw [if_pos c3]; exact first_3 l w h0 hl c3.1 c3.2
  rw [if_neg c3]
  by_cases c4 : 240 ≤ by_ l 0 ∧ by_ l 0 < 248
  · rw [if_pos c4]; exact first_4 l w h0 hl c4.1 c4.2
  rw [if_neg c4]
  exact first_0 l w h0 (by omega)
end Go.Proofs.YtkmkkmdpjliifaaDoor
