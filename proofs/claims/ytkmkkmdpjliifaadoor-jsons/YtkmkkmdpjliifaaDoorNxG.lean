import Derived.Test.YtkmkkmdpjliifaaDoorNxF
namespace Go.Proofs.YtkmkkmdpjliifaaDoor
open Go.ChangeShapes Go.WideShapes Go.ChangeAt Go.RowKit

theorem isDigit_any (c : Nat) (w : World) : Calls Tryd.prog 113 #[.int .u8 (c : Int)] w fun e w' => e = .returned (.bool (decide (48 ≤ c) && decide (c ≤ 57))) ∧ w' = w := by
  go_enter Tryd.func113, Tryd.ntmps113
  go_wp2
  all_goals go_ret
  all_goals refine ⟨congrArg (fun b => Ending.returned (Value.bool b)) ?_, rfl⟩
  · rename_i h
    rw [decide_eq_true (p := 48 ≤ c) (by omega), Bool.true_and]
    first | (rw [decide_eq_decide]; omega) | (simp; omega) | simp
  · rw [decide_eq_false (p := 48 ≤ c) (by omega)]; rfl
theorem isSmall_any (c : Nat) (w : World) : Calls Tryd.prog 114 #[.int .u8 (c : Int)] w fun e w' => e = .returned (.bool (decide (97 ≤ c) && decide (c ≤ 122))) ∧ w' = w := by
  go_enter Tryd.func114, Tryd.ntmps114
  go_wp2
  all_goals go_ret
  all_goals refine ⟨congrArg (fun b => Ending.returned (Value.bool b)) ?_, rfl⟩
  · rename_i h
    rw [decide_eq_true (p := 97 ≤ c) (by omega), Bool.true_and]
    first | (rw [decide_eq_decide]; omega) | (simp; omega) | simp
  · rw [decide_eq_false (p := 97 ≤ c) (by omega)]; rfl
/-- is a sign one of a to z and 0 to 9? -/
def digB (c : Nat) : Bool := decide (48 ≤ c) && decide (c ≤ 57)
def lowB (c : Nat) : Bool := decide (97 ≤ c) && decide (c ≤ 122)
def plainB (l : List UInt8) : Bool := (List.range l.length).all (fun i => digB (by_ l i) || lowB (by_ l i)) && decide (1 ≤ l.length) && decide (l.length ≤ 16)
theorem plain_more {l : List UInt8} {k : Nat} {b : Bool} (hA : ∀ j, j < k → (digB (by_ l j) || lowB (by_ l j)) = true) (h : (digB (by_ l k) || lowB (by_ l k)) = b) (hb : b = true) : ∀ j, j < k + 1 → (digB (by_ l j) || lowB (by_ l j)) = true := by
  intro j hj
  by_cases e : j = k
  · rw [e, h, hb]
  · exact hA j (by omega)
theorem plain_bad {l : List UInt8} {k : Nat} (hk : k < l.length) (h : (digB (by_ l k) || lowB (by_ l k)) = false) : plainB l = false := by
  unfold plainB
  rw [all_false hk h]; simp
theorem plain_all {l : List UInt8} (hA : ∀ j, j < l.length → (digB (by_ l j) || lowB (by_ l j)) = true) : plainB l = (decide (1 ≤ l.length) && decide (l.length ≤ 16)) := by
  unfold plainB
  rw [all_true hA, Bool.true_and]
theorem len16 (n : Nat) : (decide ((1 : Int) ≤ (n : Int)) && decide ((n : Int) ≤ 16)) = (decide (1 ≤ n) && decide (n ≤ 16)) := by
  congr 1 <;> rw [decide_eq_decide] <;> omega

set_option maxRecDepth 20000 in
set_option maxHeartbeats 1000000 in
theorem IsPlain_any (l : List UInt8) (w : World) (hl : l.length ≤ 9223372036854775807) :
    Calls Tryd.prog 94 #[.string ⟨l.toArray⟩] w fun e w' => e = .returned (.bool (plainB l)) ∧ w' = w := by
  have HL := hide hl
  clear hl
  go_enter Tryd.func94, Tryd.ntmps94
  go_wp2
  go_loopg [6] l.length (fun q i wr => ∃ k : Nat, k + q = l.length ∧ i = .int .i64 (k : Nat) ∧ (∀ j, j < k → (digB (by_ l j) || lowB (by_ l j)) = true) ∧ wr = w)
  case atStart => exact ⟨0, Nat.zero_add _, rfl, fun j hj => absurd hj (Nat.not_lt_zero _), rfl⟩
  case round =>
    obtain ⟨k, hk, rfl, hA, rfl⟩ := hrel
    have HA := hide hA
    clear hA
    by_cases hlt : k < l.length
    · have hw : wrap64 ((k : Int) + 1) = (k : Int) + 1 := w64 _ (by omega) (by have := unhide HL; omega)
      have hix : ∀ u, _ := ix_any l k hlt
      generalize hc : by_ l k = c at hix
      have HC := hide hc
      clear hc
      generalize hd : digB c = d
      generalize hs : lowB c = s
      have HD := hide hd
      have HS := hide hs
      clear hd hs
      go_wp2_with (first | (go_at_call 113; refine (isDigit_any c _).mono ?_; rintro e w1 ⟨rfl, rfl⟩; rw [show (decide (48 ≤ c) && decide (c ≤ 57)) = d from unhide HD]) | (go_at_call 114; refine (isSmall_any c _).mono ?_; rintro e w1 ⟨rfl, rfl⟩; rw [show (decide (97 ≤ c) && decide (c ≤ 122)) = s from unhide HS]))
      · rename_i h1
        go_roundg (gk - 1)
        case measure => omega
        case rel => exact ⟨k + 1, by omega, by first | exact num1 hw | rfl, plain_more (unhide HA) rfl (by rw [unhide HC, unhide HD, h1]; rfl), rfl⟩
      · rename_i h1
        go_ret
        refine ⟨congrArg (fun b => Ending.returned (Value.bool b)) (plain_bad hlt ?_).symm, rfl⟩
        rw [unhide HC, unhide HD, unhide HS]
        simp at h1
        rw [h1, Bool.or_false]
        exact Bool.eq_false_iff.2 (by assumption)
      · rename_i h1
        go_roundg (gk - 1)
        case measure => omega
        case rel =>
          simp at h1
          exact ⟨k + 1, by omega, by first | exact num1 hw | rfl, plain_more (unhide HA) rfl (by rw [unhide HC, unhide HS, h1, Bool.or_true]), rfl⟩
    · go_wp2
      all_goals go_ret
      all_goals refine ⟨congrArg (fun b => Ending.returned (Value.bool b)) ?_, rfl⟩
      all_goals rw [plain_all (fun j hj => unhide HA j (by omega)), ← len16]
      · rw [decide_eq_true (p := (1 : Int) ≤ (l.length : Int)) (by assumption), Bool.true_and]
      · rw [decide_eq_false (p := (1 : Int) ≤ (l.length : Int)) (by omega), Bool.false_and]

set_option maxRecDepth 20000 in
set_option maxHeartbeats 1000000 in
theorem plainR_any (l : List UInt8) (w : World) (hl : l.length ≤ 9223372036854775807) :
    Calls Tryd.prog 99 #[.string ⟨l.toArray⟩] w fun e w' => e = .returned (.bool (plainB l)) ∧ w' = w := by
  have HL := hide hl
  clear hl
  go_enter Tryd.func99, Tryd.ntmps99
  go_wp2
  go_loopg [3] l.length (fun q i wr => ∃ k : Nat, k + q = l.length ∧ i = .int .i64 (k : Nat) ∧ (∀ j, j < k → (digB (by_ l j) || lowB (by_ l j)) = true) ∧ wr = w)
  case atStart => exact ⟨0, Nat.zero_add _, rfl, fun j hj => absurd hj (Nat.not_lt_zero _), rfl⟩
  case round =>
    obtain ⟨k, hk, rfl, hA, rfl⟩ := hrel
    have HA := hide hA
    clear hA
    by_cases hlt : k < l.length
    · have hw : wrap64 ((k : Int) + 1) = (k : Int) + 1 := w64 _ (by omega) (by have := unhide HL; omega)
      have hix : ∀ u, _ := ix_any l k hlt
      generalize hc : by_ l k = c at hix
      have HC := hide hc
      clear hc
      have hsum : (digB c || lowB c) = true ∨ (digB c || lowB c) = false := by cases (digB c || lowB c) <;> simp
      unfold digB lowB at hsum
      have HSM := hide hsum
      clear hsum
      by_cases q1 : 97 ≤ c
      · by_cases q2 : c ≤ 122
        · have p1 : (97 : Int) ≤ c := by omega
          have p2 : (c : Int) ≤ 122 := by omega
          by_cases q3 : 48 ≤ c
          · by_cases q4 : c ≤ 57
            · omega
            · have p3 : (48 : Int) ≤ c := by omega
              have p4 : ¬ (c : Int) ≤ 57 := by omega
              go_wp2
              go_roundg (gk - 1)
              case measure => omega
              case rel => exact ⟨k + 1, by omega, by first | exact num1 hw | rfl, plain_more (unhide HA) rfl (by rw [unhide HC]; unfold digB lowB; simp [q1, q2]), rfl⟩
          · omega
        · have p1 : (97 : Int) ≤ c := by omega
          have p2 : ¬ (c : Int) ≤ 122 := by omega
          have p3 : (48 : Int) ≤ c := by omega
          have p4 : ¬ (c : Int) ≤ 57 := by omega
          go_wp2
          go_ret
          refine ⟨congrArg (fun b => Ending.returned (Value.bool b)) (plain_bad hlt ?_).symm, rfl⟩
          rw [unhide HC]; unfold digB lowB
          rw [decide_eq_false (p := c ≤ 57) (by omega), decide_eq_false (p := c ≤ 122) q2]; simp
      · have p1 : ¬ (97 : Int) ≤ c := by omega
        by_cases q3 : 48 ≤ c
        · have p3 : (48 : Int) ≤ c := by omega
          by_cases q4 : c ≤ 57
          · have p4 : (c : Int) ≤ 57 := by omega
            go_wp2
            go_roundg (gk - 1)
            case measure => omega
            case rel => exact ⟨k + 1, by omega, by first | exact num1 hw | rfl, plain_more (unhide HA) rfl (by rw [unhide HC]; unfold digB lowB; simp [q3, q4]), rfl⟩
          · have p4 : ¬ (c : Int) ≤ 57 := by omega
            go_wp2
            go_ret
            refine ⟨congrArg (fun b => Ending.returned (Value.bool b)) (plain_bad hlt ?_).symm, rfl⟩
            rw [unhide HC]; unfold digB lowB
            rw [decide_eq_false (p := c ≤ 57) q4, decide_eq_false (p := 97 ≤ c) q1]; simp
        · have p3 : ¬ (48 : Int) ≤ c := by omega
          go_wp2
          go_ret
          refine ⟨congrArg (fun b => Ending.returned (Value.bool b)) (plain_bad hlt ?_).symm, rfl⟩
          rw [unhide HC]; unfold digB lowB
          rw [decide_eq_false (p := 48 ≤ c) q3, decide_eq_false (p := 97 ≤ c) q1]; simp
    · go_wp2
      all_goals go_ret
      all_goals refine ⟨congrArg (fun b => Ending.returned (Value.bool b)) ?_, rfl⟩
      all_goals rw [plain_all (fun j hj => unhide HA j (by omega)), ← len16]
      · rw [decide_eq_true (p := (1 : Int) ≤ (l.length : Int)) (by assumption), Bool.true_and]
      · rw [decide_eq_false (p := (1 : Int) ≤ (l.length : Int)) (by omega), Bool.false_and]
end Go.Proofs.YtkmkkmdpjliifaaDoor
