import Derived.Test.YtkmkkmdpjliifaaDoorTxJ
import Derived.Test.YtkmkkmdpjliifaaDoorTxP
namespace Go.Proofs.YtkmkkmdpjliifaaDoor
open Go.ChangeShapes Go.WideShapes Go.ChangeAt Go.RowKit

/-- the characters of Base64 -/
def aL : List UInt8 := [65, 66, 67, 68, 69, 70, 71, 72, 73, 74, 75, 76, 77, 78, 79, 80, 81, 82, 83, 84, 85, 86, 87, 88, 89, 90, 97, 98, 99, 100, 101, 102, 103, 104, 105, 106, 107, 108, 109, 110, 111, 112, 113, 114, 115, 116, 117, 118, 119, 120, 121, 122, 48, 49, 50, 51, 52, 53, 54, 55, 56, 57, 45, 95]
def al (i : Nat) : Nat := (aL.getD i 0).toNat
/-- what a character stands for; -1: nothing -/
def sgn (c : Nat) : Int := if 65 ≤ c ∧ c ≤ 90 then (c : Int) - 65 else if 97 ≤ c ∧ c ≤ 122 then (c : Int) - 71 else if 48 ≤ c ∧ c ≤ 57 then (c : Int) + 4 else if c = 45 then 62 else if c = 95 then 63 else -1
theorem sgn_al : ∀ i, i < 64 → sgn (al i) = (i : Int) := by decide +kernel
theorem al_sgn : ∀ c, c < 256 → 0 ≤ sgn c → al (sgn c).toNat = c ∧ sgn c < 64 := by decide +kernel
theorem al_lt : ∀ i, i < 64 → al i < 256 := by decide +kernel
theorem sgn_lo (c : Nat) : -1 ≤ sgn c ∧ sgn c < 64 := by unfold sgn; omega
theorem indexAlK (κ : IntKind) (k : Nat) (hk : k < 64) (u : World) : (Instr.index 9 (.string ⟨#[65, 66, 67, 68, 69, 70, 71, 72, 73, 74, 75, 76, 77, 78, 79, 80, 81, 82, 83, 84, 85, 86, 87, 88, 89, 90, 97, 98, 99, 100, 101, 102, 103, 104, 105, 106, 107, 108, 109, 110, 111, 112, 113, 114, 115, 116, 117, 118, 119, 120, 121, 122, 48, 49, 50, 51, 52, 53, 54, 55, 56, 57, 45, 95]⟩) (.int κ (k : Int))).run Tryd.prog u = .ok (.int .u8 (al k : Nat)) u := by
  have h : ((aL.toArray)[k]?).isSome = true := by
    have : aL.toArray.size = 64 := rfl
    rw [Array.getElem?_eq_getElem (by omega)]; rfl
  have h2 : ∀ k, k < 64 → aL.toArray[k]? = some (UInt8.ofNat (al k)) := by decide +kernel
  have h4 : ∀ k, k < 64 → (UInt8.ofNat (al k)).toNat = al k := by decide +kernel
  have h3 : (ByteArray.mk #[65, 66, 67, 68, 69, 70, 71, 72, 73, 74, 75, 76, 77, 78, 79, 80, 81, 82, 83, 84, 85, 86, 87, 88, 89, 90, 97, 98, 99, 100, 101, 102, 103, 104, 105, 106, 107, 108, 109, 110, 111, 112, 113, 114, 115, 116, 117, 118, 119, 120, 121, 122, 48, 49, 50, 51, 52, 53, 54, 55, 56, 57, 45, 95])[k]? = some (UInt8.ofNat (al k)) := by
    rw [ByteArray.getElem?_lt' _ k (by exact hk)]
    have := h2 k hk
    rw [Array.getElem?_eq_getElem (by exact hk)] at this
    exact this
  unfold Instr.index
  simp only [asIntOf, Sem.run_bind, Sem.run_pure, run_underlying Tryd.underlying9, Result.andThen_ok]
  rw [if_pos (by omega), Int.toNat_natCast, h3]
  simp [h4 k hk]

theorem indexAl (k : Nat) (hk : k < 64) (u : World) : (Instr.index 9 (.string ⟨#[65, 66, 67, 68, 69, 70, 71, 72, 73, 74, 75, 76, 77, 78, 79, 80, 81, 82, 83, 84, 85, 86, 87, 88, 89, 90, 97, 98, 99, 100, 101, 102, 103, 104, 105, 106, 107, 108, 109, 110, 111, 112, 113, 114, 115, 116, 117, 118, 119, 120, 121, 122, 48, 49, 50, 51, 52, 53, 54, 55, 56, 57, 45, 95]⟩) (.int .i64 (k : Int))).run Tryd.prog u = .ok (.int .u8 (al k : Nat)) u := indexAlK .i64 k hk u

theorem sign_any (c : Nat) (w : World) (hc : c < 256) :
    Calls Tryd.prog 33 #[.int .u8 (c : Int)] w fun e w' => e = .returned (.int .i64 (sgn c)) ∧ w' = w := by
  go_enter Tryd.func33, Tryd.ntmps33
  go_wp2
  go_loop [3] (fun i => ∃ k : Nat, k ≤ 64 ∧ i = .int .i64 k ∧ ∀ j, j < k → ¬ al j = c) (fun i => 64 - (intOf i).toNat)
  case atStart => exact ⟨0, by omega, rfl, fun j hj => by omega⟩
  case round =>
    obtain ⟨k, hk, rfl, hall⟩ := hrel
    have HA := hide hall
    clear hall
    by_cases hlt : k < 64
    · have hix := indexAl k hlt
      by_cases he : al k = c
      · have he' : (((al k : Nat) : Int) == ((c : Nat) : Int)) = true := by simp [he]
        have HE := hide he
        clear he
        go_wp2
        go_ret
        exact ⟨ret_int (by rw [← unhide HE, sgn_al k hlt]), rfl⟩
      · have he' : (((al k : Nat) : Int) == ((c : Nat) : Int)) = false := by rw [beq_eq_false_iff_ne]; omega
        have HE := hide he
        clear he
        go_wp2
        go_round
        case rel => exact ⟨k + 1, by omega, by go_num, fun j hj => by
          by_cases e : j = k
          · subst e; exact unhide HE
          · exact unhide HA j (by omega)⟩
        case measure => simp [intOf]; omega
    · obtain rfl : k = 64 := by omega
      go_wp2
      go_ret
      refine ⟨ret_int ?_, rfl⟩
      have h1 := al_sgn c hc
      have h2 := sgn_lo c
      by_cases h3 : 0 ≤ sgn c
      · exact absurd (h1 h3).1 (unhide HA _ (by omega))
      · omega

theorem tup_eq {a v : Int} {y b : Bool} (h1 : a = v) (h2 : y = b) : Ending.returned (.tuple #[.int .u32 a, .bool y]) = .returned (.tuple #[.int .u32 v, .bool b]) := by rw [h1, h2]
def sgv (c : Nat) : Nat := (sgn c).toNat
def sgo (c : Nat) : Bool := decide (0 ≤ sgn c)
theorem sgv_eq (c : Nat) : ((sgv c : Nat) : Int) = if 65 ≤ c ∧ c ≤ 90 then (c : Int) - 65 else if 97 ≤ c ∧ c ≤ 122 then (c : Int) - 71 else if 48 ≤ c ∧ c ≤ 57 then (c : Int) + 4 else if c = 45 then 62 else if c = 95 then 63 else 0 := by
  unfold sgv sgn; omega
theorem sgo_eq (c : Nat) : sgo c = decide ((65 ≤ c ∧ c ≤ 90) ∨ (97 ≤ c ∧ c ≤ 122) ∨ (48 ≤ c ∧ c ≤ 57) ∨ c = 45 ∨ c = 95) := by
  unfold sgo sgn
  rw [decide_eq_decide]; omega
theorem six_any (c : Nat) (w : World) (hc : c < 256) :
    Calls Tryd.prog 63 #[.int .u8 (c : Int)] w fun e w' => e = .returned (.tuple #[.int .u32 (sgv c : Nat), .bool (sgo c)]) ∧ w' = w := by
  go_enter Tryd.func63, Tryd.ntmps63
  go_wp2
  all_goals go_ret2
  all_goals refine ⟨tup_eq ?_ ?_, rfl⟩
  all_goals try simp only [beq_iff_eq, beq_eq_false_iff_ne, ne_eq] at *
  all_goals first
    | (rw [sgv_eq]; omega)
    | (rw [sgo_eq]; first | (apply Eq.symm; apply decide_eq_true; omega) | (apply Eq.symm; apply decide_eq_false; omega))
end Go.Proofs.YtkmkkmdpjliifaaDoor
