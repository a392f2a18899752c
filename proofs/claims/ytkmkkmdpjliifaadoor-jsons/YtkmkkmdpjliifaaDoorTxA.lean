import Derived.Test.YtkmkkmdpjliifaaDoorProg
import Derived.Test.YtkmkkmdpjliifaaDoorTxM
import Derived.Test.YtkmkkmdpjliifaaDoorTxR
import Derived.ProofKit
import Derived.OpenShut
import Derived.Laws.BytesArg
import Derived.Deep.QuietTactic
import Derived.BigQuiet
namespace Go.Proofs.YtkmkkmdpjliifaaDoor
open Go.ChangeShapes Go.WideShapes Go.ChangeAt Go.RowKit

theorem ret_int {k : IntKind} {a b : Int} (h : a = b) : Ending.returned (.int k a) = .returned (.int k b) := by rw [h]

theorem info5 : (Tryd.prog.info? 5).map (fun i => (i.zero, i.size, i.bytes)) = some (some (.int .u8 0), 1, 1) := by kernel_rfl
theorem info3 : (Tryd.prog.info? 3).map (fun i => (i.zero, i.size, i.bytes)) = some (some (.int .i64 0), 1, 8) := by kernel_rfl
/-- n noughts -/
def zc (k : IntKind) (n : Nat) : Array Value := madeCells #[.int k 0] n
theorem zc_size (k : IntKind) (n : Nat) : (zc k n).size = n := by simp [zc, madeCells]
theorem zc_get (k : IntKind) (n j : Nat) (h : j < n) : (zc k n)[j]? = some (.int k 0) := by simp [zc, madeCells, h, Nat.mod_one]
theorem make8 (l c : Int) (h0 : 0 ≤ l) (hlc : l ≤ c) (hc : c ≤ 281474976710656) (u : World) : (Instr.makeSlice 33 (.int .i64 l) (.int .i64 c)).run Tryd.prog u =
    .ok (.slice (some ⟨u.heap.size, 0, none⟩) l.toNat c.toNat) (u.alloc (.cells (zc .u8 c.toNat) 5)) := by
  obtain ⟨i0, hi, hz0, hz1, hz2⟩ := info_parts info5
  have h := run_make (P := Tryd.prog) u 33 5 i0 (.int .u8 0) Tryd.underlying33 hi hz0 .i64 .i64 l c h0 hlc (by rw [hz2]; omega) (by omega)
  rw [hz1, Nat.mul_one] at h
  exact h
theorem make64 (l c : Int) (h0 : 0 ≤ l) (hlc : l ≤ c) (hc : c ≤ 35184372088832) (u : World) : (Instr.makeSlice 22 (.int .i64 l) (.int .i64 c)).run Tryd.prog u =
    .ok (.slice (some ⟨u.heap.size, 0, none⟩) l.toNat c.toNat) (u.alloc (.cells (zc .i64 c.toNat) 3)) := by
  obtain ⟨i0, hi, hz0, hz1, hz2⟩ := info_parts info3
  have h := run_make (P := Tryd.prog) u 22 3 i0 (.int .i64 0) Tryd.underlying22 hi hz0 .i64 .i64 l c h0 hlc (by rw [hz2]; omega) (by omega)
  rw [hz1, Nat.mul_one] at h
  exact h
theorem Row.zc (w : World) (k : IntKind) (n : Nat) (t : TypeId) : Row (w.alloc (.cells (zc k n) t)) w.heap.size t n (fun _ => .int k 0) :=
  Row.new w t _ _ n (zc_size k n) (fun j hj => zc_get k n j hj)

/-- n bytes -/
def bs (n : Nat) (f : Nat → Nat) : List UInt8 := (List.range n).map (fun j => UInt8.ofNat (f j))
theorem bs_length (n : Nat) (f : Nat → Nat) : (bs n f).length = n := by simp [bs]
/-- string(b[0:n]) -/
theorem conv8 {w : World} (b o n cap : Nat) (f : Nat → Nat) (h : ∀ i, i < n → w.cell? ⟨b, o + i, none⟩ = some (.int .u8 (f i : Int))) :
    (convert 33 9 (.slice (some ⟨b, o, none⟩) n cap)).run Tryd.prog w = .ok (.string ⟨(bs n f).toArray⟩) w := by
  have := run_convert_bytes_arg (P := Tryd.prog) w 33 5 Tryd.underlying33 Tryd.underlying5 b o n cap ((List.range n).map (fun j => (f j : Int))) (by simp)
    (fun i hi => by rw [h i hi]; simp [List.getD, hi]) 9 Tryd.underlying9
  have e : strOfNums ((List.range n).map (fun j => (f j : Int))) = ⟨(bs n f).toArray⟩ := by
    simp only [strOfNums, bs, List.map_map, Function.comp_def, Int.toNat_natCast]
  rw [this, e]

set_option maxHeartbeats 400000 in
theorem turnRight_any (x : BitVec 32) (k : Nat) (w : World) (h0 : 0 < k) (h1 : k < 32) :
    Calls Tryd.prog 119 #[.int .u32 (wi x), .int .i64 k] w fun e w' => e = .returned (.int .u32 (wi (rotr x k))) ∧ w' = w := by
  have hb := bits_u64_31 k h0 h1
  have hx := wi_nn x
  have hx' := wi_lt x
  go_enter Tryd.func119, Tryd.ntmps119
  go_wp2
  go_ret
  refine ⟨ret_int ?_, rfl⟩
  rw [← rot32 x k h0 h1, IntKind.wrap_u32, show 32 - (32 - k) = k by omega]

set_option maxHeartbeats 400000 in
theorem right_any (x : BitVec 32) (k : Nat) (w : World) (h0 : 0 < k) (h1 : k < 32) :
    Calls Tryd.prog 102 #[.int .i64 (wi x), .int .i64 k] w fun e w' => e = .returned (.int .i64 (wi (rotr x k))) ∧ ∃ n, w' = w.drewN n := by
  have hx := wi_nn x
  have hx' := wi_lt x
  go_enter Tryd.func102, Tryd.ntmps102
  go_wp2
  go_quiet (fail)
  go_wp2
  go_ret
  refine ⟨ret_int ?_, _, rfl⟩
  exact rot64 x k h0 h1

theorem turnThrice_any (x : BitVec 32) (a b c : Nat) (w : World) (a0 : 0 < a) (a1 : a < 32) (b0 : 0 < b) (b1 : b < 32) (c0 : 0 < c) (c1 : c < 32) :
    Calls Tryd.prog 101 #[.int .u32 (wi x), .int .i64 a, .int .i64 b, .int .i64 c] w fun e w' => e = .returned (.int .u32 (wi (rotr x a ^^^ rotr x b ^^^ rotr x c))) ∧ w' = w := by
  go_enter Tryd.func101, Tryd.ntmps101
  go_wp2_with (go_at_call 119; refine (turnRight_any _ _ _ (by assumption) (by assumption)).mono ?_; rintro e w' ⟨rfl, rfl⟩)
  go_ret
  refine ⟨ret_int ?_, rfl⟩
  rw [xor32, xor32]

theorem turnAndShift_any (x : BitVec 32) (a b c : Nat) (w : World) (a0 : 0 < a) (a1 : a < 32) (b0 : 0 < b) (b1 : b < 32) (c0 : 0 < c) (c1 : c < 32) :
    Calls Tryd.prog 118 #[.int .u32 (wi x), .int .i64 a, .int .i64 b, .int .i64 c] w fun e w' => e = .returned (.int .u32 (wi (rotr x a ^^^ rotr x b ^^^ x >>> c))) ∧ ∃ n, w' = w.drewN n := by
  have hx := wi_nn x
  have hx' := wi_lt x
  go_enter Tryd.func118, Tryd.ntmps118
  go_wp2
  go_quiet ((go_at_call 119; exact Calls.quiet_of_same (turnRight_any _ _ _ (by assumption) (by assumption))))
  go_wp2
  go_ret
  refine ⟨ret_int ?_, _, rfl⟩
  rw [xor32, ← wi_shr, xor32]
end Go.Proofs.YtkmkkmdpjliifaaDoor
