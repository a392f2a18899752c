import Derived.WalkKit
import Derived.Deep.Draws
import Derived.Test.YtkmkkmdpjliifaaGreatDoorProg
import Derived.ProofKit
import Derived.OpenShut
import Derived.Laws.BytesArg
import Derived.Deep.QuietTactic
import Derived.BigQuiet
import Derived.Laws.IdiomStrings
import Derived.Deep.MidRow
namespace Go.Proofs.YtkmkkmdpjliifaaGreatDoor
open Go.RowKit

/-- A word of 32 bits, as the number that it is. -/
def wi (x : BitVec 32) : Int := (x.toNat : Int)
theorem wi_nn (x : BitVec 32) : 0 ≤ wi x := Int.natCast_nonneg _
theorem wi_lt (x : BitVec 32) : wi x < 4294967296 := by
  have := x.isLt; unfold wi; omega
theorem ofInt_wi (x : BitVec 32) : BitVec.ofInt 32 (wi x) = x := by
  unfold wi; rw [BitVec.ofInt_natCast]; simp
theorem wrap_wi (x : BitVec 32) : IntKind.u32.wrap (x.toNat : Int) = wi x := by
  have := x.isLt; rw [IntKind.wrap_u32]; unfold wi; omega
theorem xor32 (a b : BitVec 32) : bits .xor .u32 (wi a) (wi b) = wi (a ^^^ b) := by
  show IntKind.u32.wrap ((BitVec.ofInt 32 (wi a) ^^^ BitVec.ofInt 32 (wi b)).toNat : Int) = _
  rw [ofInt_wi, ofInt_wi, wrap_wi]
theorem and32 (a b : BitVec 32) : bits .and .u32 (wi a) (wi b) = wi (a &&& b) := by
  show IntKind.u32.wrap ((BitVec.ofInt 32 (wi a) &&& BitVec.ofInt 32 (wi b)).toNat : Int) = _
  rw [ofInt_wi, ofInt_wi, wrap_wi]
theorem or32 (a b : BitVec 32) : bits .or .u32 (wi a) (wi b) = wi (a ||| b) := by
  show IntKind.u32.wrap ((BitVec.ofInt 32 (wi a) ||| BitVec.ofInt 32 (wi b)).toNat : Int) = _
  rw [ofInt_wi, ofInt_wi, wrap_wi]
theorem add32 (a b : BitVec 32) : IntKind.u32.wrap (wi a + wi b) = wi (a + b) := by
  rw [IntKind.wrap_u32]; unfold wi; rw [BitVec.toNat_add]; omega
theorem add64 (a b : BitVec 32) : (wi a + wi b) % 4294967296 = wi (a + b) := by
  unfold wi; rw [BitVec.toNat_add]; omega
/-- turned right, by less than 32 -/
def rotr (x : BitVec 32) (k : Nat) : BitVec 32 := x.rotateRight k
theorem rotr_eq (x : BitVec 32) (k : Nat) (h : k < 32) : rotr x k = (x >>> k ||| x <<< (32 - k)) := by
  unfold rotr BitVec.rotateRight BitVec.rotateRightAux
  rw [Nat.mod_eq_of_lt h]
theorem wi_shr (x : BitVec 32) (k : Nat) : wi (x >>> k) = wi x / 2 ^ k := by
  unfold wi
  rw [BitVec.toNat_ushiftRight, Nat.shiftRight_eq_div_pow]
  push_cast
  rfl
theorem wi_shl (x : BitVec 32) (k : Nat) : wi (x <<< k) = (wi x * 2 ^ k) % 4294967296 := by
  unfold wi
  rw [BitVec.toNat_shiftLeft, Nat.shiftLeft_eq, Int.natCast_emod, Int.natCast_mul, Int.natCast_pow]
  rfl
theorem rot32 (x : BitVec 32) (k : Nat) (_h0 : 0 < k) (h : k < 32) :
    bits .or .u32 (IntKind.u32.wrap (wi x * 2 ^ (32 - k))) (wi x / 2 ^ k) = wi (rotr x k) := by
  rw [IntKind.wrap_u32, ← wi_shl, ← wi_shr, or32, rotr_eq x k h, BitVec.or_comm]
theorem w64 (n : Int) (h0 : -9223372036854775808 ≤ n) (h1 : n < 9223372036854775808) : wrap64 n = n := by unfold wrap64; omega
theorem wi_ofNat (a : Nat) (h : a < 4294967296) : wi (BitVec.ofNat 32 a) = (a : Int) := by
  unfold wi; rw [BitVec.toNat_ofNat]; omega
theorem xorN_lt (a b : Nat) (ha : a < 256) (hb : b < 256) : a ^^^ b < 256 := Nat.xor_lt_two_pow (n := 8) ha hb
theorem xor8 (a b : Nat) (ha : a < 256) (hb : b < 256) : bits .xor .u8 (a : Int) (b : Int) = ((a ^^^ b : Nat) : Int) := by
  have h := xorN_lt a b ha hb
  show IntKind.u8.wrap ((BitVec.ofInt 8 (a : Int) ^^^ BitVec.ofInt 8 (b : Int)).toNat : Int) = _
  rw [BitVec.toNat_xor, BitVec.ofInt_natCast, BitVec.ofInt_natCast, BitVec.toNat_ofNat, BitVec.toNat_ofNat, Nat.mod_eq_of_lt (by omega), Nat.mod_eq_of_lt (by omega), IntKind.wrap_u8]
  omega
theorem bits_u64_31 (k : Nat) (h0 : 0 < k) (h : k < 32) : bits .and .u64 (IntKind.u64.wrap (-(k : Int))) 31 = 32 - (k : Int) := by
  have : ∀ k : Fin 32, 0 < k.val → bits .and .u64 (IntKind.u64.wrap (-(k.val : Int))) 31 = 32 - (k.val : Int) := by decide
  exact this ⟨k, h⟩ h0
end Go.Proofs.YtkmkkmdpjliifaaGreatDoor
namespace Go.Proofs.YtkmkkmdpjliifaaGreatDoor
open Go.RowKit

theorem hide {p : Prop} (h : p) : Hid p := h
theorem unhide {p : Prop} (h : Hid p) : p := h
theorem below_drewN' {B : Nat} {a w : World} (h : Below B a w) (n : Nat) : Below B a (w.drewN n) := h.trans ⟨rfl, rfl, rfl, Nat.le_refl _, fun _ _ => rfl⟩

/-- Block g is a row of n cells, not frozen; f tells what they hold. -/
def Row (w : World) (g : Nat) (t : TypeId) (n : Nat) (f : Nat → Value) : Prop :=
  ∃ cs : Array Value, w.heap[g]? = some (.cells cs t (0, 0)) ∧ cs.size = n ∧ ∀ j, j < n → cs[j]? = some (f j)

section
variable {w : World} {g : Nat} {t : TypeId} {n : Nat} {f : Nat → Value}

theorem Row.lt (h : Row w g t n f) : g < w.heap.size := by
  obtain ⟨cs, h1, _⟩ := h
  rcases Nat.lt_or_ge g w.heap.size with h | h
  · exact h
  · rw [Array.getElem?_eq_none h] at h1; cases h1
theorem Row.cell (h : Row w g t n f) {j : Nat} (hj : j < n) : w.cell? ⟨g, j, none⟩ = some (f j) := by
  obtain ⟨cs, h1, h2, h3⟩ := h
  rw [cell_of_row w g j cs t _ h1]; exact h3 j hj
theorem Row.frozen (h : Row w g t n f) (j : Nat) : w.frozen? ⟨g, j, none⟩ = false := by
  obtain ⟨cs, h1, _, _⟩ := h
  exact frozen_of_row w g j cs t h1
theorem Row.congr (h : Row w g t n f) {f' : Nat → Value} (e : ∀ j, j < n → f j = f' j) : Row w g t n f' := by
  obtain ⟨cs, h1, h2, h3⟩ := h
  exact ⟨cs, h1, h2, fun j hj => by rw [h3 j hj, e j hj]⟩
theorem Row.set (h : Row w g t n f) (k : Nat) (v : Value) : Row (w.setCell ⟨g, k, none⟩ v) g t n (fun j => if j = k then v else f j) := by
  obtain ⟨cs, h1, h2, h3⟩ := h
  refine ⟨_, heap_setCell_same w g k cs t v h1, by simpa using h2, fun j hj => ?_⟩
  by_cases e : j = k
  · subst e; simp [h2, hj]
  · simp [e, h3 j hj, Ne.symm e]
theorem Row.other (h : Row w g t n f) {a : Addr} (hne : g ≠ a.block) (v : Value) : Row (w.setCell a v) g t n f := by
  obtain ⟨cs, h1, h2, h3⟩ := h
  exact ⟨cs, by rw [heap_setCell_other w a g v hne]; exact h1, h2, h3⟩
theorem Row.drewN (h : Row w g t n f) (q : Nat) : Row (w.drewN q) g t n f := h
theorem Row.drew (h : Row w g t n f) : Row w.drew g t n f := h
theorem Row.alloc (h : Row w g t n f) (o : Obj) : Row (w.alloc o) g t n f := by
  have hl := h.lt
  obtain ⟨cs, h1, h2, h3⟩ := h
  exact ⟨cs, by rw [Below.heap_alloc w o g hl]; exact h1, h2, h3⟩
theorem Row.below {w' : World} {B : Nat} (h : Row w g t n f) (hb : Below B w w') (hg : g < B) : Row w' g t n f := by
  obtain ⟨cs, h1, h2, h3⟩ := h
  exact ⟨cs, by rw [hb.block g hg]; exact h1, h2, h3⟩
theorem Row.new (w : World) (t : TypeId) (cs : Array Value) (f : Nat → Value) (n : Nat) (hn : cs.size = n) (hf : ∀ j, j < n → cs[j]? = some (f j)) : Row (w.alloc (.cells cs t)) w.heap.size t n f :=
  ⟨cs, heap_alloc_new w _, hn, hf⟩
/-- the cells as one array -/
def arrOf (n : Nat) (f : Nat → Value) : Array Value := (Array.range n).map f
theorem arrOf_size (n : Nat) (f : Nat → Value) : (arrOf n f).size = n := by simp [arrOf]
theorem arrOf_get (n : Nat) (f : Nat → Value) (j : Nat) (hj : j < n) : (arrOf n f)[j]? = some (f j) := by simp [arrOf, hj]
theorem Row.whole (h : Row w g t n f) : w.heap[g]? = some (.cells (arrOf n f) t (0, 0)) := by
  obtain ⟨cs, h1, h2, h3⟩ := h
  have : cs = arrOf n f := by
    apply Array.ext (by rw [h2, arrOf_size])
    intro i hi1 hi2
    have e1 := h3 i (by omega)
    have e2 := arrOf_get n f i (by omega)
    rw [Array.getElem?_eq_getElem hi1] at e1
    rw [Array.getElem?_eq_getElem hi2] at e2
    rw [Option.some.inj e1, Option.some.inj e2]
  rw [h1, this]
end
/-- n cells of block g from o on, none of them frozen; f tells what they hold. -/
def Cel (w : World) (g o n : Nat) (f : Nat → Value) : Prop := ∀ j, j < n → w.cell? ⟨g, o + j, none⟩ = some (f j) ∧ w.frozen? ⟨g, o + j, none⟩ = false
section
variable {w : World} {g o n : Nat} {f : Nat → Value}
theorem Cel.cell (h : Cel w g o n f) {j : Nat} (hj : j < n) : w.cell? ⟨g, o + j, none⟩ = some (f j) := (h j hj).1
theorem Cel.congr (h : Cel w g o n f) {f' : Nat → Value} (e : ∀ j, j < n → f j = f' j) : Cel w g o n f' := fun j hj => by rw [← e j hj]; exact h j hj
theorem Cel.drewN (h : Cel w g o n f) (q : Nat) : Cel (w.drewN q) g o n f := h
theorem Cel.below {w' : World} {B : Nat} (h : Cel w g o n f) (hb : Below B w w') (hg : g < B) : Cel w' g o n f := fun j hj =>
  ⟨(hb.cell (p := ⟨g, o + j, none⟩) hg).trans (h j hj).1, (hb.frozen (p := ⟨g, o + j, none⟩) hg).trans (h j hj).2⟩
theorem Cel.alloc (h : Cel w g o n f) (hg : g < w.heap.size) (ob : Obj) : Cel (w.alloc ob) g o n f := h.below ((Below.refl w.heap.size w).alloc (Nat.le_refl _) ob) hg
end
end Go.Proofs.YtkmkkmdpjliifaaGreatDoor
namespace Go.Proofs.YtkmkkmdpjliifaaGreatDoor
open Go.ChangeShapes Go.WideShapes Go.ChangeAt Go.RowKit

theorem ret_int {k : IntKind} {a b : Int} (h : a = b) : Ending.returned (.int k a) = .returned (.int k b) := by rw [h]

theorem info5 : (Tryz.prog.info? 5).map (fun i => (i.zero, i.size, i.bytes)) = some (some (.int .u8 0), 1, 1) := by kernel_rfl
/-- n noughts -/
def zc (k : IntKind) (n : Nat) : Array Value := madeCells #[.int k 0] n
theorem zc_size (k : IntKind) (n : Nat) : (zc k n).size = n := by simp [zc, madeCells]
theorem zc_get (k : IntKind) (n j : Nat) (h : j < n) : (zc k n)[j]? = some (.int k 0) := by simp [zc, madeCells, h, Nat.mod_one]
theorem make8 (l c : Int) (h0 : 0 ≤ l) (hlc : l ≤ c) (hc : c ≤ 281474976710656) (u : World) : (Instr.makeSlice 110 (.int .i64 l) (.int .i64 c)).run Tryz.prog u =
    .ok (.slice (some ⟨u.heap.size, 0, none⟩) l.toNat c.toNat) (u.alloc (.cells (zc .u8 c.toNat) 5)) := by
  obtain ⟨i0, hi, hz0, hz1, hz2⟩ := info_parts info5
  have h := run_make (P := Tryz.prog) u 110 5 i0 (.int .u8 0) Tryz.underlying110 hi hz0 .i64 .i64 l c h0 hlc (by rw [hz2]; omega) (by omega)
  rw [hz1, Nat.mul_one] at h
  exact h
theorem Row.zc (w : World) (k : IntKind) (n : Nat) (t : TypeId) : Row (w.alloc (.cells (zc k n) t)) w.heap.size t n (fun _ => .int k 0) :=
  Row.new w t _ _ n (zc_size k n) (fun j hj => zc_get k n j hj)

/-- n bytes -/
def bs (n : Nat) (f : Nat → Nat) : List UInt8 := (List.range n).map (fun j => UInt8.ofNat (f j))
theorem bs_length (n : Nat) (f : Nat → Nat) : (bs n f).length = n := by simp [bs]
/-- string(b[0:n]) -/
theorem conv8 {w : World} (b o n cap : Nat) (f : Nat → Nat) (h : ∀ i, i < n → w.cell? ⟨b, o + i, none⟩ = some (.int .u8 (f i : Int))) :
    (convert 110 9 (.slice (some ⟨b, o, none⟩) n cap)).run Tryz.prog w = .ok (.string ⟨(bs n f).toArray⟩) w := by
  have := run_convert_bytes_arg (P := Tryz.prog) w 110 5 Tryz.underlying110 Tryz.underlying5 b o n cap ((List.range n).map (fun j => (f j : Int))) (by simp)
    (fun i hi => by rw [h i hi]; simp [List.getD, hi]) 9 Tryz.underlying9
  have e : strOfNums ((List.range n).map (fun j => (f j : Int))) = ⟨(bs n f).toArray⟩ := by
    simp only [strOfNums, bs, List.map_map, Function.comp_def, Int.toNat_natCast]
  rw [this, e]

set_option maxHeartbeats 400000 in
theorem turnRight_any (x : BitVec 32) (k : Nat) (w : World) (h0 : 0 < k) (h1 : k < 32) :
    Calls Tryz.prog 219 #[.int .u32 (wi x), .int .i64 k] w fun e w' => e = .returned (.int .u32 (wi (rotr x k))) ∧ w' = w := by
  have hb := bits_u64_31 k h0 h1
  have hx := wi_nn x
  have hx' := wi_lt x
  go_enter Tryz.func219, Tryz.ntmps219
  go_wp2
  go_ret
  refine ⟨ret_int ?_, rfl⟩
  rw [← rot32 x k h0 h1, IntKind.wrap_u32, show 32 - (32 - k) = k by omega]

theorem turnThrice_any (x : BitVec 32) (a b c : Nat) (w : World) (a0 : 0 < a) (a1 : a < 32) (b0 : 0 < b) (b1 : b < 32) (c0 : 0 < c) (c1 : c < 32) :
    Calls Tryz.prog 198 #[.int .u32 (wi x), .int .i64 a, .int .i64 b, .int .i64 c] w fun e w' => e = .returned (.int .u32 (wi (rotr x a ^^^ rotr x b ^^^ rotr x c))) ∧ w' = w := by
  go_enter Tryz.func198, Tryz.ntmps198
  go_wp2_with (go_at_call 219; refine (turnRight_any _ _ _ (by assumption) (by assumption)).mono ?_; rintro e w' ⟨rfl, rfl⟩)
  go_ret
  refine ⟨ret_int ?_, rfl⟩
  rw [xor32, xor32]

theorem turnAndShift_any (x : BitVec 32) (a b c : Nat) (w : World) (a0 : 0 < a) (a1 : a < 32) (b0 : 0 < b) (b1 : b < 32) (c0 : 0 < c) (c1 : c < 32) :
    Calls Tryz.prog 218 #[.int .u32 (wi x), .int .i64 a, .int .i64 b, .int .i64 c] w fun e w' => e = .returned (.int .u32 (wi (rotr x a ^^^ rotr x b ^^^ x >>> c))) ∧ ∃ n, w' = w.drewN n := by
  have hx := wi_nn x
  have hx' := wi_lt x
  go_enter Tryz.func218, Tryz.ntmps218
  go_wp2
  go_quiet ((go_at_call 219; exact Calls.quiet_of_same (turnRight_any _ _ _ (by assumption) (by assumption))))
  go_wp2
  go_ret
  refine ⟨ret_int ?_, _, rfl⟩
  rw [xor32, ← wi_shr, xor32]
end Go.Proofs.YtkmkkmdpjliifaaGreatDoor
namespace Go.Proofs.YtkmkkmdpjliifaaGreatDoor

/-- the byte at a place (0 behind the end) -/
def by_ (l : List UInt8) (p : Nat) : Nat := (l.getD p 0).toNat
theorem by_lt (l : List UInt8) (p : Nat) : by_ l p < 256 := (l.getD p 0).toNat_lt
theorem by_get (s : ByteArray) (p : Nat) (h : p < s.size) : (s[p]'h).toNat = by_ s.data.toList p := by
  unfold by_
  have : s.data.toList.getD p 0 = s[p] := by
    rw [List.getD_eq_getElem?_getD, List.getElem?_eq_getElem (by simpa using h)]
    rfl
  rw [this]
/-- n bytes at p, the high one first -/
def num (l : List UInt8) (p : Nat) : Nat → Nat
  | 0 => 0
  | n + 1 => 256 * num l p n + by_ l (p + n)
theorem num_lt (l : List UInt8) (p : Nat) : ∀ n, num l p n < 256 ^ n
  | 0 => by simp [num]
  | n + 1 => by have := num_lt l p n; have := by_lt l (p + n); rw [num, Nat.pow_succ]; omega
def wordAt (l : List UInt8) (p : Nat) : BitVec 32 := BitVec.ofNat 32 (num l p 4)
theorem wi_wordAt (l : List UInt8) (p : Nat) : wi (wordAt l p) = (num l p 4 : Int) := by
  have := num_lt l p 4
  unfold wi wordAt; rw [BitVec.toNat_ofNat]; omega
/-- the four bytes of a word, the high one first -/
def b4 (x : BitVec 32) (j : Nat) : Nat := x.toNat / 256 ^ (3 - j) % 256
theorem orN32 (x y : Nat) (hx : x < 4294967296) (hy : y < 4294967296) : bits .or .u32 (x : Int) (y : Int) = ((x ||| y : Nat) : Int) := by
  rw [← wi_ofNat x hx, ← wi_ofNat y hy, or32]
  unfold wi
  rw [BitVec.toNat_or, BitVec.toNat_ofNat, BitVec.toNat_ofNat, Nat.mod_eq_of_lt (by omega), Nat.mod_eq_of_lt (by omega)]
theorem or_add (x i y : Nat) (h : y < 2 ^ i) : 2 ^ i * x ||| y = 2 ^ i * x + y := (Nat.two_pow_add_eq_or_of_lt h x).symm
theorem word_or (l : List UInt8) (p : Nat) :
    bits .or .u32 (bits .or .u32 (bits .or .u32 ((by_ l p : Int) % 4294967296 * 16777216 % 4294967296) ((by_ l (p + 1) : Int) % 4294967296 * 65536 % 4294967296)) ((by_ l (p + 2) : Int) % 4294967296 * 256 % 4294967296)) ((by_ l (p + 3) : Int) % 4294967296) = wi (wordAt l p) := by
  rw [wi_wordAt]
  have h0 := by_lt l p
  have h1 := by_lt l (p + 1)
  have h2 := by_lt l (p + 2)
  have h3 := by_lt l (p + 3)
  simp only [num, Nat.add_zero, Nat.mul_zero, Nat.zero_add]
  generalize by_ l p = a at *
  generalize by_ l (p + 1) = b at *
  generalize by_ l (p + 2) = c at *
  generalize by_ l (p + 3) = d at *
  rw [show (a : Int) % 4294967296 * 16777216 % 4294967296 = ((2 ^ 24 * a : Nat) : Int) by omega, show (b : Int) % 4294967296 * 65536 % 4294967296 = ((2 ^ 16 * b : Nat) : Int) by omega,
    show (c : Int) % 4294967296 * 256 % 4294967296 = ((2 ^ 8 * c : Nat) : Int) by omega, show (d : Int) % 4294967296 = (d : Int) by omega]
  rw [orN32 _ _ (by omega) (by omega), or_add a 24 _ (by omega), show 2 ^ 24 * a + 2 ^ 16 * b = 2 ^ 16 * (256 * a + b) by omega]
  rw [orN32 _ _ (by omega) (by omega), or_add _ 16 _ (by omega), show 2 ^ 16 * (256 * a + b) + 2 ^ 8 * c = 2 ^ 8 * (256 * (256 * a + b) + c) by omega]
  rw [orN32 _ _ (by omega) (by omega), or_add _ 8 _ (by omega)]
/-- s and the three turns of the document -/
def sg (x : BitVec 32) (a b c : Nat) : BitVec 32 := rotr x a ^^^ rotr x b ^^^ x >>> c
def sg3 (x : BitVec 32) (a b c : Nat) : BitVec 32 := rotr x a ^^^ rotr x b ^^^ rotr x c
def wext (f : Nat → BitVec 32) (t : Nat) : BitVec 32 := f (t - 16) + sg (f (t - 15)) 7 18 3 + f (t - 7) + sg (f (t - 2)) 17 19 10
/-- the words of a block, 16 and n of them -/
def Wk (l : List UInt8) : Nat → Nat → BitVec 32
  | 0 => fun t => wordAt l (4 * t)
  | n + 1 => fun t => if t = 16 + n then wext (Wk l n) t else Wk l n t
structure S8 where
  a : BitVec 32
  b : BitVec 32
  c : BitVec 32
  d : BitVec 32
  e : BitVec 32
  f : BitVec 32
  g : BitVec 32
  h : BitVec 32
def tt (k w : BitVec 32) (s : S8) : BitVec 32 := s.h + sg3 s.e 6 11 25 + (s.e &&& s.f ^^^ ~~~ s.e &&& s.g) + k + w
def uu (s : S8) : BitVec 32 := sg3 s.a 2 13 22 + (s.a &&& s.b ^^^ s.a &&& s.c ^^^ s.b &&& s.c)
def rnd (k w : BitVec 32) (s : S8) : S8 := ⟨tt k w s + uu s, s.a, s.b, s.c, s.d + tt k w s, s.e, s.f, s.g⟩
def rounds (K W : Nat → BitVec 32) (s : S8) : Nat → S8
  | 0 => s
  | n + 1 => rnd (K n) (W n) (rounds K W s n)
def S8.at (s : S8) : Nat → BitVec 32
  | 0 => s.a
  | 1 => s.b
  | 2 => s.c
  | 3 => s.d
  | 4 => s.e
  | 5 => s.f
  | 6 => s.g
  | _ => s.h
def S8.of (h : Nat → BitVec 32) : S8 := ⟨h 0, h 1, h 2, h 3, h 4, h 5, h 6, h 7⟩
/-- one block more -/
def blk (K : Nat → BitVec 32) (h : Nat → BitVec 32) (l : List UInt8) (j : Nat) : BitVec 32 := h j + (rounds K (Wk l 48) (S8.of h) 64).at j
end Go.Proofs.YtkmkkmdpjliifaaGreatDoor
namespace Go.Proofs.YtkmkkmdpjliifaaGreatDoor
open Go.ChangeShapes Go.WideShapes Go.ChangeAt Go.RowKit

theorem shift7 (x : BitVec 32) (w : World) :
    Calls Tryz.prog 218 #[.int .u32 (wi x), .int .i64 7, .int .i64 18, .int .i64 3] w fun e w' => e = .returned (.int .u32 (wi (sg x 7 18 3))) ∧ ∃ n, w' = w.drewN n :=
  turnAndShift_any x 7 18 3 w (by decide) (by decide) (by decide) (by decide) (by decide) (by decide)
theorem shift17 (x : BitVec 32) (w : World) :
    Calls Tryz.prog 218 #[.int .u32 (wi x), .int .i64 17, .int .i64 19, .int .i64 10] w fun e w' => e = .returned (.int .u32 (wi (sg x 17 19 10))) ∧ ∃ n, w' = w.drewN n :=
  turnAndShift_any x 17 19 10 w (by decide) (by decide) (by decide) (by decide) (by decide) (by decide)
theorem thrice6 (x : BitVec 32) (w : World) :
    Calls Tryz.prog 198 #[.int .u32 (wi x), .int .i64 6, .int .i64 11, .int .i64 25] w fun e w' => e = .returned (.int .u32 (wi (sg3 x 6 11 25))) ∧ w' = w :=
  turnThrice_any x 6 11 25 w (by decide) (by decide) (by decide) (by decide) (by decide) (by decide)
theorem thrice2 (x : BitVec 32) (w : World) :
    Calls Tryz.prog 198 #[.int .u32 (wi x), .int .i64 2, .int .i64 13, .int .i64 22] w fun e w' => e = .returned (.int .u32 (wi (sg3 x 2 13 22))) ∧ w' = w :=
  turnThrice_any x 2 13 22 w (by decide) (by decide) (by decide) (by decide) (by decide) (by decide)

end Go.Proofs.YtkmkkmdpjliifaaGreatDoor
namespace Go.Proofs.YtkmkkmdpjliifaaGreatDoor
open Go.ChangeShapes Go.WideShapes Go.ChangeAt Go.RowKit

/-- how many noughts -/
def zs (n : Nat) : Nat := (119 - n % 64) % 64
/-- the eight bytes of a length, in bits -/
def len8 (n : Nat) (j : Nat) : Nat := 8 * n / 256 ^ (7 - j) % 256
def padL (l : List UInt8) : List UInt8 := (l ++ 128 :: List.replicate (zs l.length) 0) ++ bs 8 (len8 l.length)
theorem zs_dec (n k : Nat) (h : k ≤ zs n) : ((n + 1 + k) % 64 = 56) ↔ k = zs n := by unfold zs at *; omega
theorem padL_length (l : List UInt8) : (padL l).length % 64 = 0 := by
  simp only [padL, List.length_append, List.length_cons, List.length_replicate, bs_length]
  unfold zs; omega

/-- []byte(s): what it makes -/
def capB (w : World) (s : ByteArray) : Nat := grownCap w s.size 0 5
def wB (w : World) (s : ByteArray) : World := w.drew.alloc (.cells (bytesRow s (capB w s)) 5 ((bytesRow s (capB w s)).size, (bytesRow s (capB w s)).size + 1))
end Go.Proofs.YtkmkkmdpjliifaaGreatDoor
namespace Go.Proofs.YtkmkkmdpjliifaaGreatDoor
open Go.ChangeShapes Go.WideShapes Go.ChangeAt Go.RowKit

/-- a slice of bytes -/
def OwnB (w : World) (base : Nat) (v : Value) (l : List Nat) : Prop := w.ownsRow base 5 1 v l.length (l.map (fun x : Nat => Value.int .u8 (x : Int)))

theorem ownsRow_below {w w' : World} {base B : Nat} {e : TypeId} {size : Nat} {v : Value} {n : Nat} {xs : List Value} (h : w.ownsRow base e size v n xs) (hb : Below B w w') (hB : w.heap.size ≤ B) : w'.ownsRow base e size v n xs := by
  have hlt := h.lt
  obtain ⟨h1, h2⟩ := h
  refine ⟨h1, ?_⟩
  rcases h2 with h2 | ⟨g, cap, cur, hv, hg, hh, r⟩
  · exact Or.inl h2
  · have hl := (hlt g (by subst hv; rfl)).2
    exact Or.inr ⟨g, cap, cur, hv, hg, by rw [hb.block g (by omega)]; exact hh, r⟩
theorem OwnB.below {w w' : World} {base : Nat} {v : Value} {l : List Nat} (h : OwnB w base v l) (hb : Below w.heap.size w w') : OwnB w' base v l := ownsRow_below h hb (Nat.le_refl _)
theorem OwnB.lt {w : World} {base : Nat} {v : Value} {l : List Nat} (h : OwnB w base v l) : ∀ k, v.ownBlock = some k → base ≤ k ∧ k < w.heap.size := World.ownsRow.lt h
theorem OwnB.shape {w : World} {base : Nat} {v : Value} {l : List Nat} (h : OwnB w base v l) : (v = .slice none 0 0 ∧ l = []) ∨ ∃ g cap, v = .slice (some ⟨g, 0, none⟩) l.length cap ∧ base ≤ g ∧ g < w.heap.size ∧ Cel w g 0 l.length (fun j => .int .u8 ((l.getD j 0 : Nat) : Int)) := by
  have hlt := h.lt
  obtain ⟨h1, h2⟩ := h
  rcases h2 with ⟨h2, h3⟩ | ⟨g, cap, cur, hv, hg, hh, hc, hm, hs, ht⟩
  · exact Or.inl ⟨h2, List.eq_nil_of_length_eq_zero h3⟩
  · refine Or.inr ⟨g, cap, hv, hg, (hlt g (by subst hv; rfl)).2, fun j hj => ⟨?_, frozen_of_row w g _ cur 5 hh⟩⟩
    rw [cell_of_row w g _ cur 5 _ hh, Nat.zero_add]
    have hx : (l.map (fun x : Nat => Value.int .u8 (x : Int)))[j]? = cur[j]? := by
      rw [← ht, List.getElem?_take_of_lt (by omega)]; simp
    show _ = some (Value.int .u8 ((l.getD j 0 : Nat) : Int))
    rw [← hx, List.getElem?_map, List.getElem?_eq_getElem hj, List.getD_eq_getElem?_getD, List.getElem?_eq_getElem hj]; rfl

theorem app110 {w : World} {ops : Array Oper} {rest : List Oper} {o : Oper} {a : Act} {Q : Exit → Act → World → Prop} (hgd : o.guard = none) (s x : Operand)
    (ho : o.op = .call { callee := .builtin .append, args := #[s, x], argTypes := #[110, 110] })
    (base : Nat) (v : Value) (l : List Nat) (y : Nat) (hs : a.eval s = v) (hown : OwnB w base v l)
    (ad : Addr) (hx : a.eval x = .slice (some ad) 1 1) (hc : w.cell? ad = some (.int .u8 (y : Int))) (hn : l.length ≤ 16777216) (hbase : base ≤ w.heap.size)
    (h : ∀ v' w', OwnB w' base v' (l ++ [y]) → w.grownBy w' v.ownBlock → wpList Tryz.prog ops Q rest (a.put o.dst v') w') : wpList Tryz.prog ops Q (o :: rest) a w := by
  obtain ⟨i0, hi, hz0, hz1, hz2⟩ := info_parts info5
  refine wpList_append_own w hgd s x 110 ho base 5 i0 (.int .u8 0) 1 1 Tryz.underlying110 hi hz0 hz1 hz2 rfl (by decide) v l.length _ hs hown ad 1 1 [.int .u8 (y : Int)] hx rfl ?_ ?_ ?_ ?_ hbase ?_
  · intro j u hj
    match j, hj with
    | 0, hj => simp at hj; subst hj; simpa [Addr.add] using hc
  · intro u hu; simp at hu; subst hu; rfl
  · unfold maxLen; omega
  · omega
  · intro v' w' h1 h2 _
    refine h v' w' ?_ h2
    unfold OwnB
    simpa using h1
theorem below_grown {B base : Nat} {w0 w w' : World} {v : Value} (h : Below B w0 w) (hg : w.grownBy w' v.ownBlock) (hB : B ≤ w.heap.size) (hl : ∀ k, v.ownBlock = some k → base ≤ k ∧ k < w.heap.size) (hb : B ≤ base) : Below B w0 w' :=
  h.grown hg hB (fun k hk => by have := hl k hk; omega)
end Go.Proofs.YtkmkkmdpjliifaaGreatDoor
namespace Go.Proofs.YtkmkkmdpjliifaaGreatDoor
open Go.RowKit

theorem Row.setCells {g : Nat} {t : TypeId} {n : Nat} : ∀ (vs : List Value) (o : Nat) (w : World) (f : Nat → Value), Row w g t n f →
    Row (w.setCells g o vs) g t n (fun j => if o ≤ j ∧ j < o + vs.length then vs.getD (j - o) undef else f j)
  | [], o, w, f, h => by
    refine Row.congr h (fun j _ => ?_)
    rw [if_neg (by simp)]
  | v :: vs, o, w, f, h => by
    have h1 := Row.setCells vs (o + 1) (w.setCell ⟨g, o, none⟩ v) _ (h.set o v)
    refine Row.congr h1 (fun j _ => ?_)
    simp only [List.length_cons]
    by_cases e : j = o
    · subst e
      rw [if_neg (by omega), if_pos rfl, if_pos (by omega), Nat.sub_self]; rfl
    · by_cases e2 : o + 1 ≤ j ∧ j < o + 1 + vs.length
      · rw [if_pos e2, if_pos (by omega), show j - o = (j - (o + 1)) + 1 by omega]; rfl
      · rw [if_neg e2, if_neg e, if_neg (by omega)]
theorem grown_setCell (w : World) (a : Addr) (v : Value) : w.grownBy (w.setCell a v) (some a.block) :=
  ⟨rfl, rfl, rfl, by simp [World.setCell], fun k _ hne => Below.heap_setCell _ _ _ _ (fun e => hne (by rw [e]))⟩
theorem grown_trans {a b c : World} {row : Option Nat} (h : a.grownBy b row) (k : b.grownBy c row) : a.grownBy c row :=
  ⟨k.os.trans h.os, k.tape.trans h.tape, k.output.trans h.output, Nat.le_trans h.size k.size, fun i hi hne => (k.block i (Nat.lt_of_lt_of_le hi h.size) hne).trans (h.block i hi hne)⟩
theorem grown_setCells (g : Nat) : ∀ (vs : List Value) (o : Nat) (w : World), w.grownBy (w.setCells g o vs) (some g)
  | [], _, _ => ⟨rfl, rfl, rfl, Nat.le_refl _, fun _ _ _ => rfl⟩
  | v :: vs, o, w => grown_trans (grown_setCell w ⟨g, o, none⟩ v) (grown_setCells g vs (o + 1) _)

/-- a whole array is read -/
theorem ldRow {ops : Array Oper} {rest : List Oper} {o : Oper} {a : Act} {w : World} {Q : Exit → Act → World → Prop} (hgd : o.guard = none) (ty : TypeId) (x : Operand) (ho : o.op = .load ty x)
    {g n m : Nat} {f : Nat → Value} {t e : TypeId} (hx : a.eval x = .pointer (some ⟨g, 0, none⟩)) (hRow : Row w g t n f) (hu : Tryz.prog.underlying ty = some (.array m e)) (hi : (Tryz.prog.info? ty).map (·.size) = some n)
    (h : wpList Tryz.prog ops Q rest (a.put o.dst (.agg (arrOf n f))) w) : wpList Tryz.prog ops Q (o :: rest) a w :=
  wpList_load_row hgd ty x ho g hx t (arrOf n f) (0, 0) _ hRow.whole hu rfl (by rw [arrOf_size]; exact hi) h
/-- a whole array is written -/
theorem stRow {ops : Array Oper} {rest : List Oper} {o : Oper} {a : Act} {w : World} {Q : Exit → Act → World → Prop} (hgd : o.guard = none) (ty : TypeId) (x y : Operand) (ho : o.op = .store ty x y)
    {g n : Nat} {f f' : Nat → Value} {t : TypeId} (hx : a.eval x = .pointer (some ⟨g, 0, none⟩)) (hy : a.eval y = .agg (arrOf n f)) (hRow : Row w g t n f') (hi : (Tryz.prog.info? ty).map (·.size) = some n) (h1 : ∀ j, j < n → (f j).oneCell' = true)
    (h : ∀ w', Row w' g t n f → w.grownBy w' (some g) → wpList Tryz.prog ops Q rest (a.put o.dst undef) w') : wpList Tryz.prog ops Q (o :: rest) a w := by
  refine wpList_store_mid hgd ty x y ho g 0 (arrOf n f) hx hy (fun j hj => ?_) (by rw [arrOf_size]; exact hi) ?_ (h _ ?_ (grown_setCells g _ 0 w))
  · rw [arrOf_size] at hj
    rw [Nat.zero_add]
    exact ⟨by rw [hRow.cell hj]; rfl, hRow.frozen j⟩
  · rw [Array.all_eq_true]
    intro i hi2
    have h2 := arrOf_get n f i (by rw [arrOf_size] at hi2; exact hi2)
    rw [Array.getElem?_eq_getElem hi2] at h2
    rw [Option.some.inj h2]
    exact h1 i (by rw [arrOf_size] at hi2; exact hi2)
  · refine (Row.setCells (arrOf n f).toList 0 w f' hRow).congr (fun j hj => ?_)
    rw [if_pos ⟨Nat.zero_le _, by rw [Array.length_toList, arrOf_size]; omega⟩, Nat.sub_zero, List.getD_eq_getElem?_getD, Array.getElem?_toList, arrOf_get n f j hj]
    rfl
end Go.Proofs.YtkmkkmdpjliifaaGreatDoor
