import Derived.WalkKit
namespace Go.Proofs.YtkmkkmdpjliifaaDoor
open Go.RowKit

/-- A word of 32 bits, as the number that it is. -/
def wi (x : BitVec 32) : Int := (x.toNat : Int)
theorem wi_nn (x : BitVec 32) : 0 ≤ wi x := Int.natCast_nonneg _
theorem wi_lt (x : BitVec 32) : wi x < 4294967296 := by
  have := x.isLt; unfold wi; omega
theorem ofInt_wi (x : BitVec 32) : BitVec.ofInt 32 (wi x) = x := by
  unfold wi; rw [BitVec.ofInt_natCast]; simp
theorem wrap_wi (x : BitVec 32) : IntKind.u32.wrap (x.toNat : Int) = wi x := by
  have := x.isLt; rw [IntKind.wrap_u32]; unfold wi; omega
theorem xor32 (a b : BitVec 32) : bits .xor .u32 (wi a) (wi b) = wi (a ^^^ b) := by
  show IntKind.u32.wrap ((BitVec.ofInt 32 (wi a) ^^^ BitVec.ofInt 32 (wi b)).toNat : Int) = _
  rw [ofInt_wi, ofInt_wi, wrap_wi]
theorem and32 (a b : BitVec 32) : bits .and .u32 (wi a) (wi b) = wi (a &&& b) := by
  show IntKind.u32.wrap ((BitVec.ofInt 32 (wi a) &&& BitVec.ofInt 32 (wi b)).toNat : Int) = _
  rw [ofInt_wi, ofInt_wi, wrap_wi]
theorem or32 (a b : BitVec 32) : bits .or .u32 (wi a) (wi b) = wi (a ||| b) := by
  show IntKind.u32.wrap ((BitVec.ofInt 32 (wi a) ||| BitVec.ofInt 32 (wi b)).toNat : Int) = _
  rw [ofInt_wi, ofInt_wi, wrap_wi]
theorem add32 (a b : BitVec 32) : IntKind.u32.wrap (wi a + wi b) = wi (a + b) := by
  rw [IntKind.wrap_u32]; unfold wi; rw [BitVec.toNat_add]; omega
theorem ofInt64 (a : BitVec 32) : (BitVec.ofInt 64 (wi a)).toNat = a.toNat := by
  have := a.isLt
  unfold wi; rw [BitVec.ofInt_natCast, BitVec.toNat_ofNat]; omega
theorem wrap64_wi (a : BitVec 32) : IntKind.i64.wrap (a.toNat : Int) = wi a := by
  have := a.isLt; rw [IntKind.wrap_i64]; unfold wi; omega
theorem xor64 (a b : BitVec 32) : bits .xor .i64 (wi a) (wi b) = wi (a ^^^ b) := by
  show IntKind.i64.wrap ((BitVec.ofInt 64 (wi a) ^^^ BitVec.ofInt 64 (wi b)).toNat : Int) = _
  rw [BitVec.toNat_xor, ofInt64, ofInt64, ← BitVec.toNat_xor, wrap64_wi]
theorem and64 (a b : BitVec 32) : bits .and .i64 (wi a) (wi b) = wi (a &&& b) := by
  show IntKind.i64.wrap ((BitVec.ofInt 64 (wi a) &&& BitVec.ofInt 64 (wi b)).toNat : Int) = _
  rw [BitVec.toNat_and, ofInt64, ofInt64, ← BitVec.toNat_and, wrap64_wi]
theorem not64 (a : BitVec 32) : 4294967295 - wi a = wi (~~~ a) := by
  have := a.isLt
  unfold wi; rw [BitVec.toNat_not]; omega
theorem add64 (a b : BitVec 32) : (wi a + wi b) % 4294967296 = wi (a + b) := by
  unfold wi; rw [BitVec.toNat_add]; omega
theorem add64' (a b : BitVec 32) (r : Int) : (wi a + wi b + r) % 4294967296 = (wi (a + b) + r) % 4294967296 := by
  unfold wi; rw [BitVec.toNat_add]; omega
/-- turned right, by less than 32 -/
def rotr (x : BitVec 32) (k : Nat) : BitVec 32 := x.rotateRight k
theorem rotr_eq (x : BitVec 32) (k : Nat) (h : k < 32) : rotr x k = (x >>> k ||| x <<< (32 - k)) := by
  unfold rotr BitVec.rotateRight BitVec.rotateRightAux
  rw [Nat.mod_eq_of_lt h]
theorem wi_shr (x : BitVec 32) (k : Nat) : wi (x >>> k) = wi x / 2 ^ k := by
  unfold wi
  rw [BitVec.toNat_ushiftRight, Nat.shiftRight_eq_div_pow]
  push_cast
  rfl
theorem wi_shl (x : BitVec 32) (k : Nat) : wi (x <<< k) = (wi x * 2 ^ k) % 4294967296 := by
  unfold wi
  rw [BitVec.toNat_shiftLeft, Nat.shiftLeft_eq, Int.natCast_emod, Int.natCast_mul, Int.natCast_pow]
  rfl
theorem wi_or (a b : BitVec 32) : wi (a ||| b) = ((a.toNat ||| b.toNat : Nat) : Int) := by unfold wi; rw [BitVec.toNat_or]
theorem rot32 (x : BitVec 32) (k : Nat) (_h0 : 0 < k) (h : k < 32) :
    bits .or .u32 (IntKind.u32.wrap (wi x * 2 ^ (32 - k))) (wi x / 2 ^ k) = wi (rotr x k) := by
  rw [IntKind.wrap_u32, ← wi_shl, ← wi_shr, or32, rotr_eq x k h, BitVec.or_comm]
theorem rot64 (x : BitVec 32) (k : Nat) (h0 : 0 < k) (h : k < 32) :
    (bits .or .i64 (wi x / 2 ^ k) (wrap64 (wi x * 2 ^ (32 - k)))).tmod 4294967296 = wi (rotr x k) := by
  have hx := x.isLt
  have hp : (2:Nat) ^ (32 - k) ≤ 2 ^ 31 := Nat.pow_le_pow_right (by decide) (by omega)
  have hm : x.toNat * 2 ^ (32 - k) < 2 ^ 32 * 2 ^ 31 := by
    have h1 : x.toNat * 2 ^ (32 - k) ≤ x.toNat * 2 ^ 31 := Nat.mul_le_mul_left _ hp
    omega
  have e1 : wrap64 (wi x * 2 ^ (32 - k)) = ((x.toNat * 2 ^ (32 - k) : Nat) : Int) := by
    have e : wi x * 2 ^ (32 - k) = ((x.toNat * 2 ^ (32 - k) : Nat) : Int) := by unfold wi; push_cast; rfl
    rw [e]; unfold wrap64; omega
  have e2 : wi x / 2 ^ k = ((x.toNat / 2 ^ k : Nat) : Int) := by unfold wi; push_cast; rfl
  have hd : x.toNat / 2 ^ k ≤ x.toNat := Nat.div_le_self _ _
  rw [e1, e2]
  have e3 : bits .or .i64 ((x.toNat / 2 ^ k : Nat) : Int) ((x.toNat * 2 ^ (32 - k) : Nat) : Int) = ((x.toNat / 2 ^ k ||| x.toNat * 2 ^ (32 - k) : Nat) : Int) := by
    have ho : x.toNat / 2 ^ k ||| x.toNat * 2 ^ (32 - k) < 2 ^ 63 := Nat.or_lt_two_pow (by omega) (by omega)
    show IntKind.i64.wrap ((BitVec.ofInt 64 _ ||| BitVec.ofInt 64 _).toNat : Int) = _
    rw [BitVec.toNat_or, BitVec.ofInt_natCast, BitVec.ofInt_natCast, BitVec.toNat_ofNat, BitVec.toNat_ofNat, Nat.mod_eq_of_lt (by omega), Nat.mod_eq_of_lt (by omega), IntKind.wrap_i64]
    omega
  rw [e3, rotr_eq x k h, wi_or, BitVec.toNat_ushiftRight, BitVec.toNat_shiftLeft, Nat.shiftRight_eq_div_pow, Nat.shiftLeft_eq]
  rw [Int.tmod_eq_emod_of_nonneg (Int.natCast_nonneg _)]
  have e4 : (x.toNat / 2 ^ k ||| x.toNat * 2 ^ (32 - k)) % 2 ^ 32 = (x.toNat / 2 ^ k ||| x.toNat * 2 ^ (32 - k) % 2 ^ 32) := by
    rw [Nat.or_mod_two_pow, Nat.mod_eq_of_lt (a := x.toNat / 2 ^ k) (by omega)]
  rw [← e4, Int.natCast_emod]
  rfl
theorem w64 (n : Int) (h0 : -9223372036854775808 ≤ n) (h1 : n < 9223372036854775808) : wrap64 n = n := by unfold wrap64; omega
theorem tmodw (n : Int) (h : 0 ≤ n) : n.tmod 4294967296 = n % 4294967296 := Int.tmod_eq_emod_of_nonneg h
theorem sum2 (a b : BitVec 32) : (wrap64 (wi a + wi b)).tmod 4294967296 = wi (a + b) := by
  have := wi_nn a; have := wi_nn b; have := wi_lt a; have := wi_lt b
  rw [w64 _ (by omega) (by omega), tmodw _ (by omega), add64]
theorem sum3 (a b c : BitVec 32) : (wrap64 (wrap64 (wi a + wi b) + wi c)).tmod 4294967296 = wi (a + b + c) := by
  have := wi_nn a; have := wi_nn b; have := wi_lt a; have := wi_lt b; have := wi_nn c; have := wi_lt c
  rw [w64 (wi a + wi b) (by omega) (by omega), w64 _ (by omega) (by omega), tmodw _ (by omega), add64', add64]
theorem sum4 (a b c d : BitVec 32) : (wrap64 (wrap64 (wrap64 (wi a + wi b) + wi c) + wi d)).tmod 4294967296 = wi (a + b + c + d) := by
  have := wi_nn a; have := wi_nn b; have := wi_lt a; have := wi_lt b; have := wi_nn c; have := wi_lt c; have := wi_nn d; have := wi_lt d
  rw [w64 (wi a + wi b) (by omega) (by omega), w64 (wi a + wi b + wi c) (by omega) (by omega), w64 _ (by omega) (by omega), tmodw _ (by omega)]
  rw [show wi a + wi b + wi c + wi d = wi a + wi b + (wi c + wi d) by omega, add64', ← Int.add_assoc, add64', add64]
theorem sum5 (a b c d e : BitVec 32) : (wrap64 (wrap64 (wrap64 (wrap64 (wi a + wi b) + wi c) + wi d) + wi e)).tmod 4294967296 = wi (a + b + c + d + e) := by
  have := wi_nn a; have := wi_nn b; have := wi_lt a; have := wi_lt b; have := wi_nn c; have := wi_lt c; have := wi_nn d; have := wi_lt d; have := wi_nn e; have := wi_lt e
  rw [w64 (wi a + wi b) (by omega) (by omega), w64 (wi a + wi b + wi c) (by omega) (by omega), w64 (wi a + wi b + wi c + wi d) (by omega) (by omega), w64 _ (by omega) (by omega), tmodw _ (by omega)]
  rw [show wi a + wi b + wi c + wi d + wi e = wi a + wi b + (wi c + wi d + wi e) by omega, add64', show wi (a + b) + (wi c + wi d + wi e) = wi (a + b) + wi c + (wi d + wi e) by omega, add64', ← Int.add_assoc, add64', add64]
theorem not64w (a : BitVec 32) : wrap64 (4294967295 - wi a) = wi (~~~ a) := by
  have := wi_nn a; have := wi_lt a
  rw [w64 _ (by omega) (by omega), not64]
theorem wi_ofNat (a : Nat) (h : a < 4294967296) : wi (BitVec.ofNat 32 a) = (a : Int) := by
  unfold wi; rw [BitVec.toNat_ofNat]; omega
theorem xorN (a b : Nat) (ha : a < 256) (hb : b < 256) : bits .xor .i64 (a : Int) (b : Int) = ((a ^^^ b : Nat) : Int) := by
  rw [← wi_ofNat a (by omega), ← wi_ofNat b (by omega), xor64]
  unfold wi
  rw [BitVec.toNat_xor, BitVec.toNat_ofNat, BitVec.toNat_ofNat, Nat.mod_eq_of_lt (by omega), Nat.mod_eq_of_lt (by omega)]
theorem xorN_lt (a b : Nat) (ha : a < 256) (hb : b < 256) : a ^^^ b < 256 := Nat.xor_lt_two_pow (n := 8) ha hb
theorem xor8 (a b : Nat) (ha : a < 256) (hb : b < 256) : bits .xor .u8 (a : Int) (b : Int) = ((a ^^^ b : Nat) : Int) := by
  have h := xorN_lt a b ha hb
  show IntKind.u8.wrap ((BitVec.ofInt 8 (a : Int) ^^^ BitVec.ofInt 8 (b : Int)).toNat : Int) = _
  rw [BitVec.toNat_xor, BitVec.ofInt_natCast, BitVec.ofInt_natCast, BitVec.toNat_ofNat, BitVec.toNat_ofNat, Nat.mod_eq_of_lt (by omega), Nat.mod_eq_of_lt (by omega), IntKind.wrap_u8]
  omega
theorem bits_u64_31 (k : Nat) (h0 : 0 < k) (h : k < 32) : bits .and .u64 (IntKind.u64.wrap (-(k : Int))) 31 = 32 - (k : Int) := by
  have : ∀ k : Fin 32, 0 < k.val → bits .and .u64 (IntKind.u64.wrap (-(k.val : Int))) 31 = 32 - (k.val : Int) := by decide
  exact this ⟨k, h⟩ h0
end Go.Proofs.YtkmkkmdpjliifaaDoor
