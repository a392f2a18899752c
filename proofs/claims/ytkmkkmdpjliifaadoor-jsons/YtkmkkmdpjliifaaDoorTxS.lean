import Derived.Test.YtkmkkmdpjliifaaDoorTxM
namespace Go.Proofs.YtkmkkmdpjliifaaDoor

/-- the byte at a place (0 behind the end) -/
def by_ (l : List UInt8) (p : Nat) : Nat := (l.getD p 0).toNat
theorem by_lt (l : List UInt8) (p : Nat) : by_ l p < 256 := (l.getD p 0).toNat_lt
theorem by_get (s : ByteArray) (p : Nat) (h : p < s.size) : (s[p]'h).toNat = by_ s.data.toList p := by
  unfold by_
  have : s.data.toList.getD p 0 = s[p] := by
    rw [List.getD_eq_getElem?_getD, List.getElem?_eq_getElem (by simpa using h)]
    rfl
  rw [this]
/-- n bytes at p, the high one first -/
def num (l : List UInt8) (p : Nat) : Nat → Nat
  | 0 => 0
  | n + 1 => 256 * num l p n + by_ l (p + n)
theorem num_lt (l : List UInt8) (p : Nat) : ∀ n, num l p n < 256 ^ n
  | 0 => by simp [num]
  | n + 1 => by have := num_lt l p n; have := by_lt l (p + n); rw [num, Nat.pow_succ]; omega
def wordAt (l : List UInt8) (p : Nat) : BitVec 32 := BitVec.ofNat 32 (num l p 4)
theorem wi_wordAt (l : List UInt8) (p : Nat) : wi (wordAt l p) = (num l p 4 : Int) := by
  have := num_lt l p 4
  unfold wi wordAt; rw [BitVec.toNat_ofNat]; omega
/-- the four bytes of a word, the high one first -/
def b4 (x : BitVec 32) (j : Nat) : Nat := x.toNat / 256 ^ (3 - j) % 256
def b4s (x : BitVec 32) : List UInt8 := [UInt8.ofNat (b4 x 0), UInt8.ofNat (b4 x 1), UInt8.ofNat (b4 x 2), UInt8.ofNat (b4 x 3)]

theorem orN32 (x y : Nat) (hx : x < 4294967296) (hy : y < 4294967296) : bits .or .u32 (x : Int) (y : Int) = ((x ||| y : Nat) : Int) := by
  rw [← wi_ofNat x hx, ← wi_ofNat y hy, or32]
  unfold wi
  rw [BitVec.toNat_or, BitVec.toNat_ofNat, BitVec.toNat_ofNat, Nat.mod_eq_of_lt (by omega), Nat.mod_eq_of_lt (by omega)]
theorem or_add (x i y : Nat) (h : y < 2 ^ i) : 2 ^ i * x ||| y = 2 ^ i * x + y := (Nat.two_pow_add_eq_or_of_lt h x).symm
theorem word_or (l : List UInt8) (p : Nat) :
    bits .or .u32 (bits .or .u32 (bits .or .u32 ((by_ l p : Int) % 4294967296 * 16777216 % 4294967296) ((by_ l (p + 1) : Int) % 4294967296 * 65536 % 4294967296)) ((by_ l (p + 2) : Int) % 4294967296 * 256 % 4294967296)) ((by_ l (p + 3) : Int) % 4294967296) = wi (wordAt l p) := by
  rw [wi_wordAt]
  have h0 := by_lt l p
  have h1 := by_lt l (p + 1)
  have h2 := by_lt l (p + 2)
  have h3 := by_lt l (p + 3)
  simp only [num, Nat.add_zero, Nat.mul_zero, Nat.zero_add]
  generalize by_ l p = a at *
  generalize by_ l (p + 1) = b at *
  generalize by_ l (p + 2) = c at *
  generalize by_ l (p + 3) = d at *
  rw [show (a : Int) % 4294967296 * 16777216 % 4294967296 = ((2 ^ 24 * a : Nat) : Int) by omega, show (b : Int) % 4294967296 * 65536 % 4294967296 = ((2 ^ 16 * b : Nat) : Int) by omega,
    show (c : Int) % 4294967296 * 256 % 4294967296 = ((2 ^ 8 * c : Nat) : Int) by omega, show (d : Int) % 4294967296 = (d : Int) by omega]
  rw [orN32 _ _ (by omega) (by omega), or_add a 24 _ (by omega), show 2 ^ 24 * a + 2 ^ 16 * b = 2 ^ 16 * (256 * a + b) by omega]
  rw [orN32 _ _ (by omega) (by omega), or_add _ 16 _ (by omega), show 2 ^ 16 * (256 * a + b) + 2 ^ 8 * c = 2 ^ 8 * (256 * (256 * a + b) + c) by omega]
  rw [orN32 _ _ (by omega) (by omega), or_add _ 8 _ (by omega)]
/-- s and the three turns of the document -/
def sg (x : BitVec 32) (a b c : Nat) : BitVec 32 := rotr x a ^^^ rotr x b ^^^ x >>> c
def sg3 (x : BitVec 32) (a b c : Nat) : BitVec 32 := rotr x a ^^^ rotr x b ^^^ rotr x c
def wext (f : Nat → BitVec 32) (t : Nat) : BitVec 32 := f (t - 16) + sg (f (t - 15)) 7 18 3 + f (t - 7) + sg (f (t - 2)) 17 19 10
/-- the words of a block, 16 and n of them -/
def Wk (l : List UInt8) : Nat → Nat → BitVec 32
  | 0 => fun t => wordAt l (4 * t)
  | n + 1 => fun t => if t = 16 + n then wext (Wk l n) t else Wk l n t
structure S8 where
  a : BitVec 32
  b : BitVec 32
  c : BitVec 32
  d : BitVec 32
  e : BitVec 32
  f : BitVec 32
  g : BitVec 32
  h : BitVec 32
def tt (k w : BitVec 32) (s : S8) : BitVec 32 := s.h + sg3 s.e 6 11 25 + (s.e &&& s.f ^^^ ~~~ s.e &&& s.g) + k + w
def uu (s : S8) : BitVec 32 := sg3 s.a 2 13 22 + (s.a &&& s.b ^^^ s.a &&& s.c ^^^ s.b &&& s.c)
def rnd (k w : BitVec 32) (s : S8) : S8 := ⟨tt k w s + uu s, s.a, s.b, s.c, s.d + tt k w s, s.e, s.f, s.g⟩
def rounds (K W : Nat → BitVec 32) (s : S8) : Nat → S8
  | 0 => s
  | n + 1 => rnd (K n) (W n) (rounds K W s n)
def S8.at (s : S8) : Nat → BitVec 32
  | 0 => s.a
  | 1 => s.b
  | 2 => s.c
  | 3 => s.d
  | 4 => s.e
  | 5 => s.f
  | 6 => s.g
  | _ => s.h
theorem S8.cells (s : S8) (F : BitVec 32 → Go.Value) (j : Nat) (hj : j < 8) : #[F s.a, F s.b, F s.c, F s.d, F s.e, F s.f, F s.g, F s.h][j]? = some (F (s.at j)) := by
  have : j = 0 ∨ j = 1 ∨ j = 2 ∨ j = 3 ∨ j = 4 ∨ j = 5 ∨ j = 6 ∨ j = 7 := by omega
  rcases this with rfl | rfl | rfl | rfl | rfl | rfl | rfl | rfl <;> rfl
def S8.of (h : Nat → BitVec 32) : S8 := ⟨h 0, h 1, h 2, h 3, h 4, h 5, h 6, h 7⟩
/-- one block more -/
def blk (K : Nat → BitVec 32) (h : Nat → BitVec 32) (l : List UInt8) (j : Nat) : BitVec 32 := h j + (rounds K (Wk l 48) (S8.of h) 64).at j
end Go.Proofs.YtkmkkmdpjliifaaDoor
