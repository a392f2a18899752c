import Derived.Test.YtkmkkmdpjliifaaDoorTxC
namespace Go.Proofs.YtkmkkmdpjliifaaDoor
open Go.ChangeShapes Go.WideShapes Go.ChangeAt Go.RowKit

/-- the words after n blocks -/
def hk (K H : Nat → BitVec 32) (P : List UInt8) : Nat → Nat → BitVec 32
  | 0 => H
  | n + 1 => blk K (hk K H P n) ((P.drop (64 * n)).take 64)
/-- the hash -/
def shaF (K H : Nat → BitVec 32) (l : List UInt8) (j : Nat) : Nat := b4 (hk K H (padL l) ((padL l).length / 64) (j / 4)) (j % 4)
def shaL (K H : Nat → BitVec 32) (l : List UInt8) : List UInt8 := bs 32 (shaF K H l)
theorem bs_four (f : Nat → Nat) (g : Nat → BitVec 32) (hf : ∀ j, f j = b4 (g (j / 4)) (j % 4)) (k : Nat) : bs (4 * k) f ++ b4s (g k) = bs (4 * (k + 1)) f := by
  have e : ∀ i, i < 4 → UInt8.ofNat (f (4 * k + i)) = UInt8.ofNat (b4 (g k) i) := fun i hi => by
    rw [hf, show (4 * k + i) / 4 = k by omega, show (4 * k + i) % 4 = i by omega]
  rw [show 4 * (k + 1) = 4 * k + 1 + 1 + 1 + 1 by omega]
  unfold bs b4s
  rw [List.range_succ, List.range_succ, List.range_succ, List.range_succ]
  simp only [List.map_append, List.map_cons, List.map_nil, List.append_assoc, List.cons_append, List.nil_append]
  rw [show 4 * k + 1 + 1 + 1 = 4 * k + 3 by omega, show 4 * k + 1 + 1 = 4 * k + 2 by omega, e 3 (by omega), e 2 (by omega), e 1 (by omega)]
  have e0 := e 0 (by omega)
  rw [Nat.add_zero] at e0
  rw [e0]
/-- a block of the key, some bits of each byte turned -/
def tk (l : List UInt8) (m : Nat) : List UInt8 := bs 64 (fun j => by_ l j ^^^ m)
theorem tk_length (l : List UInt8) (m : Nat) : (tk l m).length = 64 := bs_length _ _
theorem shaL_length (K H : Nat → BitVec 32) (l : List UInt8) : (shaL K H l).length = 32 := bs_length _ _
theorem by_zeros (l : List UInt8) (n j : Nat) : by_ (l ++ List.replicate n 0) j = by_ l j := by
  unfold by_
  rw [List.getD_eq_getElem?_getD, List.getD_eq_getElem?_getD]
  rcases Nat.lt_or_ge j l.length with h | h
  · rw [List.getElem?_append_left h]
  · rw [List.getElem?_append_right h, List.getElem?_eq_none (l := l) h]
    rcases Nat.lt_or_ge (j - l.length) n with h2 | h2
    · rw [List.getElem?_replicate_of_lt h2]; rfl
    · rw [List.getElem?_eq_none (by simpa using h2)]
theorem tk_zeros (l : List UInt8) (n m : Nat) : tk (l ++ List.replicate n 0) m = tk l m := by
  unfold tk; congr 1; funext j; rw [by_zeros]
/-- a key of more than 64 bytes is its hash -/
def keyL (K H : Nat → BitVec 32) (key : List UInt8) : List UInt8 := if 64 < key.length then shaL K H key else key
theorem keyL_le (K H : Nat → BitVec 32) (key : List UInt8) : (keyL K H key).length ≤ 64 := by
  unfold keyL; split
  · rw [shaL_length]; omega
  · omega
/-- the mac -/
def macL (K H : Nat → BitVec 32) (key text : List UInt8) : List UInt8 := shaL K H (tk (keyL K H key) 92 ++ shaL K H (tk (keyL K H key) 54 ++ text))
theorem padL_le (l : List UInt8) : (padL l).length ≤ l.length + 72 := by
  simp only [padL, List.length_append, List.length_cons, List.length_replicate, bs_length]
  unfold zs; omega
end Go.Proofs.YtkmkkmdpjliifaaDoor
