import Derived.Test.YtkmkkmdpjliifaaDoorTxM
namespace Go.Proofs.YtkmkkmdpjliifaaDoor

/-- the words at first, and the 64 of the rounds -/
def hN : List Nat := [1779033703, 3144134277, 1013904242, 2773480762, 1359893119, 2600822924, 528734635, 1541459225]
def kN : List Nat := [1116352408, 1899447441, 3049323471, 3921009573, 961987163, 1508970993, 2453635748, 2870763221, 3624381080, 310598401, 607225278, 1426881987, 1925078388, 2162078206, 2614888103, 3248222580, 3835390401, 4022224774, 264347078, 604807628, 770255983, 1249150122, 1555081692, 1996064986, 2554220882, 2821834349, 2952996808, 3210313671, 3336571891, 3584528711, 113926993, 338241895, 666307205, 773529912, 1294757372, 1396182291, 1695183700, 1986661051, 2177026350, 2456956037, 2730485921, 2820302411, 3259730800, 3345764771, 3516065817, 3600352804, 4094571909, 275423344, 430227734, 506948616, 659060556, 883997877, 958139571, 1322822218, 1537002063, 1747873779, 1955562222, 2024104815, 2227730452, 2361852424, 2428436474, 2756734187, 3204031479, 3329325298]
def H0 (j : Nat) : BitVec 32 := BitVec.ofNat 32 (hN.getD j 0)
def K0 (j : Nat) : BitVec 32 := BitVec.ofNat 32 (kN.getD j 0)
/-- what stands ahead of the point of the roots -/
def q2 : List Nat := [1, 1, 2, 2, 3, 3, 4, 4]
def q3 : List Nat := [1, 1, 1, 1, 2, 2, 2, 2, 2, 3, 3, 3, 3, 3, 3, 3, 3, 3, 4, 4, 4, 4, 4, 4, 4, 4, 4, 4, 4, 4, 5, 5, 5, 5, 5, 5, 5, 5, 5, 5, 5, 5, 5, 5, 5, 5, 5, 6, 6, 6, 6, 6, 6, 6, 6, 6, 6, 6, 6, 6, 6, 6, 6, 6]
def pN : List Nat := [2, 3, 5, 7, 11, 13, 17, 19, 23, 29, 31, 37, 41, 43, 47, 53, 59, 61, 67, 71, 73, 79, 83, 89, 97, 101, 103, 107, 109, 113, 127, 131, 137, 139, 149, 151, 157, 163, 167, 173, 179, 181, 191, 193, 197, 199, 211, 223, 227, 229, 233, 239, 241, 251, 257, 263, 269, 271, 277, 281, 283, 293, 307, 311]
theorem hN_ok : ∀ j, j < 8 → (q2.getD j 0 * 4294967296 + hN.getD j 0) * (q2.getD j 0 * 4294967296 + hN.getD j 0) ≤ pN.getD j 0 * 65536 ^ 4 ∧
    pN.getD j 0 * 65536 ^ 4 < (q2.getD j 0 * 4294967296 + hN.getD j 0 + 1) * (q2.getD j 0 * 4294967296 + hN.getD j 0 + 1) ∧ hN.getD j 0 < 4294967296 := by decide +kernel
theorem kN_ok : ∀ j, j < 64 → (q3.getD j 0 * 4294967296 + kN.getD j 0) * (q3.getD j 0 * 4294967296 + kN.getD j 0) * (q3.getD j 0 * 4294967296 + kN.getD j 0) ≤ pN.getD j 0 * 65536 ^ 6 ∧
    pN.getD j 0 * 65536 ^ 6 < (q3.getD j 0 * 4294967296 + kN.getD j 0 + 1) * (q3.getD j 0 * 4294967296 + kN.getD j 0 + 1) * (q3.getD j 0 * 4294967296 + kN.getD j 0 + 1) ∧ kN.getD j 0 < 4294967296 := by decide +kernel
theorem sq_one {x y t : Nat} (h1 : x * x ≤ t) (h2 : t < (y + 1) * (y + 1)) : x ≤ y := by
  rcases Nat.lt_or_ge y x with h | h
  · have : (y + 1) * (y + 1) ≤ x * x := Nat.mul_le_mul h h
    omega
  · exact h
theorem cu_one {x y t : Nat} (h1 : x * x * x ≤ t) (h2 : t < (y + 1) * (y + 1) * (y + 1)) : x ≤ y := by
  rcases Nat.lt_or_ge y x with h | h
  · have : (y + 1) * (y + 1) * (y + 1) ≤ x * x * x := Nat.mul_le_mul (Nat.mul_le_mul h h) h
    omega
  · exact h
theorem hN_root (j x : Nat) (hj : j < 8) (h1 : x * x ≤ pN.getD j 0 * 65536 ^ 4) (h2 : pN.getD j 0 * 65536 ^ 4 < (x + 1) * (x + 1)) : x % 4294967296 = hN.getD j 0 := by
  obtain ⟨a, b, c⟩ := hN_ok j hj
  have := sq_one h1 b
  have := sq_one a h2
  omega
theorem kN_root (j x : Nat) (hj : j < 64) (h1 : x * x * x ≤ pN.getD j 0 * 65536 ^ 6) (h2 : pN.getD j 0 * 65536 ^ 6 < (x + 1) * (x + 1) * (x + 1)) : x % 4294967296 = kN.getD j 0 := by
  obtain ⟨a, b, c⟩ := kN_ok j hj
  have := cu_one h1 b
  have := cu_one a h2
  omega
theorem wi_H0 (j : Nat) (hj : j < 8) : wi (H0 j) = (hN.getD j 0 : Nat) := wi_ofNat _ (hN_ok j hj).2.2
theorem wi_K0 (j : Nat) (hj : j < 64) : wi (K0 j) = (kN.getD j 0 : Nat) := wi_ofNat _ (kN_ok j hj).2.2
theorem hN_length : hN.length = 8 := rfl
theorem kN_length : kN.length = 64 := rfl
theorem pN_lt : ∀ j, j < 64 → pN.getD j 0 < 1000 := by decide +kernel
theorem take_snocN (l : List Nat) (k : Nat) (h : k < l.length) : l.take (k + 1) = l.take k ++ [l.getD k 0] := by
  rw [List.take_succ_eq_append_getElem h, List.getD_eq_getElem?_getD, List.getElem?_eq_getElem h]; rfl
end Go.Proofs.YtkmkkmdpjliifaaDoor
