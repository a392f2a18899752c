namespace Go.Proofs.YtkmkkmdpjliifaaDoor

/-- what the first n of numbers of 16 bits each come to, the lowest first -/
def V (f : Nat → Nat) : Nat → Nat
  | 0 => 0
  | n + 1 => V f n + f n * 65536 ^ n
theorem V_congr {f g : Nat → Nat} : ∀ {n : Nat}, (∀ j, j < n → f j = g j) → V f n = V g n
  | 0, _ => rfl
  | n + 1, h => by rw [V, V, V_congr (fun j hj => h j (by omega)), h n (by omega)]
theorem V_lt {f : Nat → Nat} : ∀ {n : Nat}, (∀ j, j < n → f j < 65536) → V f n < 65536 ^ n
  | 0, _ => by simp [V]
  | n + 1, h => by
    have h1 := V_lt (fun j hj => h j (by omega : j < n + 1)) (n := n)
    have h2 : f n * 65536 ^ n ≤ 65535 * 65536 ^ n := Nat.mul_le_mul_right _ (by have := h n (by omega); omega)
    rw [V, Nat.pow_succ]; omega
theorem V_upd (f : Nat → Nat) (p d : Nat) : ∀ {n : Nat}, p < n → V (fun j => if j = p then f p + d else f j) n = V f n + d * 65536 ^ p
  | 0, h => by omega
  | n + 1, h => by
    rw [V, V]
    by_cases e : p = n
    · subst e
      rw [V_congr (g := f) (fun j hj => if_neg (by omega)), if_pos rfl, Nat.add_mul]; omega
    · rw [V_upd f p d (by omega : p < n), if_neg (fun h => e h.symm)]; omega
theorem V_put (f : Nat → Nat) (p x : Nat) {n : Nat} (h : p < n) : V (fun j => if j = p then x else f j) n + f p * 65536 ^ p = V f n + x * 65536 ^ p := by
  have h1 := V_upd (fun j => if j = p then 0 else f j) p (f p) h
  have h2 := V_upd (fun j => if j = p then 0 else f j) p x h
  have e1 : V (fun j => if j = p then (if p = p then 0 else f p) + f p else if j = p then 0 else f j) n = V f n := V_congr (fun j _ => by
    by_cases e : j = p
    · subst e; simp
    · simp [e])
  have e2 : V (fun j => if j = p then (if p = p then 0 else f p) + x else if j = p then 0 else f j) n = V (fun j => if j = p then x else f j) n := V_congr (fun j _ => by
    by_cases e : j = p
    · subst e; simp
    · simp [e])
  have h1' := e1.symm.trans h1
  have h2' := e2.symm.trans h2
  omega
/-- what goes over goes to the next -/
theorem V_carry (f : Nat → Nat) (p : Nat) {n : Nat} (h : p + 1 < n) :
    V (fun j => if j = p then f p % 65536 else if j = p + 1 then f (p + 1) + f p / 65536 else f j) n = V f n := by
  have h1 := V_upd f (p + 1) (f p / 65536) h
  have h2 := V_put (fun j => if j = p + 1 then f (p + 1) + f p / 65536 else f j) p (f p % 65536) (show p < n by omega)
  rw [if_neg (show ¬ p = p + 1 by omega), h1] at h2
  have e3 : f p / 65536 * 65536 ^ (p + 1) = f p / 65536 * 65536 * 65536 ^ p := by rw [Nat.pow_succ, Nat.mul_assoc, Nat.mul_comm (65536 ^ p)]
  have e4 : f p * 65536 ^ p = f p / 65536 * 65536 * 65536 ^ p + f p % 65536 * 65536 ^ p := by rw [← Nat.add_mul]; congr 1; omega
  omega
theorem V_gt {f g : Nat → Nat} {i : Nat} : ∀ {n : Nat}, i < n → (∀ j, i < j → j < n → f j = g j) → g i < f i → (∀ j, j < i → g j < 65536) → V g n < V f n
  | 0, h, _, _, _ => by omega
  | n + 1, h, h1, h2, h3 => by
    rw [V, V]
    by_cases e : i = n
    · subst e
      have h4 := V_lt h3
      have h5 : (g i + 1) * 65536 ^ i ≤ f i * 65536 ^ i := Nat.mul_le_mul_right _ h2
      rw [Nat.add_mul] at h5
      omega
    · have h4 := V_gt (by omega : i < n) (fun j a b => h1 j a (by omega)) h2 h3
      rw [h1 n (by omega) (by omega)]; omega
theorem V_ext (f : Nat → Nat) (n : Nat) : ∀ k, V (fun j => if j < n then f j else 0) (n + k) = V f n
  | 0 => V_congr (fun j hj => if_pos hj)
  | k + 1 => by
    rw [← Nat.add_assoc, V, V_ext f n k, if_neg (by omega)]; omega
theorem V_top (f : Nat → Nat) (n : Nat) (h : V f (n + 1) < 65536 ^ (n + 1)) : f n < 65536 := by
  rw [V, Nat.pow_succ] at h
  rcases Nat.lt_or_ge (f n) 65536 with h1 | h1
  · exact h1
  · have : 65536 * 65536 ^ n ≤ f n * 65536 ^ n := Nat.mul_le_mul_right _ h1
    omega
theorem V_zero : ∀ n, V (fun _ => 0) n = 0
  | 0 => rfl
  | n + 1 => by rw [V, V_zero n]; simp
theorem V_shift (p by_ : Nat) : V (fun j => if j = by_ then p else 0) (by_ + 1) = p * 65536 ^ by_ := by
  rw [V, if_pos rfl, V_congr (g := fun _ => 0) (fun j hj => if_neg (by omega)), V_zero]; omega
theorem V_limb (n : Nat) : ∀ k, V (fun j => n / 65536 ^ j % 65536) k = n % 65536 ^ k
  | 0 => by simp [V, Nat.mod_one]
  | k + 1 => by
    rw [V, V_limb n k, Nat.pow_succ, Nat.mod_mul, Nat.mul_comm]
end Go.Proofs.YtkmkkmdpjliifaaDoor
