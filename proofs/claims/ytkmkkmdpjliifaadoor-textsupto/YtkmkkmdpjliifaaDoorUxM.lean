import Derived.Test.YtkmkkmdpjliifaaDoorTxS
namespace Go.Proofs.YtkmkkmdpjliifaaDoor

/-- a number in digits of b bits, the first k of them -/
def nb (b : Nat) (f : Nat → Nat) : Nat → Nat
  | 0 => 0
  | k + 1 => 2 ^ b * nb b f k + f k
theorem nb_lt (b : Nat) (f : Nat → Nat) : ∀ n, (∀ j, j < n → f j < 2 ^ b) → nb b f n < 2 ^ (b * n)
  | 0, _ => by simp [nb]
  | n + 1, h => by
    have h1 := nb_lt b f n (fun j hj => h j (by omega))
    have h2 := h n (by omega)
    have h3 : 2 ^ b * (nb b f n + 1) ≤ 2 ^ b * 2 ^ (b * n) := Nat.mul_le_mul_left _ h1
    rw [nb, Nat.mul_succ b n, Nat.add_comm (b * n) b, Nat.pow_add]
    rw [Nat.mul_add] at h3; omega
theorem nb_congr (b : Nat) {f g : Nat → Nat} : ∀ n, (∀ j, j < n → f j = g j) → nb b f n = nb b g n
  | 0, _ => rfl
  | n + 1, h => by rw [nb, nb, nb_congr b n (fun j hj => h j (by omega)), h n (by omega)]
theorem nb_pre (b : Nat) (f : Nat → Nat) (i : Nat) : ∀ k, (∀ j, j < i + k → f j < 2 ^ b) → nb b f (i + k) / 2 ^ (b * k) = nb b f i
  | 0, _ => by simp
  | k + 1, h => by
    rw [← Nat.add_assoc, nb, Nat.mul_succ, Nat.add_comm (b * k) b, Nat.pow_add, ← Nat.div_div_eq_div_mul]
    rw [Nat.mul_add_div (Nat.two_pow_pos b), Nat.div_eq_of_lt (h (i + k) (by omega)), Nat.add_zero]
    exact nb_pre b f i k (fun j hj => h j (by omega))
/-- bit t of such a number of n digits -/
theorem nb_bit (b : Nat) (f : Nat → Nat) (n t : Nat) (hb : 0 < b) (h : ∀ j, j < n → f j < 2 ^ b) (ht : t < b * n) :
    nb b f n / 2 ^ (b * n - 1 - t) % 2 = f (t / b) / 2 ^ (b - 1 - t % b) % 2 := by
  have hi : t / b < n := Nat.div_lt_of_lt_mul ht
  have hd := Nat.div_add_mod t b
  have hm := Nat.mod_lt t hb
  have hn : n = (t / b + 1) + (n - (t / b + 1)) := by omega
  have he : b * n - 1 - t = b * (n - (t / b + 1)) + (b - 1 - t % b) := by
    have h1 : b * n = b * (t / b + 1) + b * (n - (t / b + 1)) := by rw [← Nat.mul_add, ← hn]
    rw [Nat.mul_add, Nat.mul_one] at h1
    omega
  have hp := nb_pre b f (t / b + 1) (n - (t / b + 1)) (fun j hj => h j (by omega))
  rw [← hn] at hp
  rw [he, Nat.pow_add, ← Nat.div_div_eq_div_mul, hp, nb]
  have hs : 2 ^ b = 2 ^ (b - 1 - t % b) * (2 * 2 ^ (t % b)) := by
    rw [← Nat.pow_succ', ← Nat.pow_add]; congr 1; omega
  rw [hs, Nat.mul_assoc, Nat.mul_add_div (Nat.two_pow_pos _), Nat.mul_assoc 2, Nat.mul_add_mod]
/-- k bits of x, from some place on -/
theorem bits_step (x M k : Nat) (hk : k + 1 ≤ M) : x / 2 ^ (M - (k + 1)) % 2 ^ (k + 1) = 2 * (x / 2 ^ (M - k) % 2 ^ k) + x / 2 ^ (M - (k + 1)) % 2 := by
  have h1 : x / 2 ^ (M - k) = x / 2 ^ (M - (k + 1)) / 2 := by
    rw [show M - k = (M - (k + 1)) + 1 by omega, Nat.pow_succ, Nat.div_div_eq_div_mul]
  rw [h1]
  generalize x / 2 ^ (M - (k + 1)) = y
  rw [Nat.pow_succ, Nat.mul_comm (2 ^ k) 2, Nat.mod_mul]; omega
/-- what is gathered bit by bit -/
def gb (f : Nat → Nat) (s : Nat) : Nat → Nat
  | 0 => 0
  | k + 1 => 2 * gb f s k + f (s + k)
theorem gb_eq (x M s : Nat) (f : Nat → Nat) : ∀ k, s + k ≤ M → (∀ j, j < k → f (s + j) = x / 2 ^ (M - 1 - (s + j)) % 2) → gb f s k = x / 2 ^ (M - s - k) % 2 ^ k
  | 0, _, _ => by simp [gb, Nat.mod_one]
  | k + 1, hM, h => by
    rw [gb, gb_eq x M s f k (by omega) (fun j hj => h j (by omega)), bits_step x (M - s) k (by omega), h k (by omega), show M - 1 - (s + k) = M - s - (k + 1) by omega]
theorem gb_lt (f : Nat → Nat) (s : Nat) (h : ∀ j, f j < 2) : ∀ k, gb f s k < 2 ^ k
  | 0 => by simp [gb]
  | k + 1 => by have := gb_lt f s h k; have := h (s + k); rw [gb, Nat.pow_succ]; omega

theorem num_nb (l : List UInt8) : ∀ n, num l 0 n = nb 8 (by_ l) n
  | 0 => rfl
  | n + 1 => by rw [num, nb, num_nb l n, Nat.zero_add]
theorem by_lt8 (l : List UInt8) (n : Nat) : ∀ j, j < n → by_ l j < 2 ^ 8 := fun j _ => by_lt l j

/-- how many characters -/
def mOf (n : Nat) : Nat := (8 * n + 5) / 6
/-- what a character of Base64 stands for -/
def cv (l : List UInt8) (p : Nat) : Nat := nb 8 (by_ l) l.length * 2 ^ (6 * mOf l.length - 8 * l.length) / 2 ^ (6 * (mOf l.length - 1 - p)) % 64
theorem cv_lt (l : List UInt8) (p : Nat) : cv l p < 64 := Nat.mod_lt _ (by decide)
theorem cv_full (l : List UInt8) (p i : Nat) (hi : i ≤ l.length) (hp : 6 * p + 6 ≤ 8 * i) : cv l p = nb 8 (by_ l) i / 2 ^ (8 * i - 6 * p - 6) % 64 := by
  have hpre := nb_pre 8 (by_ l) i (l.length - i) (by_lt8 l _)
  rw [show i + (l.length - i) = l.length by omega] at hpre
  have hm : mOf l.length = (8 * l.length + 5) / 6 := rfl
  unfold cv
  have e : 6 * (mOf l.length - 1 - p) = (6 * mOf l.length - 8 * l.length) + (8 * (l.length - i) + (8 * i - 6 * p - 6)) := by omega
  rw [e, Nat.pow_add, Nat.mul_comm (nb 8 (by_ l) l.length), Nat.mul_div_mul_left _ _ (Nat.two_pow_pos _), Nat.pow_add, ← Nat.div_div_eq_div_mul, hpre]
theorem cv_last (l : List UInt8) (q : Nat) (h0 : 6 * q < 8 * l.length) (h1 : 8 * l.length < 6 * q + 6) : cv l q = nb 8 (by_ l) l.length * 2 ^ (6 - (8 * l.length - 6 * q)) % 64 := by
  have hm : mOf l.length = q + 1 := by unfold mOf; omega
  unfold cv
  rw [hm, show 6 * (q + 1 - 1 - q) = 0 by omega, Nat.pow_zero, Nat.div_one, show 6 * (q + 1) - 8 * l.length = 6 - (8 * l.length - 6 * q) by omega]
/-- a bit of the bytes, noughts behind -/
def bx (l : List UInt8) (t : Nat) : Nat := if t < 8 * l.length then by_ l (t / 8) / 2 ^ (7 - t % 8) % 2 else 0
theorem bx_lt (l : List UInt8) (t : Nat) : bx l t < 2 := by unfold bx; split <;> omega
theorem gb_cv (l : List UInt8) (p : Nat) (hp : p < mOf l.length) : gb (bx l) (6 * p) 6 = cv l p := by
  have hm : mOf l.length = (8 * l.length + 5) / 6 := rfl
  rw [gb_eq (nb 8 (by_ l) l.length * 2 ^ (6 * mOf l.length - 8 * l.length)) (6 * mOf l.length) (6 * p) (bx l) 6 (by omega) (fun j hj => ?_)]
  · unfold cv; rw [show 6 * mOf l.length - 6 * p - 6 = 6 * (mOf l.length - 1 - p) by omega]
  · unfold bx
    by_cases h : 6 * p + j < 8 * l.length
    · rw [if_pos h, ← nb_bit 8 (by_ l) l.length (6 * p + j) (by decide) (by_lt8 l _) h]
      rw [show 6 * mOf l.length - 1 - (6 * p + j) = (6 * mOf l.length - 8 * l.length) + (8 * l.length - 1 - (6 * p + j)) by omega, Nat.pow_add, Nat.mul_comm (nb 8 (by_ l) l.length), Nat.mul_div_mul_left _ _ (Nat.two_pow_pos _)]
    · rw [if_neg h]
      have e : 6 * mOf l.length - 8 * l.length = (6 * mOf l.length - 1 - (6 * p + j)) + ((6 * p + j - 8 * l.length) + 1) := by omega
      rw [e, Nat.pow_add, ← Nat.mul_assoc, Nat.mul_comm (nb 8 (by_ l) l.length), Nat.mul_assoc, Nat.mul_div_cancel_left _ (Nat.two_pow_pos _), Nat.pow_succ, ← Nat.mul_assoc]
      omega
end Go.Proofs.YtkmkkmdpjliifaaDoor
