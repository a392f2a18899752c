import Derived.Test.YtkmkkmdpjliifaaDoorUxD
namespace Go.Proofs.YtkmkkmdpjliifaaDoor
open Go.RowKit

/-- what the characters stand for -/
def fs (s : List UInt8) (j : Nat) : Nat := sgv (by_ s j)
theorem fs_lt (s : List UInt8) (j : Nat) : fs s j < 2 ^ 6 := by
  have := sgn_lo (by_ s j); unfold fs sgv; omega
/-- the byte at j that they come to -/
def uv (s : List UInt8) (j : Nat) : Nat := nb 6 (fs s) s.length / 2 ^ (6 * s.length - 8 * j - 8) % 256
theorem uv_lt (s : List UInt8) (j : Nat) : uv s j < 256 := Nat.mod_lt _ (by decide)
theorem uv_full (s : List UInt8) (j i : Nat) (hi : i ≤ s.length) (hj : 8 * j + 8 ≤ 6 * i) : uv s j = nb 6 (fs s) i / 2 ^ (6 * i - 8 * j - 8) % 256 := by
  have hpre := nb_pre 6 (fs s) i (s.length - i) (fun j _ => fs_lt s j)
  rw [show i + (s.length - i) = s.length by omega] at hpre
  unfold uv
  rw [show 6 * s.length - 8 * j - 8 = 6 * (s.length - i) + (6 * i - 8 * j - 8) by omega, Nat.pow_add, ← Nat.div_div_eq_div_mul, hpre]
def uN (s : List UInt8) (q : Nat) : List Nat := (List.range q).map (uv s)
theorem uN_length (s : List UInt8) (q : Nat) : (uN s q).length = q := by simp [uN]
theorem uN_succ (s : List UInt8) (q : Nat) : uN s q ++ [uv s q] = uN s (q + 1) := by simp [uN, List.range_succ]
def outL (s : List UInt8) : List UInt8 := (uN s (6 * s.length / 8)).map UInt8.ofNat
theorem outL_length (s : List UInt8) : (outL s).length = 6 * s.length / 8 := by unfold outL; rw [List.length_map, uN_length]
theorem by_outL (s : List UInt8) (j : Nat) (hj : j < 6 * s.length / 8) : by_ (outL s) j = uv s j := by
  unfold by_ outL uN
  rw [List.getD_eq_getElem?_getD, List.getElem?_map, List.getElem?_map, List.getElem?_range hj]
  show (UInt8.ofNat (uv s j)).toNat = _
  rw [UInt8.toNat_ofNat']
  exact Nat.mod_eq_of_lt (uv_lt s j)
theorem nb_outL (s : List UInt8) : ∀ j, j ≤ 6 * s.length / 8 → nb 8 (by_ (outL s)) j = nb 6 (fs s) s.length / 2 ^ (6 * s.length - 8 * j)
  | 0, _ => by
    have := nb_lt 6 (fs s) s.length (fun j _ => fs_lt s j)
    rw [nb, Nat.mul_zero, Nat.sub_zero, Nat.div_eq_of_lt this]
  | j + 1, h => by
    rw [nb, nb_outL s j (by omega), by_outL s j (by omega)]
    unfold uv
    rw [show 6 * s.length - 8 * j = (6 * s.length - 8 * j - 8) + 8 by omega, Nat.pow_add, ← Nat.div_div_eq_div_mul, show 6 * s.length - 8 * (j + 1) = 6 * s.length - 8 * j - 8 by omega, Nat.add_sub_cancel]
    omega
/-- are they Base64 of some bytes? -/
def okN (s : List UInt8) : Bool := decide (s.length % 4 ≠ 1 ∧ nb 6 (fs s) s.length % 2 ^ (6 * s.length % 8) = 0)
def allS (s : List UInt8) (k : Nat) : Prop := ∀ j, j < k → sgo (by_ s j) = true
theorem digit (s : List UInt8) (p : Nat) (hp : p < s.length) : nb 6 (fs s) s.length / 2 ^ (6 * (s.length - 1 - p)) % 64 = fs s p := by
  have hpre := nb_pre 6 (fs s) (p + 1) (s.length - 1 - p) (fun j _ => fs_lt s j)
  rw [show p + 1 + (s.length - 1 - p) = s.length by omega] at hpre
  have := fs_lt s p
  rw [hpre, nb]; omega
theorem al_fs (s : List UInt8) (p : Nat) (h : sgo (by_ s p) = true) : al (fs s p) = by_ s p := by
  have h1 : 0 ≤ sgn (by_ s p) := of_decide_eq_true h
  exact (al_sgn (by_ s p) (by_lt s p) h1).1
theorem ac_by (x : Nat) (s : List UInt8) (p : Nat) (hp : p < s.length) (h : al x = by_ s p) : s[p]? = some (ac x) := by
  rw [List.getElem?_eq_getElem hp]
  congr 1
  apply UInt8.toNat_inj.1
  have h2 : by_ s p = (s[p]).toNat := by unfold by_; rw [List.getD_eq_getElem?_getD, List.getElem?_eq_getElem hp]; rfl
  rw [← h2, ← h]; rfl
theorem mOf_back (L : Nat) (h : L % 4 ≠ 1) : mOf (6 * L / 8) = L := by
  unfold mOf
  rcases (show L % 4 = 0 ∨ L % 4 = 2 ∨ L % 4 = 3 by omega) with e | e | e
  · rw [show 6 * L / 8 = 3 * (L / 4) by omega]; omega
  · rw [show 6 * L / 8 = 3 * (L / 4) + 1 by omega]; omega
  · rw [show 6 * L / 8 = 3 * (L / 4) + 2 by omega]; omega
theorem mOf_one (L : Nat) (h : L % 4 = 1) : mOf (6 * L / 8) ≠ L := by
  unfold mOf
  rw [show 6 * L / 8 = 3 * (L / 4) by omega]; omega
theorem round_trip (s : List UInt8) (hv : allS s s.length) : decide (packL (outL s) = s) = okN s := by
  unfold okN
  rw [decide_eq_decide]
  have hol := outL_length s
  have hnb := nb_outL s (6 * s.length / 8) (Nat.le_refl _)
  have hr : 6 * s.length - 8 * (6 * s.length / 8) = 6 * s.length % 8 := by omega
  rw [hr] at hnb
  have hm : s.length % 4 ≠ 1 → mOf (outL s).length = s.length := by intro h; rw [hol]; exact mOf_back _ h
  have hcv : s.length % 4 ≠ 1 → ∀ p, cv (outL s) p = nb 6 (fs s) s.length / 2 ^ (6 * s.length % 8) * 2 ^ (6 * s.length % 8) / 2 ^ (6 * (s.length - 1 - p)) % 64 := by
    intro h p
    unfold cv
    rw [hm h, hol, hnb, show 6 * s.length - 8 * (6 * s.length / 8) = 6 * s.length % 8 by omega]
  constructor
  · intro h
    have h4 : s.length % 4 ≠ 1 := by
      intro h1
      have := congrArg List.length h
      unfold packL at this
      rw [pT_length, hol] at this
      exact mOf_one _ h1 this
    refine ⟨h4, ?_⟩
    rcases Nat.eq_zero_or_pos s.length with h0 | h0
    · rw [h0]; rfl
    · have hp : s.length - 1 < s.length := by omega
      have h5 : (packL (outL s))[s.length - 1]? = s[s.length - 1]? := by rw [h]
      unfold packL pT at h5
      rw [hm h4, List.getElem?_map, List.getElem?_range hp, List.getElem?_eq_getElem hp] at h5
      have h6 : ac (cv (outL s) (s.length - 1)) = s[s.length - 1] := Option.some.inj h5
      have h7 : al (cv (outL s) (s.length - 1)) = by_ s (s.length - 1) := by
        unfold by_
        rw [List.getD_eq_getElem?_getD, List.getElem?_eq_getElem hp]
        show (ac (cv (outL s) (s.length - 1))).toNat = _
        rw [h6]; rfl
      have h8 := sgn_al (cv (outL s) (s.length - 1)) (cv_lt _ _)
      have h9 : fs s (s.length - 1) = cv (outL s) (s.length - 1) := by unfold fs sgv; rw [← h7, h8]; rfl
      have h10 := digit s (s.length - 1) hp
      rw [h9, hcv h4] at h10
      rw [show s.length - 1 - (s.length - 1) = 0 by omega, Nat.mul_zero, Nat.pow_zero, Nat.div_one, Nat.div_one] at h10
      generalize nb 6 (fs s) s.length = Y at h10 ⊢
      rcases (show 6 * s.length % 8 = 0 ∨ 6 * s.length % 8 = 2 ∨ 6 * s.length % 8 = 4 by omega) with e | e | e <;> rw [e] at h10 ⊢ <;> omega
  · rintro ⟨h4, h0⟩
    have hY : nb 6 (fs s) s.length / 2 ^ (6 * s.length % 8) * 2 ^ (6 * s.length % 8) = nb 6 (fs s) s.length := Nat.div_mul_cancel (Nat.dvd_of_mod_eq_zero h0)
    apply List.ext_getElem?
    intro p
    unfold packL pT
    rw [hm h4, List.getElem?_map]
    rcases Nat.lt_or_ge p s.length with hp | hp
    · rw [List.getElem?_range hp]
      show some (ac (cv (outL s) p)) = _
      rw [hcv h4, hY, digit s p hp, ac_by (fs s p) s p hp (al_fs s p (hv p hp))]
    · rw [List.getElem?_eq_none (by simpa using hp), List.getElem?_eq_none hp]; rfl
end Go.Proofs.YtkmkkmdpjliifaaDoor
