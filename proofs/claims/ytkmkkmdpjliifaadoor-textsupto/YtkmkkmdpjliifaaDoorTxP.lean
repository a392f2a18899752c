import Derived.Test.YtkmkkmdpjliifaaDoorTxO
import Derived.Deep.LoopGhost
namespace Go.Proofs.YtkmkkmdpjliifaaDoor
open Go.ChangeShapes Go.WideShapes Go.ChangeAt Go.RowKit

/-- a slice of ints, each a number from 0 on -/
def OwnN (w : World) (base : Nat) (v : Value) (l : List Nat) : Prop := Own w base v (l.map (fun x : Nat => (x : Int)))

theorem OwnN.shape {w : World} {base : Nat} {v : Value} {l : List Nat} (h : OwnN w base v l) : (v = .slice none 0 0 ∧ l = []) ∨ ∃ g cap, v = .slice (some ⟨g, 0, none⟩) l.length cap ∧ base ≤ g ∧ g < w.heap.size ∧ Cel w g 0 l.length (fun j => .int .i64 ((l.getD j 0 : Nat) : Int)) := by
  rcases Own.shape h with ⟨h1, h2⟩ | ⟨g, cap, h1, h2, h3, h4⟩
  · exact Or.inl ⟨h1, by simpa using h2⟩
  · rw [List.length_map] at h1 h4
    refine Or.inr ⟨g, cap, h1, h2, h3, h4.congr (fun j hj => ?_)⟩
    rw [List.getD_eq_getElem?_getD, List.getElem?_map, List.getElem?_eq_getElem hj, List.getD_eq_getElem?_getD, List.getElem?_eq_getElem hj]; rfl
theorem OwnN.form {w : World} {base : Nat} {v : Value} {l : List Nat} (h : OwnN w base v l) : ∃ ao cap, v = .slice ao l.length cap := by
  rcases OwnN.shape h with ⟨h1, h2⟩ | ⟨g, cap, h1, _⟩
  · exact ⟨none, 0, by rw [h1, h2]; rfl⟩
  · exact ⟨_, _, h1⟩
theorem OwnN.below {w w' : World} {base : Nat} {v : Value} {l : List Nat} (h : OwnN w base v l) (hb : Below w.heap.size w w') : OwnN w' base v l := Own.below h hb
theorem OwnN.alloc {w : World} {base : Nat} {v : Value} {l : List Nat} (h : OwnN w base v l) (o : Obj) : OwnN (w.alloc o) base v l := h.below ((Below.refl _ _).alloc (Nat.le_refl _) o)
theorem OwnN.snoc {w : World} {base : Nat} {v : Value} {l : List Nat} {x : Nat} (h : Own w base v (l.map (fun x : Nat => (x : Int)) ++ [(x : Int)])) : OwnN w base v (l ++ [x]) := by
  unfold OwnN; simpa using h
/-- is it a prime? -/
def isPr (n : Nat) : Bool := (List.range n).all (fun d => decide (d < 2) || decide (n < d * d) || !decide (n % d = 0)) && decide (1 < n)
theorem isPr_yes (n : Nat) (h1 : 1 < n) (h : ∀ d, 2 ≤ d → d * d ≤ n → ¬ n % d = 0) : isPr n = true := by
  unfold isPr
  rw [Bool.and_eq_true, List.all_eq_true, decide_eq_true_iff]
  refine ⟨fun d _ => ?_, h1⟩
  by_cases h2 : d < 2
  · simp [h2]
  · by_cases h3 : n < d * d
    · simp [h3]
    · simp [h d (by omega) (by omega)]
theorem isPr_no (n d : Nat) (h1 : 2 ≤ d) (h2 : d * d ≤ n) (h3 : n % d = 0) : isPr n = false := by
  unfold isPr
  rw [Bool.and_eq_false_iff]
  left
  rw [List.all_eq_false]
  have h4 : 2 * d ≤ d * d := Nat.mul_le_mul_right d h1
  refine ⟨d, List.mem_range.2 (by omega), ?_⟩
  simp [h3]; omega

theorem prime_any (n : Nat) (w : World) (hn : n ≤ 1000) (hn2 : 2 ≤ n) :
    Calls Tryd.prog 52 #[.int .i64 n] w fun e w' => e = .returned (.bool (isPr n)) ∧ w' = w := by
  go_enter Tryd.func52, Tryd.ntmps52
  go_wp2
  go_loop [3] (fun i => ∃ d : Nat, 2 ≤ d ∧ d ≤ n + 2 ∧ i = .int .i64 d ∧ ∀ c, 2 ≤ c → c < d → ¬ n % c = 0) (fun i => n + 2 - (intOf i).toNat)
  case atStart => exact ⟨2, by omega, by omega, rfl, fun c h1 h2 => by omega⟩
  case round =>
    obtain ⟨d, hd, hdn, rfl, hall⟩ := hrel
    have HA := hide hall
    clear hall
    have hdd : d * d ≤ 1004004 := Nat.mul_le_mul (show d ≤ 1002 by omega) (show d ≤ 1002 by omega)
    have hw : wrap64 ((d : Int) * d) = (d : Int) * d := w64 _ (by omega) (by omega)
    clear hdd
    by_cases hlt : d * d ≤ n
    · have hlt' : (d : Int) * d ≤ n := by exact_mod_cast hlt
      by_cases hm : n % d = 0
      · have hm' : (((n : Int) % d) == 0) = true := by
          rw [beq_iff_eq]; exact_mod_cast congrArg (Nat.cast (R := Int)) hm
        have HH := hide (isPr_no n d hd hlt hm)
        clear hlt hm
        go_wp2
        go_ret
        exact ⟨by rw [unhide HH]; rfl, rfl⟩
      · have hm' : (((n : Int) % d) == 0) = false := by
          rw [beq_eq_false_iff_ne]; exact_mod_cast hm
        have HM := hide hm
        have hdn2 : d ≤ n := by
          have : 1 * d ≤ d * d := Nat.mul_le_mul_right d (by omega)
          omega
        clear hlt hm
        go_wp2
        go_round
        case rel =>
          refine ⟨d + 1, by omega, by omega, by go_num, fun c h1 h2 => ?_⟩
          by_cases e : c = d
          · subst e; exact unhide HM
          · exact unhide HA c h1 (by omega)
        case measure => simp [intOf]; omega
    · have hlt' : ¬ (d : Int) * d ≤ n := by exact_mod_cast hlt
      have HH : Hid (isPr n = true) := isPr_yes n (by omega) (fun c h1 h2 => unhide HA c h1 (by
        rcases Nat.lt_or_ge c d with h | h
        · exact h
        · have : d * d ≤ c * c := Nat.mul_le_mul h h
          omega))
      have hgt : (1 : Int) < n := by omega
      clear hlt
      go_wp2
      go_ret
      refine ⟨?_, rfl⟩
      rw [unhide HH]
      simp

theorem below_trans_size {B : Nat} {w w1 w2 : World} (h : Below B w w1) (h2 : Below w1.heap.size w1 w2) (hB : B ≤ w1.heap.size) : Below B w w2 := h.trans (h2.mono hB)

/-- the primes below n -/
def prs (n : Nat) : List Nat := (List.range n).filter isPr
theorem prs_succ (n : Nat) : prs (n + 1) = if isPr n then prs n ++ [n] else prs n := by
  unfold prs; rw [List.range_succ, List.filter_append]
  by_cases h : isPr n <;> simp [h]
theorem prs_mono (n m : Nat) (h : n ≤ m) : (prs n).length ≤ (prs m).length := by
  unfold prs
  rw [show m = n + (m - n) by omega, List.range_add, List.filter_append, List.length_append]; omega
theorem prs_312 : (prs 312).length = 64 := by decide +kernel
theorem prs_311 : (prs 311).length = 63 := by decide +kernel
theorem prs_le (n : Nat) : (prs n).length ≤ n := by
  unfold prs; exact Nat.le_trans (List.length_filter_le _ _) (by simp)

set_option maxHeartbeats 400000 in
theorem primes_any (w : World) :
    Calls Tryd.prog 25 #[.int .i64 64] w fun e w' => ∃ v, e = .returned v ∧ OwnN w' w.heap.size v (prs 312) ∧ Below w.heap.size w w' := by
  go_enter Tryd.func25, Tryd.ntmps25
  go_wp2
  go_loopg [3, 4] 310 (fun q v i wr => ∃ (n : Nat) (ao : Option Addr) (cap : Nat), n + q = 312 ∧ 2 ≤ n ∧ i = .int .i64 n ∧ v = .slice ao (prs n).length cap ∧ OwnN wr w.heap.size (.slice ao (prs n).length cap) (prs n) ∧ Below w.heap.size w wr)
  case atStart => exact ⟨2, none, 0, rfl, by omega, rfl, rfl, Own.nil _ _, Below.refl _ _⟩
  case round =>
    obtain ⟨n, ao, cap, hn, hn2, rfl, rfl, hO, hB⟩ := hrel
    have hsz := hB.size
    by_cases hlt : (prs n).length < 64
    · have hn3 : n < 312 := by
        rcases Nat.lt_or_ge n 312 with h | h
        · exact h
        · have := prs_mono 312 n h; rw [prs_312] at this; omega
      have hps := prs_succ n
      have HPS := hide hps
      clear hps
      cases hp : isPr n
      · have HP := hide hp
        go_wp2_with (go_at_call 52; refine (prime_any _ _ (by omega) (by omega)).mono ?_; rintro e w' ⟨rfl, rfl⟩)
        go_roundg (gk - 1)
        case measure => omega
        case rel =>
          have e : prs (n + 1) = prs n := by rw [unhide HPS, unhide HP]; rfl
          exact ⟨n + 1, ao, cap, by omega, by omega, by go_num, by rw [e], by rw [e]; exact hO, hB⟩
      · have HP := hide hp
        go_wp2_with (first | (go_at_call 52; refine (prime_any _ _ (by omega) (by omega)).mono ?_; rintro e w' ⟨rfl, rfl⟩) | (at_builtin; refine app22 rfl _ _ rfl w.heap.size _ _ (n : Int) rfl (hO.alloc _) _ rfl (by simp) (by simp; omega) (by simp; omega) ?_; intro v' w1 hO1 hg1))
        go_wp2
        go_roundg (gk - 1)
        case measure => omega
        case rel =>
          have e : prs (n + 1) = prs n ++ [n] := by rw [unhide HPS, unhide HP]; rfl
          have hO2 := OwnN.snoc hO1
          obtain ⟨ao', cap', rfl⟩ := hO2.form
          refine ⟨n + 1, ao', cap', by omega, by omega, by go_num, by rw [e], by rw [e]; exact hO2, ?_⟩
          exact below_grown (hB.alloc hsz _) hg1 (by simp; omega) (fun k hk => by have := Own.lt hO k hk; simp; omega) (Nat.le_refl _)
    · have hn3 : n = 312 := by
        rcases Nat.lt_or_ge n 312 with h | h
        · have := prs_mono n 311 (by omega); rw [prs_311] at this; omega
        · omega
      have HN := hide hn3
      clear hn3
      go_wp2
      go_ret
      rw [← unhide HN]
      exact ⟨_, rfl, hO, hB⟩

/-- so many times 16 bits -/
def limb (n : Nat) (k : Nat) : List Nat := (List.range k).map (fun j => n / 65536 ^ j % 65536)
theorem limb_succ (n k : Nat) : limb n (k + 1) = limb n k ++ [n / 65536 ^ k % 65536] := by simp [limb, List.range_succ]
theorem limb_length (n k : Nat) : (limb n k).length = k := by simp [limb]

set_option maxHeartbeats 400000 in
theorem limbs_any (n : Nat) (w : World) (hn : n ≤ 1099511627776) :
    Calls Tryd.prog 53 #[.int .i64 n] w fun e w' => ∃ g cap, e = .returned (.slice (some ⟨g, 0, none⟩) 4 cap) ∧ g < w'.heap.size ∧ Cel w' g 0 4 (fun j => .int .i64 (((limb n 4).getD j 0 : Nat) : Int)) ∧ Below w.heap.size w w' := by
  have HN := hide hn
  clear hn
  go_enter Tryd.func53, Tryd.ntmps53
  go_wp2
  go_loopg [0, 3, 4] 4 (fun q m v i wr => ∃ (k : Nat), k + q = 4 ∧ i = .int .i64 k ∧ m = .int .i64 ((n / 65536 ^ k : Nat) : Int) ∧ OwnN wr w.heap.size v (limb n k) ∧ Below w.heap.size w wr)
  case atStart => exact ⟨0, rfl, rfl, by simp, Own.nil _ _, Below.refl _ _⟩
  case round =>
    obtain ⟨k, hk, rfl, rfl, hO, hB⟩ := hrel
    have hsz := hB.size
    by_cases hlt : k < 4
    · generalize hm : n / 65536 ^ k = m
      have HM := hide hm
      clear hm
      go_wp2_with (at_builtin; refine app22 rfl _ _ rfl w.heap.size _ _ ((m % 65536 : Nat) : Int) rfl (hO.alloc _) _ rfl (by simp) (by simp [limb]; omega) (by simp; omega) ?_; intro v' w1 hO1 hg1)
      go_roundg (gk - 1)
      case measure => omega
      case rel =>
        have hm := unhide HM
        subst hm
        refine ⟨k + 1, by omega, by go_num, congrArg (Value.int .i64) ?_, ?_, ?_⟩
        · have h1 : n / 65536 ^ k ≤ n := Nat.div_le_self _ _
          have h2 := unhide HN
          rw [Nat.pow_succ, ← Nat.div_div_eq_div_mul]
          generalize n / 65536 ^ k = y at h1
          rw [w64 _ (by omega) (by omega)]; omega
        · rw [limb_succ]; exact OwnN.snoc hO1
        · exact below_grown (hB.alloc hsz _) hg1 (by simp; omega) (fun k hk => by have := Own.lt hO k hk; simp; omega) (Nat.le_refl _)
    · obtain rfl : k = 4 := by omega
      go_wp2
      go_ret
      rcases OwnN.shape hO with ⟨_, h2⟩ | ⟨g, cap, h1, h2, h3, h4⟩
      · exact absurd (congrArg List.length h2) (by rw [limb_length]; simp)
      · rw [limb_length] at h1 h4
        exact ⟨g, cap, by rw [← h1]; rfl, h3, h4, hB⟩

/-- a number, so many times 16 bits up -/
def shl (n by_ : Nat) : List Nat := List.replicate by_ 0 ++ [n]
theorem ownN_made (w : World) (n : Nat) (hn : n ≤ 1000000) : OwnN (w.alloc (.cells (zc .i64 n) 3)) w.heap.size (.slice (some ⟨w.heap.size, 0, none⟩) n n) (List.replicate n 0) := by
  unfold OwnN Own
  refine ⟨by simp, Or.inr ⟨w.heap.size, n, zc .i64 n, by simp, Nat.le_refl _, heap_alloc_new w _, by simp, by unfold maxLen; omega, by simp [zc_size], ?_⟩⟩
  rw [List.length_map, List.length_replicate, Nat.mul_one]
  apply List.ext_getElem?
  intro i
  rcases Nat.lt_or_ge i n with h | h
  · rw [List.getElem?_take_of_lt h, Array.getElem?_toList, zc_get _ _ _ h]
    simp [h]
  · rw [List.getElem?_eq_none (by simp; omega), List.getElem?_eq_none (by simp; omega)]

theorem shifted4 (n : Nat) (w : World) :
    Calls Tryd.prog 55 #[.int .i64 n, .int .i64 4] w fun e w' => ∃ g cap, e = .returned (.slice (some ⟨g, 0, none⟩) 5 cap) ∧ g < w'.heap.size ∧ Cel w' g 0 5 (fun j => .int .i64 (((shl n 4).getD j 0 : Nat) : Int)) ∧ Below w.heap.size w w' := by
  have hmk : ∀ u : World, (Instr.makeSlice 22 (.int .i64 4) (.int .i64 4)).run Tryd.prog u = .ok (.slice (some ⟨u.heap.size, 0, none⟩) 4 4) (u.alloc (.cells (zc .i64 4) 3)) := make64 4 4 (by decide) (by decide) (by decide)
  have hO := ownN_made w 4 (by decide)
  go_enter Tryd.func55, Tryd.ntmps55
  go_wp2_with (at_builtin; refine app22 rfl _ _ rfl w.heap.size _ _ (n : Int) rfl (hO.alloc _) _ rfl (by simp) (by simp) (by simp; omega) ?_; intro v' w1 hO1 hg1)
  go_ret
  have hO2 := OwnN.snoc hO1
  rcases OwnN.shape hO2 with ⟨_, h2⟩ | ⟨g, cap, h1, h2, h3, h4⟩
  · simp at h2
  · exact ⟨g, cap, by rw [h1]; rfl, h3, h4, below_grown (((Below.refl _ _).alloc (Nat.le_refl _) _).alloc (by simp) _) hg1 (by simp; omega) (fun k hk => by cases hk; simp; omega) (Nat.le_refl _)⟩
theorem shifted6 (n : Nat) (w : World) :
    Calls Tryd.prog 55 #[.int .i64 n, .int .i64 6] w fun e w' => ∃ g cap, e = .returned (.slice (some ⟨g, 0, none⟩) 7 cap) ∧ g < w'.heap.size ∧ Cel w' g 0 7 (fun j => .int .i64 (((shl n 6).getD j 0 : Nat) : Int)) ∧ Below w.heap.size w w' := by
  have hmk : ∀ u : World, (Instr.makeSlice 22 (.int .i64 6) (.int .i64 6)).run Tryd.prog u = .ok (.slice (some ⟨u.heap.size, 0, none⟩) 6 6) (u.alloc (.cells (zc .i64 6) 3)) := make64 6 6 (by decide) (by decide) (by decide)
  have hO := ownN_made w 6 (by decide)
  go_enter Tryd.func55, Tryd.ntmps55
  go_wp2_with (at_builtin; refine app22 rfl _ _ rfl w.heap.size _ _ (n : Int) rfl (hO.alloc _) _ rfl (by simp) (by simp) (by simp; omega) ?_; intro v' w1 hO1 hg1)
  go_ret
  have hO2 := OwnN.snoc hO1
  rcases OwnN.shape hO2 with ⟨_, h2⟩ | ⟨g, cap, h1, h2, h3, h4⟩
  · simp at h2
  · exact ⟨g, cap, by rw [h1]; rfl, h3, h4, below_grown (((Below.refl _ _).alloc (Nat.le_refl _) _).alloc (by simp) _) hg1 (by simp; omega) (fun k hk => by cases hk; simp; omega) (Nat.le_refl _)⟩
end Go.Proofs.YtkmkkmdpjliifaaDoor
