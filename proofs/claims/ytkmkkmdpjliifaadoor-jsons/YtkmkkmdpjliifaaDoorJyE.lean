import Derived.Test.YtkmkkmdpjliifaaDoorJyD
import Derived.Lib.ItoaNum
namespace Go.Proofs.YtkmkkmdpjliifaaDoor
open Go.ChangeShapes Go.WideShapes Go.ChangeAt Go.RowKit

theorem dd_big {n : Nat} (h : ¬ n < 10) : Lib.decDigits n = Lib.decDigits (n / 10) ++ [UInt8.ofNat (48 + n % 10)] := by rw [Lib.decDigits, dif_neg h]
set_option maxRecDepth 20000 in
set_option maxHeartbeats 1000000 in
theorem digits_any : ∀ (n : Nat) (x : Int) (w : World), n ≤ 999999999999 → x = (n : Nat) → Calls Tryd.prog 36 #[.int .i64 x] w fun e w' => e = .returned (.string ⟨(Lib.decDigits n).toArray⟩) ∧ Below w.heap.size w w' ∧ (Lib.decDigits n).length ≤ 20 := by
  intro n
  induction n using Nat.strongRecOn with
  | ind n ih =>
    intro x w hn hx
    have l1 := lit1
    have hlen : (Lib.decDigits n).length ≤ 20 := by
      rw [Lib.decDigits_length]
      by_cases h0 : Lib.nDigits n ≤ 20
      · exact h0
      · exfalso
        have : ∀ k m : Nat, m < 10 ^ (k + 1) → Lib.nDigits m ≤ k + 1 := by
          intro k
          induction k with
          | zero => intro m hm; rw [Lib.nDigits_small (by omega)]; exact Nat.le_refl _
          | succ k ihk =>
            intro m hm
            by_cases h : m < 10
            · rw [Lib.nDigits_small h]; omega
            · rw [Lib.nDigits_big h]
              have := ihk (m / 10) (by rw [Nat.pow_succ] at hm; omega)
              omega
        have h3 := this 12 n (by omega)
        omega
    by_cases h10 : n < 10
    · have d1 : decide (x < 10) = true := decide_eq_true (by omega)
      have hr : x.tmod 10 = x := by rw [hx, Int.tmod_eq_emod_of_nonneg (by omega)]; omega
      have hw : wrap64 (48 + x) = 48 + x := w64 _ (by omega) (by omega)
      have hm : (48 + x) % 256 = 48 + x := by omega
      have HD : Hid (UInt8.ofNat (48 + x).toNat = UInt8.ofNat (48 + n)) := by rw [show (48 + x).toNat = 48 + n by omega]; rfl
      have HX := hide hx
      clear hx hn
      go_enter Tryd.func36, Tryd.ntmps36
      go_wp2_with fail
      go_ret
      refine ⟨?_, (Below.refl _ _).alloc (Nat.le_refl _) _, hlen⟩
      rw [Lib.decDigits_one h10, ← unhide HD]
      rfl
    · have d1 : decide (x < 10) = false := decide_eq_false (by omega)
      have hr : x.tmod 10 = x % 10 := by rw [Int.tmod_eq_emod_of_nonneg (by omega)]
      have hw : wrap64 (48 + x % 10) = 48 + x % 10 := w64 _ (by omega) (by omega)
      have hm : (48 + x % 10) % 256 = 48 + x % 10 := by omega
      have HD : Hid (UInt8.ofNat (48 + x % 10).toNat = UInt8.ofNat (48 + n % 10)) := by rw [show (48 + x % 10).toNat = 48 + n % 10 by omega]; rfl
      have hx0 : 0 ≤ x := by omega
      have HX := hide hx
      have HNN := hide hn
      clear hx hn
      go_enter Tryd.func36, Tryd.ntmps36
      go_wp2_with fail
      have hq : wrap64 (x.tdiv 10) = ((n / 10 : Nat) : Int) := by
        have h1 := unhide HX
        have h2 := unhide HNN
        rw [Int.tdiv_eq_ediv_of_nonneg hx0, w64 _ (by omega) (by omega)]
        omega
      refine (ih (n / 10) (by omega) _ _ (by have := unhide HNN; omega) hq).mono ?_
      rintro e w2 ⟨rfl, hb2, hl2⟩
      have hcat := cat_str (Lib.decDigits (n / 10)) [UInt8.ofNat (48 + x % 10).toNat] _ rfl (by rw [List.length_append, List.length_singleton]; omega)
      have hbb : Below w.heap.size w w2 := ((Below.refl w.heap.size w).alloc (Nat.le_refl _) _).trans (hb2.mono (by simp))
      clear hq hb2
      go_wp2_with fail
      go_ret
      refine ⟨?_, hbb, hlen⟩
      rw [dd_big h10, ← unhide HD]
      rfl

/-- a digit to the base 16 -/
def hexD (n : Nat) : List UInt8 := ([48, 49, 50, 51, 52, 53, 54, 55, 56, 57, 97, 98, 99, 100, 101, 102] : List UInt8).drop n |>.take 1
/-- a byte of a string, as the plain text has it -/
def escB (c : UInt8) : List UInt8 := if c = 34 ∨ c = 92 then [92, c] else if c.toNat < 32 then [92, 117, 48, 48] ++ hexD (c.toNat / 16) ++ hexD (c.toNat % 16) else [c]
theorem escB_length (c : UInt8) : (escB c).length ≤ 6 := by
  unfold escB hexD
  split
  · simp
  · split
    · simp only [List.length_append, List.length_take]
      have h1 := Nat.min_le_left 1 (List.drop (c.toNat / 16) ([48, 49, 50, 51, 52, 53, 54, 55, 56, 57, 97, 98, 99, 100, 101, 102] : List UInt8)).length
      have h2 := Nat.min_le_left 1 (List.drop (c.toNat % 16) ([48, 49, 50, 51, 52, 53, 54, 55, 56, 57, 97, 98, 99, 100, 101, 102] : List UInt8)).length
      simp only [List.length_cons, List.length_nil]
      omega
    · simp
theorem hexD_le (n : Nat) : (hexD n).length ≤ 1 := by unfold hexD; rw [List.length_take]; exact Nat.min_le_left _ _
def escL (s : List UInt8) : List UInt8 := s.flatMap escB
theorem escL_length (s : List UInt8) : (escL s).length ≤ 6 * s.length := by
  unfold escL
  induction s with
  | nil => simp
  | cons c s ih =>
    rw [List.flatMap_cons, List.length_append, List.length_cons]
    have := escB_length c
    omega
theorem escL_take (s : List UInt8) (k : Nat) (h : k < s.length) : escL (s.take (k + 1)) = escL (s.take k) ++ escB (s.getD k 0) := by
  unfold escL
  rw [List.take_add_one, List.flatMap_append]
  simp [List.getD, List.getElem?_eq_getElem h]
/-- a string, as the plain text has it -/
def quotS (s : List UInt8) : List UInt8 := [34] ++ escL s ++ [34]
theorem quotS_length (s : List UInt8) : (quotS s).length ≤ 6 * s.length + 2 := by
  unfold quotS
  have := escL_length s
  simp only [List.length_append, List.length_singleton]
  omega

theorem hexs (n : Nat) (h : n < 16) (u : World) : (Instr.slice 9 (.string ⟨#[48, 49, 50, 51, 52, 53, 54, 55, 56, 57, 97, 98, 99, 100, 101, 102]⟩) (some (.int .i64 (n : Nat))) (some (.int .i64 (((n : Nat) : Int) + 1))) none).run Tryd.prog u = .ok (.string ⟨(hexD n).toArray⟩) u :=
  mid_any [48, 49, 50, 51, 52, 53, 54, 55, 56, 57, 97, 98, 99, 100, 101, 102] n 1 (by show n + 1 ≤ 16; omega) u _ _ rfl rfl
theorem i64q (n : Nat) (h : n < 256) : IntKind.i64.wrap ((n : Int) / 16) = ((n / 16 : Nat) : Int) := by rw [IntKind.wrap_i64]; omega
theorem i64s (n : Nat) (h : n < 256) : IntKind.i64.wrap ((n : Int) + 1) = (n : Int) + 1 := by rw [IntKind.wrap_i64]; omega
theorem i64r (n : Nat) (h : n < 256) : IntKind.i64.wrap (((n % 16 : Nat) : Int)) = ((n % 16 : Nat) : Int) ∧ ((n : Int)).tmod 16 = ((n % 16 : Nat) : Int) ∧ IntKind.i64.wrap ((n : Int) % 16) = ((n % 16 : Nat) : Int) := by
  refine ⟨by rw [IntKind.wrap_i64]; omega, by rw [Int.tmod_eq_emod_of_nonneg (by omega)]; omega, by rw [IntKind.wrap_i64]; omega⟩
theorem quot_step (s : List UInt8) (k : Nat) (h : k < s.length) (x : List UInt8) (hx : escB (s.getD k 0) = x) : [34] ++ escL (s.take (k + 1)) = [34] ++ escL (s.take k) ++ x := by
  rw [escL_take s k h, hx, List.append_assoc]
theorem mid1 (s : List UInt8) (k : Nat) (h : k < s.length) : (s.drop k).take 1 = [s.getD k 0] := by
  rw [List.drop_eq_getElem_cons h, List.take_succ_cons, List.take_zero]
  simp [List.getD, List.getElem?_eq_getElem h]

set_option maxRecDepth 20000 in
set_option maxHeartbeats 1000000 in
theorem quoted_any (s : List UInt8) (w : World) (hl : s.length ≤ 4096) :
    Calls Tryd.prog 37 #[.string ⟨s.toArray⟩] w fun e w' => e = .returned (.string ⟨(quotS s).toArray⟩) ∧ Below w.heap.size w w' := by
  have HL := hide hl
  clear hl
  go_enter Tryd.func37, Tryd.ntmps37
  go_wp2_with fail
  go_loopg [3, 4] s.length (fun q o i wr => ∃ (k n : Nat), k + q = s.length ∧ o = .string ⟨([34] ++ escL (s.take k)).toArray⟩ ∧ i = .int .i64 (k : Nat) ∧ wr = w.drewN n)
  case atStart => exact ⟨0, 0, Nat.zero_add _, rfl, rfl, rfl⟩
  case round =>
    obtain ⟨k, n, hk, rfl, rfl, rfl⟩ := hrel
    have hol : ([34] ++ escL (s.take k)).length ≤ 6 * s.length + 1 := by
      have h1 := escL_length (s.take k)
      rw [List.length_take] at h1
      simp only [List.length_append, List.length_singleton]
      omega
    by_cases hlt : k < s.length
    · have hw : wrap64 ((k : Int) + 1) = (k : Int) + 1 := w64 _ (by omega) (by have := unhide HL; omega)
      have hkl : (k : Int) < s.length := by omega
      have hix := ix_any s k hlt
      have hmid := fun u => mid_any s k 1 (by omega) u (k : Int) ((k : Int) + 1) rfl (by omega)
      rw [mid1 s k hlt] at hmid
      have hby : by_ s k = (s.getD k 0).toNat := rfl
      rw [hby] at hix
      have hq := quot_step s k hlt
      generalize hc : s.getD k 0 = c at *
      have hcl := c.toNat_lt
      generalize [34] ++ escL (s.take k) = out at *
      have HQ := hide hq
      have HO := hide hol
      clear hq hol hc hby
      by_cases c1 : c = 34 ∨ c = 92
      · have hcat1 := cat_str out [92] _ rfl (by rw [List.length_append, List.length_singleton]; have h1 := unhide HO; have h2 := unhide HL; omega)
        have hcat2 := cat_str (out ++ [92]) [c] _ rfl (by simp only [List.length_append, List.length_singleton]; have h1 := unhide HO; have h2 := unhide HL; omega)
        have HE : Hid (escB c = [92, c]) := by unfold escB; rw [if_pos c1]; rfl
        rcases c1 with rfl | rfl
        all_goals
          go_wp2_with fail
          go_roundg (gk - 1)
          case measure => omega
          case rel => exact ⟨k + 1, n, by omega, congrArg (fun l : List UInt8 => Value.string ⟨l.toArray⟩) (by rw [unhide HQ _ (unhide HE)]), by first | exact num1 hw | rfl, rfl⟩
      · have n1 : (((c.toNat : Nat) : Int) == 34) = false := u8_bne (n := 34) (fun h => c1 (Or.inl ((u8_eq (by decide)).2 h)))
        have n2 : (((c.toNat : Nat) : Int) == 92) = false := u8_bne (n := 92) (fun h => c1 (Or.inr ((u8_eq (by decide)).2 h)))
        have hwc : wrap64 ((c.toNat : Nat) : Int) = ((c.toNat : Nat) : Int) := w64 _ (by omega) (by omega)
        by_cases c2 : c.toNat < 32
        · have d1 : decide (((c.toNat : Nat) : Int) < 32) = true := decide_eq_true (by omega)
          have e1 := i64q c.toNat hcl
          have e2 := i64s (c.toNat / 16) (by omega)
          have e3 : ((c.toNat : Nat) : Int) % 16 = ((c.toNat % 16 : Nat) : Int) := by omega
          have e4 := i64s (c.toNat % 16) (by omega)
          obtain ⟨e5, e6, e7⟩ := i64r c.toNat hcl
          have hs1 := hexs (c.toNat / 16) (by omega)
          have hs2 := hexs (c.toNat % 16) (by omega)
          have HE : Hid (escB c = [92, 117, 48, 48] ++ hexD (c.toNat / 16) ++ hexD (c.toNat % 16)) := by unfold escB; rw [if_neg c1, if_pos c2]; rfl
          have hx1 : (hexD (c.toNat / 16)).length ≤ 1 := hexD_le _
          have hx2 : (hexD (c.toNat % 16)).length ≤ 1 := hexD_le _
          generalize hexD (c.toNat / 16) = x1 at *
          generalize hexD (c.toNat % 16) = x2 at *
          obtain ⟨y1, hy1⟩ : ∃ y, out ++ [92, 117, 48, 48] = y := ⟨_, rfl⟩
          obtain ⟨y2, hy2⟩ : ∃ y, y1 ++ x1 = y := ⟨_, rfl⟩
          obtain ⟨y3, hy3⟩ : ∃ y, y2 ++ x2 = y := ⟨_, rfl⟩
          have hl1 : y1.length = out.length + 4 := by rw [← hy1]; simp
          have hl2 : y2.length ≤ out.length + 5 := by rw [← hy2, List.length_append]; omega
          have hl3 : y3.length ≤ out.length + 6 := by rw [← hy3, List.length_append]; omega
          have hbig : out.length + 6 ≤ 16777216 := by have h1 := unhide HO; have h2 := unhide HL; omega
          have hcat1 := cat_str out [92, 117, 48, 48] y1 hy1 (by omega)
          have hcat2 := cat_str y1 x1 y2 hy2 (by omega)
          have hcat3 := cat_str y2 x2 y3 hy3 (by omega)
          have HY : Hid (y3 = out ++ ([92, 117, 48, 48] ++ x1 ++ x2)) := by rw [← hy3, ← hy2, ← hy1]; unfold Hid; simp
          clear hy1 hy2 hy3 hl1 hl2 hl3 hbig
          generalize ((c.toNat / 16 : Nat) : Int) = q1 at *
          generalize ((c.toNat % 16 : Nat) : Int) = q2 at *
          clear hcl hx1 hx2 c2
          go_wp2_with fail
          go_quiet (fail)
          go_wp2_with fail
          go_roundg (gk - 1)
          case measure => omega
          case rel => exact ⟨k + 1, _, by omega, congrArg (fun l : List UInt8 => Value.string ⟨l.toArray⟩) (by rw [unhide HQ _ (unhide HE), unhide HY]), by first | exact num1 hw | rfl, rfl⟩
        · have d1 : decide (((c.toNat : Nat) : Int) < 32) = false := decide_eq_false (by omega)
          have hcat1 := cat_str out [c] _ rfl (by rw [List.length_append, List.length_singleton]; have h1 := unhide HO; have h2 := unhide HL; omega)
          have HE : Hid (escB c = [c]) := by unfold escB; rw [if_neg c1, if_neg c2]; rfl
          clear hcl c2
          go_wp2_with fail
          go_roundg (gk - 1)
          case measure => omega
          case rel => exact ⟨k + 1, n, by omega, congrArg (fun l : List UInt8 => Value.string ⟨l.toArray⟩) (by rw [unhide HQ _ (unhide HE)]), by first | exact num1 hw | rfl, rfl⟩
    · have hke : k = s.length := by omega
      subst hke
      rw [List.take_length] at *
      have hcat := cat_str ([34] ++ escL s) [34] _ rfl (by rw [List.length_append, List.length_singleton]; have h2 := unhide HL; omega)
      have HQS : Hid (quotS s = [34] ++ escL s ++ [34]) := rfl
      generalize [34] ++ escL s = out at *
      go_wp2_with fail
      go_ret
      exact ⟨by rw [unhide HQS]; rfl, below_drewN' (Below.refl _ _) _⟩
end Go.Proofs.YtkmkkmdpjliifaaDoor
