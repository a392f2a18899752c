import Derived.Test.YtkmkkmdpjliifaaGreatDoorJyD
import Derived.Lib.ItoaNum
import Derived.Deep.RegionHeld3
namespace Go.Proofs.YtkmkkmdpjliifaaGreatDoor
open Go.ChangeShapes Go.WideShapes Go.ChangeAt Go.RowKit

theorem dd_big {n : Nat} (h : ¬ n < 10) : Lib.decDigits n = Lib.decDigits (n / 10) ++ [UInt8.ofNat (48 + n % 10)] := by rw [Lib.decDigits, dif_neg h]
set_option maxRecDepth 20000 in
set_option maxHeartbeats 1000000 in
theorem digits_any : ∀ (n : Nat) (x : Int) (w : World), n ≤ 999999999999 → x = (n : Nat) → Calls Tryz.prog 189 #[.int .i64 x] w fun e w' => e = .returned (.string ⟨(Lib.decDigits n).toArray⟩) ∧ Below w.heap.size w w' ∧ (Lib.decDigits n).length ≤ 20 := by
  intro n
  induction n using Nat.strongRecOn with
  | ind n ih =>
    intro x w hn hx
    have l1 := lit1
    have hlen : (Lib.decDigits n).length ≤ 20 := by
      rw [Lib.decDigits_length]
      by_cases h0 : Lib.nDigits n ≤ 20
      · exact h0
      · exfalso
        have : ∀ k m : Nat, m < 10 ^ (k + 1) → Lib.nDigits m ≤ k + 1 := by
          intro k
          induction k with
          | zero => intro m hm; rw [Lib.nDigits_small (by omega)]; exact Nat.le_refl _
          | succ k ihk =>
            intro m hm
            by_cases h : m < 10
            · rw [Lib.nDigits_small h]; omega
            · rw [Lib.nDigits_big h]
              have := ihk (m / 10) (by rw [Nat.pow_succ] at hm; omega)
              omega
        have h3 := this 12 n (by omega)
        omega
    by_cases h10 : n < 10
    · have d1 : decide (x < 10) = true := decide_eq_true (by omega)
      have hr : x.tmod 10 = x := by rw [hx, Int.tmod_eq_emod_of_nonneg (by omega)]; omega
      have hw : wrap64 (48 + x) = 48 + x := w64 _ (by omega) (by omega)
      have hm : (48 + x) % 256 = 48 + x := by omega
      have HD : Hid (UInt8.ofNat (48 + x).toNat = UInt8.ofNat (48 + n)) := by rw [show (48 + x).toNat = 48 + n by omega]; rfl
      have HX := hide hx
      clear hx hn
      go_enter Tryz.func189, Tryz.ntmps189
      go_wp2_with fail
      go_ret
      refine ⟨?_, (Below.refl _ _).alloc (Nat.le_refl _) _, hlen⟩
      rw [Lib.decDigits_one h10, ← unhide HD]
      rfl
    · have d1 : decide (x < 10) = false := decide_eq_false (by omega)
      have hr : x.tmod 10 = x % 10 := by rw [Int.tmod_eq_emod_of_nonneg (by omega)]
      have hw : wrap64 (48 + x % 10) = 48 + x % 10 := w64 _ (by omega) (by omega)
      have hm : (48 + x % 10) % 256 = 48 + x % 10 := by omega
      have HD : Hid (UInt8.ofNat (48 + x % 10).toNat = UInt8.ofNat (48 + n % 10)) := by rw [show (48 + x % 10).toNat = 48 + n % 10 by omega]; rfl
      have hx0 : 0 ≤ x := by omega
      have HX := hide hx
      have HNN := hide hn
      clear hx hn
      go_enter Tryz.func189, Tryz.ntmps189
      go_wp2_with fail
      have hq : wrap64 (x.tdiv 10) = ((n / 10 : Nat) : Int) := by
        have h1 := unhide HX
        have h2 := unhide HNN
        rw [Int.tdiv_eq_ediv_of_nonneg hx0, w64 _ (by omega) (by omega)]
        omega
      refine (ih (n / 10) (by omega) _ _ (by have := unhide HNN; omega) hq).mono ?_
      rintro e w2 ⟨rfl, hb2, hl2⟩
      have hcat := cat_str (Lib.decDigits (n / 10)) [UInt8.ofNat (48 + x % 10).toNat] _ rfl (by rw [List.length_append, List.length_singleton]; omega)
      have hbb : Below w.heap.size w w2 := ((Below.refl w.heap.size w).alloc (Nat.le_refl _) _).trans (hb2.mono (by simp))
      clear hq hb2
      go_wp2_with fail
      go_ret
      refine ⟨?_, hbb, hlen⟩
      rw [dd_big h10, ← unhide HD]
      rfl

/-- a digit to the base 16 -/
def hexD (n : Nat) : List UInt8 := ([48, 49, 50, 51, 52, 53, 54, 55, 56, 57, 97, 98, 99, 100, 101, 102] : List UInt8).drop n |>.take 1
/-- a byte of a string, as the plain text has it -/
def escB (c : UInt8) : List UInt8 := if c = 34 ∨ c = 92 then [92, c] else if c.toNat < 32 then [92, 117, 48, 48] ++ hexD (c.toNat / 16) ++ hexD (c.toNat % 16) else [c]
theorem escB_length (c : UInt8) : (escB c).length ≤ 6 := by
  unfold escB hexD
  split
  · simp
  · split
    · simp only [List.length_append, List.length_take]
      have h1 := Nat.min_le_left 1 (List.drop (c.toNat / 16) ([48, 49, 50, 51, 52, 53, 54, 55, 56, 57, 97, 98, 99, 100, 101, 102] : List UInt8)).length
      have h2 := Nat.min_le_left 1 (List.drop (c.toNat % 16) ([48, 49, 50, 51, 52, 53, 54, 55, 56, 57, 97, 98, 99, 100, 101, 102] : List UInt8)).length
      simp only [List.length_cons, List.length_nil]
      omega
    · simp
theorem hexD_le (n : Nat) : (hexD n).length ≤ 1 := by unfold hexD; rw [List.length_take]; exact Nat.min_le_left _ _
def escL (s : List UInt8) : List UInt8 := s.flatMap escB
theorem escL_length (s : List UInt8) : (escL s).length ≤ 6 * s.length := by
  unfold escL
  induction s with
  | nil => simp
  | cons c s ih =>
    rw [List.flatMap_cons, List.length_append, List.length_cons]
    have := escB_length c
    omega
theorem escL_take (s : List UInt8) (k : Nat) (h : k < s.length) : escL (s.take (k + 1)) = escL (s.take k) ++ escB (s.getD k 0) := by
  unfold escL
  rw [List.take_add_one, List.flatMap_append]
  simp [List.getD, List.getElem?_eq_getElem h]
/-- a string, as the plain text has it -/
def quotS (s : List UInt8) : List UInt8 := [34] ++ escL s ++ [34]
theorem quotS_length (s : List UInt8) : (quotS s).length ≤ 6 * s.length + 2 := by
  unfold quotS
  have := escL_length s
  simp only [List.length_append, List.length_singleton]
  omega

theorem hexs (n : Nat) (h : n < 16) (u : World) : (Instr.slice 9 (.string ⟨#[48, 49, 50, 51, 52, 53, 54, 55, 56, 57, 97, 98, 99, 100, 101, 102]⟩) (some (.int .i64 (n : Nat))) (some (.int .i64 (((n : Nat) : Int) + 1))) none).run Tryz.prog u = .ok (.string ⟨(hexD n).toArray⟩) u :=
  mid_any [48, 49, 50, 51, 52, 53, 54, 55, 56, 57, 97, 98, 99, 100, 101, 102] n 1 (by show n + 1 ≤ 16; omega) u _ _ rfl rfl
theorem i64q (n : Nat) (h : n < 256) : IntKind.i64.wrap ((n : Int) / 16) = ((n / 16 : Nat) : Int) := by rw [IntKind.wrap_i64]; omega
theorem i64s (n : Nat) (h : n < 256) : IntKind.i64.wrap ((n : Int) + 1) = (n : Int) + 1 := by rw [IntKind.wrap_i64]; omega
theorem i64r (n : Nat) (h : n < 256) : IntKind.i64.wrap (((n % 16 : Nat) : Int)) = ((n % 16 : Nat) : Int) ∧ ((n : Int)).tmod 16 = ((n % 16 : Nat) : Int) ∧ IntKind.i64.wrap ((n : Int) % 16) = ((n % 16 : Nat) : Int) := by
  refine ⟨by rw [IntKind.wrap_i64]; omega, by rw [Int.tmod_eq_emod_of_nonneg (by omega)]; omega, by rw [IntKind.wrap_i64]; omega⟩
theorem quot_step (s : List UInt8) (k : Nat) (h : k < s.length) (x : List UInt8) (hx : escB (s.getD k 0) = x) : [34] ++ escL (s.take (k + 1)) = [34] ++ escL (s.take k) ++ x := by
  rw [escL_take s k h, hx, List.append_assoc]
theorem mid1 (s : List UInt8) (k : Nat) (h : k < s.length) : (s.drop k).take 1 = [s.getD k 0] := by
  rw [List.drop_eq_getElem_cons h, List.take_succ_cons, List.take_zero]
  simp [List.getD, List.getElem?_eq_getElem h]

set_option maxRecDepth 20000 in
set_option maxHeartbeats 1000000 in
theorem quoted_any (s : List UInt8) (w : World) (hl : s.length ≤ 4096) :
    Calls Tryz.prog 190 #[.string ⟨s.toArray⟩] w fun e w' => e = .returned (.string ⟨(quotS s).toArray⟩) ∧ Below w.heap.size w w' := by
  have HL := hide hl
  clear hl
  go_enter Tryz.func190, Tryz.ntmps190
  go_wp2_with fail
  go_loopg [3, 4] s.length (fun q o i wr => ∃ (k n : Nat), k + q = s.length ∧ o = .string ⟨([34] ++ escL (s.take k)).toArray⟩ ∧ i = .int .i64 (k : Nat) ∧ wr = w.drewN n)
  case atStart => exact ⟨0, 0, Nat.zero_add _, rfl, rfl, rfl⟩
  case round =>
    obtain ⟨k, n, hk, rfl, rfl, rfl⟩ := hrel
    have hol : ([34] ++ escL (s.take k)).length ≤ 6 * s.length + 1 := by
      have h1 := escL_length (s.take k)
      rw [List.length_take] at h1
      simp only [List.length_append, List.length_singleton]
      omega
    by_cases hlt : k < s.length
    · have hw : wrap64 ((k : Int) + 1) = (k : Int) + 1 := w64 _ (by omega) (by have := unhide HL; omega)
      have hkl : (k : Int) < s.length := by omega
      have hix := ix_any s k hlt
      have hmid := fun u => mid_any s k 1 (by omega) u (k : Int) ((k : Int) + 1) rfl (by omega)
      rw [mid1 s k hlt] at hmid
      have hby : by_ s k = (s.getD k 0).toNat := rfl
      rw [hby] at hix
      have hq := quot_step s k hlt
      generalize hc : s.getD k 0 = c at *
      have hcl := c.toNat_lt
      generalize [34] ++ escL (s.take k) = out at *
      have HQ := hide hq
      have HO := hide hol
      clear hq hol hc hby
      by_cases c1 : c = 34 ∨ c = 92
      · have hcat1 := cat_str out [92] _ rfl (by rw [List.length_append, List.length_singleton]; have h1 := unhide HO; have h2 := unhide HL; omega)
        have hcat2 := cat_str (out ++ [92]) [c] _ rfl (by simp only [List.length_append, List.length_singleton]; have h1 := unhide HO; have h2 := unhide HL; omega)
        have HE : Hid (escB c = [92, c]) := by unfold escB; rw [if_pos c1]; rfl
        rcases c1 with rfl | rfl
        all_goals
          go_wp2_with fail
          go_roundg (gk - 1)
          case measure => omega
          case rel => exact ⟨k + 1, n, by omega, congrArg (fun l : List UInt8 => Value.string ⟨l.toArray⟩) (by rw [unhide HQ _ (unhide HE)]), by first | exact num1 hw | rfl, rfl⟩
      · have n1 : (((c.toNat : Nat) : Int) == 34) = false := u8_bne (n := 34) (fun h => c1 (Or.inl ((u8_eq (by decide)).2 h)))
        have n2 : (((c.toNat : Nat) : Int) == 92) = false := u8_bne (n := 92) (fun h => c1 (Or.inr ((u8_eq (by decide)).2 h)))
        have hwc : wrap64 ((c.toNat : Nat) : Int) = ((c.toNat : Nat) : Int) := w64 _ (by omega) (by omega)
        by_cases c2 : c.toNat < 32
        · have d1 : decide (((c.toNat : Nat) : Int) < 32) = true := decide_eq_true (by omega)
          have e1 := i64q c.toNat hcl
          have e2 := i64s (c.toNat / 16) (by omega)
          have e3 : ((c.toNat : Nat) : Int) % 16 = ((c.toNat % 16 : Nat) : Int) := by omega
          have e4 := i64s (c.toNat % 16) (by omega)
          obtain ⟨e5, e6, e7⟩ := i64r c.toNat hcl
          have hs1 := hexs (c.toNat / 16) (by omega)
          have hs2 := hexs (c.toNat % 16) (by omega)
          have HE : Hid (escB c = [92, 117, 48, 48] ++ hexD (c.toNat / 16) ++ hexD (c.toNat % 16)) := by unfold escB; rw [if_neg c1, if_pos c2]; rfl
          have hx1 : (hexD (c.toNat / 16)).length ≤ 1 := hexD_le _
          have hx2 : (hexD (c.toNat % 16)).length ≤ 1 := hexD_le _
          generalize hexD (c.toNat / 16) = x1 at *
          generalize hexD (c.toNat % 16) = x2 at *
          obtain ⟨y1, hy1⟩ : ∃ y, out ++ [92, 117, 48, 48] = y := ⟨_, rfl⟩
          obtain ⟨y2, hy2⟩ : ∃ y, y1 ++ x1 = y := ⟨_, rfl⟩
          obtain ⟨y3, hy3⟩ : ∃ y, y2 ++ x2 = y := ⟨_, rfl⟩
          have hl1 : y1.length = out.length + 4 := by rw [← hy1]; simp
          have hl2 : y2.length ≤ out.length + 5 := by rw [← hy2, List.length_append]; omega
          have hl3 : y3.length ≤ out.length + 6 := by rw [← hy3, List.length_append]; omega
          have hbig : out.length + 6 ≤ 16777216 := by have h1 := unhide HO; have h2 := unhide HL; omega
          have hcat1 := cat_str out [92, 117, 48, 48] y1 hy1 (by omega)
          have hcat2 := cat_str y1 x1 y2 hy2 (by omega)
          have hcat3 := cat_str y2 x2 y3 hy3 (by omega)
          have HY : Hid (y3 = out ++ ([92, 117, 48, 48] ++ x1 ++ x2)) := by rw [← hy3, ← hy2, ← hy1]; unfold Hid; simp
          clear hy1 hy2 hy3 hl1 hl2 hl3 hbig
          generalize ((c.toNat / 16 : Nat) : Int) = q1 at *
          generalize ((c.toNat % 16 : Nat) : Int) = q2 at *
          clear hcl hx1 hx2 c2
          go_wp2_with fail
          go_quiet (fail)
          go_wp2_with fail
          go_roundg (gk - 1)
          case measure => omega
          case rel => exact ⟨k + 1, _, by omega, congrArg (fun l : List UInt8 => Value.string ⟨l.toArray⟩) (by rw [unhide HQ _ (unhide HE), unhide HY]), by first | exact num1 hw | rfl, rfl⟩
        · have d1 : decide (((c.toNat : Nat) : Int) < 32) = false := decide_eq_false (by omega)
          have hcat1 := cat_str out [c] _ rfl (by rw [List.length_append, List.length_singleton]; have h1 := unhide HO; have h2 := unhide HL; omega)
          have HE : Hid (escB c = [c]) := by unfold escB; rw [if_neg c1, if_neg c2]; rfl
          clear hcl c2
          go_wp2_with fail
          go_roundg (gk - 1)
          case measure => omega
          case rel => exact ⟨k + 1, n, by omega, congrArg (fun l : List UInt8 => Value.string ⟨l.toArray⟩) (by rw [unhide HQ _ (unhide HE)]), by first | exact num1 hw | rfl, rfl⟩
    · have hke : k = s.length := by omega
      subst hke
      rw [List.take_length] at *
      have hcat := cat_str ([34] ++ escL s) [34] _ rfl (by rw [List.length_append, List.length_singleton]; have h2 := unhide HL; omega)
      have HQS : Hid (quotS s = [34] ++ escL s ++ [34]) := rfl
      generalize [34] ++ escL s = out at *
      go_wp2_with fail
      go_ret
      exact ⟨by rw [unhide HQS]; rfl, below_drewN' (Below.refl _ _) _⟩
end Go.Proofs.YtkmkkmdpjliifaaGreatDoor
namespace Go.Proofs.YtkmkkmdpjliifaaGreatDoor
open Go.ChangeShapes Go.WideShapes Go.ChangeAt Go.RowKit

/-- the first k names of a list, as the plain text has them -/
def joinK (l : List (List UInt8)) : Nat → List UInt8
  | 0 => []
  | k + 1 => joinK l k ++ ((if k = 0 then [] else [44]) ++ quotS (l.getD k []))
/-- a list, as the plain text has it -/
def listP (l : List (List UInt8)) : List UInt8 := [91] ++ joinK l l.length ++ [93]
theorem joinK_length (l : List (List UInt8)) (hf : ∀ i, i < l.length → (l.getD i []).length ≤ 16) : ∀ k, k ≤ l.length → (joinK l k).length ≤ 99 * k
  | 0, _ => Nat.le_refl _
  | k + 1, h => by
    have h1 := joinK_length l hf k (by omega)
    have h2 := quotS_length (l.getD k [])
    have h3 := hf k (by omega)
    have h4 : (if k = 0 then ([] : List UInt8) else [44]).length ≤ 1 := by split <;> simp
    rw [joinK]
    simp only [List.length_append]
    omega
theorem listP_length (l : List (List UInt8)) (hf : ∀ i, i < l.length → (l.getD i []).length ≤ 16) (hl : l.length ≤ 6) : (listP l).length ≤ 600 := by
  have := joinK_length l hf l.length (Nat.le_refl _)
  unfold listP
  simp only [List.length_append, List.length_singleton]
  omega
def Names (l : List (List UInt8)) : Prop := l.length ≤ 6 ∧ ∀ i, i < l.length → (l.getD i []).length ≤ 16
theorem Names.of {l : List (List UInt8)} (h : listB l = true) : Names l := by
  unfold listB at h
  rw [Bool.and_eq_true] at h
  refine ⟨of_decide_eq_true h.1, fun i hi => ?_⟩
  have := List.all_eq_true.1 h.2 i (List.mem_range.2 hi)
  unfold okAt nameN at this
  simp only [Bool.and_eq_true] at this
  exact of_decide_eq_true this.1.2

set_option maxRecDepth 20000 in
set_option maxHeartbeats 1000000 in
theorem listed_any (v : Value) (l : List (List UInt8)) (w : World) (B : Nat) (hB : B ≤ w.heap.size) (hN : Names l) (hv : Ls w B v l) :
    Calls Tryz.prog 191 #[v] w fun e w' => e = .returned (.string ⟨(listP l).toArray⟩) ∧ Below w.heap.size w w' := by
  obtain ⟨a, c, rfl, hle, hv⟩ := hv
  clear hle
  have HV := hide hv
  have HN := hide hN
  have HJ := hide (joinK_length l hN.2)
  have hl6 := hN.1
  clear hv hN
  go_enter Tryz.func191, Tryz.ntmps191
  go_wp2_with fail
  go_loopg [3, 4] l.length (fun q o i wr => ∃ (k : Nat), k + q = l.length ∧ o = .string ⟨([91] ++ joinK l k).toArray⟩ ∧ i = .int .i64 (k : Nat) ∧ Below w.heap.size w wr)
  case atStart => exact ⟨0, Nat.zero_add _, rfl, rfl, Below.refl _ _⟩
  case round =>
    obtain ⟨k, hk, rfl, rfl, hb⟩ := hrel
    have hol : ([91] ++ joinK l k).length ≤ 99 * k + 1 := by
      have h1 := unhide HJ k (by omega)
      simp only [List.length_append, List.length_singleton]
      omega
    have HS : Hid (∀ x, x = (if k = 0 then [] else [44]) ++ quotS (l.getD k []) → [91] ++ joinK l (k + 1) = ([91] ++ joinK l k) ++ x) := fun x hx => by
      rw [hx, joinK]; simp only [List.append_assoc]
    by_cases hlt : k < l.length
    · have hw : wrap64 ((k : Int) + 1) = (k : Int) + 1 := w64 _ (by omega) (by omega)
      have hkl : (k : Int) < l.length := by omega
      obtain ⟨g, o, rfl, hg, hC⟩ := unhide HV (by omega)
      have hc := (hb.cell (p := ⟨g, o + k, none⟩) (by show g < _; omega)).trans (hC k hlt)
      have hfit := (unhide HN).2 k hlt
      have hql := quotS_length (l.getD k [])
      clear hC
      generalize l.getD k [] = y at *
      rw [sv_def] at hc
      obtain ⟨out, hout⟩ : ∃ out, [91] ++ joinK l k = out := ⟨_, rfl⟩
      rw [hout] at HS hol ⊢
      clear hout
      have HO := hide hol
      have hsz := hb.size
      have HQL := hide hql
      have HF := hide hfit
      clear hol hql hfit
      by_cases h0 : k = 0
      · have hk0 : ¬ (0 : Int) < (k : Int) := by omega
        have hcat := cat_str out (quotS y) _ rfl (by rw [List.length_append]; have h1 := unhide HO; have h2 := unhide HQL; have h3 := unhide HF; omega)
        have HS2 : Hid ([91] ++ joinK l (k + 1) = out ++ quotS y) := unhide HS _ (by rw [if_pos h0]; rfl)
        clear HS h0
        go_wp2_with (go_at_call 190; refine (quoted_any y _ (by have := unhide HF; omega)).mono ?_; rintro e w2 ⟨rfl, hb2⟩)
        go_roundg (gk - 1)
        case measure => omega
        case rel => exact ⟨k + 1, by omega, congrArg (fun l : List UInt8 => Value.string ⟨l.toArray⟩) (unhide HS2).symm, by first | exact num1 hw | rfl, hb.trans (hb2.mono hsz)⟩
      · have hk0 : (0 : Int) < (k : Int) := by omega
        have hcat1 := cat_str out [44] _ rfl (by rw [List.length_append, List.length_singleton]; have h1 := unhide HO; omega)
        have hcat := cat_str (out ++ [44]) (quotS y) _ rfl (by rw [List.length_append, List.length_append, List.length_singleton]; have h1 := unhide HO; have h2 := unhide HQL; have h3 := unhide HF; omega)
        have HS2 : Hid ([91] ++ joinK l (k + 1) = out ++ [44] ++ quotS y) := by have h := unhide HS _ rfl; rw [if_neg h0] at h; unfold Hid; rw [h, List.append_assoc]
        clear HS h0
        go_wp2_with (go_at_call 190; refine (quoted_any y _ (by have := unhide HF; omega)).mono ?_; rintro e w2 ⟨rfl, hb2⟩)
        go_roundg (gk - 1)
        case measure => omega
        case rel => exact ⟨k + 1, by omega, congrArg (fun l : List UInt8 => Value.string ⟨l.toArray⟩) (by rw [unhide HS2]; simp), by first | exact num1 hw | rfl, hb.trans (hb2.mono hsz)⟩
    · have hke : k = l.length := by omega
      have hlp : listP l = ([91] ++ joinK l k) ++ [93] := by rw [hke]; rfl
      have hcat := cat_str ([91] ++ joinK l k) [93] _ rfl (by rw [List.length_append, List.length_singleton]; omega)
      have HP := hide hlp
      obtain ⟨out, hout⟩ : ∃ out, [91] ++ joinK l k = out := ⟨_, rfl⟩
      rw [hout] at HP hcat ⊢
      clear hout hlp hol HS
      go_wp2_with fail
      go_ret
      exact ⟨by rw [unhide HP]; rfl, hb⟩
/-- the plain text of claims -/
def plainS (c : Cm) : List UInt8 :=
  [123, 34, 106, 116, 105, 34, 58] ++ Lib.decDigits c.id ++ [44, 34, 115, 117, 98, 34, 58] ++ quotS c.sub ++ [44, 34, 115, 99, 112, 34, 58] ++ listP c.scp ++ [44, 34, 97, 117, 100, 34, 58] ++ listP c.aud ++
    [44, 34, 97, 99, 116, 34, 58] ++ listP c.act ++ [44, 34, 101, 120, 112, 34, 58] ++ Lib.decDigits c.exp ++ [125]

theorem dd_len (n : Nat) (hn : n ≤ 999999999999) : (Lib.decDigits n).length ≤ 20 := by
  rw [Lib.decDigits_length]
  have : ∀ k m : Nat, m < 10 ^ (k + 1) → Lib.nDigits m ≤ k + 1 := by
    intro k
    induction k with
    | zero => intro m hm; rw [Lib.nDigits_small (by omega)]; exact Nat.le_refl _
    | succ k ihk =>
      intro m hm
      by_cases h : m < 10
      · rw [Lib.nDigits_small h]; omega
      · rw [Lib.nDigits_big h]
        have := ihk (m / 10) (by rw [Nat.pow_succ] at hm; omega)
        omega
  have h3 := this 12 n (by omega)
  omega
theorem right_nums {c : Cz} (h : rightB c = true) : ∃ m : Cm, m.z = c ∧ m.id ≤ 999999999999 ∧ m.exp ≤ 999999999999 ∧ m.sub.length ≤ 16 ∧ Names m.scp ∧ Names m.aud ∧ Names m.act := by
  unfold rightB at h
  simp only [Bool.and_eq_true, decide_eq_true_eq] at h
  obtain ⟨⟨⟨⟨⟨⟨⟨h1, h2⟩, h3⟩, h4⟩, h5⟩, h6⟩, h7⟩, h8⟩ := h
  obtain ⟨i, hi⟩ := Int.eq_ofNat_of_zero_le h5
  obtain ⟨e, he⟩ := Int.eq_ofNat_of_zero_le h7
  refine ⟨⟨i, c.sub, c.scp, c.aud, c.act, e⟩, ?_, by show i ≤ _; omega, by show e ≤ _; omega, ?_, Names.of h2, Names.of h3, Names.of h4⟩
  · cases c
    simp only [Cm.z] at hi he ⊢
    rw [hi, he]
  · unfold nameN at h1
    simp only [Bool.and_eq_true, decide_eq_true_eq] at h1
    exact h1.2
/-- what Print answers -/
def PrnR (c : Cz) (e : Ending) : Prop := (rightB c = false ∧ e = .returned (.tuple #[.string ⟨#[]⟩, .int .i64 2])) ∨ (∃ m : Cm, m.z = c ∧ rightB c = true ∧ e = .returned (.tuple #[.string ⟨(plainS m).toArray⟩, .int .i64 0]))

set_option maxRecDepth 20000 in
set_option maxHeartbeats 2000000 in
theorem PrintR_any (c : Cz) (p : Pl) (w : World) (B : Nat) (hB : B ≤ w.heap.size) (hS : CzS c) (hL : CzL w B c p) :
    Calls Tryz.prog 154 #[.agg (czA c p)] w fun e w' => PrnR c e ∧ Below w.heap.size w w' := by
  have HS := hide hS
  obtain ⟨wa, hwa⟩ : ∃ wa, wa = w.alloc (.cells #[.int .i64 c.id, .string ⟨c.sub.toArray⟩, .slice p.a2 c.scp.length p.c2, .slice p.a3 c.aud.length p.c3, .slice p.a4 c.act.length p.c4, .int .i64 c.exp] 60) := ⟨_, rfl⟩
  have hba : Below w.heap.size w wa := by rw [hwa]; exact (Below.refl _ _).alloc (Nat.le_refl _) _
  have hsa : wa.heap.size = w.heap.size + 1 := by rw [hwa]; simp
  have HLa := hide (hL.below (hba.mono hB))
  have g0 : wa.cell? ⟨w.heap.size, 0, none⟩ = some (.int .i64 c.id) := by rw [hwa]; simp
  have g1 : wa.cell? ⟨w.heap.size, 1, none⟩ = some (.string ⟨c.sub.toArray⟩) := by rw [hwa]; simp
  have g2 : wa.cell? ⟨w.heap.size, 2, none⟩ = some (.slice p.a2 c.scp.length p.c2) := by rw [hwa]; simp
  have g3 : wa.cell? ⟨w.heap.size, 3, none⟩ = some (.slice p.a3 c.aud.length p.c3) := by rw [hwa]; simp
  have g4 : wa.cell? ⟨w.heap.size, 4, none⟩ = some (.slice p.a4 c.act.length p.c4) := by rw [hwa]; simp
  have g5 : wa.cell? ⟨w.heap.size, 5, none⟩ = some (.int .i64 c.exp) := by rw [hwa]; simp
  have HWA := hide hwa
  unfold czA
  clear hS hL hwa
  go_enter Tryz.func154, Tryz.ntmps154
  go_wp2_with fail
  rw [← unhide HWA]
  clear HWA
  refine (Right_any c p _ B (by omega) (unhide HS) (unhide HLa)).mono ?_
  rintro e w1 ⟨rfl, hb1⟩
  have hs1 := hb1.size
  have HL1 := hide ((unhide HLa).below (hb1.mono (by omega)))
  have hbb1 := hba.trans (hb1.mono (by omega))
  have u : ∀ j, w1.cell? ⟨w.heap.size, j, none⟩ = wa.cell? ⟨w.heap.size, j, none⟩ := fun j => hb1.cell (p := ⟨w.heap.size, j, none⟩) (by show w.heap.size < _; omega)
  rw [← u 0] at g0
  rw [← u 1] at g1
  rw [← u 2] at g2
  rw [← u 3] at g3
  rw [← u 4] at g4
  rw [← u 5] at g5
  clear u HLa hb1 hba
  cases hr : rightB c with
  | false =>
    have HR := hide hr
    clear hr
    go_wp2_with fail
    go_ret2
    exact ⟨Or.inl ⟨unhide HR, rfl⟩, hbb1⟩
  | true =>
    obtain ⟨m, rfl, hi, he, hsub, n2, n3, n4⟩ := right_nums hr
    have HR := hide hr
    have HI := hide hi
    have HE := hide he
    have HSB := hide hsub
    have HN2 := hide n2
    have HN3 := hide n3
    have HN4 := hide n4
    clear hr hi he hsub n2 n3 n4 HS
    change w1.cell? _ = some (.int .i64 (m.id : Int)) at g0
    change w1.cell? _ = some (.string ⟨m.sub.toArray⟩) at g1
    change w1.cell? _ = some (.slice p.a2 m.scp.length p.c2) at g2
    change w1.cell? _ = some (.slice p.a3 m.aud.length p.c3) at g3
    change w1.cell? _ = some (.slice p.a4 m.act.length p.c4) at g4
    change w1.cell? _ = some (.int .i64 (m.exp : Int)) at g5
    have hd1 : (Lib.decDigits m.id).length ≤ 20 := dd_len _ (unhide HI)
    have hd2 : (Lib.decDigits m.exp).length ≤ 20 := dd_len _ (unhide HE)
    have hq1 : (quotS m.sub).length ≤ 98 := by have h1 := quotS_length m.sub; have h2 := unhide HSB; omega
    have hl2 := listP_length m.scp (unhide HN2).2 (unhide HN2).1
    have hl3 := listP_length m.aud (unhide HN3).2 (unhide HN3).1
    have hl4 := listP_length m.act (unhide HN4).2 (unhide HN4).1
    have HP : Hid (plainS m = [123, 34, 106, 116, 105, 34, 58] ++ Lib.decDigits m.id ++ [44, 34, 115, 117, 98, 34, 58] ++ quotS m.sub ++ [44, 34, 115, 99, 112, 34, 58] ++ listP m.scp ++ [44, 34, 97, 117, 100, 34, 58] ++ listP m.aud ++ [44, 34, 97, 99, 116, 34, 58] ++ listP m.act ++ [44, 34, 101, 120, 112, 34, 58] ++ Lib.decDigits m.exp ++ [125]) := rfl
    have HC1 := hide (digits_any m.id)
    have HC2 := hide (fun w => quoted_any m.sub w (by have h2 := unhide HSB; omega))
    have HC3 := hide (fun v w B hB => listed_any v m.scp w B hB (unhide HN2))
    have HC4 := hide (fun v w B hB => listed_any v m.aud w B hB (unhide HN3))
    have HC5 := hide (fun v w B hB => listed_any v m.act w B hB (unhide HN4))
    have HC6 := hide (digits_any m.exp)
    generalize Lib.decDigits m.id = D1 at *
    generalize Lib.decDigits m.exp = D2 at *
    generalize quotS m.sub = Q1 at *
    generalize listP m.scp = L2 at *
    generalize listP m.aud = L3 at *
    generalize listP m.act = L4 at *
    obtain ⟨y1, hy1⟩ : ∃ y, [123, 34, 106, 116, 105, 34, 58] ++ D1 = y := ⟨_, rfl⟩
    obtain ⟨y2, hy2⟩ : ∃ y, y1 ++ [44, 34, 115, 117, 98, 34, 58] = y := ⟨_, rfl⟩
    obtain ⟨y3, hy3⟩ : ∃ y, y2 ++ Q1 = y := ⟨_, rfl⟩
    obtain ⟨y4, hy4⟩ : ∃ y, y3 ++ [44, 34, 115, 99, 112, 34, 58] = y := ⟨_, rfl⟩
    obtain ⟨y5, hy5⟩ : ∃ y, y4 ++ L2 = y := ⟨_, rfl⟩
    obtain ⟨y6, hy6⟩ : ∃ y, y5 ++ [44, 34, 97, 117, 100, 34, 58] = y := ⟨_, rfl⟩
    obtain ⟨y7, hy7⟩ : ∃ y, y6 ++ L3 = y := ⟨_, rfl⟩
    obtain ⟨y8, hy8⟩ : ∃ y, y7 ++ [44, 34, 97, 99, 116, 34, 58] = y := ⟨_, rfl⟩
    obtain ⟨y9, hy9⟩ : ∃ y, y8 ++ L4 = y := ⟨_, rfl⟩
    obtain ⟨y10, hy10⟩ : ∃ y, y9 ++ [44, 34, 101, 120, 112, 34, 58] = y := ⟨_, rfl⟩
    obtain ⟨y11, hy11⟩ : ∃ y, y10 ++ D2 = y := ⟨_, rfl⟩
    obtain ⟨y12, hy12⟩ : ∃ y, y11 ++ [125] = y := ⟨_, rfl⟩
    have z1 : y1.length ≤ 27 := by rw [← hy1, List.length_append]; simp only [List.length_cons, List.length_nil]; omega
    have z2 : y2.length ≤ 34 := by rw [← hy2, List.length_append]; simp only [List.length_cons, List.length_nil]; omega
    have z3 : y3.length ≤ 132 := by rw [← hy3, List.length_append]; omega
    have z4 : y4.length ≤ 139 := by rw [← hy4, List.length_append]; simp only [List.length_cons, List.length_nil]; omega
    have z5 : y5.length ≤ 739 := by rw [← hy5, List.length_append]; omega
    have z6 : y6.length ≤ 746 := by rw [← hy6, List.length_append]; simp only [List.length_cons, List.length_nil]; omega
    have z7 : y7.length ≤ 1346 := by rw [← hy7, List.length_append]; omega
    have z8 : y8.length ≤ 1353 := by rw [← hy8, List.length_append]; simp only [List.length_cons, List.length_nil]; omega
    have z9 : y9.length ≤ 1953 := by rw [← hy9, List.length_append]; omega
    have z10 : y10.length ≤ 1960 := by rw [← hy10, List.length_append]; simp only [List.length_cons, List.length_nil]; omega
    have z11 : y11.length ≤ 1980 := by rw [← hy11, List.length_append]; omega
    have z12 : y12.length ≤ 1981 := by rw [← hy12, List.length_append, List.length_singleton]; omega
    have k1 := cat_str _ _ y1 hy1 (by omega)
    have k2 := cat_str _ _ y2 hy2 (by omega)
    have k3 := cat_str _ _ y3 hy3 (by omega)
    have k4 := cat_str _ _ y4 hy4 (by omega)
    have k5 := cat_str _ _ y5 hy5 (by omega)
    have k6 := cat_str _ _ y6 hy6 (by omega)
    have k7 := cat_str _ _ y7 hy7 (by omega)
    have k8 := cat_str _ _ y8 hy8 (by omega)
    have k9 := cat_str _ _ y9 hy9 (by omega)
    have k10 := cat_str _ _ y10 hy10 (by omega)
    have k11 := cat_str _ _ y11 hy11 (by omega)
    have k12 := cat_str _ _ y12 hy12 (by omega)
    have HY : Hid (y12 = plainS m) := by rw [unhide HP, ← hy12, ← hy11, ← hy10, ← hy9, ← hy8, ← hy7, ← hy6, ← hy5, ← hy4, ← hy3, ← hy2, ← hy1]; rfl
    clear z1 z2 z3 z4 z5 z6 z7 z8 z9 z10 z11 z12 hy1 hy2 hy3 hy4 hy5 hy6 hy7 hy8 hy9 hy10 hy11 hy12 hd1 hd2 hq1 hl2 hl3 hl4 HP
    go_wp2_with fail
    go_region_held3 (fun w' => w'.cell? ⟨w.heap.size, 0, none⟩ = some (.int .i64 (m.id : Int)) ∧ w'.cell? ⟨w.heap.size, 1, none⟩ = some (.string ⟨m.sub.toArray⟩) ∧ w'.cell? ⟨w.heap.size, 2, none⟩ = some (.slice p.a2 m.scp.length p.c2)) (go_keep)
      (first
        | (go_at_call 189; refine (unhide HC1 _ _ (unhide HI) rfl).mono ?_; rintro e w2 ⟨rfl, hb2, -⟩; have hs2 := hb2.size; have u2 : ∀ j, w2.cell? ⟨w.heap.size, j, none⟩ = w1.cell? ⟨w.heap.size, j, none⟩ := fun j => hb2.cell (p := ⟨w.heap.size, j, none⟩) (by show w.heap.size < w1.heap.size; omega); have t0 := (u2 0).trans g0; have t1 := (u2 1).trans g1; have t2 := (u2 2).trans g2)
        | (go_at_call 190; refine (unhide HC2 _).mono ?_; rintro e w3 ⟨rfl, hb3⟩; have hs3 := hb3.size; have hq2 : w1.heap.size ≤ w2.heap.size := hs2; have u3 : ∀ j, w3.cell? ⟨w.heap.size, j, none⟩ = w2.cell? ⟨w.heap.size, j, none⟩ := fun j => hb3.cell (p := ⟨w.heap.size, j, none⟩) (by show w.heap.size < w2.heap.size; omega); have s0 := (u3 0).trans t0; have s1 := (u3 1).trans t1; have s2 := (u3 2).trans t2)
        | (go_at_call 191; refine (unhide HC3 _ _ B (by have hq2 : w1.heap.size ≤ w2.heap.size := hs2; have hq3 : w2.heap.size ≤ w3.heap.size := hs3; omega) (((unhide HL1).k2.drew.below (hb2.mono (show B ≤ w1.heap.size by omega))).below (hb3.mono (by have hq2 : w1.heap.size ≤ w2.heap.size := hs2; omega)))).mono ?_; rintro e w4 ⟨rfl, hb4⟩; have hs4 := hb4.size; have hq3 : w2.heap.size ≤ w3.heap.size := hs3; have u4 : ∀ j, w4.cell? ⟨w.heap.size, j, none⟩ = w3.cell? ⟨w.heap.size, j, none⟩ := fun j => hb4.cell (p := ⟨w.heap.size, j, none⟩) (by show w.heap.size < w3.heap.size; omega); have r0 := (u4 0).trans s0; have r1 := (u4 1).trans s1; have r2 := (u4 2).trans s2))
    have hq2 : w1.heap.size ≤ w2.heap.size := hs2
    have hq3 : w2.heap.size ≤ w3.heap.size := hs3
    have hq4 : w3.heap.size ≤ w4.heap.size := hs4
    have hbb4 : Below w.heap.size w w4 := ((hbb1.drew.trans (hb2.mono (show w.heap.size ≤ w1.heap.size by omega))).trans (hb3.mono (by omega))).trans (hb4.mono (by omega))
    have v4 : ∀ j, w4.cell? ⟨w.heap.size, j, none⟩ = w1.cell? ⟨w.heap.size, j, none⟩ := fun j => (u4 j).trans ((u3 j).trans (u2 j))
    have f3 := (v4 3).trans g3
    have f4 := (v4 4).trans g4
    have f5 := (v4 5).trans g5
    have HK3 := hide ((((unhide HL1).k3.drew.below (hb2.mono (show B ≤ w1.heap.size by omega))).below (hb3.mono (by omega))).below (hb4.mono (by omega)))
    have HK4 := hide ((((unhide HL1).k4.drew.below (hb2.mono (show B ≤ w1.heap.size by omega))).below (hb3.mono (by omega))).below (hb4.mono (by omega)))
    have hB4 : B ≤ w4.heap.size := by omega
    have hZ4 : w.heap.size < w4.heap.size := by omega
    clear hb2 hb3 hb4 u2 u3 u4 v4 t0 t1 t2 s0 s1 s2 r0 r1 r2 g0 g1 g2 g3 g4 g5 hbb1 HL1 hq2 hq3 hq4 hs2 hs3 hs4 hs1 hsa HC1 HC2 HC3 k1 k2 k3 k4 k5
    go_wp2_with fail
    go_region_held3 (fun w' => w'.cell? ⟨w.heap.size, 3, none⟩ = some (.slice p.a3 m.aud.length p.c3) ∧ w'.cell? ⟨w.heap.size, 4, none⟩ = some (.slice p.a4 m.act.length p.c4) ∧ w'.cell? ⟨w.heap.size, 5, none⟩ = some (.int .i64 (m.exp : Int))) (go_keep)
      (first
        | (go_at_call_of 191 (Value.slice p.a3 m.aud.length p.c3); refine (unhide HC4 _ _ B (by exact hB4) (unhide HK3).drew).mono ?_; rintro e w5 ⟨rfl, hb5⟩; have hs5 := hb5.size; have u5 : ∀ j, w5.cell? ⟨w.heap.size, j, none⟩ = w4.cell? ⟨w.heap.size, j, none⟩ := fun j => hb5.cell (p := ⟨w.heap.size, j, none⟩) (by show w.heap.size < w4.heap.size; omega); have t3 := (u5 3).trans f3; have t4 := (u5 4).trans f4; have t5 := (u5 5).trans f5)
        | (go_at_call_of 191 (Value.slice p.a4 m.act.length p.c4); refine (unhide HC5 _ _ B (by have hq5 : w4.heap.size ≤ w5.heap.size := hs5; omega) ((unhide HK4).drew.below (hb5.mono hB4))).mono ?_; rintro e w6 ⟨rfl, hb6⟩; have hs6 := hb6.size; have hq5 : w4.heap.size ≤ w5.heap.size := hs5; have u6 : ∀ j, w6.cell? ⟨w.heap.size, j, none⟩ = w5.cell? ⟨w.heap.size, j, none⟩ := fun j => hb6.cell (p := ⟨w.heap.size, j, none⟩) (by show w.heap.size < w5.heap.size; omega); have s3 := (u6 3).trans t3; have s4 := (u6 4).trans t4; have s5 := (u6 5).trans t5)
        | (go_at_call 189; refine (unhide HC6 _ _ (unhide HE) rfl).mono ?_; rintro e w7 ⟨rfl, hb7, -⟩; have hs7 := hb7.size; have hq5 : w4.heap.size ≤ w5.heap.size := hs5; have hq6 : w5.heap.size ≤ w6.heap.size := hs6; have u7 : ∀ j, w7.cell? ⟨w.heap.size, j, none⟩ = w6.cell? ⟨w.heap.size, j, none⟩ := fun j => hb7.cell (p := ⟨w.heap.size, j, none⟩) (by show w.heap.size < w6.heap.size; omega); have r3 := (u7 3).trans s3; have r4 := (u7 4).trans s4; have r5 := (u7 5).trans s5))
    go_wp2_with fail
    go_ret2
    have hq5 : w4.heap.size ≤ w5.heap.size := hs5
    have hq6 : w5.heap.size ≤ w6.heap.size := hs6
    refine ⟨Or.inr ⟨m, rfl, unhide HR, by rw [← unhide HY]; rfl⟩, ?_⟩
    exact ((hbb4.drew.trans (hb5.mono (show w.heap.size ≤ w4.heap.size by omega))).trans (hb6.mono (by omega))).trans (hb7.mono (by omega))
end Go.Proofs.YtkmkkmdpjliifaaGreatDoor
