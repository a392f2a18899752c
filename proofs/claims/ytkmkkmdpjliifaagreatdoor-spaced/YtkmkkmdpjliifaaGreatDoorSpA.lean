import Derived.Test.YtkmkkmdpjliifaaGreatDoorExG
namespace Go.Proofs.YtkmkkmdpjliifaaGreatDoor
open Go.ChangeShapes Go.WideShapes Go.ChangeAt Go.RowKit

set_option maxRecDepth 20000 in
set_option maxHeartbeats 1000000 in
theorem digitsK_any : ∀ (n : Nat) (x : Int) (w : World), n ≤ 999999999999 → x = (n : Nat) → Calls Tryz.prog 24 #[.int .i64 x] w fun e w' => e = .returned (.string ⟨(Lib.decDigits n).toArray⟩) ∧ Below w.heap.size w w' ∧ (Lib.decDigits n).length ≤ 20 := by
  intro n
  induction n using Nat.strongRecOn with
  | ind n ih =>
    intro x w hn hx
    have l1 := lit1
    have hlen : (Lib.decDigits n).length ≤ 20 := by
      rw [Lib.decDigits_length]
      by_cases h0 : Lib.nDigits n ≤ 20
      · exact h0
      · exfalso
        have : ∀ k m : Nat, m < 10 ^ (k + 1) → Lib.nDigits m ≤ k + 1 := by
          intro k
          induction k with
          | zero => intro m hm; rw [Lib.nDigits_small (by omega)]; exact Nat.le_refl _
          | succ k ihk =>
            intro m hm
            by_cases h : m < 10
            · rw [Lib.nDigits_small h]; omega
            · rw [Lib.nDigits_big h]
              have := ihk (m / 10) (by rw [Nat.pow_succ] at hm; omega)
              omega
        have h3 := this 12 n (by omega)
        omega
    by_cases h10 : n < 10
    · have d1 : decide (x < 10) = true := decide_eq_true (by omega)
      have hr : x.tmod 10 = x := by rw [hx, Int.tmod_eq_emod_of_nonneg (by omega)]; omega
      have hw : wrap64 (48 + x) = 48 + x := w64 _ (by omega) (by omega)
      have hm : (48 + x) % 256 = 48 + x := by omega
      have HD : Hid (UInt8.ofNat (48 + x).toNat = UInt8.ofNat (48 + n)) := by rw [show (48 + x).toNat = 48 + n by omega]; rfl
      have HX := hide hx
      clear hx hn
      go_enter Tryz.func24, Tryz.ntmps24
      go_wp2_with fail
      go_ret
      refine ⟨?_, (Below.refl _ _).alloc (Nat.le_refl _) _, hlen⟩
      rw [Lib.decDigits_one h10, ← unhide HD]
      rfl
    · have d1 : decide (x < 10) = false := decide_eq_false (by omega)
      have hr : x.tmod 10 = x % 10 := by rw [Int.tmod_eq_emod_of_nonneg (by omega)]
      have hw : wrap64 (48 + x % 10) = 48 + x % 10 := w64 _ (by omega) (by omega)
      have hm : (48 + x % 10) % 256 = 48 + x % 10 := by omega
      have HD : Hid (UInt8.ofNat (48 + x % 10).toNat = UInt8.ofNat (48 + n % 10)) := by rw [show (48 + x % 10).toNat = 48 + n % 10 by omega]; rfl
      have hx0 : 0 ≤ x := by omega
      have HX := hide hx
      have HNN := hide hn
      clear hx hn
      go_enter Tryz.func24, Tryz.ntmps24
      go_wp2_with fail
      have hq : wrap64 (x.tdiv 10) = ((n / 10 : Nat) : Int) := by
        have h1 := unhide HX
        have h2 := unhide HNN
        rw [Int.tdiv_eq_ediv_of_nonneg hx0, w64 _ (by omega) (by omega)]
        omega
      refine (ih (n / 10) (by omega) _ _ (by have := unhide HNN; omega) hq).mono ?_
      rintro e w2 ⟨rfl, hb2, hl2⟩
      have hcat := cat_str (Lib.decDigits (n / 10)) [UInt8.ofNat (48 + x % 10).toNat] _ rfl (by rw [List.length_append, List.length_singleton]; omega)
      have hbb : Below w.heap.size w w2 := ((Below.refl w.heap.size w).alloc (Nat.le_refl _) _).trans (hb2.mono (by simp))
      clear hq hb2
      go_wp2_with fail
      go_ret
      refine ⟨?_, hbb, hlen⟩
      rw [dd_big h10, ← unhide HD]
      rfl


/-- the blanks that are written -/
def spB : List (List UInt8) := [[], [], [32], [10], [9, 13], [32, 32, 10, 32]]
def blkS (r : Int) : List UInt8 := spB.getD (pickN r 6) []
theorem spB_len : ∀ k, k < 6 → (spB.getD k []).length ≤ 4 := by decide
theorem blkS_len (r : Int) : (blkS r).length ≤ 4 := spB_len _ (pickN_lt r 6 (by decide)).1

set_option maxHeartbeats 1000000 in
theorem blanks_any (r : Int) (w : World) (hc : -9223372036854775808 ≤ r ∧ r ≤ 9223372036854775807) :
    Calls Tryz.prog 23 #[.int .i64 r] w fun e w' => e = .returned (.string ⟨(blkS r).toArray⟩) ∧ Below w.heap.size w w' := by
  obtain ⟨w1, hw1⟩ : ∃ w1, w1 = allocL w [.cells #[.string ⟨#[]⟩, .string ⟨#[]⟩, .string ⟨#[32]⟩, .string ⟨#[10]⟩, .string ⟨#[9, 13]⟩, .string ⟨#[32, 32, 10, 32]⟩] 9] := ⟨_, rfl⟩
  have hb1 : Below w.heap.size w w1 := by rw [hw1]; exact allocL_below _ _
  have hs1 : w1.heap.size = w.heap.size + 1 := by rw [hw1, allocL_size]; rfl
  have hAll : ∀ j, j < 6 → w1.cell? ⟨w.heap.size, j, none⟩ = some (sv (spB.getD j [])) := fun j hj => by
    rw [hw1]
    refine cell_of_row _ _ _ _ 9 _ (allocL_heap _ w 0 _ rfl) |>.trans ?_
    match j, hj with
    | 0, _ => rfl
    | 1, _ => rfl
    | 2, _ => rfl
    | 3, _ => rfl
    | 4, _ => rfl
    | 5, _ => rfl
  obtain ⟨hlt, hpk⟩ := pickN_lt r 6 (by decide)
  have hck := hAll _ hlt
  have hkI : ((pickN r 6 : Nat) : Int) < 6 := by omega
  rw [sv_def] at hck
  have HS : Hid (spB.getD (pickN r 6) [] = blkS r) := rfl
  rw [unhide HS] at hck
  generalize pickN r 6 = k at *
  generalize blkS r = y at *
  have HB := hide hb1
  have HW : Hid (w1 = w.alloc (.cells #[.string ⟨#[]⟩, .string ⟨#[]⟩, .string ⟨#[32]⟩, .string ⟨#[10]⟩, .string ⟨#[9, 13]⟩, .string ⟨#[32, 32, 10, 32]⟩] 9)) := hw1
  have HK := hide hpk
  clear hb1 hAll hw1 HS hpk
  go_enter Tryz.func23, Tryz.ntmps23
  go_wp2_with fail
  rw [← unhide HW]
  clear HW
  refine (pickK_any r 6 w1 hc (by decide)).mono ?_
  rintro e w2 ⟨rfl, rfl⟩
  rw [show pickZ r 6 = (k : Nat) from unhide HK]
  go_wp2_with fail
  go_ret
  exact ⟨rfl, unhide HB⟩

/-- a digit to the base 16, a great letter -/
def hexU (n : Nat) : List UInt8 := ([48, 49, 50, 51, 52, 53, 54, 55, 56, 57, 65, 66, 67, 68, 69, 70] : List UInt8).drop n |>.take 1
theorem hexU_le (n : Nat) : (hexU n).length ≤ 1 := by unfold hexU; rw [List.length_take]; exact Nat.min_le_left _ _
theorem hexsU (n : Nat) (h : n < 16) (u : World) : (Instr.slice 9 (.string ⟨#[48, 49, 50, 51, 52, 53, 54, 55, 56, 57, 65, 66, 67, 68, 69, 70]⟩) (some (.int .i64 (n : Nat))) (some (.int .i64 (((n : Nat) : Int) + 1))) none).run Tryz.prog u = .ok (.string ⟨(hexU n).toArray⟩) u :=
  mid_any [48, 49, 50, 51, 52, 53, 54, 55, 56, 57, 65, 66, 67, 68, 69, 70] n 1 (by show n + 1 ≤ 16; omega) u _ _ rfl rfl
/-- a byte of a string that is spelled: n = 0: as itself, 1: small digits, 2: great ones -/
def spB1 (c : UInt8) (n : Nat) : List UInt8 :=
  if 128 ≤ c.toNat ∨ (n = 0 ∧ 32 ≤ c.toNat ∧ c ≠ 34 ∧ c ≠ 92) then [c]
  else if n = 1 then [92, 117, 48, 48] ++ hexD (c.toNat / 16) ++ hexD (c.toNat % 16)
  else [92, 117, 48, 48] ++ hexU (c.toNat / 16) ++ hexU (c.toNat % 16)
def spL : List UInt8 → Int → List UInt8
  | [], _ => []
  | c :: s, r => spB1 c (pickN r 3) ++ spL s (r.tdiv 3)
/-- a string, spelled by a raw number -/
def spS (s : List UInt8) (r : Int) : List UInt8 := [34] ++ spL s r ++ [34]
theorem spB1_len (c : UInt8) (n : Nat) : (spB1 c n).length ≤ 6 := by
  unfold spB1
  split
  · simp
  · split
    · have h1 := hexD_le (c.toNat / 16)
      have h2 := hexD_le (c.toNat % 16)
      simp only [List.length_append, List.length_cons, List.length_nil]
      omega
    · have h1 := hexU_le (c.toNat / 16)
      have h2 := hexU_le (c.toNat % 16)
      simp only [List.length_append, List.length_cons, List.length_nil]
      omega
theorem spL_len : ∀ (s : List UInt8) (r : Int), (spL s r).length ≤ 6 * s.length
  | [], _ => Nat.zero_le _
  | c :: s, r => by
    have h1 := spB1_len c (pickN r 3)
    have h2 := spL_len s (r.tdiv 3)
    rw [spL, List.length_append, List.length_cons]
    omega
theorem spS_len (s : List UInt8) (r : Int) : (spS s r).length ≤ 6 * s.length + 2 := by
  unfold spS
  have := spL_len s r
  simp only [List.length_append, List.length_singleton]
  omega
theorem spL_drop (s : List UInt8) (k : Nat) (h : k < s.length) (r : Int) : spL (s.drop k) r = spB1 (s.getD k 0) (pickN r 3) ++ spL (s.drop (k + 1)) (r.tdiv 3) := by
  rw [List.drop_eq_getElem_cons h, spL]
  simp [List.getD, List.getElem?_eq_getElem h]
theorem tdiv_rng {r : Int} (k : Int) (hk : 1 ≤ k) (h : -9223372036854775808 ≤ r ∧ r ≤ 9223372036854775807) : (-9223372036854775808 ≤ r.tdiv k ∧ r.tdiv k ≤ 9223372036854775807) ∧ wrap64 (r.tdiv k) = r.tdiv k := by
  have h1 : -9223372036854775808 ≤ r.tdiv k ∧ r.tdiv k ≤ 9223372036854775807 := by
    have a1 := Int.natAbs_tdiv r k
    have a2 : r.natAbs / k.natAbs ≤ r.natAbs := Nat.div_le_self _ _
    have a3 : (r.tdiv k).natAbs ≤ r.natAbs := by rw [a1]; exact a2
    by_cases h0 : 0 ≤ r
    · have := Int.tdiv_nonneg h0 (by omega : (0 : Int) ≤ k)
      omega
    · have h9 := Int.tdiv_nonneg (by omega : 0 ≤ -r) (by omega : (0 : Int) ≤ k)
      rw [Int.neg_tdiv] at h9
      omega
  exact ⟨h1, w64 _ h1.1 (by omega)⟩
theorem sp_step {s : List UInt8} {r0 r : Int} {k : Nat} {x : List UInt8} (h : k < s.length) (hx : spL s r0 = x ++ spL (s.drop k) r) (y : List UInt8) (hy : spB1 (s.getD k 0) (pickN r 3) = y) :
    spL s r0 = (x ++ y) ++ spL (s.drop (k + 1)) (r.tdiv 3) := by
  rw [hx, spL_drop s k h r, hy, List.append_assoc]

set_option maxRecDepth 20000 in
set_option maxHeartbeats 2000000 in
theorem spelled_any (s : List UInt8) (r0 : Int) (w : World) (hl : s.length ≤ 4096) (hr0 : -9223372036854775808 ≤ r0 ∧ r0 ≤ 9223372036854775807) :
    Calls Tryz.prog 22 #[.string ⟨s.toArray⟩, .int .i64 r0] w fun e w' => e = .returned (.string ⟨(spS s r0).toArray⟩) ∧ Below w.heap.size w w' := by
  have HL := hide hl
  clear hl
  go_enter Tryz.func22, Tryz.ntmps22
  go_wp2_with fail
  go_loopg [1, 5, 6] s.length (fun q rv o i wr => ∃ (k n : Nat) (r : Int) (x : List UInt8), k + q = s.length ∧ rv = .int .i64 r ∧ (-9223372036854775808 ≤ r ∧ r ≤ 9223372036854775807) ∧ o = .string ⟨([34] ++ x).toArray⟩ ∧ spL s r0 = x ++ spL (s.drop k) r ∧ i = .int .i64 (k : Nat) ∧ wr = w.drewN n)
  case atStart => exact ⟨0, 0, r0, [], Nat.zero_add _, rfl, hr0, rfl, rfl, rfl, rfl⟩
  case round =>
    obtain ⟨k, n, r, x, hk, rfl, hr, rfl, hx, rfl, rfl⟩ := hrel
    have hol : ([34] ++ x).length ≤ 6 * s.length + 1 := by
      have h1 := spL_len s r0
      rw [hx, List.length_append] at h1
      simp only [List.length_append, List.length_singleton]
      omega
    by_cases hlt : k < s.length
    · have hw : wrap64 ((k : Int) + 1) = (k : Int) + 1 := w64 _ (by omega) (by have := unhide HL; omega)
      have hkl : (k : Int) < s.length := by omega
      have hix := ix_any s k hlt
      have hmid := fun u => mid_any s k 1 (by omega) u (k : Int) ((k : Int) + 1) rfl (by omega)
      rw [mid1 s k hlt] at hmid
      have hby : by_ s k = (s.getD k 0).toNat := rfl
      rw [hby] at hix
      have hq := sp_step hlt hx
      generalize hc : s.getD k 0 = c at *
      have hcl := c.toNat_lt
      obtain ⟨hr2, hwr⟩ := tdiv_rng 3 (by decide) hr
      obtain ⟨hp1, hp2⟩ := pickN_lt r 3 (by decide)
      have HP := hide (fun u => pickK_any r 3 u hr (by decide))
      rw [show pickZ r 3 = ((pickN r 3 : Nat) : Int) from hp2] at HP
      have hout : ∀ y, [34] ++ (x ++ y) = ([34] ++ x) ++ y := fun y => (List.append_assoc _ _ _).symm
      have HOUT := hide hout
      have HX := hide hx
      generalize [34] ++ x = out at hol HOUT ⊢
      have HQ := hide hq
      have HO := hide hol
      have hwc : wrap64 ((c.toNat : Nat) : Int) = ((c.toNat : Nat) : Int) := w64 _ (by omega) (by omega)
      generalize pickN r 3 = m at *
      have HR := hide hr
      have HR2 := hide hr2
      clear hq hol hc hby hp2 hout hx hr hr2
      go_wp2_with fail
      refine (unhide HP _).mono ?_
      rintro e w2 ⟨rfl, rfl⟩
      by_cases c0 : 128 ≤ c.toNat
      · have d1 : decide (128 ≤ ((c.toNat : Nat) : Int)) = true := decide_eq_true (by omega)
        have hcat1 := cat_str out [c] _ rfl (by rw [List.length_append, List.length_singleton]; have h1 := unhide HO; have h2 := unhide HL; omega)
        have HE : Hid (spB1 c m = [c]) := by unfold spB1; rw [if_pos (Or.inl c0)]; rfl
        clear hcl c0 hp1
        go_wp2_with fail
        go_roundg (gk - 1)
        case measure => omega
        case rel => exact ⟨k + 1, _, _, x ++ [c], by omega, by rw [hwr], unhide HR2, congrArg (fun l : List UInt8 => Value.string ⟨l.toArray⟩) (unhide HOUT [c]).symm, unhide HQ _ (unhide HE), by first | exact num1 hw | rfl, rfl⟩
      · have d1 : decide (128 ≤ ((c.toNat : Nat) : Int)) = false := decide_eq_false (by omega)
        have h3 : m = 0 ∨ m = 1 ∨ m = 2 := by omega
        clear hp1
        rcases h3 with rfl | rfl | rfl
        · have hm0 : (((0 : Nat) : Int) == 0) = true := rfl
          by_cases c1 : c.toNat < 32 ∨ c = 34 ∨ c = 92
          · have hne : ¬ (128 ≤ c.toNat ∨ ((0 : Nat) = 0 ∧ 32 ≤ c.toNat ∧ c ≠ 34 ∧ c ≠ 92)) := by
              rintro (h | ⟨_, h, h4, h5⟩)
              · exact c0 h
              · rcases c1 with h6 | h6 | h6
                · omega
                · exact h4 h6
                · exact h5 h6
            rcases c1 with c1 | c1 | c1
            · have d2 : decide (32 ≤ ((c.toNat : Nat) : Int)) = false := decide_eq_false (by omega)
              have e1 := i64q c.toNat hcl
              have e2 := i64s (c.toNat / 16) (by omega)
              have e3 : ((c.toNat : Nat) : Int) % 16 = ((c.toNat % 16 : Nat) : Int) := by omega
              have e4 := i64s (c.toNat % 16) (by omega)
              obtain ⟨e5, e6, e7⟩ := i64r c.toNat hcl
              have hs1 := hexsU (c.toNat / 16) (by omega)
              have hs2 := hexsU (c.toNat % 16) (by omega)
              have HE : Hid (spB1 c 0 = [92, 117, 48, 48] ++ hexU (c.toNat / 16) ++ hexU (c.toNat % 16)) := by unfold spB1; rw [if_neg hne, if_neg (by decide)]; rfl
              have hx1 : (hexU (c.toNat / 16)).length ≤ 1 := hexU_le _
              have hx2 : (hexU (c.toNat % 16)).length ≤ 1 := hexU_le _
              generalize hexU (c.toNat / 16) = x1 at *
              generalize hexU (c.toNat % 16) = x2 at *
              obtain ⟨y1, hy1⟩ : ∃ y, out ++ [92, 117, 48, 48] = y := ⟨_, rfl⟩
              obtain ⟨y2, hy2⟩ : ∃ y, y1 ++ x1 = y := ⟨_, rfl⟩
              obtain ⟨y3, hy3⟩ : ∃ y, y2 ++ x2 = y := ⟨_, rfl⟩
              have hl1 : y1.length = out.length + 4 := by rw [← hy1]; simp
              have hl2 : y2.length ≤ out.length + 5 := by rw [← hy2, List.length_append]; omega
              have hl3 : y3.length ≤ out.length + 6 := by rw [← hy3, List.length_append]; omega
              have hbig : out.length + 6 ≤ 16777216 := by have h1 := unhide HO; have h2 := unhide HL; omega
              have hcat1 := cat_str out [92, 117, 48, 48] y1 hy1 (by omega)
              have hcat2 := cat_str y1 x1 y2 hy2 (by omega)
              have hcat3 := cat_str y2 x2 y3 hy3 (by omega)
              have HY : Hid (y3 = out ++ ([92, 117, 48, 48] ++ x1 ++ x2)) := by rw [← hy3, ← hy2, ← hy1]; unfold Hid; simp
              clear hy1 hy2 hy3 hl1 hl2 hl3 hbig
              generalize ((c.toNat / 16 : Nat) : Int) = q1 at *
              generalize ((c.toNat % 16 : Nat) : Int) = q2 at *
              clear hcl hx1 hx2 c0
              clear c1 hne
              go_wp2_with fail
              go_quiet (fail)
              go_wp2_with fail
              go_roundg (gk - 1)
              case measure => omega
              case rel => exact ⟨k + 1, _, _, x ++ ([92, 117, 48, 48] ++ x1 ++ x2), by omega, by rw [hwr], unhide HR2, congrArg (fun l : List UInt8 => Value.string ⟨l.toArray⟩) (by rw [unhide HOUT, unhide HY]), unhide HQ _ (unhide HE), by first | exact num1 hw | rfl, rfl⟩
            · have d2 : decide (32 ≤ ((c.toNat : Nat) : Int)) = true := decide_eq_true (by rw [c1]; decide)
              have n1 : (((c.toNat : Nat) : Int) == 34) = true := by rw [c1]; rfl
              have n1' : (((c.toNat : Nat) : Int) != 34) = false := by rw [c1]; rfl
              have e1 := i64q c.toNat hcl
              have e2 := i64s (c.toNat / 16) (by omega)
              have e3 : ((c.toNat : Nat) : Int) % 16 = ((c.toNat % 16 : Nat) : Int) := by omega
              have e4 := i64s (c.toNat % 16) (by omega)
              obtain ⟨e5, e6, e7⟩ := i64r c.toNat hcl
              have hs1 := hexsU (c.toNat / 16) (by omega)
              have hs2 := hexsU (c.toNat % 16) (by omega)
              have HE : Hid (spB1 c 0 = [92, 117, 48, 48] ++ hexU (c.toNat / 16) ++ hexU (c.toNat % 16)) := by unfold spB1; rw [if_neg hne, if_neg (by decide)]; rfl
              have hx1 : (hexU (c.toNat / 16)).length ≤ 1 := hexU_le _
              have hx2 : (hexU (c.toNat % 16)).length ≤ 1 := hexU_le _
              generalize hexU (c.toNat / 16) = x1 at *
              generalize hexU (c.toNat % 16) = x2 at *
              obtain ⟨y1, hy1⟩ : ∃ y, out ++ [92, 117, 48, 48] = y := ⟨_, rfl⟩
              obtain ⟨y2, hy2⟩ : ∃ y, y1 ++ x1 = y := ⟨_, rfl⟩
              obtain ⟨y3, hy3⟩ : ∃ y, y2 ++ x2 = y := ⟨_, rfl⟩
              have hl1 : y1.length = out.length + 4 := by rw [← hy1]; simp
              have hl2 : y2.length ≤ out.length + 5 := by rw [← hy2, List.length_append]; omega
              have hl3 : y3.length ≤ out.length + 6 := by rw [← hy3, List.length_append]; omega
              have hbig : out.length + 6 ≤ 16777216 := by have h1 := unhide HO; have h2 := unhide HL; omega
              have hcat1 := cat_str out [92, 117, 48, 48] y1 hy1 (by omega)
              have hcat2 := cat_str y1 x1 y2 hy2 (by omega)
              have hcat3 := cat_str y2 x2 y3 hy3 (by omega)
              have HY : Hid (y3 = out ++ ([92, 117, 48, 48] ++ x1 ++ x2)) := by rw [← hy3, ← hy2, ← hy1]; unfold Hid; simp
              clear hy1 hy2 hy3 hl1 hl2 hl3 hbig
              generalize ((c.toNat / 16 : Nat) : Int) = q1 at *
              generalize ((c.toNat % 16 : Nat) : Int) = q2 at *
              clear hcl hx1 hx2 c0
              clear c1 hne
              go_wp2_with fail
              go_quiet (fail)
              go_wp2_with fail
              go_roundg (gk - 1)
              case measure => omega
              case rel => exact ⟨k + 1, _, _, x ++ ([92, 117, 48, 48] ++ x1 ++ x2), by omega, by rw [hwr], unhide HR2, congrArg (fun l : List UInt8 => Value.string ⟨l.toArray⟩) (by rw [unhide HOUT, unhide HY]), unhide HQ _ (unhide HE), by first | exact num1 hw | rfl, rfl⟩
            · have d2 : decide (32 ≤ ((c.toNat : Nat) : Int)) = true := decide_eq_true (by rw [c1]; decide)
              have n0 : (((c.toNat : Nat) : Int) == 34) = false := by rw [c1]; rfl
              have n0' : (((c.toNat : Nat) : Int) != 34) = true := by rw [c1]; rfl
              have n1 : (((c.toNat : Nat) : Int) == 92) = true := by rw [c1]; rfl
              have n1' : (((c.toNat : Nat) : Int) != 92) = false := by rw [c1]; rfl
              have e1 := i64q c.toNat hcl
              have e2 := i64s (c.toNat / 16) (by omega)
              have e3 : ((c.toNat : Nat) : Int) % 16 = ((c.toNat % 16 : Nat) : Int) := by omega
              have e4 := i64s (c.toNat % 16) (by omega)
              obtain ⟨e5, e6, e7⟩ := i64r c.toNat hcl
              have hs1 := hexsU (c.toNat / 16) (by omega)
              have hs2 := hexsU (c.toNat % 16) (by omega)
              have HE : Hid (spB1 c 0 = [92, 117, 48, 48] ++ hexU (c.toNat / 16) ++ hexU (c.toNat % 16)) := by unfold spB1; rw [if_neg hne, if_neg (by decide)]; rfl
              have hx1 : (hexU (c.toNat / 16)).length ≤ 1 := hexU_le _
              have hx2 : (hexU (c.toNat % 16)).length ≤ 1 := hexU_le _
              generalize hexU (c.toNat / 16) = x1 at *
              generalize hexU (c.toNat % 16) = x2 at *
              obtain ⟨y1, hy1⟩ : ∃ y, out ++ [92, 117, 48, 48] = y := ⟨_, rfl⟩
              obtain ⟨y2, hy2⟩ : ∃ y, y1 ++ x1 = y := ⟨_, rfl⟩
              obtain ⟨y3, hy3⟩ : ∃ y, y2 ++ x2 = y := ⟨_, rfl⟩
              have hl1 : y1.length = out.length + 4 := by rw [← hy1]; simp
              have hl2 : y2.length ≤ out.length + 5 := by rw [← hy2, List.length_append]; omega
              have hl3 : y3.length ≤ out.length + 6 := by rw [← hy3, List.length_append]; omega
              have hbig : out.length + 6 ≤ 16777216 := by have h1 := unhide HO; have h2 := unhide HL; omega
              have hcat1 := cat_str out [92, 117, 48, 48] y1 hy1 (by omega)
              have hcat2 := cat_str y1 x1 y2 hy2 (by omega)
              have hcat3 := cat_str y2 x2 y3 hy3 (by omega)
              have HY : Hid (y3 = out ++ ([92, 117, 48, 48] ++ x1 ++ x2)) := by rw [← hy3, ← hy2, ← hy1]; unfold Hid; simp
              clear hy1 hy2 hy3 hl1 hl2 hl3 hbig
              generalize ((c.toNat / 16 : Nat) : Int) = q1 at *
              generalize ((c.toNat % 16 : Nat) : Int) = q2 at *
              clear hcl hx1 hx2 c0
              clear c1 hne
              go_wp2_with fail
              go_quiet (fail)
              go_wp2_with fail
              go_roundg (gk - 1)
              case measure => omega
              case rel => exact ⟨k + 1, _, _, x ++ ([92, 117, 48, 48] ++ x1 ++ x2), by omega, by rw [hwr], unhide HR2, congrArg (fun l : List UInt8 => Value.string ⟨l.toArray⟩) (by rw [unhide HOUT, unhide HY]), unhide HQ _ (unhide HE), by first | exact num1 hw | rfl, rfl⟩
          · have c2 : 32 ≤ c.toNat ∧ c ≠ 34 ∧ c ≠ 92 := ⟨by omega, fun h => c1 (Or.inr (Or.inl h)), fun h => c1 (Or.inr (Or.inr h))⟩
            have d2 : decide (32 ≤ ((c.toNat : Nat) : Int)) = true := decide_eq_true (by omega)
            have n0 : (((c.toNat : Nat) : Int) == 34) = false := u8_bne (n := 34) (fun h => c2.2.1 ((u8_eq (by decide)).2 h))
            have n1 : (((c.toNat : Nat) : Int) == 92) = false := u8_bne (n := 92) (fun h => c2.2.2 ((u8_eq (by decide)).2 h))
            have n0' : (((c.toNat : Nat) : Int) != 34) = true := by unfold bne; rw [n0]; rfl
            have n1' : (((c.toNat : Nat) : Int) != 92) = true := by unfold bne; rw [n1]; rfl
            have hcat1 := cat_str out [c] _ rfl (by rw [List.length_append, List.length_singleton]; have h1 := unhide HO; have h2 := unhide HL; omega)
            have HE : Hid (spB1 c 0 = [c]) := by unfold spB1; rw [if_pos (Or.inr ⟨rfl, c2⟩)]; rfl
            clear hcl c0 c1 c2
            go_wp2_with fail
            go_roundg (gk - 1)
            case measure => omega
            case rel => exact ⟨k + 1, _, _, x ++ [c], by omega, by rw [hwr], unhide HR2, congrArg (fun l : List UInt8 => Value.string ⟨l.toArray⟩) (unhide HOUT [c]).symm, unhide HQ _ (unhide HE), by first | exact num1 hw | rfl, rfl⟩
        · have hne : ¬ (128 ≤ c.toNat ∨ ((1 : Nat) = 0 ∧ 32 ≤ c.toNat ∧ c ≠ 34 ∧ c ≠ 92)) := by
            rintro (h | ⟨h, _⟩)
            · exact c0 h
            · cases h
          have e1 := i64q c.toNat hcl
          have e2 := i64s (c.toNat / 16) (by omega)
          have e3 : ((c.toNat : Nat) : Int) % 16 = ((c.toNat % 16 : Nat) : Int) := by omega
          have e4 := i64s (c.toNat % 16) (by omega)
          obtain ⟨e5, e6, e7⟩ := i64r c.toNat hcl
          have hs1 := hexs (c.toNat / 16) (by omega)
          have hs2 := hexs (c.toNat % 16) (by omega)
          have HE : Hid (spB1 c 1 = [92, 117, 48, 48] ++ hexD (c.toNat / 16) ++ hexD (c.toNat % 16)) := by unfold spB1; rw [if_neg hne, if_pos rfl]; rfl
          have hx1 : (hexD (c.toNat / 16)).length ≤ 1 := hexD_le _
          have hx2 : (hexD (c.toNat % 16)).length ≤ 1 := hexD_le _
          generalize hexD (c.toNat / 16) = x1 at *
          generalize hexD (c.toNat % 16) = x2 at *
          obtain ⟨y1, hy1⟩ : ∃ y, out ++ [92, 117, 48, 48] = y := ⟨_, rfl⟩
          obtain ⟨y2, hy2⟩ : ∃ y, y1 ++ x1 = y := ⟨_, rfl⟩
          obtain ⟨y3, hy3⟩ : ∃ y, y2 ++ x2 = y := ⟨_, rfl⟩
          have hl1 : y1.length = out.length + 4 := by rw [← hy1]; simp
          have hl2 : y2.length ≤ out.length + 5 := by rw [← hy2, List.length_append]; omega
          have hl3 : y3.length ≤ out.length + 6 := by rw [← hy3, List.length_append]; omega
          have hbig : out.length + 6 ≤ 16777216 := by have h1 := unhide HO; have h2 := unhide HL; omega
          have hcat1 := cat_str out [92, 117, 48, 48] y1 hy1 (by omega)
          have hcat2 := cat_str y1 x1 y2 hy2 (by omega)
          have hcat3 := cat_str y2 x2 y3 hy3 (by omega)
          have HY : Hid (y3 = out ++ ([92, 117, 48, 48] ++ x1 ++ x2)) := by rw [← hy3, ← hy2, ← hy1]; unfold Hid; simp
          clear hy1 hy2 hy3 hl1 hl2 hl3 hbig
          generalize ((c.toNat / 16 : Nat) : Int) = q1 at *
          generalize ((c.toNat % 16 : Nat) : Int) = q2 at *
          clear hcl hx1 hx2 c0
          clear hne
          go_wp2_with fail
          go_quiet (fail)
          go_wp2_with fail
          go_roundg (gk - 1)
          case measure => omega
          case rel => exact ⟨k + 1, _, _, x ++ ([92, 117, 48, 48] ++ x1 ++ x2), by omega, by rw [hwr], unhide HR2, congrArg (fun l : List UInt8 => Value.string ⟨l.toArray⟩) (by rw [unhide HOUT, unhide HY]), unhide HQ _ (unhide HE), by first | exact num1 hw | rfl, rfl⟩
        · have hne : ¬ (128 ≤ c.toNat ∨ ((2 : Nat) = 0 ∧ 32 ≤ c.toNat ∧ c ≠ 34 ∧ c ≠ 92)) := by
            rintro (h | ⟨h, _⟩)
            · exact c0 h
            · cases h
          have e1 := i64q c.toNat hcl
          have e2 := i64s (c.toNat / 16) (by omega)
          have e3 : ((c.toNat : Nat) : Int) % 16 = ((c.toNat % 16 : Nat) : Int) := by omega
          have e4 := i64s (c.toNat % 16) (by omega)
          obtain ⟨e5, e6, e7⟩ := i64r c.toNat hcl
          have hs1 := hexsU (c.toNat / 16) (by omega)
          have hs2 := hexsU (c.toNat % 16) (by omega)
          have HE : Hid (spB1 c 2 = [92, 117, 48, 48] ++ hexU (c.toNat / 16) ++ hexU (c.toNat % 16)) := by unfold spB1; rw [if_neg hne, if_neg (by decide)]; rfl
          have hx1 : (hexU (c.toNat / 16)).length ≤ 1 := hexU_le _
          have hx2 : (hexU (c.toNat % 16)).length ≤ 1 := hexU_le _
          generalize hexU (c.toNat / 16) = x1 at *
          generalize hexU (c.toNat % 16) = x2 at *
          obtain ⟨y1, hy1⟩ : ∃ y, out ++ [92, 117, 48, 48] = y := ⟨_, rfl⟩
          obtain ⟨y2, hy2⟩ : ∃ y, y1 ++ x1 = y := ⟨_, rfl⟩
          obtain ⟨y3, hy3⟩ : ∃ y, y2 ++ x2 = y := ⟨_, rfl⟩
          have hl1 : y1.length = out.length + 4 := by rw [← hy1]; simp
          have hl2 : y2.length ≤ out.length + 5 := by rw [← hy2, List.length_append]; omega
          have hl3 : y3.length ≤ out.length + 6 := by rw [← hy3, List.length_append]; omega
          have hbig : out.length + 6 ≤ 16777216 := by have h1 := unhide HO; have h2 := unhide HL; omega
          have hcat1 := cat_str out [92, 117, 48, 48] y1 hy1 (by omega)
          have hcat2 := cat_str y1 x1 y2 hy2 (by omega)
          have hcat3 := cat_str y2 x2 y3 hy3 (by omega)
          have HY : Hid (y3 = out ++ ([92, 117, 48, 48] ++ x1 ++ x2)) := by rw [← hy3, ← hy2, ← hy1]; unfold Hid; simp
          clear hy1 hy2 hy3 hl1 hl2 hl3 hbig
          generalize ((c.toNat / 16 : Nat) : Int) = q1 at *
          generalize ((c.toNat % 16 : Nat) : Int) = q2 at *
          clear hcl hx1 hx2 c0
          clear hne
          go_wp2_with fail
          go_quiet (fail)
          go_wp2_with fail
          go_roundg (gk - 1)
          case measure => omega
          case rel => exact ⟨k + 1, _, _, x ++ ([92, 117, 48, 48] ++ x1 ++ x2), by omega, by rw [hwr], unhide HR2, congrArg (fun l : List UInt8 => Value.string ⟨l.toArray⟩) (by rw [unhide HOUT, unhide HY]), unhide HQ _ (unhide HE), by first | exact num1 hw | rfl, rfl⟩
    · have hke : k = s.length := by omega
      subst hke
      rw [List.drop_length, spL, List.append_nil] at hx
      have hcat := cat_str ([34] ++ x) [34] _ rfl (by rw [List.length_append, List.length_singleton]; have h2 := unhide HL; omega)
      have HQS : Hid (spS s r0 = [34] ++ x ++ [34]) := by unfold spS; rw [hx]; rfl
      generalize [34] ++ x = out at *
      clear hx
      go_wp2_with fail
      go_ret
      exact ⟨by rw [unhide HQS]; rfl, below_drewN' (Below.refl _ _) _⟩
end Go.Proofs.YtkmkkmdpjliifaaGreatDoor
