import Derived.Test.YtkmkkmdpjliifaaDoorJxA
import Derived.Lib.ValidU
namespace Go.Proofs.YtkmkkmdpjliifaaDoor
open Go.ChangeShapes Go.WideShapes Go.ChangeAt Go.RowKit

theorem tailN_le (l : List UInt8) (n low p : Nat) : tailN l n low p ≤ l.length := by
  unfold tailN
  repeat' split
  all_goals omega
theorem fN_le (l : List UInt8) (h : 0 < l.length) : fN l ≤ l.length := by
  unfold fN
  repeat' split
  all_goals first | omega | exact tailN_le _ _ _ _
/-- is a text UTF-8? (as often as fuel is there) -/
def vG : Nat → List UInt8 → Bool
  | 0, l => l.isEmpty
  | f + 1, l => if l.isEmpty then true else if fN l = 0 then false else vG f (l.drop (fN l))
def vN (l : List UInt8) : Bool := vG l.length l
theorem vG_more : ∀ (f : Nat) (l : List UInt8), l.length ≤ f → vG f l = vN l := by
  intro f
  induction f using Nat.strongRecOn with
  | ind f ih =>
    intro l hl
    cases f with
    | zero =>
      have : l = [] := List.length_eq_zero_iff.1 (by omega)
      subst this; rfl
    | succ f =>
      unfold vN
      cases hL : l.length with
      | zero =>
        have : l = [] := List.length_eq_zero_iff.1 hL
        subst this; rfl
      | succ m =>
        rw [vG, vG]
        have he : l.isEmpty = false := by cases l; simp at hL; rfl
        rw [he]
        by_cases hf : fN l = 0
        · rw [if_pos hf, if_pos hf]
        · rw [if_neg hf, if_neg hf]
          have hd : (l.drop (fN l)).length ≤ f := by rw [List.length_drop]; omega
          have hd2 : (l.drop (fN l)).length ≤ m := by rw [List.length_drop]; omega
          rw [ih f (by omega) _ hd]
          by_cases hm : m < f + 1
          · rw [ih m hm _ hd2]
          · have : m = f := by omega
            omega
theorem vN_nil : vN [] = true := rfl
theorem vN_step (l : List UInt8) (h : 0 < l.length) : vN l = if fN l = 0 then false else vN (l.drop (fN l)) := by
  have he : l.isEmpty = false := by cases l; simp at h; rfl
  obtain ⟨m, hm⟩ : ∃ m, l.length = m + 1 := ⟨l.length - 1, by omega⟩
  rw [show vN l = vG (m + 1) l by unfold vN; rw [hm], vG, he]
  by_cases hf : fN l = 0
  · rw [if_pos hf]; simp [hf]
  · rw [if_neg hf, if_neg hf, vG_more m _ (by rw [List.length_drop]; omega)]; rfl

theorem drop_any (l : List UInt8) (n : Nat) (h : n ≤ l.length) (u : World) : (Instr.slice 9 (.string ⟨l.toArray⟩) (some (.int .i64 (n : Int))) none none).run Tryd.prog u = .ok (.string ⟨(l.drop n).toArray⟩) u := by
  have h3 : (ByteArray.mk l.toArray).size = l.length := by simp [ByteArray.size]
  rw [run_slice_string_from_if (w := u) 9 _ .i64 _ Tryd.underlying9, if_pos (by omega), ByteArray.extract_mk]
  rw [h3, Int.toNat_natCast, List.take_of_length_le (by rw [List.length_drop]; omega)]

set_option maxRecDepth 20000 in
set_option maxHeartbeats 1000000 in
theorem utf8_any (l : List UInt8) (w : World) (hl : l.length ≤ 9223372036854775807) :
    Calls Tryd.prog 90 #[.string ⟨l.toArray⟩] w fun e w' => e = .returned (.bool (vN l)) ∧ Below w.heap.size w w' := by
  have HL := hide hl
  clear hl
  go_enter Tryd.func90, Tryd.ntmps90
  go_wp2_with fail
  go_loopg [0] l.length (fun q s wr => ∃ t : List UInt8, s = .string ⟨t.toArray⟩ ∧ t.length ≤ q ∧ t.length ≤ l.length ∧ vN t = vN l ∧ Below w.heap.size w wr)
  case atStart => exact ⟨l, rfl, Nat.le_refl _, Nat.le_refl _, rfl, Below.refl _ _⟩
  case round =>
    obtain ⟨t, rfl, hq, htl, hv, hB⟩ := hrel
    have HV := hide hv
    clear hv
    have hsz := hB.size
    by_cases h0 : 0 < t.length
    · have hie : t.isEmpty = false := by cases t; simp at h0; rfl
      have hf := fN_le t h0
      have hdr : ∀ u, _ := drop_any t (fN t) hf
      generalize hn : fN t = n at *
      have HN := hide hn
      clear hn
      go_wp2_with (go_at_call 73; refine (first_any t _ h0 (by have := unhide HL; omega)).mono ?_; rintro e w1 ⟨rfl, hb1⟩; rw [unhide HN])
      · rename_i hz
        go_ret
        refine ⟨?_, hB.trans (hb1.mono hsz)⟩
        have hn0 : fN t = 0 := by
          rw [unhide HN]
          simp only [beq_iff_eq] at hz
          omega
        rw [← unhide HV, vN_step t h0, if_pos hn0]; rfl
      · rename_i hz
        have hn0 : ¬ fN t = 0 := by
          rw [unhide HN]
          simp only [beq_eq_false_iff_ne, ne_eq] at hz
          omega
        have hn1 : ¬ n = 0 := by rw [unhide HN] at hn0; exact hn0
        go_roundg (gk - 1)
        case measure => omega
        case rel =>
          refine ⟨t.drop n, rfl, by rw [List.length_drop]; omega, by rw [List.length_drop]; omega, ?_, hB.trans (hb1.mono hsz)⟩
          rw [← unhide HV, vN_step t h0, if_neg hn0, unhide HN]
    · have : t = [] := List.length_eq_zero_iff.1 (by omega)
      subst this
      go_wp2_with fail
      go_ret
      refine ⟨?_, hB⟩
      rw [← unhide HV, vN_nil]; rfl

/-- is a text a name? -/
def nameN (l : List UInt8) : Bool := vN l && decide (1 ≤ l.length) && decide (l.length ≤ 16)
theorem Name_any (l : List UInt8) (w : World) (hl : l.length ≤ 9223372036854775807) :
    Calls Tryd.prog 68 #[.string ⟨l.toArray⟩] w fun e w' => e = .returned (.bool (nameN l)) ∧ Below w.heap.size w w' := by
  have HL := hide hl
  clear hl
  go_enter Tryd.func68, Tryd.ntmps68
  go_wp2_with (go_at_call 90; refine (utf8_any l _ (unhide HL)).mono ?_; rintro e w1 ⟨rfl, hb1⟩; generalize hv : vN l = v; have HV := hide hv; clear hv)
  all_goals go_ret
  all_goals refine ⟨?_, hb1⟩
  all_goals unfold nameN
  all_goals rw [unhide HV]
  · rename_i h1 h2
    rw [h1, decide_eq_true (p := 1 ≤ l.length) (by omega)]
    refine congrArg (fun b => Ending.returned (Value.bool b)) ?_
    simp
    omega
  · rename_i h1 h2
    rw [decide_eq_false (p := 1 ≤ l.length) (by omega)]
    refine congrArg (fun b => Ending.returned (Value.bool b)) ?_
    simp
  · rename_i h1
    refine congrArg (fun b => Ending.returned (Value.bool b)) ?_
    simp [h1]

theorem get_by (l : List UInt8) (k : Nat) : ((ByteArray.mk l.toArray).get! k).toNat = by_ l k := by
  unfold by_
  simp [ByteArray.get!, List.getD]
  rfl
theorem dec_1 (n b0 b1 b2 b3 : Nat) (h : b0 < 128) : Lib.decodeN n b0 b1 b2 b3 = (b0, 1) := by unfold Lib.decodeN; rw [if_pos h]
/-- the size that the decoder tells, 0 where it tells none -/
def dsz (d : Nat × Nat) : Nat := if d.1 = 65533 ∧ d.2 = 1 then 0 else d.2
set_option maxRecDepth 100000 in
set_option maxHeartbeats 4000000 in
theorem dsz_eq (l : List UInt8) (h : 0 < l.length) : fN l = dsz (Lib.decodeN l.length (by_ l 0) (by_ l 1) (by_ l 2) (by_ l 3)) := by
  have h0 := by_lt l 0
  have h1 := by_lt l 1
  have h2 := by_lt l 2
  have h3 := by_lt l 3
  unfold fN tailN
  simp only [goodN, ptN, Bool.true_and, Bool.and_eq_false_iff, decide_eq_false_iff_not, show 2 - 1 = 1 from rfl, show 3 - 1 = 2 from rfl, show 4 - 1 = 3 from rfl, Nat.zero_add]
  generalize by_ l 0 = b0 at *
  generalize by_ l 1 = b1 at *
  generalize by_ l 2 = b2 at *
  generalize by_ l 3 = b3 at *
  generalize l.length = n at *
  unfold dsz Lib.decodeN
  by_cases c1 : b0 < 128
  · simp only [if_pos c1]; rw [if_neg (by omega)]
  simp only [if_neg c1]
  by_cases c2 : 192 ≤ b0 ∧ b0 < 224
  · rw [if_pos c2]
    repeat' split
    all_goals omega
  rw [if_neg c2]
  by_cases c3 : 224 ≤ b0 ∧ b0 < 240
  · rw [if_pos c3]
    repeat' split
    all_goals omega
  rw [if_neg c3]
  by_cases c4 : 240 ≤ b0 ∧ b0 < 248
  · rw [if_pos c4]
    repeat' split
    all_goals omega
  rw [if_neg c4]
  repeat' split
  all_goals omega
theorem fN_decode (l : List UInt8) (h : 0 < l.length) : fN l = if (Lib.decodeL l).1 = 65533 ∧ (Lib.decodeL l).2 = 1 then 0 else (Lib.decodeL l).2 := by
  rw [dsz_eq l h]
  unfold Lib.decodeL
  rw [Lib.decode_at, get_by, get_by, get_by, get_by, show (ByteArray.mk l.toArray).size - 0 = l.length by simp [ByteArray.size]]
  rfl
theorem vG_valid : ∀ (f : Nat) (l : List UInt8), l.length ≤ f → vG f l = Lib.validGoD f l
  | 0, l, h => by
    have : l = [] := List.length_eq_zero_iff.1 (by omega)
    subst this; rfl
  | f + 1, l, h => by
    rw [vG, Lib.validGoD]
    by_cases he : l = []
    · subst he; rfl
    · have h0 : 0 < l.length := List.length_pos_iff.2 he
      have hie : l.isEmpty = false := by cases l; simp at h0; rfl
      have hd := fN_decode l h0
      rw [hie, if_neg he]
      by_cases hb : (Lib.decodeL l).1 = 65533 ∧ (Lib.decodeL l).2 = 1
      · rw [if_pos hb] at hd
        rw [if_pos hb, if_pos hd]; rfl
      · rw [if_neg hb] at hd
        rw [if_neg hb]
        by_cases hz : fN l = 0
        · have hs : (Lib.decodeL l).2 = 0 := by omega
          exfalso
          revert hs hb
          unfold Lib.decodeL
          rw [Lib.decode_at]
          unfold Lib.decodeN
          repeat' split
          all_goals simp
        · rw [if_neg hz, ← hd, ← vG_valid f (l.drop (fN l)) (by rw [List.length_drop]; omega)]; rfl
/-- the reference's UTF-8 is the library's -/
theorem vN_valid (l : List UInt8) : vN l = Lib.validD l := vG_valid _ _ (Nat.le_refl _)
end Go.Proofs.YtkmkkmdpjliifaaDoor
