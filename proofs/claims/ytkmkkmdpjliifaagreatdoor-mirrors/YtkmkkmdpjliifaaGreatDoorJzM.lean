import Derived.Test.YtkmkkmdpjliifaaGreatDoorJzH
import Derived.Test.YtkmkkmdpjliifaaGreatDoorJzK
import Derived.WalkMore
import Derived.ScopeJumps
import Derived.Test.YtkmkkmdpjliifaaGreatDoorJyA
namespace Go.Proofs.YtkmkkmdpjliifaaGreatDoor
open Go.ChangeShapes Go.WideShapes Go.ChangeAt Go.RowKit

theorem markN_of {c x : UInt8} {q : Nat} (hq : q ≠ 0) (hx : markN x = q) (h : markN c = q) : c = x := by
  unfold markN at hx h
  repeat' split at h
  all_goals (repeat' split at hx)
  all_goals first
    | (subst_vars; rfl)
    | (exfalso; omega)
theorem markN_lt (c : UInt8) : markN c = 0 ∨ (2 ≤ markN c ∧ markN c ≤ 7) := by
  unfold markN
  repeat' split
  all_goals omega
theorem SignK.sees {l : List UInt8} {k : Nat} {t : List UInt8} {n : Nat} {u : List UInt8} (h : SignK l k t n u) (x : UInt8) (q : Nat) (hx : markN x = q) (hq : 2 ≤ q) (h34 : x ≠ 34) (hd : digN x = false) : seesS x l = if k = q then some u else none := by
  have hq7 := markN_lt x
  unfold SignK at h
  unfold seesS
  cases hs : skipB l with
  | nil =>
    rw [hs] at h
    simp only at h ⊢
    rw [if_neg (by omega)]
  | cons c r =>
    rw [hs] at h
    simp only at h ⊢
    by_cases c1 : c = 34
    · rw [if_pos c1] at h
      rw [if_neg (fun e => h34 (e.symm.trans c1))]
      rcases h with ⟨rfl, _⟩ | ⟨rfl, _⟩ <;> rw [if_neg (by omega)]
    rw [if_neg c1] at h
    by_cases c2 : digN c = true
    · rw [if_pos c2] at h
      rw [if_neg (fun e => by rw [e, hd] at c2; cases c2)]
      rcases h with ⟨rfl, _⟩ | ⟨rfl, _⟩ <;> rw [if_neg (by omega)]
    rw [if_neg c2] at h
    obtain ⟨rfl, rfl⟩ := h
    by_cases e : c = x
    · subst e
      rw [if_pos rfl, if_pos hx]
    · rw [if_neg e, if_neg (fun h => e (markN_of (by omega) hx h))]
theorem SignK.text {l : List UInt8} {k : Nat} {t : List UInt8} {n : Nat} {u : List UInt8} (h : SignK l k t n u) : textS l = if k = 8 then some (t, u) else none := by
  unfold SignK at h
  unfold textS seesS
  cases hs : skipB l with
  | nil =>
    rw [hs] at h
    simp only at h ⊢
    rw [if_neg (by omega)]
    rfl
  | cons c r =>
    rw [hs] at h
    simp only at h ⊢
    by_cases c1 : c = 34
    · rw [if_pos c1] at h ⊢
      rcases h with ⟨rfl, h⟩ | ⟨rfl, h⟩
      · rw [if_pos rfl]; exact h
      · rw [if_neg (by decide)]; exact h
    rw [if_neg c1] at h ⊢
    by_cases c2 : digN c = true
    · rw [if_pos c2] at h
      rcases h with ⟨rfl, _⟩ | ⟨rfl, _⟩ <;> rw [if_neg (by decide)] <;> rfl
    rw [if_neg c2] at h
    have := markN_lt c
    rw [if_neg (by omega)]
    rfl
theorem dk0 {c : UInt8} {r : List UInt8} (h : digN c = false) : numT (c :: r) = none := by
  unfold numT
  rw [if_pos (Or.inl (by rw [dk, if_neg (by rw [h]; decide)]))]
theorem SignK.num {l : List UInt8} {k : Nat} {t : List UInt8} {n : Nat} {u : List UInt8} (h : SignK l k t n u) : numS l = if k = 9 then some (n, u) else none := by
  unfold SignK at h
  unfold numS
  cases hs : skipB l with
  | nil =>
    rw [hs] at h
    simp only at h
    rw [if_neg (by omega)]
    rfl
  | cons c r =>
    rw [hs] at h
    simp only at h
    by_cases c1 : c = 34
    · rw [if_pos c1] at h
      rw [dk0 (by rw [c1]; decide)]
      rcases h with ⟨rfl, h⟩ | ⟨rfl, h⟩ <;> rw [if_neg (by decide)]
    rw [if_neg c1] at h
    by_cases c2 : digN c = true
    · rw [if_pos c2] at h
      rcases h with ⟨rfl, h⟩ | ⟨rfl, h⟩
      · rw [if_pos rfl]; exact h
      · rw [if_neg (by decide)]; exact h
    rw [if_neg c2] at h
    have := markN_lt c
    rw [if_neg (by omega), dk0 (Bool.eq_false_iff.2 c2)]
theorem SignK.fin {l : List UInt8} {k : Nat} {t : List UInt8} {n : Nat} {u : List UInt8} (h : SignK l k t n u) : skipB l = [] ↔ k = 1 := by
  unfold SignK at h
  cases hs : skipB l with
  | nil => rw [hs] at h; exact ⟨fun _ => h, fun _ => rfl⟩
  | cons c r =>
    rw [hs] at h
    simp only at h
    refine ⟨(fun e => by cases e), fun e => ?_⟩
    exfalso
    have := markN_lt c
    split at h
    · rcases h with ⟨h, _⟩ | ⟨h, _⟩ <;> omega
    · split at h
      · rcases h with ⟨h, _⟩ | ⟨h, _⟩ <;> omega
      · omega
/-- what is left of a reading, by the machine's state -/
def R7 (m : Nat → Bool) (c : Cm) (l : List UInt8) : Option Cm := moreS (6 - cnt m) m c l
def R1 (m : Nat → Bool) (c : Cm) (l : List UInt8) : Option Cm := (nameS m l).bind (fun r => (valS r.1 c r.2).bind (fun q => R7 (upd m r.1) q.1 q.2))
def R3 (f : Nat) (m : Nat → Bool) (c : Cm) (l : List UInt8) : Option Cm := (valS f c l).bind (fun q => R7 m q.1 q.2)
def R2 (f : Nat) (m : Nat → Bool) (c : Cm) (l : List UInt8) : Option Cm := (seesS 58 l).bind (R3 f m c)
def getL (f : Nat) (c : Cm) : List (List UInt8) := if f = 2 then c.scp else if f = 3 then c.aud else c.act
def fin (f : Nat) (m : Nat → Bool) (c : Cm) (r : List (List UInt8) × List UInt8) : Option Cm := R7 m (c.setL f (getL f c ++ r.1)) r.2
def R4 (f : Nat) (m : Nat → Bool) (c : Cm) (l : List UInt8) : Option Cm := (restS l).bind (fin f m c)
def R5 (f : Nat) (m : Nat → Bool) (c : Cm) (l : List UInt8) : Option Cm := (itemsS l).bind (fin f m c)
def R6 (f : Nat) (m : Nat → Bool) (c : Cm) (l : List UInt8) : Option Cm := match seesS 44 l with
  | some u => R5 f m c u
  | none => (seesS 93 l).bind (fun u => R7 m c u)
def R8 (m : Nat → Bool) (c : Cm) (l : List UInt8) : Option Cm := if skipB l = [] ∧ cnt m = 6 then some c else none
theorem R1_fld (m : Nat → Bool) (c : Cm) (l : List UInt8) (n : Nat) (hn : cnt m + n = 5) : fldS n m c l = R1 m c l := by
  unfold fldS R1
  cases hs : nameS m l with
  | none => rfl
  | some r =>
    have hm : m r.1 = false ∧ r.1 < 6 := by
      unfold nameS at hs
      obtain ⟨a, _, hs⟩ := Option.bind_eq_some_iff.1 hs
      obtain ⟨b, _, hs⟩ := Option.bind_eq_some_iff.1 hs
      obtain ⟨f, hf, hs⟩ := Option.bind_eq_some_iff.1 hs
      by_cases h : m f = true
      · rw [if_pos h] at hs; cases hs
      · rw [if_neg h] at hs
        cases hs
        exact ⟨Bool.eq_false_iff.2 h, (fieldS_lt hf).1⟩
    show (valS r.1 c r.2).bind _ = (valS r.1 c r.2).bind _
    congr 1
    funext q
    unfold R7
    rw [cnt_upd m r.1 hm.2 hm.1, show 6 - (cnt m + 1) = n by omega]
theorem R1_full (m : Nat → Bool) (c : Cm) (l : List UInt8) (hm : cnt m = 6) : R1 m c l = none := by
  have ha := (cnt_all m).1 hm
  unfold R1
  have : nameS m l = none := by
    unfold nameS
    cases textS l with
    | none => rfl
    | some r =>
      show (seesS 58 r.2).bind _ = none
      cases seesS 58 r.2 with
      | none => rfl
      | some t =>
        show (fieldS r.1).bind _ = none
        cases hf : fieldS r.1 with
        | none => rfl
        | some f => show (if m f = true then none else some (f, t)) = none; rw [if_pos (ha f (fieldS_lt hf).1)]
  rw [this]
  rfl

section
variable {l : List UInt8} {k : Nat} {t : List UInt8} {n : Nat} {u : List UInt8} {f : Nat} {m : Nat → Bool} {c : Cm}
theorem step0 (h : SignK l k t n u) : objS l = if k = 2 then R1 (fun _ => false) cm0 u else none := by
  unfold objS
  rw [h.sees 123 2 rfl (by decide) (by decide) (by decide)]
  by_cases e : k = 2
  · rw [if_pos e, if_pos e]
    exact R1_fld _ _ _ _ rfl
  · rw [if_neg e, if_neg e]; rfl
theorem step1_ok (h : SignK l k t n u) (hk : k = 8) (hf : fieldS t = some f) (hm : m f = false) : R1 m c l = R2 f (upd m f) c u := by
  unfold R1 R2 R3 nameS
  rw [h.text, if_pos hk]
  show ((seesS 58 u).bind _).bind _ = _
  cases seesS 58 u with
  | none => rfl
  | some t2 =>
    show ((fieldS t).bind _).bind _ = _
    rw [hf]
    show (if m f = true then none else some (f, t2)).bind _ = _
    rw [hm, if_neg (by decide)]
    rfl
theorem step1_no (h : SignK l k t n u) (hk : ¬ k = 8 ∨ ∀ f, fieldS t = some f → m f = true) : R1 m c l = none := by
  unfold R1 nameS
  rw [h.text]
  by_cases e : k = 8
  · rw [if_pos e]
    have hk := hk.resolve_left (fun h => h e)
    show ((seesS 58 u).bind _).bind _ = _
    cases seesS 58 u with
    | none => rfl
    | some t2 =>
      show ((fieldS t).bind _).bind _ = _
      cases hf : fieldS t with
      | none => rfl
      | some f =>
        show (if m f = true then none else some (f, t2)).bind _ = _
        rw [if_pos (hk f hf)]
        rfl
  · rw [if_neg e]; rfl
theorem step2 (h : SignK l k t n u) : R2 f m c l = if k = 6 then R3 f m c u else none := by
  unfold R2
  rw [h.sees 58 6 rfl (by decide) (by decide) (by decide)]
  by_cases e : k = 6
  · rw [if_pos e, if_pos e]; rfl
  · rw [if_neg e, if_neg e]; rfl
theorem step3_num (h : SignK l k t n u) (hf : f = 0 ∨ f = 5) : R3 f m c l = if k = 9 then R7 m (c.setN f n) u else none := by
  unfold R3 valS
  rw [if_pos hf, h.num]
  by_cases e : k = 9
  · rw [if_pos e, if_pos e]; rfl
  · rw [if_neg e, if_neg e]; rfl
theorem step3_txt (h : SignK l k t n u) (hf : f = 1) : R3 f m c l = if k = 8 then R7 m (c.setT t) u else none := by
  unfold R3 valS
  rw [if_neg (by omega), if_pos hf, h.text]
  by_cases e : k = 8
  · rw [if_pos e, if_pos e]; rfl
  · rw [if_neg e, if_neg e]; rfl
theorem step3_lst (h : SignK l k t n u) (hf : f = 2 ∨ f = 3 ∨ f = 4) (hg : getL f c = []) : R3 f m c l = if k = 4 then R4 f m c u else none := by
  unfold R3 valS
  rw [if_neg (by omega), if_neg (by omega)]
  unfold listS
  rw [h.sees 91 4 rfl (by decide) (by decide) (by decide)]
  by_cases e : k = 4
  · rw [if_pos e, if_pos e]
    unfold R4
    show (Option.map _ (restS u)).bind _ = (restS u).bind _
    cases restS u with
    | none => rfl
    | some r =>
      show R7 m (c.setL f r.1) r.2 = R7 m (c.setL f (getL f c ++ r.1)) r.2
      rw [hg]; rfl
  · rw [if_neg e, if_neg e]; rfl
theorem setL_get (hf : f = 2 ∨ f = 3 ∨ f = 4) : c.setL f (getL f c ++ []) = c := by
  rcases hf with rfl | rfl | rfl <;> simp [Cm.setL, getL]
theorem fin_add (hf : f = 2 ∨ f = 3 ∨ f = 4) (v : List UInt8) (r : List (List UInt8) × List UInt8) : fin f m c (v :: r.1, r.2) = fin f m (c.add f v) r := by
  unfold fin
  rcases hf with rfl | rfl | rfl <;> simp [Cm.setL, getL, Cm.add]
theorem step5 (h : SignK l k t n u) (hf : f = 2 ∨ f = 3 ∨ f = 4) : R5 f m c l = if k = 8 then R6 f m (c.add f t) u else none := by
  unfold R5
  rw [itemsS_step, h.text]
  by_cases e : k = 8
  · rw [if_pos e, if_pos e]
    unfold R6
    simp only
    cases hs : seesS 44 u with
    | some u2 =>
      simp only
      unfold R5
      cases itemsS u2 with
      | none => rfl
      | some r => exact fin_add hf t r
    | none =>
      simp only
      cases seesS 93 u with
      | none => rfl
      | some u2 =>
        have := fin_add (m := m) (c := c) hf t ([], u2)
        show fin f m c ([t], u2) = R7 m (c.add f t) u2
        rw [this]
        unfold fin
        rw [setL_get hf]
  · rw [if_neg e, if_neg e]; rfl
theorem step4 (h : SignK l k t n u) (hf : f = 2 ∨ f = 3 ∨ f = 4) : R4 f m c l = if k = 8 then R6 f m (c.add f t) u else if k = 5 then R7 m c u else none := by
  unfold R4 restS
  rw [h.sees 93 5 rfl (by decide) (by decide) (by decide)]
  by_cases e5 : k = 5
  · rw [if_pos e5, if_neg (by omega), if_pos e5]
    show fin f m c ([], u) = _
    unfold fin
    rw [setL_get hf]
  · rw [if_neg e5, if_neg e5]
    exact step5 h hf
theorem step6 (h : SignK l k t n u) : R6 f m c l = if k = 7 then R5 f m c u else if k = 5 then R7 m c u else none := by
  unfold R6
  rw [h.sees 44 7 rfl (by decide) (by decide) (by decide), h.sees 93 5 rfl (by decide) (by decide) (by decide)]
  by_cases e7 : k = 7
  · simp only [e7, if_true]
  · simp only [if_neg e7]
    by_cases e5 : k = 5
    · rw [if_pos e5, if_pos e5]; rfl
    · rw [if_neg e5, if_neg e5]; rfl
theorem step7 (h : SignK l k t n u) : R7 m c l = if k = 7 then R1 m c u else if k = 3 then R8 m c u else none := by
  have hc := cnt_le m
  unfold R7
  by_cases h6 : cnt m = 6
  · rw [h6]
    show endS c l = _
    unfold endS
    rw [h.sees 125 3 rfl (by decide) (by decide) (by decide)]
    by_cases e7 : k = 7
    · rw [if_neg (by omega), if_pos e7, R1_full m c u h6]; rfl
    · rw [if_neg e7]
      by_cases e3 : k = 3
      · rw [if_pos e3, if_pos e3]
        unfold R8
        show (if skipB u = [] then some c else none) = _
        by_cases hb : skipB u = []
        · rw [if_pos hb, if_pos ⟨hb, h6⟩]
        · rw [if_neg hb, if_neg (fun h => hb h.1)]
      · rw [if_neg e3, if_neg e3]; rfl
  · obtain ⟨q, hq⟩ : ∃ q, 6 - cnt m = q + 1 := ⟨5 - cnt m, by omega⟩
    rw [hq, moreS_succ, h.sees 44 7 rfl (by decide) (by decide) (by decide)]
    by_cases e7 : k = 7
    · rw [if_pos e7, if_pos e7]
      exact R1_fld m c u q (by omega)
    · rw [if_neg e7, if_neg e7]
      by_cases e3 : k = 3
      · rw [if_pos e3]
        unfold R8
        rw [if_neg (fun h => h6 h.2)]; rfl
      · rw [if_neg e3]; rfl
theorem step8 (h : SignK l k t n u) : R8 m c l = if k = 1 ∧ cnt m = 6 then some c else none := by
  unfold R8
  by_cases e : k = 1 ∧ cnt m = 6
  · rw [if_pos e, if_pos ⟨h.fin.2 e.1, e.2⟩]
  · rw [if_neg e, if_neg (fun h' => e ⟨h.fin.1 h'.1, h'.2⟩)]
end
end Go.Proofs.YtkmkkmdpjliifaaGreatDoor
namespace Go.Proofs.YtkmkkmdpjliifaaGreatDoor
open Go.ChangeShapes Go.WideShapes Go.ChangeAt Go.RowKit

theorem six_ix (m : Nat → Bool) (k : Nat) (hk : k < 6) (u : World) : (Instr.index 229 (.agg #[.bool (m 0), .bool (m 1), .bool (m 2), .bool (m 3), .bool (m 4), .bool (m 5)]) (.int .i64 (k : Nat))).run Tryz.prog u = .ok (.bool (m k)) u := by
  rcases (show k = 0 ∨ k = 1 ∨ k = 2 ∨ k = 3 ∨ k = 4 ∨ k = 5 by omega) with rfl | rfl | rfl | rfl | rfl | rfl <;>
    (unfold Instr.index; simp [asIntOf, run_underlying Tryz.underlying229, part, Tryz.isAgg4, Tryz.sizeOf4, go_sem])

set_option maxRecDepth 20000 in
set_option maxHeartbeats 1000000 in
theorem isWhole_any (D : Nat) (c : Cz) (p : Pl) (cur : Nat) (m : Nat → Bool) (w : World) (hD : Dr w D c p cur m) :
    Calls Tryz.prog 178 #[.pointer (some ⟨D, 0, none⟩)] w fun e w' => e = .returned (.bool (decide (cnt m = 6))) ∧ w' = w := by
  have r0 := hD.named 0 (by decide)
  have r1 := hD.named 1 (by decide)
  have r2 := hD.named 2 (by decide)
  have r3 := hD.named 3 (by decide)
  have r4 := hD.named 4 (by decide)
  have r5 := hD.named 5 (by decide)
  go_enter Tryz.func178, Tryz.ntmps178
  go_wp2_with fail
  clear r0 r1 r2 r3 r4 r5
  go_loopg [9] 6 (fun q i wr => ∃ k : Nat, k + q = 6 ∧ i = .int .i64 (k : Nat) ∧ (∀ j, j < k → m j = true) ∧ wr = w)
  case atStart => exact ⟨0, rfl, rfl, fun j hj => absurd hj (Nat.not_lt_zero _), rfl⟩
  case round =>
    obtain ⟨k, hk, rfl, hA, rfl⟩ := hrel
    have HA := hide hA
    clear hA
    by_cases hlt : k < 6
    · have hix := six_ix m k hlt
      have hkI : (k : Int) < 6 := by omega
      have HW : Hid (wrap64 ((k : Int) + 1) = (k : Int) + 1) := hide (w64 _ (by omega) (by omega))
      cases hm : m k with
      | true =>
        rw [hm] at hix
        have HM := hide hm
        clear hm
        go_wp2_with fail
        go_roundg (gk - 1)
        case measure => omega
        case rel => exact ⟨k + 1, by omega, by first | exact num1 (unhide HW) | rfl, fun j hj => by
            by_cases e : j = k
            · rw [e]; exact unhide HM
            · exact unhide HA j (by omega), rfl⟩
      | false =>
        rw [hm] at hix
        have HN : Hid (decide (cnt m = 6) = false) := hide (decide_eq_false (fun h => by have := (cnt_all m).1 h k hlt; rw [hm] at this; cases this))
        clear hm
        go_wp2_with fail
        go_ret
        exact ⟨by rw [unhide HN]; rfl, rfl⟩
    · have HN : Hid (decide (cnt m = 6) = true) := hide (decide_eq_true ((cnt_all m).2 (fun f hf => unhide HA f (by omega))))
      have hk6 : k = 6 := by omega
      subst hk6
      go_wp2_with fail
      go_ret
      exact ⟨by rw [unhide HN]; rfl, rfl⟩
end Go.Proofs.YtkmkkmdpjliifaaGreatDoor
namespace Go.Proofs.YtkmkkmdpjliifaaGreatDoor
open Go.ChangeShapes Go.WideShapes Go.ChangeAt Go.RowKit

theorem SignK.lt {l : List UInt8} {k : Nat} {t : List UInt8} {n : Nat} {u : List UInt8} (h : SignK l k t n u) (h0 : k ≠ 0) (h1 : k ≠ 1) : u.length < l.length := by
  by_cases h8 : k = 8
  · have := h.text
    rw [if_pos h8] at this
    exact (textS_lt this).1
  by_cases h9 : k = 9
  · have := h.num
    rw [if_pos h9] at this
    exact (numS_lt this).1
  have hs := skipB_le l
  unfold SignK at h
  cases hk : skipB l with
  | nil => rw [hk] at h; exact absurd h h1
  | cons c r =>
    rw [hk] at h hs
    simp only at h
    split at h
    · rcases h with ⟨h, _⟩ | ⟨h, _⟩
      · exact absurd h h8
      · exact absurd h h0
    · split at h
      · rcases h with ⟨h, _⟩ | ⟨h, _⟩
        · exact absurd h h9
        · exact absurd h h0
      · rw [h.2]
        simp at hs
        omega
/-- what is left of a reading, by the machine's state -/
def Rst (want f : Nat) (m : Nat → Bool) (c : Cm) (l : List UInt8) : Option Cm :=
  if want = 0 then objS l else if want = 1 then R1 m c l else if want = 2 then R2 f m c l else if want = 3 then R3 f m c l else if want = 4 then R4 f m c l else if want = 5 then R5 f m c l
  else if want = 6 then R6 f m c l else if want = 7 then R7 m c l else R8 m c l
/-- nothing is too great -/
structure JB (T : List UInt8) (a : Nat) (c : Cm) : Prop where
  len : c.scp.length + c.aud.length + c.act.length ≤ a
  sub : c.sub.length ≤ 4 * T.length
  i2 : ∀ s ∈ c.scp, s.length ≤ 4 * T.length
  i3 : ∀ s ∈ c.aud, s.length ≤ 4 * T.length
  i4 : ∀ s ∈ c.act, s.length ≤ 4 * T.length
/-- the machine's state -/
structure JM (w0 wr : World) (T : List UInt8) (want cur : Nat) (m : Nat → Bool) (c : Cm) (p : Pl) (a : Nat) : Prop where
  sc : Sc wr (w0.heap.size + 1) T a
  la : a ≤ T.length
  dr : Dr wr (w0.heap.size + 2) c.z p cur m
  l3 : L3 wr (w0.heap.size + 3) c p
  res : Row wr w0.heap.size 60 6 (czF cz0 pl0)
  ut : UT wr
  bel : Below w0.heap.size w0 wr
  sz : w0.heap.size + 3 ≤ wr.heap.size
  jb : JB T a c
  em : ∀ f, (f = 2 ∨ f = 3 ∨ f = 4) → m f = false → getL f c = []
  ec : want = 2 ∨ want = 3 → (cur = 2 ∨ cur = 3 ∨ cur = 4) → getL cur c = []
  mc : 2 ≤ want → want ≤ 6 → m cur = true
  cl : want = 4 ∨ want = 5 ∨ want = 6 → cur = 2 ∨ cur = 3 ∨ cur = 4
  c6 : want = 2 ∨ want = 3 → cur < 6
  z0 : want = 0 → m = (fun _ => false) ∧ c = cm0
  rest : objS T = Rst want cur m c (T.drop a)
/-- what readObject answers -/
def ObjR (T : List UInt8) (w : World) (e : Ending) (w' : World) : Prop :=
  ∃ (c : Cm) (p : Pl) (ok : Bool), e = .returned (.tuple #[.agg (czA c.z p), .bool ok]) ∧ L3 w' w.heap.size c p ∧ JB T T.length c ∧ Below w.heap.size w w' ∧ ((ok = true ∧ objS T = some c) ∨ (ok = false ∧ objS T = none ∧ c = cm0 ∧ p = pl0))
theorem L3.down {w : World} {b b' : Nat} {c : Cm} {p : Pl} (h : L3 w b c p) (hb : b' ≤ b) : L3 w b' c p := ⟨h.o2.down hb, h.o3.down hb, h.o4.down hb, h.d23, h.d24, h.d34⟩
theorem L3.none (w : World) (b : Nat) : L3 w b cm0 pl0 := ⟨OwnS.nil _ _, OwnS.nil _ _, OwnS.nil _ _, (fun _ _ h => by cases h), (fun _ _ h => by cases h), (fun _ _ h => by cases h)⟩
theorem JB.up {T : List UInt8} {a b : Nat} {c : Cm} (h : JB T a c) (hb : a ≤ b) : JB T b c := ⟨Nat.le_trans h.len hb, h.sub, h.i2, h.i3, h.i4⟩
theorem JB.none (T : List UInt8) (a : Nat) : JB T a cm0 := ⟨Nat.zero_le _, Nat.zero_le _, fun s h => absurd h (by simp [cm0]), fun s h => absurd h (by simp [cm0]), fun s h => absurd h (by simp [cm0])⟩
theorem JB.setN {T : List UInt8} {a : Nat} {c : Cm} (h : JB T a c) (f n : Nat) : JB T a (c.setN f n) := by
  unfold Cm.setN
  split <;> exact ⟨h.len, h.sub, h.i2, h.i3, h.i4⟩
theorem JB.setT {T : List UInt8} {a : Nat} {c : Cm} (h : JB T a c) {t : List UInt8} (ht : t.length ≤ 4 * T.length) : JB T a (c.setT t) := ⟨h.len, ht, h.i2, h.i3, h.i4⟩
theorem mem_more {l : List (List UInt8)} {t : List UInt8} {n : Nat} (h : ∀ s ∈ l, s.length ≤ n) (ht : t.length ≤ n) : ∀ s ∈ l ++ [t], s.length ≤ n := fun s hs => by
  rcases List.mem_append.1 hs with hs | hs
  · exact h s hs
  · simp at hs; subst hs; exact ht
theorem JB.add {T : List UInt8} {a b : Nat} {c : Cm} (h : JB T a c) (hab : a < b) (f : Nat) {t : List UInt8} (ht : t.length ≤ 4 * T.length) : JB T b (c.add f t) := by
  have hl := h.len
  unfold Cm.add
  split
  · exact ⟨by simp only [List.length_append, List.length_singleton]; omega, h.sub, mem_more h.i2 ht, h.i3, h.i4⟩
  · split
    · exact ⟨by simp only [List.length_append, List.length_singleton]; omega, h.sub, h.i2, mem_more h.i3 ht, h.i4⟩
    · exact ⟨by simp only [List.length_append, List.length_singleton]; omega, h.sub, h.i2, h.i3, mem_more h.i4 ht⟩
theorem getL_setN {c : Cm} (f g n : Nat) : getL f (c.setN g n) = getL f c := by
  unfold Cm.setN
  split <;> rfl
theorem getL_add {c : Cm} {f g : Nat} (t : List UInt8) (hf : f = 2 ∨ f = 3 ∨ f = 4) (hg : g = 2 ∨ g = 3 ∨ g = 4) (hne : f ≠ g) : getL f (c.add g t) = getL f c := by
  rcases hf with rfl | rfl | rfl <;> rcases hg with rfl | rfl | rfl <;> first | exact absurd rfl hne | rfl
end Go.Proofs.YtkmkkmdpjliifaaGreatDoor
