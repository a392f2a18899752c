import Derived.Test.YtkmkkmdpjliifaaDoorJyB
namespace Go.Proofs.YtkmkkmdpjliifaaDoor
open Go.ChangeShapes Go.WideShapes Go.ChangeAt Go.RowKit

set_option maxRecDepth 20000 in
set_option maxHeartbeats 1000000 in
theorem fieldOf_any (k : List UInt8) (w : World) : Calls Tryd.prog 130 #[.string ⟨k.toArray⟩] w fun e w' => e = .returned (.tuple #[.int .i64 ((fieldS k).getD 0 : Nat), .bool (fieldS k).isSome]) ∧ w' = w := by
  generalize hf : fieldS k = f
  have HF := hide hf
  clear hf
  go_enter Tryd.func130, Tryd.ntmps130
  go_wp2_with fail
  all_goals
    go_ret2
    refine ⟨?_, rfl⟩
    have h := unhide HF
    unfold fieldS at h
    subst h
  · have h1 : (k == [106, 116, 105]) = true := by assumption
    rw [if_pos (show k = jtiL from eq_of_beq h1)]; rfl
  · have h1 : (k == [115, 117, 98]) = true := by assumption
    rw [show k = subL from eq_of_beq h1]; rfl
  · have h1 : (k == [115, 99, 112]) = true := by assumption
    rw [show k = scpL from eq_of_beq h1]; rfl
  · have h1 : (k == [97, 117, 100]) = true := by assumption
    rw [show k = audL from eq_of_beq h1]; rfl
  · have h1 : (k == [97, 99, 116]) = true := by assumption
    rw [show k = actL from eq_of_beq h1]; rfl
  · have h1 : (k == [101, 120, 112]) = true := by assumption
    rw [show k = expL from eq_of_beq h1]; rfl
  · have h1 : (k == [106, 116, 105]) = false := by assumption
    have h2 : (k == [115, 117, 98]) = false := by assumption
    have h3 : (k == [115, 99, 112]) = false := by assumption
    have h4 : (k == [97, 117, 100]) = false := by assumption
    have h5 : (k == [97, 99, 116]) = false := by assumption
    have h6 : (k == [101, 120, 112]) = false := by assumption
    rw [if_neg (show k ≠ jtiL from ne_of_beq_false h1), if_neg (show k ≠ subL from ne_of_beq_false h2), if_neg (show k ≠ scpL from ne_of_beq_false h3), if_neg (show k ≠ audL from ne_of_beq_false h4), if_neg (show k ≠ actL from ne_of_beq_false h5), if_neg (show k ≠ expL from ne_of_beq_false h6)]
    rfl
/-- a draft: the claims so far, the field whose value comes, the fields that were named -/
def drF (c : Cz) (p : Pl) (cur : Nat) (m : Nat → Bool) (j : Nat) : Value := if j < 6 then czF c p j else if j = 6 then .int .i64 (cur : Nat) else .bool (m (j - 7))
def Dr (w : World) (D : Nat) (c : Cz) (p : Pl) (cur : Nat) (m : Nat → Bool) : Prop := Row w D 151 13 (drF c p cur m)
theorem Dr.cur {w : World} {D : Nat} {c : Cz} {p : Pl} {cur : Nat} {m : Nat → Bool} (h : Dr w D c p cur m) : w.cell? ⟨D, 6, none⟩ = some (.int .i64 (cur : Nat)) := h.cell (by decide)
theorem Dr.named {w : World} {D : Nat} {c : Cz} {p : Pl} {cur : Nat} {m : Nat → Bool} (h : Dr w D c p cur m) (f : Nat) (hf : f < 6) : w.cell? ⟨D, 7 + f, none⟩ = some (.bool (m f)) := by
  have := h.cell (j := 7 + f) (by omega)
  unfold drF at this
  rw [if_neg (by omega), if_neg (by omega), show 7 + f - 7 = f by omega] at this
  exact this
theorem thirteen {P : Nat → Prop} (h : ∀ j, j < 6 → P j) (h6 : P 6) (h7 : ∀ f, f < 6 → P (7 + f)) : ∀ j, j < 13 → P j := by
  intro j hj
  by_cases h1 : j < 6
  · exact h j h1
  by_cases h2 : j = 6
  · subst h2; exact h6
  · have := h7 (j - 7) (by omega)
    rwa [show 7 + (j - 7) = j by omega] at this
theorem Dr.setCz {w : World} {D : Nat} {c c' : Cz} {p p' : Pl} {cur : Nat} {m : Nat → Bool} (h : Dr w D c p cur m) (k : Nat) (hk : k < 6) (v : Value) (hv : ∀ j, j < 6 → (if j = k then v else czF c p j) = czF c' p' j) : Dr (w.setCell ⟨D, k, none⟩ v) D c' p' cur m :=
  (Row.set h k v).congr (fun j hj => by
    by_cases h1 : j < 6
    · have := hv j h1
      unfold drF
      rw [if_pos h1, if_pos h1]
      exact this
    · rw [if_neg (by omega)]
      unfold drF
      rw [if_neg h1, if_neg h1])
theorem Dr.begun {w : World} {D : Nat} {c : Cz} {p : Pl} {cur : Nat} {m : Nat → Bool} (h : Dr w D c p cur m) (f : Nat) (hf : f < 6) : Dr ((w.setCell ⟨D, 6, none⟩ (.int .i64 (f : Nat))).setCell ⟨D, 7 + f, none⟩ (.bool true)) D c p f (upd m f) :=
  (Row.set (Row.set h 6 _) (7 + f) _).congr (fun j hj => by
    unfold drF upd
    by_cases h1 : j < 6
    · rw [if_neg (by omega), if_neg (by omega), if_pos h1, if_pos h1]
    by_cases h2 : j = 6
    · rw [if_neg (by omega), if_pos h2, if_neg h1, if_pos h2]
    by_cases h3 : j = 7 + f
    · rw [if_pos h3, if_neg h1, if_neg h2, if_pos (by omega)]
    · rw [if_neg h3, if_neg h2, if_neg h1, if_neg h2, if_neg h1, if_neg h2, if_neg (by omega)])

set_option maxRecDepth 20000 in
set_option maxHeartbeats 1000000 in
theorem begin_any (D : Nat) (c : Cz) (p : Pl) (cur : Nat) (m : Nat → Bool) (k : List UInt8) (w : World) (hD : Dr w D c p cur m) :
    Calls Tryd.prog 107 #[.pointer (some ⟨D, 0, none⟩), .string ⟨k.toArray⟩] w fun e w' => But D w w' ∧ ((∃ f, fieldS k = some f ∧ m f = false ∧ e = .returned (.bool true) ∧ Dr w' D c p f (upd m f)) ∨ ((∀ f, fieldS k = some f → m f = true) ∧ e = .returned (.bool false) ∧ Dr w' D c p cur m)) := by
  have HC := hide (fieldOf_any k w)
  cases hf : fieldS k with
  | none =>
    rw [hf] at HC
    have HF := hide hf
    clear hf
    go_enter Tryd.func107, Tryd.ntmps107
    go_wp2_with (go_at_call 130; refine (unhide HC).mono ?_; rintro e w1 ⟨rfl, rfl⟩)
    go_ret
    exact ⟨But.refl _ _, Or.inr ⟨(fun f h => by cases h), rfl, hD⟩⟩
  | some f =>
    have hf6 := (fieldS_lt hf).1
    rw [hf] at HC
    simp only [Option.getD, Option.isSome] at HC
    clear hf
    have r6 := hD.cur
    have rf := hD.named f hf6
    have z6 := hD.frozen 6
    have zf := hD.frozen (7 + f)
    have hfI : (f : Int) < 6 := by omega
    have hne : 7 + f ≠ 6 := by omega
    cases hm : m f with
    | true =>
      rw [hm] at rf
      have HM := hide hm
      clear hm
      go_enter Tryd.func107, Tryd.ntmps107
      go_wp2_with (go_at_call 130; refine (unhide HC).mono ?_; rintro e w1 ⟨rfl, rfl⟩)
      go_ret
      exact ⟨But.refl _ _, Or.inr ⟨(fun f' h => by cases h; exact unhide HM), rfl, hD⟩⟩
    | false =>
      rw [hm] at rf
      have HM := hide hm
      clear hm
      go_enter Tryd.func107, Tryd.ntmps107
      go_wp2_with (go_at_call 130; refine (unhide HC).mono ?_; rintro e w1 ⟨rfl, rfl⟩)
      go_ret
      exact ⟨((But.refl _ _).setCell _ _).setCell _ _, Or.inl ⟨f, rfl, unhide HM, rfl, hD.begun f hf6⟩⟩

set_option maxRecDepth 20000 in
set_option maxHeartbeats 1000000 in
theorem setNumber_any (D : Nat) (c : Cm) (p : Pl) (cur : Nat) (m : Nat → Bool) (n : Nat) (w : World) (hD : Dr w D c.z p cur m) :
    Calls Tryd.prog 108 #[.pointer (some ⟨D, 0, none⟩), .int .i64 (n : Nat)] w fun e w' => But D w w' ∧ (((cur = 0 ∨ cur = 5) ∧ e = .returned (.bool true) ∧ Dr w' D (c.setN cur n).z p cur m) ∨ (¬ (cur = 0 ∨ cur = 5) ∧ e = .returned (.bool false) ∧ Dr w' D c.z p cur m)) := by
  have r6 := hD.cur
  by_cases h0 : cur = 0
  · subst h0
    have r0 : w.cell? ⟨D, 0, none⟩ = some (.int .i64 (c.id : Int)) := hD.cell (by decide)
    have z0 := hD.frozen 0
    go_enter Tryd.func108, Tryd.ntmps108
    go_wp2_with fail
    go_ret
    exact ⟨(But.refl _ _).setCell _ _, Or.inl ⟨by simp, rfl, hD.setCz 0 (by decide) _ (six rfl rfl rfl rfl rfl rfl)⟩⟩
  have n0 : (((cur : Nat) : Int) == 0) = false := by simp only [beq_eq_false_iff_ne, ne_eq]; omega
  by_cases h5 : cur = 5
  · subst h5
    have r0 : w.cell? ⟨D, 5, none⟩ = some (.int .i64 (c.exp : Int)) := hD.cell (by decide)
    have z0 := hD.frozen 5
    go_enter Tryd.func108, Tryd.ntmps108
    go_wp2_with fail
    go_ret
    exact ⟨(But.refl _ _).setCell _ _, Or.inl ⟨by simp, rfl, hD.setCz 5 (by decide) _ (six rfl rfl rfl rfl rfl rfl)⟩⟩
  have n5 : (((cur : Nat) : Int) == 5) = false := by simp only [beq_eq_false_iff_ne, ne_eq]; omega
  have HN : Hid (¬ (cur = 0 ∨ cur = 5)) := hide (by omega)
  clear h0 h5
  go_enter Tryd.func108, Tryd.ntmps108
  go_wp2_with fail
  go_ret
  exact ⟨But.refl _ _, Or.inr ⟨unhide HN, rfl, hD⟩⟩

set_option maxRecDepth 20000 in
set_option maxHeartbeats 1000000 in
theorem setText_any (D : Nat) (c : Cm) (p : Pl) (cur : Nat) (m : Nat → Bool) (t : List UInt8) (w : World) (hD : Dr w D c.z p cur m) :
    Calls Tryd.prog 109 #[.pointer (some ⟨D, 0, none⟩), .string ⟨t.toArray⟩] w fun e w' => But D w w' ∧ ((cur = 1 ∧ e = .returned (.bool true) ∧ Dr w' D (c.setT t).z p cur m) ∨ (¬ cur = 1 ∧ e = .returned (.bool false) ∧ Dr w' D c.z p cur m)) := by
  have r6 := hD.cur
  by_cases h0 : cur = 1
  · subst h0
    have r0 : w.cell? ⟨D, 1, none⟩ = some (.string ⟨c.sub.toArray⟩) := hD.cell (by decide)
    have z0 := hD.frozen 1
    go_enter Tryd.func109, Tryd.ntmps109
    go_wp2_with fail
    go_ret
    exact ⟨(But.refl _ _).setCell _ _, Or.inl ⟨by simp, rfl, hD.setCz 1 (by decide) _ (six rfl rfl rfl rfl rfl rfl)⟩⟩
  have n0 : (((cur : Nat) : Int) == 1) = false := by simp only [beq_eq_false_iff_ne, ne_eq]; omega
  have HN := hide h0
  clear h0
  go_enter Tryd.func109, Tryd.ntmps109
  go_wp2_with fail
  go_ret
  exact ⟨But.refl _ _, Or.inr ⟨unhide HN, rfl, hD⟩⟩

set_option maxRecDepth 20000 in
set_option maxHeartbeats 1000000 in
theorem takesList_any (D : Nat) (c : Cz) (p : Pl) (cur : Nat) (m : Nat → Bool) (w : World) (hD : Dr w D c p cur m) :
    Calls Tryd.prog 110 #[.pointer (some ⟨D, 0, none⟩)] w fun e w' => w' = w ∧ ((e = .returned (.bool true) ∧ (cur = 2 ∨ cur = 3 ∨ cur = 4)) ∨ (e = .returned (.bool false) ∧ ¬ (cur = 2 ∨ cur = 3 ∨ cur = 4))) := by
  have r6 := hD.cur
  by_cases h2 : cur = 2
  · subst h2
    go_enter Tryd.func110, Tryd.ntmps110
    go_wp2_with fail
    go_ret
    exact ⟨rfl, Or.inl ⟨rfl, by simp⟩⟩
  have n2 : (((cur : Nat) : Int) == 2) = false := by simp only [beq_eq_false_iff_ne, ne_eq]; omega
  by_cases h3 : cur = 3
  · subst h3
    go_enter Tryd.func110, Tryd.ntmps110
    go_wp2_with fail
    go_ret
    exact ⟨rfl, Or.inl ⟨rfl, by simp⟩⟩
  have n3 : (((cur : Nat) : Int) == 3) = false := by simp only [beq_eq_false_iff_ne, ne_eq]; omega
  by_cases h4 : cur = 4
  · subst h4
    go_enter Tryd.func110, Tryd.ntmps110
    go_wp2_with fail
    go_ret
    exact ⟨rfl, Or.inl ⟨rfl, by simp⟩⟩
  have n4 : (((cur : Nat) : Int) == 4) = false := by simp only [beq_eq_false_iff_ne, ne_eq]; omega
  have HN : Hid (¬ (cur = 2 ∨ cur = 3 ∨ cur = 4)) := hide (by omega)
  clear h2 h3 h4
  go_enter Tryd.func110, Tryd.ntmps110
  go_wp2_with fail
  go_ret
  exact ⟨rfl, Or.inr ⟨rfl, unhide HN⟩⟩
end Go.Proofs.YtkmkkmdpjliifaaDoor
