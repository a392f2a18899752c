import Derived.Test.YtkmkkmdpjliifaaDoorNxA
namespace Go.Proofs.YtkmkkmdpjliifaaDoor
open Go.ChangeShapes Go.WideShapes Go.ChangeAt Go.RowKit

/-- Block g alone may have turned. -/
structure But (g : Nat) (w w' : World) : Prop where
  os : w'.os = w.os
  tape : w'.tape = w.tape
  output : w'.output = w.output
  size : w'.heap.size = w.heap.size
  block : ∀ k, k ≠ g → w'.heap[k]? = w.heap[k]?
theorem But.refl (g : Nat) (w : World) : But g w w := ⟨rfl, rfl, rfl, rfl, fun _ _ => rfl⟩
theorem But.trans {g : Nat} {a b c : World} (h : But g a b) (k : But g b c) : But g a c := ⟨k.os.trans h.os, k.tape.trans h.tape, k.output.trans h.output, k.size.trans h.size, fun i hi => (k.block i hi).trans (h.block i hi)⟩
theorem But.drewN {g : Nat} {a w : World} (h : But g a w) (n : Nat) : But g a (w.drewN n) := ⟨h.os, h.tape, h.output, h.size, h.block⟩
theorem But.drew {g : Nat} {a w : World} (h : But g a w) : But g a w.drew := ⟨h.os, h.tape, h.output, h.size, h.block⟩
theorem But.setCell {g : Nat} {a w : World} (h : But g a w) (o : Nat) (v : Value) : But g a (w.setCell ⟨g, o, none⟩ v) :=
  h.trans ⟨rfl, rfl, rfl, by simp [World.setCell], fun k hk => Below.heap_setCell _ _ _ _ hk⟩
theorem But.below {g B : Nat} {w w' : World} (h : But g w w') (hB : B ≤ g) : Below B w w' := ⟨h.os, h.tape, h.output, by rw [h.size]; exact Nat.le_refl _, fun k hk => h.block k (by omega)⟩
theorem Row.but {w w' : World} {g g' n : Nat} {t : TypeId} {f : Nat → Value} (h : Row w g t n f) (hb : But g' w w') (hne : g ≠ g') : Row w' g t n f := by
  obtain ⟨cs, h1, h2, h3⟩ := h
  exact ⟨cs, by rw [hb.block g hne]; exact h1, h2, h3⟩

set_option maxRecDepth 20000 in
set_option maxHeartbeats 1000000 in
theorem stays_any (v : Value) (l : List (List UInt8)) (w : World) (B g : Nat) (hB : B ≤ g) (hl : l.length ≤ 8796093022208) (hv : Ls w B v l) (hR : Row w g 9 (l.length + 4) (lentF l)) :
    Calls Tryd.prog 17 #[.slice (some ⟨g, 0, none⟩) l.length (l.length + 4), v] w fun e w' => e = .returned (.bool true) ∧ Row w' g 9 (l.length + 4) (fun _ => sv spoiltL) ∧ But g w w' := by
  obtain ⟨a, c, rfl, hle, hv⟩ := hv
  clear hle
  have HL := hide hl
  have hadd : wrap64 ((l.length : Int) + 4) = (l.length : Int) + 4 := w64 _ (by omega) (by omega)
  clear hl
  go_enter Tryd.func17, Tryd.ntmps17
  go_wp2
  go_loopg [6, 7] (l.length + 4) (fun q b i wr => ∃ k : Nat, k + q = l.length + 4 ∧ b = .bool true ∧ i = .int .i64 (k : Nat) ∧ Row wr g 9 (l.length + 4) (fun j => if j < k then sv spoiltL else lentF l j) ∧ But g w wr)
  case atStart => exact ⟨0, Nat.zero_add _, rfl, rfl, hR.congr (fun j hj => by rw [if_neg (Nat.not_lt_zero j)]), But.refl _ _⟩
  case round =>
    clear hR
    obtain ⟨k, hk, rfl, rfl, hR, hb⟩ := hrel
    have hw : wrap64 ((k : Int) + 1) = (k : Int) + 1 := w64 _ (by omega) (by have := unhide HL; omega)
    by_cases hlt : k < l.length + 4
    · have hc := hR.cell hlt
      rw [if_neg (Nat.lt_irrefl k)] at hc
      have hfz := hR.frozen k
      unfold lentF at hc
      by_cases h1 : k < l.length
      · obtain ⟨g2, o2, rfl, hg2, hv2⟩ := hv (by omega)
        have hc2 := hv2 k h1
        rw [← World.cell?_of_block (a := ⟨g2, o2 + k, none⟩) (hb.block g2 (by omega))] at hc2
        rw [if_pos h1] at hc
        generalize l.getD k [] = s at hc hc2
        rw [sv_def] at hc hc2
        have d1 : decide (k < l.length) = true := decide_eq_true h1
        have d2 : decide (l.length ≤ k) = false := decide_eq_false (by omega)
        go_wp2
        go_quiet (fail)
        go_wp2
        go_roundg (gk - 1)
        case measure => omega
        case rel =>
          refine ⟨k + 1, by omega, rfl, by go_num, ((hR.drewN _).set k _).congr (fun j hj => ?_), (hb.drewN _).setCell _ _⟩
          by_cases e1 : j = k
          · subst e1
            rw [if_pos rfl, if_pos (by omega)]; rfl
          · have e2 : (j < k + 1) ↔ j < k := by omega
            simp only [e1, e2, if_false]
      · rw [if_neg h1] at hc
        have d1 : decide (k < l.length) = false := decide_eq_false h1
        have d2 : decide (l.length ≤ k) = true := decide_eq_true (by omega)
        rw [sv_def] at hc
        unfold beyondL at hc
        go_wp2
        go_quiet (fail)
        go_wp2
        go_roundg (gk - 1)
        case measure => omega
        case rel =>
          refine ⟨k + 1, by omega, rfl, by go_num, ((hR.drewN _).set k _).congr (fun j hj => ?_), (hb.drewN _).setCell _ _⟩
          by_cases e1 : j = k
          · subst e1
            rw [if_pos rfl, if_pos (by omega)]; rfl
          · have e2 : (j < k + 1) ↔ j < k := by omega
            simp only [e1, e2, if_false]
    · go_wp2
      go_ret
      exact ⟨rfl, hR.congr (fun j hj => by rw [if_pos (by omega)]), hb⟩
end Go.Proofs.YtkmkkmdpjliifaaDoor
