import Derived.WalkKit
import Derived.Deep.Draws
namespace Go.Proofs.YtkmkkmdpjliifaaDoor
open Go.RowKit

theorem hide {p : Prop} (h : p) : Hid p := h
theorem unhide {p : Prop} (h : Hid p) : p := h
theorem below_drewN' {B : Nat} {a w : World} (h : Below B a w) (n : Nat) : Below B a (w.drewN n) := h.trans ⟨rfl, rfl, rfl, Nat.le_refl _, fun _ _ => rfl⟩

/-- Block g is a row of n cells, not frozen; f tells what they hold. -/
def Row (w : World) (g : Nat) (t : TypeId) (n : Nat) (f : Nat → Value) : Prop :=
  ∃ cs : Array Value, w.heap[g]? = some (.cells cs t (0, 0)) ∧ cs.size = n ∧ ∀ j, j < n → cs[j]? = some (f j)

section
variable {w : World} {g : Nat} {t : TypeId} {n : Nat} {f : Nat → Value}

theorem Row.lt (h : Row w g t n f) : g < w.heap.size := by
  obtain ⟨cs, h1, _⟩ := h
  rcases Nat.lt_or_ge g w.heap.size with h | h
  · exact h
  · rw [Array.getElem?_eq_none h] at h1; cases h1
theorem Row.cell (h : Row w g t n f) {j : Nat} (hj : j < n) : w.cell? ⟨g, j, none⟩ = some (f j) := by
  obtain ⟨cs, h1, h2, h3⟩ := h
  rw [cell_of_row w g j cs t _ h1]; exact h3 j hj
theorem Row.frozen (h : Row w g t n f) (j : Nat) : w.frozen? ⟨g, j, none⟩ = false := by
  obtain ⟨cs, h1, _, _⟩ := h
  exact frozen_of_row w g j cs t h1
theorem Row.congr (h : Row w g t n f) {f' : Nat → Value} (e : ∀ j, j < n → f j = f' j) : Row w g t n f' := by
  obtain ⟨cs, h1, h2, h3⟩ := h
  exact ⟨cs, h1, h2, fun j hj => by rw [h3 j hj, e j hj]⟩
theorem Row.set (h : Row w g t n f) (k : Nat) (v : Value) : Row (w.setCell ⟨g, k, none⟩ v) g t n (fun j => if j = k then v else f j) := by
  obtain ⟨cs, h1, h2, h3⟩ := h
  refine ⟨_, heap_setCell_same w g k cs t v h1, by simpa using h2, fun j hj => ?_⟩
  by_cases e : j = k
  · subst e; simp [h2, hj]
  · simp [e, h3 j hj, Ne.symm e]
theorem Row.other (h : Row w g t n f) {a : Addr} (hne : g ≠ a.block) (v : Value) : Row (w.setCell a v) g t n f := by
  obtain ⟨cs, h1, h2, h3⟩ := h
  exact ⟨cs, by rw [heap_setCell_other w a g v hne]; exact h1, h2, h3⟩
theorem Row.drewN (h : Row w g t n f) (q : Nat) : Row (w.drewN q) g t n f := h
theorem Row.drew (h : Row w g t n f) : Row w.drew g t n f := h
theorem Row.alloc (h : Row w g t n f) (o : Obj) : Row (w.alloc o) g t n f := by
  have hl := h.lt
  obtain ⟨cs, h1, h2, h3⟩ := h
  exact ⟨cs, by rw [Below.heap_alloc w o g hl]; exact h1, h2, h3⟩
theorem Row.below {w' : World} {B : Nat} (h : Row w g t n f) (hb : Below B w w') (hg : g < B) : Row w' g t n f := by
  obtain ⟨cs, h1, h2, h3⟩ := h
  exact ⟨cs, by rw [hb.block g hg]; exact h1, h2, h3⟩
theorem Row.new (w : World) (t : TypeId) (cs : Array Value) (f : Nat → Value) (n : Nat) (hn : cs.size = n) (hf : ∀ j, j < n → cs[j]? = some (f j)) : Row (w.alloc (.cells cs t)) w.heap.size t n f :=
  ⟨cs, heap_alloc_new w _, hn, hf⟩
/-- the cells as one array -/
def arrOf (n : Nat) (f : Nat → Value) : Array Value := (Array.range n).map f
theorem arrOf_size (n : Nat) (f : Nat → Value) : (arrOf n f).size = n := by simp [arrOf]
theorem arrOf_get (n : Nat) (f : Nat → Value) (j : Nat) (hj : j < n) : (arrOf n f)[j]? = some (f j) := by simp [arrOf, hj]
theorem Row.whole (h : Row w g t n f) : w.heap[g]? = some (.cells (arrOf n f) t (0, 0)) := by
  obtain ⟨cs, h1, h2, h3⟩ := h
  have : cs = arrOf n f := by
    apply Array.ext (by rw [h2, arrOf_size])
    intro i hi1 hi2
    have e1 := h3 i (by omega)
    have e2 := arrOf_get n f i (by omega)
    rw [Array.getElem?_eq_getElem hi1] at e1
    rw [Array.getElem?_eq_getElem hi2] at e2
    rw [Option.some.inj e1, Option.some.inj e2]
  rw [h1, this]
end
/-- n cells of block g from o on, none of them frozen; f tells what they hold. -/
def Cel (w : World) (g o n : Nat) (f : Nat → Value) : Prop := ∀ j, j < n → w.cell? ⟨g, o + j, none⟩ = some (f j) ∧ w.frozen? ⟨g, o + j, none⟩ = false
section
variable {w : World} {g o n : Nat} {f : Nat → Value}
theorem Cel.cell (h : Cel w g o n f) {j : Nat} (hj : j < n) : w.cell? ⟨g, o + j, none⟩ = some (f j) := (h j hj).1
theorem Cel.cell0 (h : Cel w g 0 n f) {j : Nat} (hj : j < n) : w.cell? ⟨g, j, none⟩ = some (f j) := by have := (h j hj).1; rwa [Nat.zero_add] at this
theorem Cel.frozen0 (h : Cel w g 0 n f) {j : Nat} (hj : j < n) : w.frozen? ⟨g, j, none⟩ = false := by have := (h j hj).2; rwa [Nat.zero_add] at this
theorem Cel.congr (h : Cel w g o n f) {f' : Nat → Value} (e : ∀ j, j < n → f j = f' j) : Cel w g o n f' := fun j hj => by rw [← e j hj]; exact h j hj
theorem Cel.set (h : Cel w g 0 n f) (k : Nat) (v : Value) : Cel (w.setCell ⟨g, k, none⟩ v) g 0 n (fun j => if j = k then v else f j) := fun j hj => by
  have h1 := h j hj
  rw [Nat.zero_add] at *
  refine ⟨?_, by rw [World.frozen?_setCell]; exact h1.2⟩
  show _ = some (if j = k then v else f j)
  by_cases e : j = k
  · subst e; rw [if_pos rfl]; exact World.cell?_setCell_same _ _ _ h1.1
  · rw [if_neg e, World.cell?_setCell_other]
    · exact h1.1
    · intro hh; injection hh with _ h2; exact e h2.symm
theorem Cel.other (h : Cel w g o n f) {a : Addr} (hne : g ≠ a.block) (v : Value) : Cel (w.setCell a v) g o n f := fun j hj => by
  have h1 := h j hj
  refine ⟨?_, by rw [World.frozen?_setCell]; exact h1.2⟩
  rw [World.cell?_setCell_other]
  · exact h1.1
  · intro hh; subst hh; exact hne rfl
theorem Cel.drewN (h : Cel w g o n f) (q : Nat) : Cel (w.drewN q) g o n f := h
theorem Cel.below {w' : World} {B : Nat} (h : Cel w g o n f) (hb : Below B w w') (hg : g < B) : Cel w' g o n f := fun j hj =>
  ⟨(hb.cell (p := ⟨g, o + j, none⟩) hg).trans (h j hj).1, (hb.frozen (p := ⟨g, o + j, none⟩) hg).trans (h j hj).2⟩
theorem Cel.alloc (h : Cel w g o n f) (hg : g < w.heap.size) (ob : Obj) : Cel (w.alloc ob) g o n f := h.below ((Below.refl w.heap.size w).alloc (Nat.le_refl _) ob) hg
theorem Row.cel {t : TypeId} (h : Row w g t n f) : Cel w g 0 n f := fun j hj => by rw [Nat.zero_add]; exact ⟨h.cell hj, h.frozen j⟩
theorem ownsRow_cel {base : Nat} {e : TypeId} {v : Value} {xs : List Value} (h : w.ownsRow base e 1 v n xs) : n = 0 ∨ ∃ g cap, v = .slice (some ⟨g, 0, none⟩) n cap ∧ base ≤ g ∧ g < w.heap.size ∧ Cel w g 0 n (fun j => xs.getD j undef) := by
  obtain ⟨h1, h2⟩ := h
  rcases h2 with ⟨_, h2⟩ | ⟨g, cap, cur, hv, hg, hh, hc, hm, hs, ht⟩
  · exact Or.inl h2
  · refine Or.inr ⟨g, cap, hv, hg, ?_, fun j hj => ⟨?_, frozen_of_row w g _ cur e hh⟩⟩
    · rcases Nat.lt_or_ge g w.heap.size with h | h
      · exact h
      · rw [Array.getElem?_eq_none h] at hh; cases hh
    · rw [cell_of_row w g _ cur e _ hh, Nat.zero_add]
      have hx : xs[j]? = cur[j]? := by
        rw [← ht, List.getElem?_take_of_lt (by omega)]; simp
      have hj' : j < cur.size := by omega
      show _ = some (xs.getD j undef)
      rw [List.getD_eq_getElem?_getD, hx, Array.getElem?_eq_getElem hj']; rfl
end
theorem bcell {W w1 : World} (hb : Below W.heap.size W w1) : (∀ b o, b < W.heap.size → w1.cell? ⟨b, o, none⟩ = W.cell? ⟨b, o, none⟩) ∧ (∀ b o, b < W.heap.size → w1.frozen? ⟨b, o, none⟩ = W.frozen? ⟨b, o, none⟩) :=
  ⟨fun b o h => hb.cell (p := ⟨b, o, none⟩) h, fun b o h => hb.frozen (p := ⟨b, o, none⟩) h⟩
end Go.Proofs.YtkmkkmdpjliifaaDoor
