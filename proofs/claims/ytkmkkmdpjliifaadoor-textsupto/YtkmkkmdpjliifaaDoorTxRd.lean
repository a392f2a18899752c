import Derived.Test.YtkmkkmdpjliifaaDoorTxX
namespace Go.Proofs.YtkmkkmdpjliifaaDoor
open Go.RowKit

/-- n cells of block g from o on, to be read; f tells what they hold. -/
def Rd (w : World) (g o n : Nat) (f : Nat → Value) : Prop := ∀ j, j < n → w.cell? ⟨g, o + j, none⟩ = some (f j)
section
variable {w w' : World} {g o n : Nat} {f : Nat → Value}
theorem Rd.cell0 (h : Rd w g 0 n f) {j : Nat} (hj : j < n) : w.cell? ⟨g, j, none⟩ = some (f j) := by have := h j hj; rwa [Nat.zero_add] at this
theorem Rd.below {B : Nat} (h : Rd w g o n f) (hb : Below B w w') (hg : g < B) : Rd w' g o n f := fun j hj => (hb.cell (p := ⟨g, o + j, none⟩) hg).trans (h j hj)
theorem Rd.alloc (h : Rd w g o n f) (hg : g < w.heap.size) (ob : Obj) : Rd (w.alloc ob) g o n f := h.below ((Below.refl w.heap.size w).alloc (Nat.le_refl _) ob) hg
theorem Rd.grown {row : Option Nat} (h : Rd w g o n f) (hl : g < w.heap.size) (hg : w.grownBy w' row) (hne : some g ≠ row) : Rd w' g o n f := fun j hj =>
  (World.cell?_of_block (a := ⟨g, o + j, none⟩) (hg.block g hl hne)).trans (h j hj)
end
end Go.Proofs.YtkmkkmdpjliifaaDoor
