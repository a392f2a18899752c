import Derived.Test.YtkmkkmdpjliifaaDoorTxA
import Derived.Deep.MidRow
namespace Go.Proofs.YtkmkkmdpjliifaaDoor
open Go.RowKit

theorem Row.setCells {g : Nat} {t : TypeId} {n : Nat} : ∀ (vs : List Value) (o : Nat) (w : World) (f : Nat → Value), Row w g t n f →
    Row (w.setCells g o vs) g t n (fun j => if o ≤ j ∧ j < o + vs.length then vs.getD (j - o) undef else f j)
  | [], o, w, f, h => by
    refine Row.congr h (fun j _ => ?_)
    rw [if_neg (by simp)]
  | v :: vs, o, w, f, h => by
    have h1 := Row.setCells vs (o + 1) (w.setCell ⟨g, o, none⟩ v) _ (h.set o v)
    refine Row.congr h1 (fun j _ => ?_)
    simp only [List.length_cons]
    by_cases e : j = o
    · subst e
      rw [if_neg (by omega), if_pos rfl, if_pos (by omega), Nat.sub_self]; rfl
    · by_cases e2 : o + 1 ≤ j ∧ j < o + 1 + vs.length
      · rw [if_pos e2, if_pos (by omega), show j - o = (j - (o + 1)) + 1 by omega]; rfl
      · rw [if_neg e2, if_neg e, if_neg (by omega)]
theorem grown_setCell (w : World) (a : Addr) (v : Value) : w.grownBy (w.setCell a v) (some a.block) :=
  ⟨rfl, rfl, rfl, by simp [World.setCell], fun k _ hne => Below.heap_setCell _ _ _ _ (fun e => hne (by rw [e]))⟩
theorem grown_trans {a b c : World} {row : Option Nat} (h : a.grownBy b row) (k : b.grownBy c row) : a.grownBy c row :=
  ⟨k.os.trans h.os, k.tape.trans h.tape, k.output.trans h.output, Nat.le_trans h.size k.size, fun i hi hne => (k.block i (Nat.lt_of_lt_of_le hi h.size) hne).trans (h.block i hi hne)⟩
theorem grown_setCells (g : Nat) : ∀ (vs : List Value) (o : Nat) (w : World), w.grownBy (w.setCells g o vs) (some g)
  | [], _, _ => ⟨rfl, rfl, rfl, Nat.le_refl _, fun _ _ _ => rfl⟩
  | v :: vs, o, w => grown_trans (grown_setCell w ⟨g, o, none⟩ v) (grown_setCells g vs (o + 1) _)

/-- a whole array is read -/
theorem ldRow {ops : Array Oper} {rest : List Oper} {o : Oper} {a : Act} {w : World} {Q : Exit → Act → World → Prop} (hgd : o.guard = none) (ty : TypeId) (x : Operand) (ho : o.op = .load ty x)
    {g n m : Nat} {f : Nat → Value} {t e : TypeId} (hx : a.eval x = .pointer (some ⟨g, 0, none⟩)) (hRow : Row w g t n f) (hu : Tryd.prog.underlying ty = some (.array m e)) (hi : (Tryd.prog.info? ty).map (·.size) = some n)
    (h : wpList Tryd.prog ops Q rest (a.put o.dst (.agg (arrOf n f))) w) : wpList Tryd.prog ops Q (o :: rest) a w :=
  wpList_load_row hgd ty x ho g hx t (arrOf n f) (0, 0) _ hRow.whole hu rfl (by rw [arrOf_size]; exact hi) h
/-- a whole array is written -/
theorem stRow {ops : Array Oper} {rest : List Oper} {o : Oper} {a : Act} {w : World} {Q : Exit → Act → World → Prop} (hgd : o.guard = none) (ty : TypeId) (x y : Operand) (ho : o.op = .store ty x y)
    {g n : Nat} {f f' : Nat → Value} {t : TypeId} (hx : a.eval x = .pointer (some ⟨g, 0, none⟩)) (hy : a.eval y = .agg (arrOf n f)) (hRow : Row w g t n f') (hi : (Tryd.prog.info? ty).map (·.size) = some n) (h1 : ∀ j, j < n → (f j).oneCell' = true)
    (h : ∀ w', Row w' g t n f → w.grownBy w' (some g) → wpList Tryd.prog ops Q rest (a.put o.dst undef) w') : wpList Tryd.prog ops Q (o :: rest) a w := by
  refine wpList_store_mid hgd ty x y ho g 0 (arrOf n f) hx hy (fun j hj => ?_) (by rw [arrOf_size]; exact hi) ?_ (h _ ?_ (grown_setCells g _ 0 w))
  · rw [arrOf_size] at hj
    rw [Nat.zero_add]
    exact ⟨by rw [hRow.cell hj]; rfl, hRow.frozen j⟩
  · rw [Array.all_eq_true]
    intro i hi2
    have h2 := arrOf_get n f i (by rw [arrOf_size] at hi2; exact hi2)
    rw [Array.getElem?_eq_getElem hi2] at h2
    rw [Option.some.inj h2]
    exact h1 i (by rw [arrOf_size] at hi2; exact hi2)
  · refine (Row.setCells (arrOf n f).toList 0 w f' hRow).congr (fun j hj => ?_)
    rw [if_pos ⟨Nat.zero_le _, by rw [Array.length_toList, arrOf_size]; omega⟩, Nat.sub_zero, List.getD_eq_getElem?_getD, Array.getElem?_toList, arrOf_get n f j hj]
    rfl
end Go.Proofs.YtkmkkmdpjliifaaDoor
