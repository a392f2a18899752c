import Derived.Test.YtkmkkmdpjliifaaDoorNxF
import Derived.WalkSpells
import Derived.Laws.ResultCell
namespace Go.Proofs.YtkmkkmdpjliifaaDoor
open Go.ChangeShapes Go.WideShapes Go.ChangeAt Go.RowKit

theorem appLaw {w : World} {ops : Array Oper} {rest : List Oper} {o : Oper} {a : Act} {Q : Exit → Act → World → Prop} (hgd : o.guard = none) (s x : Operand) {t : TypeId}
    (ho : o.op = .call { callee := .builtin .append, args := #[s, x], argTypes := #[t, t] }) {vs vx v' : Value} {w' : World} (hs : a.eval s = vs) (hx : a.eval x = vx)
    (hrun : (Builtin.append_ #[t, t] o.type #[vs, vx]).run Tryd.prog w = .ok v' w')
    (h : wpList Tryd.prog ops Q rest (a.put o.dst v') w') : wpList Tryd.prog ops Q (o :: rest) a w := by
  refine wpList_plain hgd fun K hK' => ?_
  unfold Oper.wp
  simp [execOp, ho, resolve, invoke, builtin, hs, hx, hrun, Result.andThen]
  exact hK' _ _ h
/-- what a row that the call owns holds, cell by cell -/
theorem owns_cells {w : World} {base size : Nat} {e : TypeId} {v : Value} {n : Nat} {xs : List Value} (h : w.ownsRow base e size v n xs) :
    (v = .slice none 0 0 ∧ n = 0) ∨ ∃ g cap, v = .slice (some ⟨g, 0, none⟩) n cap ∧ n ≤ cap ∧ base ≤ g ∧ g < w.heap.size ∧ ∀ j u, xs[j]? = some u → w.cell? ⟨g, j, none⟩ = some u := by
  obtain ⟨h1, h2⟩ := h
  rcases h2 with h2 | ⟨g, cap, cur, hv, hg, hh, hc, hm, hs, ht⟩
  · exact Or.inl h2
  · refine Or.inr ⟨g, cap, hv, hc, hg, ?_, fun j u hu => ?_⟩
    · rcases Nat.lt_or_ge g w.heap.size with h | h
      · exact h
      · rw [Array.getElem?_eq_none h] at hh; cases hh
    · rw [cell_of_row w g _ cur e _ hh]
      have hj : j < xs.length := by
        rcases Nat.lt_or_ge j xs.length with h | h
        · exact h
        · rw [List.getElem?_eq_none h] at hu; cases hu
      rw [← ht] at hu
      rw [List.getElem?_take_of_lt (by omega)] at hu
      simpa using hu
def svs (l : List (List UInt8)) : List Value := l.map sv
theorem svs_get (l : List (List UInt8)) (j : Nat) (hj : j < l.length) : (svs l)[j]? = some (sv (l.getD j [])) := by simp [svs, List.getD, hj]
theorem owns_Ls {w : World} {base : Nat} {v : Value} {l : List (List UInt8)} (h : w.ownsRow base 9 1 v l.length (svs l)) : Ls w w.heap.size v l := by
  rcases owns_cells h with ⟨rfl, hn⟩ | ⟨g, cap, rfl, hc, hg, hl, hcell⟩
  · exact ⟨none, 0, by rw [hn], by omega, fun hp => by omega⟩
  · exact ⟨_, cap, rfl, hc, fun _ => ⟨g, 0, rfl, hl, fun j hj => by rw [Nat.zero_add]; exact hcell j _ (svs_get l j hj)⟩⟩
/-- a result that lies in a row -/
theorem ret_rowN {fn : Func} {p : Tmp} {ty : TypeId} (h : fn.results = #[.cell p ty]) {a : Act} {w : World} {R : Ending → World → Prop} {g n : Nat} {t : TypeId} {f : Nat → Value} (d : TypeDesc) (hRow : Row w g t n f)
    (hp : a.tmps.getD p undef = .pointer (some ⟨g, 0, none⟩)) (hu : Tryd.prog.underlying ty = some d) (hd : ∃ fs, d = .struct fs)
    (hi : (Tryd.prog.info? ty).map (·.size) = some n) (hdef : a.defers = []) (hR : R (.returned (.agg (arrOf n f))) w) : bodyPost Tryd.prog fn R Exit.ret a w :=
  bodyPost_ret (v := .agg (arrOf n f)) (results_cell_row h a.tmps w g t (arrOf n f) (0, 0) d hp hRow.whole hu (by rcases hd with ⟨_, rfl⟩; rfl) (by rw [arrOf_size]; exact hi)) hdef hR
theorem Ls.drew {w : World} {B : Nat} {v : Value} {l : List (List UInt8)} (h : Ls w B v l) : Ls w.drew B v l := h
theorem But.cell {g : Nat} {w w' : World} (h : But g w w') {a : Addr} (hne : a.block ≠ g) : w'.cell? a = w.cell? a := World.cell?_of_block (h.block a.block hne)
end Go.Proofs.YtkmkkmdpjliifaaDoor
