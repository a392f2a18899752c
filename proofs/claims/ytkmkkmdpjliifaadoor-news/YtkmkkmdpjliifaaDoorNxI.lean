import Derived.Test.YtkmkkmdpjliifaaDoorNxH
import Derived.WalkSpells
namespace Go.Proofs.YtkmkkmdpjliifaaDoor
open Go.ChangeShapes Go.WideShapes Go.ChangeAt Go.RowKit

theorem appLaw {w : World} {ops : Array Oper} {rest : List Oper} {o : Oper} {a : Act} {Q : Exit → Act → World → Prop} (hgd : o.guard = none) (s x : Operand) {t : TypeId}
    (ho : o.op = .call { callee := .builtin .append, args := #[s, x], argTypes := #[t, t] }) {vs vx v' : Value} {w' : World} (hs : a.eval s = vs) (hx : a.eval x = vx)
    (hrun : (Builtin.append_ #[t, t] o.type #[vs, vx]).run Tryd.prog w = .ok v' w')
    (h : wpList Tryd.prog ops Q rest (a.put o.dst v') w') : wpList Tryd.prog ops Q (o :: rest) a w := by
  refine wpList_plain hgd fun K hK' => ?_
  unfold Oper.wp
  simp [execOp, ho, resolve, invoke, builtin, hs, hx, hrun, Result.andThen]
  exact hK' _ _ h
/-- what a row that the call owns holds, cell by cell -/
theorem owns_cells {w : World} {base size : Nat} {e : TypeId} {v : Value} {n : Nat} {xs : List Value} (h : w.ownsRow base e size v n xs) :
    (v = .slice none 0 0 ∧ n = 0) ∨ ∃ g cap, v = .slice (some ⟨g, 0, none⟩) n cap ∧ n ≤ cap ∧ base ≤ g ∧ g < w.heap.size ∧ ∀ j u, xs[j]? = some u → w.cell? ⟨g, j, none⟩ = some u := by
  obtain ⟨h1, h2⟩ := h
  rcases h2 with h2 | ⟨g, cap, cur, hv, hg, hh, hc, hm, hs, ht⟩
  · exact Or.inl h2
  · refine Or.inr ⟨g, cap, hv, hc, hg, ?_, fun j u hu => ?_⟩
    · rcases Nat.lt_or_ge g w.heap.size with h | h
      · exact h
      · rw [Array.getElem?_eq_none h] at hh; cases hh
    · rw [cell_of_row w g _ cur e _ hh]
      have hj : j < xs.length := by
        rcases Nat.lt_or_ge j xs.length with h | h
        · exact h
        · rw [List.getElem?_eq_none h] at hu; cases hu
      rw [← ht] at hu
      rw [List.getElem?_take_of_lt (by omega)] at hu
      simpa using hu
def svs (l : List (List UInt8)) : List Value := l.map sv
theorem svs_get (l : List (List UInt8)) (j : Nat) (hj : j < l.length) : (svs l)[j]? = some (sv (l.getD j [])) := by simp [svs, List.getD, hj]
theorem owns_Ls {w : World} {base : Nat} {v : Value} {l : List (List UInt8)} (h : w.ownsRow base 9 1 v l.length (svs l)) : Ls w w.heap.size v l := by
  rcases owns_cells h with ⟨rfl, hn⟩ | ⟨g, cap, rfl, hc, hg, hl, hcell⟩
  · exact ⟨none, 0, by rw [hn], by omega, fun hp => by omega⟩
  · exact ⟨_, cap, rfl, hc, fun _ => ⟨g, 0, rfl, hl, fun j hj => by rw [Nat.zero_add]; exact hcell j _ (svs_get l j hj)⟩⟩
/-- append(none, l...), append(empty, l...) -/
theorem append_list {w : World} {v0 : Value} {b0 : Nat} (hb0 : b0 ≤ w.heap.size) (h0 : w.ownsRow b0 9 1 v0 0 []) {a : Option Addr} {l : List (List UInt8)} {c : Nat} {B : Nat} (hl : l.length ≤ 8796093022208) (hv : Ls w B (.slice a l.length c) l) (hp : 0 < l.length) (ty : TypeId) :
    ∃ v' w', (Builtin.append_ #[35, 35] ty #[v0, .slice a l.length c]).run Tryd.prog w = .ok v' w' ∧ Ls w' w'.heap.size v' l ∧ w.grownBy w' v0.ownBlock := by
  obtain ⟨a1, c1, he, hle, hv⟩ := hv
  obtain ⟨g, o, rfl, hg, hc⟩ := hv hp
  injection he with e1 e2 e3
  subst e1
  obtain ⟨i0, hi, hz0, hz1, hz2⟩ := info_parts info9
  obtain ⟨v', w', hrun, ho, hgr, _⟩ := run_append_own (P := Tryd.prog) w b0 35 ty 9 i0 _ 1 16 Tryd.underlying35 hi hz0 hz1 hz2 rfl (by decide) v0 0 [] h0 ⟨g, o, none⟩ l.length c (svs l) (by simp [svs]) (fun j u hu => by
      have hj : j < l.length := by
        rcases Nat.lt_or_ge j l.length with h | h
        · exact h
        · rw [List.getElem?_eq_none (by simp [svs]; exact h)] at hu; cases hu
      rw [svs_get l j hj] at hu
      rw [add_plain, hc j hj, hu]) (fun u hu => by
      obtain ⟨x, _, rfl⟩ := List.mem_map.1 hu
      rfl) (by unfold maxLen; omega) (by omega) hb0
  rw [Nat.zero_add, List.nil_append] at ho
  exact ⟨v', w', hrun, owns_Ls ho, hgr⟩

set_option maxHeartbeats 1000000 in
theorem copied_any (v : Value) (l : List (List UInt8)) (w : World) (B : Nat) (_hB : B ≤ w.heap.size) (hl : l.length ≤ 8796093022208) (hv : Ls w B v l) :
    Calls Tryd.prog 78 #[v] w fun e w' => ∃ v', e = .returned v' ∧ Ls w' w'.heap.size v' l ∧ Below w.heap.size w w' := by
  have hv' := hv
  obtain ⟨a, c, rfl, hle, hx⟩ := hv'
  by_cases hp : 0 < l.length
  · obtain ⟨v', w', hrun, hL, hgr⟩ := append_list (Nat.le_refl _) (World.ownsRow_nil w _ 9 1) hl hv hp 35
    have hb : Below w.heap.size w w' := (Below.refl w.heap.size w).grown hgr (Nat.le_refl _) (fun k hk => by cases hk)
    have HL := hide hL
    clear hl hL hv hx
    go_enter Tryd.func78, Tryd.ntmps78
    go_wp2_with (at_builtin; refine appLaw rfl _ _ rfl rfl rfl hrun ?_)
    go_ret
    exact ⟨_, rfl, unhide HL, hb⟩
  · have : l = [] := List.length_eq_zero_iff.1 (by omega)
    subst this
    clear hl hv hx
    have hrun : (Builtin.append_ #[35, 35] 35 #[.slice none 0 0, .slice a 0 c]).run Tryd.prog w = .ok (.slice none 0 0) w := by
      obtain ⟨i0, hi, hz0, hz1, hz2⟩ := info_parts info9
      cases a with
      | none => simp [Builtin.append_, run_underlying Tryd.underlying35, sizeOf, typeInfo, hi, Builtin.lenOf, Builtin.firstCells]
      | some ad =>
        have hl0 := run_loadCells_list (P := Tryd.prog) w ad [] (fun j v hv => by simp at hv)
        rw [List.length_nil] at hl0
        simp [Builtin.append_, run_underlying Tryd.underlying35, sizeOf, typeInfo, hi, Builtin.lenOf, Builtin.firstCells, hl0]
    go_enter Tryd.func78, Tryd.ntmps78
    go_wp2_with (at_builtin; refine appLaw rfl _ _ rfl rfl rfl hrun ?_)
    go_ret
    exact ⟨_, rfl, ⟨none, 0, rfl, Nat.le_refl _, fun h => absurd h (by simp)⟩, Below.refl _ _⟩

set_option maxRecDepth 20000 in
set_option maxHeartbeats 1000000 in
theorem Clone_any (v : Value) (l : List (List UInt8)) (w : World) (B : Nat) (hB : B ≤ w.heap.size) (hl : l.length ≤ 8796093022208) (hv : Ls w B v l) :
    Calls Tryd.prog 131 #[v] w fun e w' => ∃ a' c', e = .returned (.slice a' l.length c') ∧ Ls w' w'.heap.size (.slice a' l.length c') l ∧ Below w.heap.size w w' := by
  have hv' := hv
  obtain ⟨a, c, rfl, hle, hx⟩ := hv'
  have q35 : ∀ (w : World) (a : Option Addr) (n c n' c' : Nat), (binOp .eql 35 (.slice a n c) (.slice none n' c')).run Tryd.prog w = .ok (.bool a.isNone) w := fun w a n c n' c' => Lib.run_eql_slice_nil w _ _ a n c n' c' Tryd.underlying35
  by_cases hp : 0 < l.length
  · obtain ⟨g, o, rfl, hg, hcell⟩ := hx hp
    have hown : (w.alloc (.cells #[] 9)).ownsRow w.heap.size 9 1 (.slice (some ⟨w.heap.size, 0, none⟩) 0 0) 0 [] :=
      ⟨rfl, Or.inr ⟨w.heap.size, 0, #[], rfl, Nat.le_refl _, heap_alloc_new w _, Nat.le_refl _, Nat.zero_le _, rfl, rfl⟩⟩
    have hva := hv.below (((Below.refl w.heap.size w).alloc (Nat.le_refl _) (.cells #[] 9)).mono hB)
    obtain ⟨v', w', hrun, hL, hgr⟩ := append_list (show w.heap.size ≤ (w.alloc (.cells #[] 9)).heap.size by simp) hown hl hva hp 35
    have hb : Below w.heap.size w w' := ((Below.refl w.heap.size w).alloc (Nat.le_refl _) _).grown hgr (by simp) (fun k hk => by simp [Value.ownBlock] at hk; omega)
    obtain ⟨a', c', rfl, hrest⟩ := hL
    have HL : Hid (Ls w' w'.heap.size (.slice a' l.length c') l) := ⟨a', c', rfl, hrest⟩
    clear hl hx hrest hv hva hcell
    go_enter Tryd.func131, Tryd.ntmps131
    go_wp2_with (at_builtin; refine appLaw rfl _ _ rfl rfl rfl hrun ?_)
    go_ret
    exact ⟨_, _, rfl, unhide HL, hb⟩
  · have : l = [] := List.length_eq_zero_iff.1 (by omega)
    subst this
    clear hl hv hx
    cases a with
    | none =>
      go_enter Tryd.func131, Tryd.ntmps131
      go_wp2
      go_ret
      exact ⟨_, _, rfl, ⟨_, _, rfl, Nat.zero_le _, fun h => absurd h (by simp)⟩, Below.refl _ _⟩
    | some ad =>
      have hrun : (Builtin.append_ #[35, 35] 35 #[.slice (some ⟨w.heap.size, 0, none⟩) 0 0, .slice (some ad) 0 c]).run Tryd.prog (w.alloc (.cells #[] 9)) = .ok (.slice (some ⟨w.heap.size, 0, none⟩) 0 0) (w.alloc (.cells #[] 9)) := by
        obtain ⟨i0, hi, hz0, hz1, hz2⟩ := info_parts info9
        have hl0 := run_loadCells_list (P := Tryd.prog) (w.alloc (.cells #[] 9)) ad [] (fun j v hv => by simp at hv)
        rw [List.length_nil] at hl0
        simp [Builtin.append_, run_underlying Tryd.underlying35, sizeOf, typeInfo, hi, Builtin.lenOf, Builtin.firstCells, hl0, storeCells]
      go_enter Tryd.func131, Tryd.ntmps131
      go_wp2_with (at_builtin; refine appLaw rfl _ _ rfl rfl rfl hrun ?_)
      go_ret
      exact ⟨_, _, rfl, ⟨_, _, rfl, Nat.zero_le _, fun h => absurd h (by simp)⟩, (Below.refl _ _).alloc (Nat.le_refl _) _⟩
end Go.Proofs.YtkmkkmdpjliifaaDoor
