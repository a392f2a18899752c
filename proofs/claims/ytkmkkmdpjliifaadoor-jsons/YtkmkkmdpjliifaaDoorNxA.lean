import Derived.Test.YtkmkkmdpjliifaaDoorTxJ
import Derived.Test.YtkmkkmdpjliifaaDoorTxS
import Derived.Laws.CopyRow
namespace Go.Proofs.YtkmkkmdpjliifaaDoor
open Go.ChangeShapes Go.WideShapes Go.ChangeAt Go.RowKit

/-- a string's value -/
def sv (l : List UInt8) : Value := .string ⟨l.toArray⟩
theorem sv_def (l : List UInt8) : sv l = .string ⟨l.toArray⟩ := rfl
/-- A slice of strings, to be read; all that it leads to lies below block B. -/
def Ls (w : World) (B : Nat) (v : Value) (l : List (List UInt8)) : Prop :=
  ∃ a c, v = .slice a l.length c ∧ l.length ≤ c ∧ (0 < l.length → ∃ g o, a = some ⟨g, o, none⟩ ∧ g < B ∧ ∀ j, j < l.length → w.cell? ⟨g, o + j, none⟩ = some (sv (l.getD j [])))
theorem Ls.below {w w' : World} {B : Nat} {v : Value} {l : List (List UInt8)} (h : Ls w B v l) (hb : Below B w w') : Ls w' B v l := by
  obtain ⟨a, c, rfl, hle, h⟩ := h
  refine ⟨a, c, rfl, hle, fun hp => ?_⟩
  obtain ⟨g, o, rfl, hg, h⟩ := h hp
  exact ⟨g, o, rfl, hg, fun j hj => (hb.cell (p := ⟨g, o + j, none⟩) hg).trans (h j hj)⟩
theorem Ls.up {w : World} {B B' : Nat} {v : Value} {l : List (List UInt8)} (h : Ls w B v l) (hb : B ≤ B') : Ls w B' v l := by
  obtain ⟨a, c, rfl, hle, h⟩ := h
  refine ⟨a, c, rfl, hle, fun hp => ?_⟩
  obtain ⟨g, o, rfl, hg, h⟩ := h hp
  exact ⟨g, o, rfl, by omega, h⟩
/-- other blocks than these -/
theorem Ls.keep {w w' : World} {B : Nat} {v : Value} {l : List (List UInt8)} (h : Ls w B v l) (hb : ∀ g, g < B → w'.heap[g]? = w.heap[g]?) : Ls w' B v l := by
  obtain ⟨a, c, rfl, hle, h⟩ := h
  refine ⟨a, c, rfl, hle, fun hp => ?_⟩
  obtain ⟨g, o, rfl, hg, h⟩ := h hp
  exact ⟨g, o, rfl, hg, fun j hj => (World.cell?_of_block (a := ⟨g, o + j, none⟩) (hb g hg)).trans (h j hj)⟩

theorem info9 : (Tryd.prog.info? 9).map (fun i => (i.zero, i.size, i.bytes)) = some (some (.string ⟨#[]⟩), 1, 16) := by kernel_rfl
/-- n empty strings -/
def zst (n : Nat) : Array Value := madeCells #[.string ⟨#[]⟩] n
theorem zst_size (n : Nat) : (zst n).size = n := by simp [zst, madeCells]
theorem zst_get (n j : Nat) (h : j < n) : (zst n)[j]? = some (.string ⟨#[]⟩) := by simp [zst, madeCells, h, Nat.mod_one]
theorem make35 (l c : Int) (h0 : 0 ≤ l) (hlc : l ≤ c) (hc : c ≤ 17592186044416) (u : World) : (Instr.makeSlice 35 (.int .i64 l) (.int .i64 c)).run Tryd.prog u =
    .ok (.slice (some ⟨u.heap.size, 0, none⟩) l.toNat c.toNat) (u.alloc (.cells (zst c.toNat) 9)) := by
  obtain ⟨i0, hi, hz0, hz1, hz2⟩ := info_parts info9
  have h := run_make (P := Tryd.prog) u 35 9 i0 (.string ⟨#[]⟩) Tryd.underlying35 hi hz0 .i64 .i64 l c h0 hlc (by rw [hz2]; omega) (by omega)
  rw [hz1, Nat.mul_one] at h
  exact h

theorem setCells_size (g : Nat) : ∀ (vs : List Value) (o : Nat) (w : World), (w.setCells g o vs).heap.size = w.heap.size
  | [], _, _ => rfl
  | v :: vs, o, w => (setCells_size g vs (o + 1) (w.setCell ⟨g, o, none⟩ v)).trans (by simp [World.setCell])
/-- copy(d, s): d a row of the call's own, s cells that lie in another one; k cells an element -/
theorem copy_any {w : World} {dT sT elem : TypeId} {k : Nat} (hu : Tryd.prog.underlying dT = some (.slice elem)) (hk : (Tryd.prog.info? elem).map (·.size) = some k) {g n cap m cap2 M : Nat} {a : Option Addr} {t : TypeId} {f f2 : Nat → Value}
    (hRow : Row w g t M f) (hn : n * k ≤ M) (hle : m ≤ n) (hsrc : 0 < m → ∃ g2 o2, a = some ⟨g2, o2, none⟩ ∧ ∀ j, j < m * k → w.cell? ⟨g2, o2 + j, none⟩ = some (f2 j)) (h1 : ∀ j, j < m * k → (f2 j).oneCell' = true) (ty : TypeId) :
    ∃ w', (Builtin.copy_ #[dT, sT] ty #[.slice (some ⟨g, 0, none⟩) n cap, .slice a m cap2]).run Tryd.prog w = .ok (goInt m) w' ∧ Row w' g t M (fun j => if j < m * k then f2 j else f j) ∧ w.grownBy w' (some g) ∧ w'.heap.size = w.heap.size := by
  obtain ⟨i, hi, hik⟩ := Option.map_eq_some_iff.1 hk
  have hmin : Nat.min m n = m := Nat.min_eq_left hle
  have hmk : m * k ≤ n * k := Nat.mul_le_mul_right k hle
  by_cases h0 : m = 0
  · subst h0
    refine ⟨w, ?_, hRow.congr (fun j hj => by rw [Nat.zero_mul, if_neg (Nat.not_lt_zero j)]), ⟨rfl, rfl, rfl, Nat.le_refl _, fun _ _ _ => rfl⟩, rfl⟩
    cases a with
    | none => simp [Builtin.copy_, run_underlying hu, Builtin.lenOf, Builtin.firstCells, sizeOf, typeInfo, hi, storeCells]
    | some ad =>
      have hl := run_loadCells_list (P := Tryd.prog) w ad [] (fun j v hv => by simp at hv)
      rw [List.length_nil] at hl
      simp [Builtin.copy_, run_underlying hu, Builtin.lenOf, Builtin.firstCells, sizeOf, typeInfo, hi, storeCells, hl]
  · obtain ⟨g2, o2, rfl, hc⟩ := hsrc (by omega)
    have hal : ((List.range (m * k)).map f2).length = m * k := by simp
    have hl := run_loadCells_list (P := Tryd.prog) w ⟨g2, o2, none⟩ ((List.range (m * k)).map f2) (fun j v hv => by
      have hj : j < m * k := by
        rcases Nat.lt_or_ge j (m * k) with h | h
        · exact h
        · rw [List.getElem?_eq_none (by rw [hal]; exact h)] at hv; cases hv
      have e : v = f2 j := by simpa [hj] using hv.symm
      rw [add_plain, hc j hj, e])
    have hst := run_storeCells_cells (P := Tryd.prog) g 0 ((List.range (m * k)).map f2) 0 w (fun j hj => by
        rw [hal] at hj
        simp [hRow.cell (show j < M by omega)]) (fun j hj => hRow.frozen _) (fun v hv => by
        obtain ⟨j, hj, rfl⟩ := List.mem_map.1 hv
        exact h1 j (List.mem_range.1 hj))
    rw [hal] at hl
    simp only [Nat.add_zero] at hst
    refine ⟨_, ?_, (Row.setCells ((List.range (m * k)).map f2) 0 w f hRow).congr (fun j hj => ?_), grown_setCells g _ 0 w, setCells_size g _ 0 w⟩
    · simp [Builtin.copy_, run_underlying hu, Builtin.lenOf, Builtin.firstCells, sizeOf, typeInfo, hi, hik, hmin, hl, hst]
    · rw [hal, Nat.zero_add, Nat.sub_zero]
      by_cases e : j < m * k
      · rw [if_pos ⟨Nat.zero_le _, e⟩, if_pos e]; simp [List.getD, e]
      · rw [if_neg (fun h => e h.2), if_neg e]

/-- 'beyond', 'spoilt' -/
def beyondL : List UInt8 := [98, 101, 121, 111, 110, 100]
def spoiltL : List UInt8 := [115, 112, 111, 105, 108, 116]
/-- what lent makes -/
def lentF (l : List (List UInt8)) (j : Nat) : Value := if j < l.length then sv (l.getD j []) else sv beyondL
theorem copyLaw {w : World} {ops : Array Oper} {rest : List Oper} {o : Oper} {a : Act} {Q : Exit → Act → World → Prop} (hgd : o.guard = none) (d s : Operand) {dT sT : TypeId}
    (ho : o.op = .call { callee := .builtin .copy, args := #[d, s], argTypes := #[dT, sT] }) {vd vs : Value} {n : Nat} {w' : World} (hd : a.eval d = vd) (hs : a.eval s = vs)
    (hrun : (Builtin.copy_ #[dT, sT] o.type #[vd, vs]).run Tryd.prog w = .ok (goInt n) w')
    (h : wpList Tryd.prog ops Q rest (a.put o.dst (goInt n)) w') : wpList Tryd.prog ops Q (o :: rest) a w := by
  refine wpList_plain hgd fun K hK' => ?_
  unfold Oper.wp
  simp [execOp, ho, resolve, invoke, builtin, hd, hs, hrun, Result.andThen]
  exact hK' _ _ h

set_option maxRecDepth 20000 in
set_option maxHeartbeats 1000000 in
theorem lent_any (v : Value) (l : List (List UInt8)) (w : World) (B : Nat) (hB : B ≤ w.heap.size) (hl : l.length ≤ 8796093022208) (hv : Ls w B v l) :
    Calls Tryd.prog 14 #[v] w fun e w' => e = .returned (.slice (some ⟨w.heap.size, 0, none⟩) l.length (l.length + 4)) ∧ Row w' w.heap.size 9 (l.length + 4) (lentF l) ∧ w'.heap.size = w.heap.size + 1 ∧ Below w.heap.size w w' := by
  obtain ⟨a, c, rfl, hle, hv⟩ := hv
  clear hle
  have HL := hide hl
  have hadd : wrap64 ((l.length : Int) + 4) = (l.length : Int) + 4 := w64 _ (by omega) (by omega)
  have hmk := make35 ((l.length : Int) + 4) ((l.length : Int) + 4) (by omega) (by omega) (by omega)
  have htn : ((l.length : Int) + 4).toNat = l.length + 4 := by omega
  rw [htn] at hmk
  clear hl htn
  have hR0 : Row (w.alloc (.cells (zst (l.length + 4)) 9)) w.heap.size 9 (l.length + 4) (fun _ => .string ⟨#[]⟩) := Row.new w 9 _ _ _ (zst_size _) (fun j hj => zst_get _ j hj)
  obtain ⟨w1, hrun, hR1, hg1, hs1⟩ := copy_any (sT := 35) (cap := l.length + 4) (m := l.length) (cap2 := c) (a := a) (f2 := fun j => sv (l.getD j [])) (n := l.length + 4) Tryd.underlying35 (show (Tryd.prog.info? 9).map (·.size) = some 1 by kernel_rfl) hR0 (by omega) (by omega)
    (fun hp => by
      obtain ⟨g, o, rfl, hg, hc⟩ := hv hp
      refine ⟨g, o, rfl, fun j hj => ?_⟩
      rw [Nat.mul_one] at hj
      exact (((Below.refl w.heap.size w).alloc (Nat.le_refl _) _).cell (p := ⟨g, o + j, none⟩) (by show g < _; omega)).trans (hc j hj)) (fun _ _ => rfl) 3
  have hB1 : Below w.heap.size w w1 := ((Below.refl w.heap.size w).alloc (Nat.le_refl _) _).grown hg1 (by simp) (fun k hk => by cases hk; exact Nat.le_refl _)
  have hs2 : w1.heap.size = w.heap.size + 1 := by rw [hs1]; simp
  clear hR0 hg1 hs1
  go_enter Tryd.func14, Tryd.ntmps14
  go_wp2_with (at_builtin; refine copyLaw rfl _ _ rfl rfl rfl hrun ?_)
  go_loopg [4] 4 (fun q i wr => ∃ k : Nat, k + q = l.length + 4 ∧ l.length ≤ k ∧ i = .int .i64 (k : Nat) ∧ Row wr w.heap.size 9 (l.length + 4) (fun j => if j < k then lentF l j else .string ⟨#[]⟩) ∧ wr.heap.size = w.heap.size + 1 ∧ Below w.heap.size w wr)
  case atStart =>
    refine ⟨l.length, rfl, Nat.le_refl _, rfl, hR1.congr (fun j hj => ?_), hs2, hB1⟩
    unfold lentF
    rw [Nat.mul_one]
    by_cases e : j < l.length
    · rw [if_pos e, if_pos e, if_pos e]
    · rw [if_neg e, if_neg e]
  case round =>
    clear hR1 hs2 hB1 hrun
    obtain ⟨k, hk, hlk, rfl, hR, hsz, hB⟩ := hrel
    by_cases hlt : k < l.length + 4
    · have hc := hR.cell hlt
      have hfz := hR.frozen k
      have hw : wrap64 ((k : Int) + 1) = (k : Int) + 1 := w64 _ (by omega) (by have := unhide HL; omega)
      go_wp2
      go_roundg (gk - 1)
      case measure => omega
      case rel =>
        refine ⟨k + 1, by omega, by omega, by go_num, (hR.set k _).congr (fun j hj => ?_), by simpa [World.setCell] using hsz, hB.setCell (Nat.le_refl _) _⟩
        by_cases e1 : j = k
        · subst e1
          rw [if_pos rfl, if_pos (by omega)]
          unfold lentF
          rw [if_neg (by omega)]; rfl
        · have e2 : (j < k + 1) ↔ j < k := by omega
          simp only [e1, e2, if_false]
    · go_wp2
      go_ret
      refine ⟨rfl, hR.congr (fun j hj => by rw [if_pos (by omega)]), hsz, hB⟩
end Go.Proofs.YtkmkkmdpjliifaaDoor
