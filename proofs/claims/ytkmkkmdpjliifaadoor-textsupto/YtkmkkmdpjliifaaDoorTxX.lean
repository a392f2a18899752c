import Derived.Test.YtkmkkmdpjliifaaDoorTxW
import Derived.Test.YtkmkkmdpjliifaaDoorTxK
namespace Go.Proofs.YtkmkkmdpjliifaaDoor
open Go.ChangeShapes Go.WideShapes Go.ChangeAt Go.RowKit

theorem prs_pN : prs 312 = pN := by decide +kernel
theorem Row.grown {w w' : World} {g n : Nat} {t : TypeId} {f : Nat → Value} {row : Option Nat} (h : Row w g t n f) (hg : w.grownBy w' row) (hne : some g ≠ row) : Row w' g t n f := by
  have hl := h.lt
  obtain ⟨cs, h1, h2, h3⟩ := h
  exact ⟨cs, by rw [hg.block g hl hne]; exact h1, h2, h3⟩
theorem Cel.grown {w w' : World} {g o n : Nat} {f : Nat → Value} {row : Option Nat} (h : Cel w g o n f) (hl : g < w.heap.size) (hg : w.grownBy w' row) (hne : some g ≠ row) : Cel w' g o n f := fun j hj =>
  ⟨(World.cell?_of_block (a := ⟨g, o + j, none⟩) (hg.block g hl hne)).trans (h j hj).1, (World.frozen?_of_block (a := ⟨g, o + j, none⟩) (hg.block g hl hne)).trans (h j hj).2⟩
theorem OwnN.setCell {w : World} {base : Nat} {v : Value} {l : List Nat} (h : OwnN w base v l) {a : Addr} (ha : a.block < base) (u : Value) : OwnN (w.setCell a u) base v l := ownsRow_setCell_below h ha u
theorem OwnN.form3 {w : World} {base : Nat} {v : Value} {l : List Nat} (h : OwnN w base v l) : ∃ ao n cap, v = .slice ao n cap := by
  obtain ⟨ao, cap, h⟩ := h.form; exact ⟨ao, _, cap, h⟩
/-- a pair of cells -/
def pr (a b : Value) (j : Nat) : Value := if j = 0 then a else b

/-- a result that lies in a row -/
theorem ret_row {fn : Func} {p : Tmp} {ty : TypeId} (h : fn.results = #[.cell p ty]) {a : Act} {w : World} {R : Ending → World → Prop} {g n : Nat} {t : TypeId} {f : Nat → Value} (d : TypeDesc) (hRow : Row w g t n f)
    (hp : a.tmps.getD p undef = .pointer (some ⟨g, 0, none⟩)) (hu : Tryd.prog.underlying ty = some d) (hd : (∃ fs, d = .struct fs) ∨ ∃ n e, d = .array n e)
    (hi : (Tryd.prog.info? ty).map (·.size) = some n) (hdef : a.defers = []) (hR : R (.returned (.agg (arrOf n f))) w) : bodyPost Tryd.prog fn R Exit.ret a w :=
  bodyPost_ret (v := .agg (arrOf n f)) (results_cell_row h a.tmps w g t (arrOf n f) (0, 0) d hp hRow.whole hu (by rcases hd with ⟨_, rfl⟩ | ⟨_, _, rfl⟩ <;> rfl) (by rw [arrOf_size]; exact hi)) hdef hR
theorem arrOf_eq (n : Nat) (f : Nat → Value) (cs : Array Value) (h : cs.size = n) (hc : ∀ j, j < n → cs[j]? = some (f j)) : arrOf n f = cs := by
  apply Array.ext (by rw [arrOf_size, h])
  intro i hi1 hi2
  have e1 := hc i (by omega)
  have e2 := arrOf_get n f i (by omega)
  rw [Array.getElem?_eq_getElem hi2] at e1
  rw [Array.getElem?_eq_getElem hi1] at e2
  rw [Option.some.inj e1, Option.some.inj e2]

set_option maxHeartbeats 1000000 in
theorem made_any (w : World) :
    Calls Tryd.prog 6 #[] w fun e w' => ∃ gH gK cH cK : Nat, e = .returned (.agg #[.slice (some ⟨gH, 0, none⟩) 8 cH, .slice (some ⟨gK, 0, none⟩) 64 cK]) ∧ gH < w'.heap.size ∧ gK < w'.heap.size ∧
      Cel w' gH 0 8 (fun j => .int .i64 (wi (H0 j))) ∧ Cel w' gK 0 64 (fun j => .int .i64 (wi (K0 j))) ∧ Below w.heap.size w w' := by
  go_enter Tryd.func6, Tryd.ntmps6
  go_wp2_with fail
  refine (primes_any _).mono ?_
  rintro e w1 ⟨v, rfl, hP, hb1⟩
  rw [prs_pN] at hP
  rcases OwnN.shape hP with ⟨_, h2⟩ | ⟨gP, cP, rfl, hgP0, hgP, hCP⟩
  · exact absurd h2 (by decide)
  clear hP
  have hgP2 : w.heap.size + 1 < gP := by simp at hgP0; omega
  clear hgP0
  have hl64 : pN.length = 64 := rfl
  rw [hl64] at hCP ⊢
  clear hl64
  have hnil : (w.alloc (.cells #[.slice none 0 0, .slice none 0 0] 24)).heap.size = w.heap.size + 1 := by simp
  have hsz1 : w.heap.size + 2 ≤ w1.heap.size := by have := hb1.size; simp at this; omega
  have hR0 : Row w1 w.heap.size 24 2 (pr (.slice none 0 0) (.slice none 0 0)) :=
    (((Row.new w 24 #[.slice none 0 0, .slice none 0 0] _ 2 rfl (fun j hj => by rcases (show j = 0 ∨ j = 1 by omega) with rfl | rfl <;> rfl)).alloc _).below hb1 (by simp; omega))
  have hR1 : Row w1 (w.heap.size + 1) 24 2 (pr (.slice none 0 0) (.slice none 0 0)) := by
    have := Row.new (w.alloc (.cells #[.slice none 0 0, .slice none 0 0] 24)) 24 #[.slice none 0 0, .slice none 0 0] (pr (.slice none 0 0) (.slice none 0 0)) 2 rfl (fun j hj => by rcases (show j = 0 ∨ j = 1 by omega) with rfl | rfl <;> rfl)
    rw [hnil] at this
    exact this.below hb1 (by simp)
  have hB1 : Below w.heap.size w w1 := (((Below.refl w.heap.size w).alloc (Nat.le_refl _) _).alloc (by simp) _).trans (hb1.mono (by simp; omega))
  clear hb1 hnil
  go_wp2
  go_loopg [3] 8 (fun q i wr => ∃ (k : Nat) (vH : Value), k + q = 8 ∧ i = .int .i64 k ∧ Row wr w.heap.size 24 2 (pr (.slice none 0 0) (.slice none 0 0)) ∧ Row wr (w.heap.size + 1) 24 2 (pr vH (.slice none 0 0)) ∧
    OwnN wr w1.heap.size vH (hN.take k) ∧ Cel wr gP 0 64 (fun j => .int .i64 (pN.getD j 0 : Nat)) ∧ w1.heap.size ≤ wr.heap.size ∧ Below w.heap.size w wr)
  case atStart => exact ⟨0, _, rfl, rfl, hR0, hR1, Own.nil _ _, hCP, Nat.le_refl _, hB1⟩
  case round =>
    clear hR0 hR1 hCP hB1
    obtain ⟨k, vH, hk, rfl, hR0, hR1, hO, hCP, hZ, hB⟩ := hrel
    by_cases hlt : k < 8
    · have hcp := hCP.cell0 (j := k) (by omega)
      have hne : ∀ g, g < w1.heap.size → some g ≠ vH.ownBlock := fun g hg e => by have := Own.lt hO g e.symm; omega
      have HNE := hide hne
      clear hne
      go_wp2_with fail
      refine (root_sq (pN.getD k 0) _ (pN_lt k (by omega))).mono ?_
      rintro e w2 ⟨x, rfl, hx1, hx2, hb2⟩
      rw [hN_root k x hlt hx1 hx2]
      clear hx1 hx2 hcp
      have hz2 := hb2.size
      have hR0' := hR0.below hb2 (by omega)
      have hR1' := hR1.below hb2 (by omega)
      have hCP' := hCP.below hb2 (by omega)
      have hO' := hO.below hb2
      have hB' := below_trans_size hB hb2 (by omega)
      have hc0 : w2.cell? ⟨w.heap.size + 1, 0, none⟩ = some vH := hR1'.cell (j := 0) (by omega)
      clear hR0 hR1 hCP hO hB hb2
      go_wp2_with (at_builtin; refine app22 rfl _ _ rfl w1.heap.size _ _ (hN.getD k 0 : Nat) rfl (hO'.alloc _) _ rfl (by simp) (by simp [hN_length]; omega) (by simp; omega) ?_; intro v' w3 hO3 hg3; obtain ⟨ao', n', cap', rfl⟩ := (OwnN.snoc hO3).form3; have hR3 := (hR1'.alloc _).grown hg3 (unhide HNE _ (by omega)); have hc3 : w3.cell? ⟨w.heap.size + 1, 0, none⟩ = some vH := hR3.cell (j := 0) (by omega); have hf3 := hR3.frozen 0)
      go_roundg (gk - 1)
      case measure => omega
      case rel =>
        have hs3 := hg3.size
        simp at hs3
        refine ⟨k + 1, .slice ao' n' cap', by omega, by go_num, ((hR0'.alloc _).grown hg3 (unhide HNE _ (by omega))).other (by simp) _, (hR3.set 0 _).congr (fun j hj => ?_), ?_, ((hCP'.alloc (by omega) _).grown (by simp; omega) hg3 (unhide HNE _ hgP)).other (by simp; omega) _, by simp; omega, ?_⟩
        · rcases (show j = 0 ∨ j = 1 by omega) with rfl | rfl <;> rfl
        · rw [take_snocN hN k (by rw [hN_length]; omega)]
          exact (OwnN.snoc hO3).setCell (by simp; omega) _
        · refine Below.setCell ((hB'.alloc (by omega) _).grown hg3 (by simp; omega) (fun k hk => ?_)) (by simp) _
          have := Own.lt hO' k hk; omega
    · obtain rfl : k = 8 := by omega
      clear hlt
      rcases OwnN.shape hO with ⟨_, h2⟩ | ⟨gH, cH, rfl, hgH1, hgH, hCH⟩
      · exact absurd h2 (by decide)
      have hCH8 : Cel wr gH 0 8 (fun j => .int .i64 (wi (H0 j))) := hCH.congr (fun j hj => by rw [wi_H0 j hj]; rfl)
      clear hO hCH
      obtain ⟨bz, hbz⟩ : ∃ bz, bz = wr.heap.size := ⟨_, rfl⟩
      have hbz1 : gH < bz ∧ gP < bz ∧ w.heap.size + 2 ≤ bz := by omega
      have hbz2 : bz ≤ wr.heap.size := by omega
      have hgHne : w.heap.size + 1 < gH := by omega
      clear hbz hgH hgP hsz1 hZ hgH1
      obtain ⟨hgH, hgP, hsz1⟩ := hbz1
      go_wp2
      go_loopg [5] 64 (fun q i wq => ∃ (k : Nat) (vK : Value), k + q = 64 ∧ i = .int .i64 k ∧ Row wq w.heap.size 24 2 (pr (.slice none 0 0) (.slice none 0 0)) ∧ Row wq (w.heap.size + 1) 24 2 (pr (.slice (some ⟨gH, 0, none⟩) 8 cH) vK) ∧
        OwnN wq bz vK (kN.take k) ∧ Cel wq gP 0 64 (fun j => .int .i64 (pN.getD j 0 : Nat)) ∧ Cel wq gH 0 8 (fun j => .int .i64 (wi (H0 j))) ∧ bz ≤ wq.heap.size ∧ Below w.heap.size w wq)
      case atStart => exact ⟨0, _, rfl, rfl, hR0, hR1, Own.nil _ _, hCP, hCH8, hbz2, hB⟩
      case round =>
        clear hR0 hR1 hCP hCH8 hB hbz2
        obtain ⟨k, vK, hk, rfl, hR0, hR1, hO, hCP, hCH8, hZ, hB⟩ := hrel
        by_cases hlt : k < 64
        · have hcp := hCP.cell0 (j := k) (by omega)
          have hne : ∀ g, g < bz → some g ≠ vK.ownBlock := fun g hg e => by have := Own.lt hO g e.symm; omega
          have HNE := hide hne
          clear hne
          go_wp2_with fail
          refine (root_cu (pN.getD k 0) _ (pN_lt k (by omega))).mono ?_
          rintro e w2 ⟨x, rfl, hx1, hx2, hb2⟩
          rw [kN_root k x hlt hx1 hx2]
          clear hx1 hx2 hcp
          have hz2 := hb2.size
          have hR0' := hR0.below hb2 (by omega)
          have hR1' := hR1.below hb2 (by omega)
          have hCP' := hCP.below hb2 (by omega)
          have hCH' := hCH8.below hb2 (by omega)
          have hO' := hO.below hb2
          have hB' := below_trans_size hB hb2 (by omega)
          have hc0 : w2.cell? ⟨w.heap.size + 1, 1, none⟩ = some vK := hR1'.cell (j := 1) (by omega)
          clear hR0 hR1 hCP hCH8 hO hB hb2
          go_wp2_with (at_builtin; refine app22 rfl _ _ rfl bz _ _ (kN.getD k 0 : Nat) rfl (hO'.alloc _) _ rfl (by simp) (by simp [kN_length]; omega) (by simp; omega) ?_; intro v' w3 hO3 hg3; obtain ⟨ao', n', cap', rfl⟩ := (OwnN.snoc hO3).form3; have hR3 := (hR1'.alloc _).grown hg3 (unhide HNE _ (by omega)); have hc3 : w3.cell? ⟨w.heap.size + 1, 1, none⟩ = some vK := hR3.cell (j := 1) (by omega); have hf3 := hR3.frozen 1)
          go_roundg (gk - 1)
          case measure => omega
          case rel =>
            have hs3 := hg3.size
            simp at hs3
            refine ⟨k + 1, .slice ao' n' cap', by omega, by go_num, ((hR0'.alloc _).grown hg3 (unhide HNE _ (by omega))).other (by simp) _, (hR3.set 1 _).congr (fun j hj => ?_), ?_, ((hCP'.alloc (by omega) _).grown (by simp; omega) hg3 (unhide HNE _ (by omega))).other (by simp; omega) _, ((hCH'.alloc (by omega) _).grown (by simp; omega) hg3 (unhide HNE _ (by omega))).other (by simp; omega) _, by simp; omega, ?_⟩
            · rcases (show j = 0 ∨ j = 1 by omega) with rfl | rfl <;> rfl
            · rw [take_snocN kN k (by rw [kN_length]; omega)]
              exact (OwnN.snoc hO3).setCell (by simp; omega) _
            · refine Below.setCell ((hB'.alloc (by omega) _).grown hg3 (by simp; omega) (fun k hk => ?_)) (by simp) _
              have := Own.lt hO' k hk; omega
        · obtain rfl : k = 64 := by omega
          clear hlt
          rcases OwnN.shape hO with ⟨_, h2⟩ | ⟨gK, cK, rfl, hgK1, hgK, hCK⟩
          · exact absurd h2 (by decide)
          have hCK64 : Cel wr gK 0 64 (fun j => .int .i64 (wi (K0 j))) := hCK.congr (fun j hj => by rw [wi_K0 j hj]; rfl)
          clear hO hCK
          have hc0 : wr.cell? ⟨w.heap.size + 1, 0, none⟩ = some (.slice (some ⟨gH, 0, none⟩) 8 cH) := hR1.cell (j := 0) (by omega)
          have hc1 : wr.cell? ⟨w.heap.size + 1, 1, none⟩ = some (.slice (some ⟨gK, 0, none⟩) 64 cK) := hR1.cell (j := 1) (by omega)
          have hd0 : wr.cell? ⟨w.heap.size, 0, none⟩ = some (.slice none 0 0) := hR0.cell (j := 0) (by omega)
          have hd1 : wr.cell? ⟨w.heap.size, 1, none⟩ = some (.slice none 0 0) := hR0.cell (j := 1) (by omega)
          have hf0 := hR0.frozen 0
          have hf1 := hR0.frozen 1
          go_wp2
          have hfin := (hR0.set 0 (.slice (some ⟨gH, 0, none⟩) 8 cH)).set 1 (.slice (some ⟨gK, 0, none⟩) 64 cK)
          refine ret_row Tryd.results6 _ hfin rfl Tryd.underlying24 (Or.inl ⟨_, rfl⟩) (by kernel_rfl) rfl ?_
          refine ⟨gH, gK, cH, cK, congrArg (fun c => Ending.returned (.agg c)) (arrOf_eq 2 _ _ rfl (fun j hj => by rcases (show j = 0 ∨ j = 1 by omega) with rfl | rfl <;> rfl)), by simp; omega, by simpa using hgK, (hCH8.other (by simp; omega) _).other (by simp; omega) _, (hCK64.other (by simp; omega) _).other (by simp; omega) _, (hB.setCell (Nat.le_refl _) _).setCell (Nat.le_refl _) _⟩
end Go.Proofs.YtkmkkmdpjliifaaDoor
