import Derived.Test.YtkmkkmdpjliifaaGreatDoorSvO
import Derived.Test.YtkmkkmdpjliifaaGreatDoorSy
import Derived.Lib.SplitLaws
namespace Go.Proofs.YtkmkkmdpjliifaaGreatDoor
open Go.ChangeShapes Go.WideShapes Go.ChangeAt Go.RowKit

/-- a text, cut at its dots -/
def partsL (t : List UInt8) : List (List UInt8) := (Lib.splitB ⟨#[46]⟩ 0 (Lib.countB ⟨t.toArray⟩ ⟨#[46]⟩) ⟨t.toArray⟩).map (·.data.toList)
theorem splitB_size (sep : ByteArray) : ∀ (k : Nat) (s p : ByteArray), p ∈ Lib.splitB sep 0 k s → p.size ≤ s.size
  | 0, s, p, h => by
    rw [Lib.splitB_zero] at h
    simp at h
    rw [h]; exact Nat.le_refl _
  | k + 1, s, p, h => by
    unfold Lib.splitB at h
    split at h
    · simp at h; rw [h]; exact Nat.le_refl _
    · rcases List.mem_cons.1 h with rfl | h
      · simp [ByteArray.size_extract]; omega
      · have := splitB_size sep k _ p h
        simp [ByteArray.size_extract] at this
        omega
theorem partsL_len (t : List UInt8) : (partsL t).length = Lib.countB ⟨t.toArray⟩ ⟨#[46]⟩ + 1 := by
  unfold partsL
  rw [List.length_map]
  exact Lib.splitB_all _ (by decide) 0 _ _ rfl
theorem partsL_le (t : List UInt8) (j : Nat) (hj : j < (partsL t).length) : ((partsL t).getD j []).length ≤ t.length := by
  have hm : (partsL t).getD j [] ∈ partsL t := by simp [List.getD, hj]
  unfold partsL at hm
  obtain ⟨p, hp, e⟩ := List.mem_map.1 hm
  have := splitB_size _ _ _ p hp
  have h2 : (ByteArray.mk t.toArray).size = t.length := by simp [ByteArray.size]
  have h3 : p.data.toList.length = p.size := Array.length_toList
  unfold partsL
  rw [← e, h3, ← h2]
  exact this
/-- the length that the library's search looks at: some number -/
def MX (w : World) : Prop := ∃ m, w.cell? ⟨4, 0, none⟩ = some (.int .i64 m)
theorem MX.below {w w' : World} {B : Nat} (h : MX w) (hB : 4 < B) (hb : Below B w w') : MX w' := by
  obtain ⟨m, h⟩ := h
  exact ⟨m, (hb.cell (p := ⟨4, 0, none⟩) hB).trans h⟩
theorem split_any (t : List UInt8) (w : World) (ht : t.length ≤ 1048576) (hm : MX w) :
    Calls Tryz.prog 208 #[.string ⟨t.toArray⟩, .string ⟨#[46]⟩] w fun e w' => e = .returned (.slice (some ⟨w.heap.size, 0, none⟩) (partsL t).length (partsL t).length) ∧ Ls w' w'.heap.size (.slice (some ⟨w.heap.size, 0, none⟩) (partsL t).length (partsL t).length) (partsL t) ∧ Below w.heap.size w w' := by
  obtain ⟨m, hm⟩ := hm
  refine (Tryz.splitS ⟨t.toArray⟩ ⟨#[46]⟩ m w (by simp [ByteArray.size]; omega) hm (by decide)).mono ?_
  rintro e w' ⟨rfl, rfl⟩
  refine ⟨by rw [partsL_len], ⟨_, _, rfl, Nat.le_refl _, fun _ => ⟨w.heap.size, 0, rfl, by simp, fun j hj => ?_⟩⟩, (Below.refl _ _).alloc (Nat.le_refl _) _⟩
  rw [Nat.zero_add]
  unfold partsL at hj ⊢
  rw [List.length_map] at hj
  simp [sv, List.getD, hj]

/-- the three parts, unpacked: are they? -/
def unpB (t : List UInt8) : Bool := decide ((partsL t).length = 3) && (List.range 3).all (fun j => decide (uE ((partsL t).getD j []) = 0))
/-- three texts -/
def upF (t : List UInt8) (k j : Nat) : Value := if j < k then .string ⟨(uO ((partsL t).getD j [])).toArray⟩ else .string ⟨#[]⟩
theorem sz238 : (Tryz.prog.info? 238).map (·.size) = some 3 := by kernel_rfl
theorem ret_238 {fn : Func} {q u : Tmp} (h : fn.results = #[.cell q 238, .tmp u]) {a : Act} {w : World} {R : Ending → World → Prop} {g : Nat} {f : Nat → Value} (hRow : Row w g 238 3 f)
    (hp : a.tmps.getD q undef = .pointer (some ⟨g, 0, none⟩)) (hdef : a.defers = []) (hR : R (.returned (.tuple #[.agg #[f 0, f 1, f 2], a.tmps.getD u undef])) w) : bodyPost Tryz.prog fn R Exit.ret a w := by
  refine bodyPost_ret (v := .tuple #[.agg #[f 0, f 1, f 2], a.tmps.getD u undef]) ?_ hdef hR
  have hl := run_loadVar_row (P := Tryz.prog) w g 238 238 (arrOf 3 f) (0, 0) _ hRow.whole Tryz.underlying238 rfl (by rw [arrOf_size]; exact sz238)
  have e : arrOf 3 f = #[f 0, f 1, f 2] := arrOf_eq 3 f _ rfl (fun j hj => by rcases (show j = 0 ∨ j = 1 ∨ j = 2 by omega) with rfl | rfl | rfl <;> rfl)
  rw [e] at hl
  rw [results_cell_tmp h, hp]
  simp [asAddr, hl, Result.andThen]
end Go.Proofs.YtkmkkmdpjliifaaGreatDoor
namespace Go.Proofs.YtkmkkmdpjliifaaGreatDoor
open Go.ChangeShapes Go.WideShapes Go.ChangeAt Go.RowKit

theorem three3 {P : Nat → Prop} (h0 : P 0) (h1 : P 1) (h2 : P 2) : ∀ j, j < 3 → P j := by
  intro j hj
  rcases (show j = 0 ∨ j = 1 ∨ j = 2 by omega) with rfl | rfl | rfl <;> assumption
/-- three3 texts that are told, right or not -/
def UnpR (t : List UInt8) (e : Ending) : Prop :=
  (unpB t = true ∧ e = .returned (.tuple #[.agg #[.string ⟨(uO ((partsL t).getD 0 [])).toArray⟩, .string ⟨(uO ((partsL t).getD 1 [])).toArray⟩, .string ⟨(uO ((partsL t).getD 2 [])).toArray⟩], .bool true])) ∨
  (unpB t = false ∧ ∃ x y z, e = .returned (.tuple #[.agg #[.string x, .string y, .string z], .bool false]))
theorem unpB_no {t : List UInt8} (h : ¬ (partsL t).length = 3) : unpB t = false := by unfold unpB; rw [decide_eq_false h]; rfl
theorem unpB_bad {t : List UInt8} {j : Nat} (hj : j < 3) (h : ¬ uE ((partsL t).getD j []) = 0) : unpB t = false := by
  unfold unpB
  rw [all_false hj (decide_eq_false h)]
  simp
theorem unpB_yes {t : List UInt8} (h : (partsL t).length = 3) (ha : ∀ j, j < 3 → uE ((partsL t).getD j []) = 0) : unpB t = true := by
  unfold unpB
  rw [decide_eq_true h, all_true (fun j hj => decide_eq_true (ha j hj))]
  rfl
/-- three3 cells stored at once -/
def sw3 (w : World) (g : Nat) (f : Nat → Value) : World := ((w.setCell ⟨g, 0, none⟩ (f 0)).setCell ⟨g, 1, none⟩ (f 1)).setCell ⟨g, 2, none⟩ (f 2)
theorem sw3_row {w : World} {g : Nat} {f0 : Nat → Value} (h : Row w g 238 3 f0) (f : Nat → Value) : Row (sw3 w g f) g 238 3 f := (((h.set 0 (f 0)).set 1 (f 1)).set 2 (f 2)).congr (three3 rfl rfl rfl)
theorem sw3_but (w : World) (g : Nat) (f : Nat → Value) : But g w (sw3 w g f) := (((But.refl g w).setCell 0 _).setCell 1 _).setCell 2 _
theorem upF_str (t : List UInt8) (k j : Nat) : ∃ x, upF t k j = .string x := by unfold upF; split <;> exact ⟨_, rfl⟩

theorem Ls.cells {w : World} {B g c : Nat} {l : List (List UInt8)} (h : Ls w B (.slice (some ⟨g, 0, none⟩) l.length c) l) (hp : 0 < l.length) : g < B ∧ ∀ j, j < l.length → w.cell? ⟨g, j, none⟩ = some (.string ⟨(l.getD j []).toArray⟩) := by
  obtain ⟨a, c', he, _, hx⟩ := h
  obtain ⟨g', o, e1, hg, hc⟩ := hx hp
  injection he with e2 _ _
  rw [← e2] at e1
  injection e1 with e1
  injection e1 with e3 e4 _
  subst e3 e4
  exact ⟨hg, fun j hj => by have := hc j hj; rw [Nat.zero_add] at this; exact this⟩

set_option maxRecDepth 20000 in
set_option maxHeartbeats 2000000 in
theorem unpackParts_any (t : List UInt8) (w : World) (ht : t.length ≤ 1048576) (hm : MX w) (h4 : 4 < w.heap.size) :
    Calls Tryz.prog 179 #[.string ⟨t.toArray⟩] w fun e w' => UnpR t e ∧ Below w.heap.size w w' := by
  obtain ⟨wa, hwa⟩ : ∃ wa, wa = w.alloc (.cells #[.string ⟨#[]⟩, .string ⟨#[]⟩, .string ⟨#[]⟩] 238) := ⟨_, rfl⟩
  have hsa : wa.heap.size = w.heap.size + 1 := by rw [hwa]; simp
  obtain ⟨wb, hwb⟩ : ∃ wb, wb = wa.alloc (.cells #[.string ⟨#[]⟩, .string ⟨#[]⟩, .string ⟨#[]⟩] 238) := ⟨_, rfl⟩
  have hsb : wb.heap.size = w.heap.size + 1 + 1 := by rw [hwb, ← hsa]; simp
  have hbb : Below w.heap.size w wb := by rw [hwb, hwa]; exact ((Below.refl _ _).alloc (Nat.le_refl _) _).alloc (by simp) _
  have hRr : Row wb w.heap.size 238 3 (upF t 0) := by rw [hwb, hwa]; exact (Row.new w 238 _ _ 3 rfl (three3 rfl rfl rfl)).alloc _
  have hRq : Row wb (w.heap.size + 1) 238 3 (upF t 0) := by rw [hwb, ← hsa]; exact Row.new wa 238 _ _ 3 rfl (three3 rfl rfl rfl)
  have HSp := hide (split_any t wb ht (hm.below h4 hbb))
  have HWB : Hid (wb = (w.alloc (.cells #[.string ⟨#[]⟩, .string ⟨#[]⟩, .string ⟨#[]⟩] 238)).alloc (.cells #[.string ⟨#[]⟩, .string ⟨#[]⟩, .string ⟨#[]⟩] 238)) := by rw [← hwa]; exact hwb
  have HRr := hide hRr
  have HRq := hide hRq
  have HBB := hide hbb
  have HT := hide ht
  clear hwa hwb hbb hRr hRq hm ht
  go_enter Tryz.func179, Tryz.ntmps179
  go_wp2_with fail
  rw [← unhide HWB]
  clear HWB
  refine (unhide HSp).mono ?_
  rintro e w1 ⟨rfl, hL1, hb1⟩
  have hs1 := hb1.size
  have hR1 := (unhide HRr).below hb1 (by omega)
  have hQ1 := (unhide HRq).below hb1 (by omega)
  have hB1 := (unhide HBB).trans (hb1.mono (by omega))
  have HLe := hide (fun j (hj : j < (partsL t).length) => partsL_le t j hj)
  have HN := hide (fun h => unpB_no (t := t) h)
  have HU := hide (fun j hj h => unpB_bad (t := t) (j := j) hj h)
  have HY := hide (fun h ha => unpB_yes (t := t) h ha)
  clear HSp HRr HRq HBB
  have a0 : w1.cell? ⟨w.heap.size, 0, none⟩ = some (.string ⟨#[]⟩) := hR1.cell (by decide)
  have z0 := hR1.frozen 0
  have a1 : w1.cell? ⟨w.heap.size, 1, none⟩ = some (.string ⟨#[]⟩) := hR1.cell (by decide)
  have z1 := hR1.frozen 1
  have a2 : w1.cell? ⟨w.heap.size, 2, none⟩ = some (.string ⟨#[]⟩) := hR1.cell (by decide)
  have z2 := hR1.frozen 2
  have b0 : w1.cell? ⟨w.heap.size + 1, 0, none⟩ = some (.string ⟨#[]⟩) := hQ1.cell (by decide)
  have b1 : w1.cell? ⟨w.heap.size + 1, 1, none⟩ = some (.string ⟨#[]⟩) := hQ1.cell (by decide)
  have b2 : w1.cell? ⟨w.heap.size + 1, 2, none⟩ = some (.string ⟨#[]⟩) := hQ1.cell (by decide)
  by_cases h3 : (partsL t).length = 3
  · have h3I : ((partsL t).length : Int) = 3 := by omega
    have HR1 := hide hR1
    have HQ1 := hide hQ1
    have HB1 := hide hB1
    obtain ⟨hg1, hL1'⟩ := hL1.cells (by omega)
    rw [hsb] at hg1 hL1'
    have HL1 := hide hL1'
    clear hL1'
    clear hL1 hb1 hR1 hQ1 hB1 HN a0 a1 a2 b0 b1 b2 z0 z1 z2
    go_wp2_with fail
    go_loopg [15] 3 (fun r i wr => ∃ k : Nat, k + r = 3 ∧ i = .int .i64 (k : Nat) ∧ Row wr (w.heap.size + 1) 238 3 (upF t k) ∧ Row wr w.heap.size 238 3 (upF t 0) ∧ (∀ j, j < k → uE ((partsL t).getD j []) = 0) ∧ (∀ j, j < (partsL t).length → wr.cell? ⟨w.heap.size + 1 + 1, j, none⟩ = some (.string ⟨((partsL t).getD j []).toArray⟩)) ∧ w1.heap.size ≤ wr.heap.size ∧ Below w.heap.size w wr)
    case atStart => exact ⟨0, Nat.zero_add _, rfl, unhide HQ1, unhide HR1, fun j hj => absurd hj (Nat.not_lt_zero _), unhide HL1, Nat.le_refl _, unhide HB1⟩
    case round =>
      clear HR1 HQ1 HB1 HL1
      obtain ⟨k, hk, rfl, hQ, hR, hall, hL, hsr, hB⟩ := hrel
      by_cases hlt : k < 3
      · have hkI : (k : Int) < 3 := by omega
        have hw : wrap64 ((k : Int) + 1) = (k : Int) + 1 := w64 _ (by omega) (by omega)
        have hkl : (k : Int) < ((partsL t).length : Int) := by omega
        have hck := hL k (by omega)
        have HUn := hide (unpackP_any ((partsL t).getD k []) wr (Nat.le_trans (unhide HLe k (by omega)) (unhide HT)))
        generalize hpk : (partsL t).getD k [] = pk at hck HUn
        have HPK := hide hpk
        have HQ := hide hQ
        have HR := hide hR
        have HALL := hide hall
        have HL := hide hL
        have HB := hide hB
        clear hpk hQ hR hall hL hB
        go_wp2_with fail
        refine (unhide HUn).mono ?_
        rintro e w2 ⟨rfl, hb2⟩
        have hs2 := hb2.size
        have hQ2 := (unhide HQ).below hb2 (by omega)
        have hR2 := (unhide HR).below hb2 (by omega)
        have HB2 := hide ((unhide HB).trans (hb2.mono (by omega)))
        have hL2 : ∀ j, j < (partsL t).length → w2.cell? ⟨w.heap.size + 1 + 1, j, none⟩ = some (.string ⟨((partsL t).getD j []).toArray⟩) := fun j hj => (hb2.cell (p := ⟨w.heap.size + 1 + 1, j, none⟩) (show w.heap.size + 1 + 1 < wr.heap.size by omega)).trans (unhide HL j hj)
        have HL2 := hide hL2
        clear hL2
        clear HUn hb2 hck
        by_cases hz : uE pk = 0
        · rw [hz]
          have qk := hQ2.cell hlt
          have zk := hQ2.frozen k
          have HQ2 := hide hQ2
          have HR2 := hide hR2
          have HZ := hide hz
          clear hQ2 hR2 hz
          obtain ⟨x0, hx0⟩ := upF_str t k k
          rw [hx0] at qk
          generalize huo : uO pk = uo
          have HUO := hide huo
          clear huo hx0
          go_wp2_with fail
          go_roundg (gk - 1)
          case measure => omega
          case rel =>
            refine ⟨k + 1, by omega, by first | exact num1 hw | rfl, ((unhide HQ2).set k _).congr (fun j hj => ?_), Row.but (unhide HR2) ((But.refl (w.heap.size + 1) w2).setCell k _) (by omega), fun j hj => ?_, fun j hj => ?_, by simp [World.setCell]; omega, (unhide HB2).setCell (Nat.le_succ _) _⟩
            · unfold upF
              by_cases e : j = k
              · subst e
                rw [if_pos rfl, if_pos (by omega), unhide HPK, unhide HUO]
              · rw [if_neg e]
                have e2 : (j < k + 1) ↔ j < k := by omega
                simp only [e2]
            · by_cases e : j = k
              · subst e; rw [unhide HPK]; exact unhide HZ
              · exact unhide HALL j (by omega)
            · rw [World.cell?_setCell_other _ _ _ _ (fun hh => by injection hh with h1 _ _; omega)]
              exact unhide HL2 j hj
        · have HBad := hide (unhide HU k hlt (by rw [unhide HPK]; exact hz))
          obtain ⟨x0, hx0⟩ := upF_str t k 0
          obtain ⟨x1, hx1⟩ := upF_str t k 1
          obtain ⟨x2, hx2⟩ := upF_str t k 2
          have q0 := hQ2.cell (j := 0) (by decide)
          have q1 := hQ2.cell (j := 1) (by decide)
          have q2 := hQ2.cell (j := 2) (by decide)
          rw [hx0] at q0
          rw [hx1] at q1
          rw [hx2] at q2
          have a0 : w2.cell? ⟨w.heap.size, 0, none⟩ = some (.string ⟨#[]⟩) := hR2.cell (by decide)
          have z0 := hR2.frozen 0
          have a1 : w2.cell? ⟨w.heap.size, 1, none⟩ = some (.string ⟨#[]⟩) := hR2.cell (by decide)
          have z1 := hR2.frozen 1
          have a2 : w2.cell? ⟨w.heap.size, 2, none⟩ = some (.string ⟨#[]⟩) := hR2.cell (by decide)
          have z2 := hR2.frozen 2
          have HR2 := hide hR2
          clear hQ2 hR2 hx0 hx1 hx2
          generalize uE pk = ue at *
          generalize uO pk = uo at *
          go_wp2_with fail
          refine ret_238 Tryz.results179 (g := w.heap.size) (f := fun j => if j = 0 then .string x0 else if j = 1 then .string x1 else .string x2) ?_ rfl rfl ?_
          · exact sw3_row (unhide HR2) (fun j => if j = 0 then .string x0 else if j = 1 then .string x1 else .string x2)
          · exact ⟨Or.inr ⟨unhide HBad, x0, x1, x2, rfl⟩, (unhide HB2).trans ((sw3_but w2 w.heap.size (fun j => if j = 0 then .string x0 else if j = 1 then .string x1 else .string x2)).below (Nat.le_refl _))⟩
      · obtain rfl : k = 3 := by omega
        have HYes := hide (unhide HY h3 hall)
        obtain ⟨y0, hy0⟩ : ∃ y, uO ((partsL t).getD 0 []) = y := ⟨_, rfl⟩
        obtain ⟨y1, hy1⟩ : ∃ y, uO ((partsL t).getD 1 []) = y := ⟨_, rfl⟩
        obtain ⟨y2, hy2⟩ : ∃ y, uO ((partsL t).getD 2 []) = y := ⟨_, rfl⟩
        have q0 : wr.cell? ⟨w.heap.size + 1, 0, none⟩ = some (.string ⟨y0.toArray⟩) := by rw [← hy0]; exact hQ.cell (j := 0) (by decide)
        have q1 : wr.cell? ⟨w.heap.size + 1, 1, none⟩ = some (.string ⟨y1.toArray⟩) := by rw [← hy1]; exact hQ.cell (j := 1) (by decide)
        have q2 : wr.cell? ⟨w.heap.size + 1, 2, none⟩ = some (.string ⟨y2.toArray⟩) := by rw [← hy2]; exact hQ.cell (j := 2) (by decide)
        have HY0 := hide (And.intro hy0 (And.intro hy1 hy2))
        clear hy0 hy1 hy2
        have a0 : wr.cell? ⟨w.heap.size, 0, none⟩ = some (.string ⟨#[]⟩) := hR.cell (by decide)
        have z0 := hR.frozen 0
        have a1 : wr.cell? ⟨w.heap.size, 1, none⟩ = some (.string ⟨#[]⟩) := hR.cell (by decide)
        have z1 := hR.frozen 1
        have a2 : wr.cell? ⟨w.heap.size, 2, none⟩ = some (.string ⟨#[]⟩) := hR.cell (by decide)
        have z2 := hR.frozen 2
        have HR := hide hR
        have HB := hide hB
        clear hQ hR hall hL hB
        go_wp2_with fail
        refine ret_238 Tryz.results179 (g := w.heap.size) (f := (fun j => if j = 0 then .string ⟨y0.toArray⟩ else if j = 1 then .string ⟨y1.toArray⟩ else .string ⟨y2.toArray⟩)) ?_ rfl rfl ?_
        · exact sw3_row (unhide HR) (fun j => if j = 0 then .string ⟨y0.toArray⟩ else if j = 1 then .string ⟨y1.toArray⟩ else .string ⟨y2.toArray⟩)
        · refine ⟨Or.inl ⟨unhide HYes, ?_⟩, (unhide HB).trans ((sw3_but wr w.heap.size (fun j => if j = 0 then .string ⟨y0.toArray⟩ else if j = 1 then .string ⟨y1.toArray⟩ else .string ⟨y2.toArray⟩)).below (Nat.le_refl _))⟩
          obtain ⟨e0, e1, e2⟩ := unhide HY0
          rw [e0, e1, e2]
          rfl
  · have h3I : ¬ ((partsL t).length : Int) = 3 := by omega
    have HNo := hide (unhide HN h3)
    have HR1 := hide hR1
    have HB1 := hide hB1
    clear hL1 hb1 hR1 hQ1 hB1 HN HU HY h3
    go_wp2_with fail
    refine ret_238 Tryz.results179 (g := w.heap.size) (f := upF t 0) ?_ rfl rfl ?_
    · exact sw3_row (unhide HR1) (upF t 0)
    · exact ⟨Or.inr ⟨unhide HNo, ⟨#[]⟩, ⟨#[]⟩, ⟨#[]⟩, rfl⟩, (unhide HB1).trans ((sw3_but w1 w.heap.size (upF t 0)).below (Nat.le_refl _))⟩
end Go.Proofs.YtkmkkmdpjliifaaGreatDoor
namespace Go.Proofs.YtkmkkmdpjliifaaGreatDoor
open Go.ChangeShapes Go.WideShapes Go.ChangeAt Go.RowKit

/-- the place of the last dot -/
def lastDot (t : List UInt8) : Nat := (Lib.lastIndexByte ⟨t.toArray⟩ 46).toNat
theorem lastDot_is {t : List UInt8} (h : (partsL t).length = 3) : Lib.lastIndexByte ⟨t.toArray⟩ 46 = (lastDot t : Nat) ∧ lastDot t < t.length := by
  have hc : t.count 46 = 2 := by
    rw [partsL_len] at h
    have e : Lib.countB ⟨t.toArray⟩ ⟨#[46]⟩ = t.count 46 := Lib.count_one 46 t
    omega
  have hsz : (ByteArray.mk t.toArray).size = t.length := by simp [ByteArray.size]
  unfold lastDot Lib.lastIndexByte
  rcases Lib.lastIdx_spec ⟨t.toArray⟩ 46 (ByteArray.mk t.toArray).size with ⟨_, hn⟩ | ⟨i, hi, e, _⟩
  · exfalso
    have hm : (46 : UInt8) ∈ t := List.count_pos_iff.1 (by omega)
    obtain ⟨j, hj, ej⟩ := List.getElem_of_mem hm
    have := hn j (by rw [hsz]; exact hj)
    apply this
    have e1 : (t.toArray)[j]! = 46 := by simp [hj, ej]
    rw [e1]
    rfl
  · rw [hsz] at hi e ⊢
    rw [e]
    exact ⟨by simp, by simpa using hi⟩
theorem uO_len (s : List UInt8) : (uO s).length ≤ s.length := by
  unfold uO
  split
  · rw [outL_length]; omega
  · simp
theorem lastIndex_any (t : List UInt8) (w : World) (ht : t.length ≤ 1048576) (h3 : Lib.lastIndexByte ⟨t.toArray⟩ 46 = (lastDot t : Nat)) :
    Calls Tryz.prog 181 #[.string ⟨t.toArray⟩, .string ⟨#[46]⟩] w fun e w' => e = .returned (.int .i64 (lastDot t : Nat)) ∧ w' = w := by
  have h := Tryz.lastIndexOne ⟨t.toArray⟩ ⟨#[46]⟩ (by rfl) (by simp [ByteArray.size]; omega) w
  refine h.mono ?_
  rintro e w' ⟨rfl, rfl⟩
  refine ⟨?_, rfl⟩
  rw [← h3]
  rfl
/-- the key of a name -/
def keyAt (ks : List Ky) (n : List UInt8) : Option Nat := (List.range ks.length).find? (fun j => kyName ks j == n)
theorem keyAt_found {ks : List Ky} {x : List UInt8} {r : Int} (h : Found ks x r) : (r = -1 ∧ keyAt ks x = none) ∨ ∃ k : Nat, r = k ∧ k < ks.length ∧ keyAt ks x = some k := by
  rcases h with ⟨h1, h2⟩ | ⟨k, h1, h2, h3, h4⟩
  · refine Or.inl ⟨h1, ?_⟩
    unfold keyAt
    rw [List.find?_eq_none]
    intro j hj
    have := h2 j (List.mem_range.1 hj)
    simpa using this
  · refine Or.inr ⟨k, h1, h2, ?_⟩
    unfold keyAt
    rw [List.find?_range_eq_some]
    exact ⟨h3, List.mem_range.2 h2, fun j hj => by have := h4 j hj; simpa using this⟩
/-- what Open answers -/
def openE (ks : List Ky) (t : List UInt8) : Int :=
  if unpB t = false then 2 else if knameB (uO ((partsL t).getD 0 [])) = false then 2 else
    match keyAt ks (kname (uO ((partsL t).getD 0 []))) with
    | none => 3
    | some i => if (uO ((partsL t).getD 2 []) == macL K0 H0 (ks.getD i default).secret (t.take (lastDot t))) = true then 0 else 4
def openT (t : List UInt8) : List UInt8 := uO ((partsL t).getD 1 [])
theorem shaF_lt (K H : Nat → BitVec 32) (l : List UInt8) (j : Nat) : shaF K H l j < 256 := by unfold shaF b4; exact Nat.mod_lt _ (by decide)
theorem upto_any (l : List UInt8) (i : Nat) (h : i ≤ l.length) (u : World) (x : Int) (hx : x = (i : Nat)) : (Instr.slice 9 (.string ⟨l.toArray⟩) none (some (.int .i64 x)) none).run Tryz.prog u = .ok (.string ⟨(l.take i).toArray⟩) u := by
  subst hx
  have h3 : (ByteArray.mk l.toArray).size = l.length := by simp [ByteArray.size]
  rw [run_slice_string_to_if (w := u) 9 _ .i64 _ Tryz.underlying9, if_pos (by omega), ByteArray.extract_mk]
  simp

set_option maxRecDepth 20000 in
set_option maxHeartbeats 4000000 in
theorem Open_any (t : List UInt8) (w : World) (s R O : Nat) (vk vs : Value) (ks : List Ky) (cs : List Cl) (Qs : List Nat) (hs : s ≤ w.heap.size) (h4 : 4 < s) (h : Sb w s R O vk vs ks cs Qs) (hK : KT w) (hm : MX w) (ht : t.length ≤ 1048576) :
    Calls Tryz.prog 142 #[.pointer (some ⟨R, 0, none⟩), .string ⟨t.toArray⟩] w fun e w' => (openE ks t ≠ 0 ∧ e = .returned (.tuple #[.string ⟨#[]⟩, .int .i64 (openE ks t)]) ∨ openE ks t = 0 ∧ e = .returned (.tuple #[.string ⟨(openT t).toArray⟩, .int .i64 0])) ∧ Below w.heap.size w w' := by
  have HUn := hide (unpackParts_any t w ht hm (by omega))
  have HS := hide h
  have HK := hide hK
  have HT := hide ht
  have HH := hide (And.intro hs h4)
  clear h hK hm ht
  go_enter Tryz.func142, Tryz.ntmps142
  go_wp2_with fail
  refine (unhide HUn).mono ?_
  rintro e w1 ⟨hr1, hb1⟩
  clear HUn
  rcases hr1 with ⟨hu, rfl⟩ | ⟨hu, x, y, z, rfl⟩
  · have h3 : (partsL t).length = 3 := by
      unfold unpB at hu
      simp at hu
      exact hu.1
    obtain ⟨pa, hpa⟩ : ∃ pa, uO ((partsL t).getD 0 []) = pa := ⟨_, rfl⟩
    obtain ⟨pb, hpb⟩ : ∃ pb, uO ((partsL t).getD 1 []) = pb := ⟨_, rfl⟩
    obtain ⟨pc, hpc⟩ : ∃ pc, uO ((partsL t).getD 2 []) = pc := ⟨_, rfl⟩
    have hoe : openE ks t = if knameB pa = false then 2 else match keyAt ks (kname pa) with | none => 3 | some i => if (pc == macL K0 H0 (ks.getD i default).secret (t.take (lastDot t))) = true then 0 else 4 := by
      unfold openE; rw [hu, hpa, hpc]; rfl
    have hot : openT t = pb := hpb
    rw [hpa, hpb, hpc]
    have HOE := hide hoe
    have HOT := hide hot
    have HD := hide (lastDot_is h3)
    have HPL := hide (show pa.length ≤ 9223372036854775807 by
      rw [← hpa]
      have h1 := uO_len ((partsL t).getD 0 [])
      have h2 := partsL_le t 0 (by omega)
      have := unhide HT
      omega)
    clear hoe hot hu h3 hpa hpb hpc
    obtain ⟨wa, hwa⟩ : ∃ wa, wa = w1.alloc (.cells #[.string ⟨pa.toArray⟩, .string ⟨pb.toArray⟩, .string ⟨pc.toArray⟩] 238) := ⟨_, rfl⟩
    have hba : Below w1.heap.size w1 wa := by rw [hwa]; exact (Below.refl _ _).alloc (Nat.le_refl _) _
    have hsa : wa.heap.size = w1.heap.size + 1 := by rw [hwa]; simp
    have hRa : Row wa w1.heap.size 238 3 (fun j => if j = 0 then .string ⟨pa.toArray⟩ else if j = 1 then .string ⟨pb.toArray⟩ else .string ⟨pc.toArray⟩) := by rw [hwa]; exact Row.new w1 238 _ _ 3 rfl (three3 rfl rfl rfl)
    have hs1 := hb1.size
    have hbwa : Below w.heap.size w wa := hb1.trans (hba.mono hs1)
    have c0 : wa.cell? ⟨w1.heap.size, 0, none⟩ = some (.string ⟨pa.toArray⟩) := hRa.cell (j := 0) (by decide)
    have HKn := hide (keyName_any pa wa (unhide HPL))
    have HWA := hide hwa
    have HRa := hide hRa
    have HBA := hide hbwa
    have c0' : (w1.alloc (.cells #[.string ⟨pa.toArray⟩, .string ⟨pb.toArray⟩, .string ⟨pc.toArray⟩] 238)).cell? ⟨w1.heap.size, 0, none⟩ = some (.string ⟨pa.toArray⟩) := by rw [← hwa]; exact c0
    clear hwa hba hRa hbwa c0 hb1
    go_wp2_with fail
    rw [← unhide HWA]
    clear HWA c0'
    refine (unhide HKn).mono ?_
    rintro e w2 ⟨rfl, rfl⟩
    cases hkb : knameB pa with
    | false =>
      have ho : openE ks t = 2 := by rw [unhide HOE, hkb]; rfl
      have HO := hide ho
      clear ho hkb HKn
      go_wp2_with fail
      go_ret2
      exact ⟨Or.inl ⟨by rw [unhide HO]; decide, by rw [unhide HO]; rfl⟩, unhide HBA⟩
    | true =>
    have hSa := (unhide HS).below ((unhide HBA).mono (unhide HH).1)
    have hkl : ks.length ≤ 8 := by
      have := hSa.kb
      unfold keysB at this
      simp at this
      exact this.2
    have HFi := hide (find_any vk ks (kname pa) R w2 s (by have := (unhide HH).1; omega) (by omega) hSa.keys (hSa.ring.cell (j := 0) (by decide)) (by have := hSa.rs; have := (unhide HH).1; omega))
    have HOE2 : Hid (openE ks t = match keyAt ks (kname pa) with | none => 3 | some i => if (pc == macL K0 H0 (ks.getD i default).secret (t.take (lastDot t))) = true then 0 else 4) := by unfold Hid; rw [unhide HOE, hkb]; rfl
    have HSa := hide hSa
    have HKL := hide hkl
    clear hSa hkl hkb HKn HOE
    generalize hkn : kname pa = kn at *
    go_wp2_with fail
    refine (unhide HFi).mono ?_
    rintro e w3 ⟨⟨r, rfl, hf⟩, hb3⟩
    have hs3 := hb3.size
    have HB3 := hide ((unhide HBA).trans (hb3.mono (by omega)))
    rcases keyAt_found hf with ⟨rfl, hka⟩ | ⟨k, rfl, hkl, hka⟩
    · have ho : openE ks t = 3 := by rw [unhide HOE2, hka]
      have HO := hide ho
      clear ho hka hf hb3 HFi
      go_wp2_with fail
      go_ret2
      exact ⟨Or.inl ⟨by rw [unhide HO]; decide, by rw [unhide HO]; rfl⟩, unhide HB3⟩
    · have hS3 := (unhide HSa).below (hb3.mono (by have := (unhide HH).1; omega))
      obtain ⟨av, cv, hvk, hkx⟩ := hS3.keys
      obtain ⟨g, o, rfl, hg, hky⟩ := hkx (by omega)
      subst hvk
      obtain ⟨_, k1⟩ := hky k hkl
      rw [sv_def] at k1
      have r0 : w3.cell? ⟨R, 0, none⟩ = some (.slice (some ⟨g, o, none⟩) ks.length cv) := hS3.ring.cell (j := 0) (by decide)
      have hR3 := (unhide HRa).below hb3 (by omega)
      have p1 : w3.cell? ⟨w1.heap.size, 1, none⟩ = some (.string ⟨pb.toArray⟩) := hR3.cell (j := 1) (by decide)
      have p2 : w3.cell? ⟨w1.heap.size, 2, none⟩ = some (.string ⟨pc.toArray⟩) := hR3.cell (j := 2) (by decide)
      obtain ⟨hld, hlt⟩ := unhide HD
      have HLI := hide (lastIndex_any t w3 (unhide HT) hld)
      have hup := fun u => upto_any t (lastDot t) (by omega) u _ rfl
      obtain ⟨sg, hsg⟩ : ∃ sg, t.take (lastDot t) = sg := ⟨_, rfl⟩
      have hsgl : sg.length ≤ 1048576 := by rw [← hsg, List.length_take]; have := unhide HT; omega
      rw [hsg] at hup
      have hsec := (keysB_at hS3.kb k hkl).2
      obtain ⟨kz, hkz⟩ : ∃ kz, (ks.getD k default).secret = kz := ⟨_, rfl⟩
      rw [hkz] at k1 hsec
      have hoe : openE ks t = if (pc == macL K0 H0 kz sg) = true then 0 else 4 := by rw [unhide HOE2, hka]; show (if (pc == macL K0 H0 (ks.getD k default).secret (t.take (lastDot t))) = true then (0 : Int) else 4) = _; rw [hkz, hsg]
      have hK3 : KT w3.drew := (unhide HK).below (by have := (unhide HH).1; have := (unhide HH).2; omega) ((unhide HB3).drew)
      obtain ⟨F, hF⟩ : ∃ F, shaF K0 H0 (tk (keyL K0 H0 kz) 92 ++ shaL K0 H0 (tk (keyL K0 H0 kz) 54 ++ sg)) = F := ⟨_, rfl⟩
      have hF256 : ∀ j, F j < 256 := fun j => by rw [← hF]; exact shaF_lt _ _ _ j
      have hmacF : macL K0 H0 kz sg = bs 32 F := by unfold macL; rw [show ∀ x, shaL K0 H0 x = bs 32 (shaF K0 H0 x) from fun _ => rfl, hF]
      have HMac := mac_any kz sg w3.drew (by omega) (by omega) (show 2 < w3.heap.size by have := (unhide HH).1; have := (unhide HH).2; omega) hK3
      rw [hF] at HMac
      have HMc := hide HMac
      have HIs := hide (fun u => isMac_any pc F hF256 u)
      have hkI : (k : Int) < (ks.length : Int) := by omega
      have hk0 : ¬ (k : Int) < 0 := by omega
      rw [hmacF] at hoe
      have HOE3 := hide hoe
      have hRl : R < w3.heap.size := by have := hS3.rs; have := (unhide HH).1; omega
      have hgl : g < w3.heap.size := by have := (unhide HH).1; omega
      clear hF hmacF HMac hoe hF256 hK3 hsgl hsec hkz hsg hld hlt hR3 hS3 hky hkx hka hf hb3 HFi HOE2
      generalize ((lastDot t : Nat) : Int) = ld at *
      generalize hbq : (pc == bs 32 F) = bq at *
      go_wp2_with (go_at_call 181; refine (unhide HLI).mono ?_; rintro e w4 ⟨rfl, rfl⟩)
      have hwl : w1.heap.size < w4.heap.size := by omega
      go_region_held3 (fun w' => w'.cell? ⟨w1.heap.size, 2, none⟩ = some (.string ⟨pc.toArray⟩) ∧ w'.cell? ⟨R, 0, none⟩ = some (.slice (some ⟨g, o, none⟩) ks.length cv) ∧ w'.cell? ⟨g, o + k * 2 + 1, none⟩ = some (.string ⟨kz.toArray⟩)) (go_keep)
        (first
          | (go_at_call 92; refine (unhide HMc).mono ?_; rintro e w5 ⟨rfl, hb5⟩; have t0 := (hb5.cell (p := ⟨w1.heap.size, 2, none⟩) (show w1.heap.size < w4.heap.size by omega)).trans p2; have t1 := (hb5.cell (p := ⟨R, 0, none⟩) (show R < w4.heap.size by omega)).trans r0; have t2 := (hb5.cell (p := ⟨g, o + k * 2 + 1, none⟩) (show g < w4.heap.size by omega)).trans k1; have t3 := (hb5.cell (p := ⟨w1.heap.size, 1, none⟩) (show w1.heap.size < w4.heap.size by omega)).trans p1; have hs5 : w4.heap.size ≤ w5.heap.size := hb5.size; have HB5 := hide ((unhide HB3).drew.trans (hb5.mono (show w.heap.size ≤ w4.heap.size by omega))); clear hb5)
          | (go_at_call 182; refine (unhide HIs _).mono ?_; rintro e w6 ⟨rfl, hb6⟩; have s0 := (hb6.cell (p := ⟨w1.heap.size, 2, none⟩) (show w1.heap.size < w5.heap.size by omega)).trans t0; have s1 := (hb6.cell (p := ⟨R, 0, none⟩) (show R < w5.heap.size by omega)).trans t1; have s2 := (hb6.cell (p := ⟨g, o + k * 2 + 1, none⟩) (show g < w5.heap.size by omega)).trans t2; have s3 := (hb6.cell (p := ⟨w1.heap.size, 1, none⟩) (show w1.heap.size < w5.heap.size by omega)).trans t3; have HB6 := hide ((unhide HB5).trans (hb6.mono (show w.heap.size ≤ w5.heap.size by omega))); clear hb6))
      cases bq with
      | true =>
        have ho : openE ks t = 0 := unhide HOE3
        have HO := hide ho
        clear ho
        go_wp2_with fail
        go_ret2
        exact ⟨Or.inr ⟨unhide HO, by rw [unhide HOT]; rfl⟩, unhide HB6⟩
      | false =>
        have ho : openE ks t = 4 := unhide HOE3
        have HO := hide ho
        clear ho
        go_wp2_with fail
        go_ret2
        exact ⟨Or.inl ⟨by rw [unhide HO]; decide, by rw [unhide HO]; rfl⟩, unhide HB6⟩
  · have ho : openE ks t = 2 := by unfold openE; rw [if_pos hu]
    have HO := hide ho
    clear ho hu
    have hs1 := hb1.size
    go_wp2_with fail
    go_ret2
    exact ⟨Or.inl ⟨by rw [unhide HO]; decide, by rw [unhide HO]; rfl⟩, hb1.alloc hs1 _⟩
end Go.Proofs.YtkmkkmdpjliifaaGreatDoor
