/- What the lifts of the statements share: the tables as their rows lay them, a world for the witness, lists of numbers opened. -/
import Derived.Test.YtkmkkmdpjliifaaGreatDoorCards
import Derived.Test.YtkmkkmdpjliifaaGreatDoorTie
import Derived.Test.YtkmkkmdpjliifaaGreatDoorKnB
import Derived.WalkKit
import Derived.ProofKit
import Derived.OpenShut
import Derived.Carry
import Derived.ChangeSlices
import Derived.Deep.DeepHandedRow
import Derived.Lib.LaidU8T
import Derived.Lib.LaidTab
namespace Go.Proofs.YtkmkkmdpjliifaaGreatDoor.lf
open Go.ChangeShapes Go.WideShapes Go.ChangeAt Go.RowKit Go.Shelf
open Go.ChangeMaps (open_string)
theorem own : ownKnob Tryz.prog.godebug = none := by kernel_rfl
theorem accept_eq : Rows.laid_unicode_utf8_acceptRanges (H := Unit) = Lib.acceptData := by kernel_rfl
theorem first_eq : Rows.laid_unicode_utf8_first = Lib.firstData := by kernel_rfl
theorem pow_eq : Rows.laid_internal_strconv_uint64pow10 (H := Unit) = Lib.tabData .u64 Lib.pow10Tab := by kernel_rfl
theorem words_eq : Rows.laid_mandate_digest_roundWords (H := Unit) = Lib.tabData .u32 (kN.map fun (n : Nat) => (n : Int)) := by kernel_rfl
/-- the tables as the statements' rows lay them -/
def laid6 : List (String × DataW Unit) := [("math/bits.deBruijn32tab", Rows.laid_math_bits_deBruijn32tab), ("math/bits.deBruijn64tab", Rows.laid_math_bits_deBruijn64tab), ("internal/strconv.uint64pow10", Lib.tabData .u64 Lib.pow10Tab), ("mandate/digest.roundWords", Lib.tabData .u32 (kN.map fun (n : Nat) => (n : Int))), ("unicode/utf8.acceptRanges", Lib.acceptData), ("unicode/utf8.first", Lib.firstData)]
theorem narrowed_laid : Rows.narrowedRow.laid = laid6 := by
  unfold laid6
  rw [← accept_eq, ← first_eq, ← pow_eq, ← words_eq]; rfl
theorem timed_laid : Rows.timedRow.laid = laid6 := by
  unfold laid6
  rw [← accept_eq, ← first_eq, ← pow_eq, ← words_eq]; rfl
theorem gPow : Tryz.prog.globalNamed "internal/strconv.uint64pow10" = some 3 := by kernel_rfl
theorem gPowType : (Tryz.prog.globals[3]?).map (·.type) = some 267 := by kernel_rfl
theorem gTab : Tryz.prog.globalNamed "mandate/digest.roundWords" = some 2 := by kernel_rfl
theorem gTabType : (Tryz.prog.globals[2]?).map (·.type) = some 247 := by kernel_rfl
theorem u64E : Tryz.prog.underlying 267 = some (.array 20 (Tryz.prog.elem 267)) := by kernel_rfl
theorem u32E : Tryz.prog.underlying 247 = some (.array 64 (Tryz.prog.elem 247)) := by kernel_rfl
theorem words_is {W : World} (h : laidMetH Tryz.prog laid6 W) : Lib.TabIs Tryz.prog W "mandate/digest.roundWords" .u32 (kN.map fun (n : Nat) => (n : Int)) := by
  obtain ⟨g, t, cs, fuel, p, h1, h2, h3, h4⟩ := Lib.laidMet.reads h (.tail _ (.tail _ (.tail _ (.head _))))
  obtain rfl := Option.some.inj (gTab.symm.trans h1)
  obtain rfl := Option.some.inj (gTabType.symm.trans h2)
  unfold Lib.TabIs
  have e := Lib.cells_of_tab u32E (show Tryz.prog.underlying (Tryz.prog.elem 247) = some (.int .u32) by kernel_rfl) (show Tryz.prog.cellsOf (Tryz.prog.elem 247) = 1 by kernel_rfl) (show Tryz.prog.cellsOf 247 = 64 by kernel_rfl) h4
  rw [h3, ← e]
theorem kt {W : World} (h : laidMetH Tryz.prog laid6 W) : KT W := by
  intro j hj
  have h1 := (words_is h).cell gTab j (by simp [kN_length, hj])
  rw [Nat.zero_add, h1]
  show _ = some (Value.int .u32 (wi (K0 j)))
  rw [wi_K0 j hj]
  congr 2
  have hj' : j < kN.length := by rw [kN_length]; exact hj
  simp [List.getD, hj']
theorem pt {W : World} (h : laidMetH Tryz.prog laid6 W) : PT W.heap.size W := by
  obtain ⟨g, t, cs, fuel, p, h1, h2, h3, h4⟩ := Lib.laidMet.reads h (.tail _ (.tail _ (.head _)))
  obtain rfl := Option.some.inj (gPow.symm.trans h1)
  obtain rfl := Option.some.inj (gPowType.symm.trans h2)
  refine Lib.tabBelow_of_tabIs ?_
  unfold Lib.TabIs
  have e := Lib.cells_of_tab u64E (show Tryz.prog.underlying (Tryz.prog.elem 267) = some (.int .u64) by kernel_rfl) (show Tryz.prog.cellsOf (Tryz.prog.elem 267) = 1 by kernel_rfl) (show Tryz.prog.cellsOf 267 = 20 by kernel_rfl) h4
  rw [h3, ← e]
theorem ut0 {W : World} (h : laidMetH Tryz.prog laid6 W) : Lib.Utf8Tabs 0 1 W :=
  utf8Tabs_of_readsT (U8Types.of196 Tryz.laysValid) ⟨by kernel_rfl, by kernel_rfl, by kernel_rfl, by kernel_rfl, by kernel_rfl, by kernel_rfl, by kernel_rfl⟩ (Lib.laidMet.reads h (.tail _ (.tail _ (.tail _ (.tail _ (.tail _ (.head _))))))) (Lib.laidMet.reads h (.tail _ (.tail _ (.tail _ (.tail _ (.head _))))))
set_option maxRecDepth 100000 in
/-- the variable bytealg.MaxLen holds some number -/
theorem mx {W : World} (h : W.ShapedOpen Tryz.prog) : MX W := by
  obtain ⟨cs, hh, hs, hr⟩ := h.1 4 #[.int .i64 0] 3 (of_decide_eq_true (by kernel_rfl)) (by kernel_rfl)
  obtain ⟨ts, hts, _, hall⟩ := hr (by kernel_rfl)
  have hc : Tryz.prog.cellTypes Tryz.prog.depth 3 = some [3] := by kernel_rfl
  rw [hc] at hts
  cases hts
  have h1 : 0 < cs.size := by rw [hs]; decide
  obtain ⟨u, hu', hok⟩ := hall 0 cs[0] (by simp [h1])
  have hu3 : (3 : TypeId) = u := Option.some.inj hu'
  subst hu3
  have hcell : W.cell? ⟨4, 0, none⟩ = some cs[0] := by simp [World.cell?, hh, h1]
  unfold MX
  rw [hcell]
  unfold Cell.ok at hok
  rw [Tryz.underlying3] at hok
  generalize cs[0] = v0 at hok ⊢
  match v0, hok with
  | .int k n, h => exact ⟨n, by rw [h.1]⟩
theorem tt {W : World} (h : laidMetH Tryz.prog laid6 W) (hs : W.ShapedOpen Tryz.prog) : TT W.heap.size W := by
  have hm := mx hs
  have h4 : 4 < W.heap.size := by
    obtain ⟨m, h⟩ := hm
    exact World.block_lt_of_cell? W _ h
  exact ⟨⟨ut0 h, by omega⟩, pt h, kt h, hm, h4⟩
theorem wf64 {n : Int} (h : (Lit.int .i64 n).wf = true) : -9223372036854775808 ≤ n ∧ n ≤ 9223372036854775807 := by
  have h1 : IntKind.i64.min = -9223372036854775808 := by decide
  have h2 : IntKind.i64.max = 9223372036854775807 := by decide
  simp only [Lit.wf, h1, h2, Bool.and_eq_true, decide_eq_true_eq] at h
  exact h
theorem cells3' : Tryz.prog.cellsOf 3 = 1 := by kernel_rfl
theorem bytes3' : Tryz.prog.bytesOf 3 = 8 := by kernel_rfl
theorem open_nums {H : Type} {enc : TypeId × Value → H} {W : World} {fuel : Nat} {cs : List Value} {x : DataW H × List MemPlace} (h : DataW.trod enc Tryz.prog W 0 (fun _ => true) true fuel 25 cs = some x) (hw : ∀ n ∈ x.1.weights Tryz.prog 25, n ≤ reachBytes) :
    ∃ a c l, cs = [.slice a l.length c] ∧ LsI W W.heap.size (.slice a l.length c) l ∧ l.length ≤ 17592186044416 := by
  rcases open_ints (show Tryz.prog.underlying 25 = some (.slice 3) by kernel_rfl) Tryz.underlying3 cells3' h with ⟨rfl, _⟩ | ⟨a, len, cap, zs, rfl, _, hl, hm, hz, rfl, hcell, hwf⟩
  · exact ⟨none, 0, [], rfl, ⟨none, 0, rfl, Nat.le_refl _, fun h => absurd h (by simp)⟩, by simp⟩
  · simp only [if_true] at hz
    have hlen : (zs.take len).length = len := by rw [List.length_take]; omega
    have hb : len ≤ 17592186044416 := by
      have := hw _ (by simp [DataW.weights, show Tryz.prog.underlying 25 = some (.slice 3) by kernel_rfl]; exact Or.inl rfl)
      rw [bytes3'] at this
      unfold reachBytes at this
      simp [lits] at this
      omega
    refine ⟨some a, cap, zs.take len, by rw [hlen], ⟨some a, cap, by rw [hlen], by rw [hlen]; exact hl, fun hp => ?_⟩, by omega⟩
    rw [hlen] at hp
    obtain ⟨b, off, spot⟩ := a
    have hspot : spot = none := by simpa [Addr.add] using World.cell?_spot (hcell 0 (by omega))
    subst hspot
    refine ⟨b, off, rfl, ?_, fun j hj => ?_⟩
    · have := World.block_lt_of_cell? W _ (hcell 0 (by omega))
      simpa [Addr.add] using this
    · rw [hlen] at hj
      have e : (zs.take len).getD j 0 = zs.getD j 0 := by rw [List.getD_eq_getElem?_getD, List.getElem?_take_of_lt hj, ← List.getD_eq_getElem?_getD]
      rw [e, ← add_plain, hcell j (by omega)]
      refine ⟨rfl, wf64 (hwf _ ?_)⟩
      rw [List.getD_eq_getElem?_getD, List.getElem?_eq_getElem (by omega)]
      exact List.getElem_mem _
theorem laidOut : laidOutB Tryz.prog = true := by kernel_rfl
theorem read3 : Tryz.prog.readableRec 3 = true := by kernel_rfl
def litV : DataW Unit → Value
  | .lit (.int k z) => .int k z
  | _ => undef
def cellsOfD : DataW Unit → Array Value
  | .agg l => (l.map litV).toArray
  | _ => #[]
/-- A world for the witness: the tables hold what their initialisers lay. -/
def layAt (k : Nat) (cs : Array Value) (w : World) : World :=
  { w with heap := w.heap.modify k fun
      | .cells _ t frozen => .cells cs t frozen
      | o => o }
def laidIn (w : World) : World :=
  layAt 6 (cellsOfD Rows.laid_math_bits_deBruijn64tab) (layAt 5 (cellsOfD Rows.laid_math_bits_deBruijn32tab) (layAt 3 (cellsOfD Rows.laid_internal_strconv_uint64pow10) (layAt 2 (cellsOfD Rows.laid_mandate_digest_roundWords)
    (layAt 1 ((List.range 16).flatMap fun i => [Value.int .u8 (Lib.accLo i), Value.int .u8 (Lib.accHi i)]).toArray (layAt 0 (Lib.firstTab.map fun z => Value.int .u8 z).toArray w)))))
end Go.Proofs.YtkmkkmdpjliifaaGreatDoor.lf
