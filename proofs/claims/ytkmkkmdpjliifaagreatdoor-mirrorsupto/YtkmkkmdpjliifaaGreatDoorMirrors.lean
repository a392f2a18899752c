/- The law Mirrors, second form: on every bytes, text and raw numbers of bulk at most 1,048,576 it returns true, and what was there before the call is as it was. -/
import Derived.Test.YtkmkkmdpjliifaaGreatDoorCards
import Derived.Test.YtkmkkmdpjliifaaGreatDoorTie
import Derived.Test.YtkmkkmdpjliifaaGreatDoorKnB
import Derived.WalkKit
import Derived.ProofKit
import Derived.OpenShut
import Derived.Carry
import Derived.ChangeSlices
import Derived.Deep.DeepHandedRow
import Derived.Lib.LaidU8T
import Derived.Lib.LaidTab
namespace Go.Proofs.YtkmkkmdpjliifaaGreatDoor.mirrors
open Go.ChangeShapes Go.WideShapes Go.ChangeAt Go.RowKit Go.Shelf
open Go.ChangeMaps (open_string)

theorem own : ownKnob Tryz.prog.godebug = none := by kernel_rfl
theorem accept_eq : Rows.laid_unicode_utf8_acceptRanges (H := Unit) = Lib.acceptData := by kernel_rfl
theorem first_eq : Rows.laid_unicode_utf8_first = Lib.firstData := by kernel_rfl
theorem pow_eq : Rows.laid_internal_strconv_uint64pow10 (H := Unit) = Lib.tabData .u64 Lib.pow10Tab := by kernel_rfl
theorem words_eq : Rows.laid_mandate_digest_roundWords (H := Unit) = Lib.tabData .u32 (kN.map fun (n : Nat) => (n : Int)) := by kernel_rfl
/-- the tables as the statements' rows lay them -/
def laid6 : List (String × DataW Unit) := [("math/bits.deBruijn32tab", Rows.laid_math_bits_deBruijn32tab), ("math/bits.deBruijn64tab", Rows.laid_math_bits_deBruijn64tab), ("internal/strconv.uint64pow10", Lib.tabData .u64 Lib.pow10Tab), ("mandate/digest.roundWords", Lib.tabData .u32 (kN.map fun (n : Nat) => (n : Int))), ("unicode/utf8.acceptRanges", Lib.acceptData), ("unicode/utf8.first", Lib.firstData)]
theorem laid_eq : Rows.mirrorsUptoRow.laid = laid6 := by
  unfold laid6
  rw [← accept_eq, ← first_eq, ← pow_eq, ← words_eq]; rfl
theorem gPow : Tryz.prog.globalNamed "internal/strconv.uint64pow10" = some 3 := by kernel_rfl
theorem gPowType : (Tryz.prog.globals[3]?).map (·.type) = some 267 := by kernel_rfl
theorem gTab : Tryz.prog.globalNamed "mandate/digest.roundWords" = some 2 := by kernel_rfl
theorem gTabType : (Tryz.prog.globals[2]?).map (·.type) = some 247 := by kernel_rfl
theorem u64E : Tryz.prog.underlying 267 = some (.array 20 (Tryz.prog.elem 267)) := by kernel_rfl
theorem u32E : Tryz.prog.underlying 247 = some (.array 64 (Tryz.prog.elem 247)) := by kernel_rfl
theorem words_is {W : World} (h : laidMetH Tryz.prog laid6 W) : Lib.TabIs Tryz.prog W "mandate/digest.roundWords" .u32 (kN.map fun (n : Nat) => (n : Int)) := by
  obtain ⟨g, t, cs, fuel, p, h1, h2, h3, h4⟩ := Lib.laidMet.reads h (.tail _ (.tail _ (.tail _ (.head _))))
  obtain rfl := Option.some.inj (gTab.symm.trans h1)
  obtain rfl := Option.some.inj (gTabType.symm.trans h2)
  unfold Lib.TabIs
  have e := Lib.cells_of_tab u32E (show Tryz.prog.underlying (Tryz.prog.elem 247) = some (.int .u32) by kernel_rfl) (show Tryz.prog.cellsOf (Tryz.prog.elem 247) = 1 by kernel_rfl) (show Tryz.prog.cellsOf 247 = 64 by kernel_rfl) h4
  rw [h3, ← e]
theorem kt {W : World} (h : laidMetH Tryz.prog laid6 W) : KT W := by
  intro j hj
  have h1 := (words_is h).cell gTab j (by simp [kN_length, hj])
  rw [Nat.zero_add, h1]
  show _ = some (Value.int .u32 (wi (K0 j)))
  rw [wi_K0 j hj]
  congr 2
  have hj' : j < kN.length := by rw [kN_length]; exact hj
  simp [List.getD, hj']
theorem pt {W : World} (h : laidMetH Tryz.prog laid6 W) : PT W.heap.size W := by
  obtain ⟨g, t, cs, fuel, p, h1, h2, h3, h4⟩ := Lib.laidMet.reads h (.tail _ (.tail _ (.head _)))
  obtain rfl := Option.some.inj (gPow.symm.trans h1)
  obtain rfl := Option.some.inj (gPowType.symm.trans h2)
  refine Lib.tabBelow_of_tabIs ?_
  unfold Lib.TabIs
  have e := Lib.cells_of_tab u64E (show Tryz.prog.underlying (Tryz.prog.elem 267) = some (.int .u64) by kernel_rfl) (show Tryz.prog.cellsOf (Tryz.prog.elem 267) = 1 by kernel_rfl) (show Tryz.prog.cellsOf 267 = 20 by kernel_rfl) h4
  rw [h3, ← e]
theorem ut0 {W : World} (h : laidMetH Tryz.prog laid6 W) : Lib.Utf8Tabs 0 1 W :=
  utf8Tabs_of_readsT (U8Types.of196 Tryz.laysValid) ⟨by kernel_rfl, by kernel_rfl, by kernel_rfl, by kernel_rfl, by kernel_rfl, by kernel_rfl, by kernel_rfl⟩ (Lib.laidMet.reads h (.tail _ (.tail _ (.tail _ (.tail _ (.tail _ (.head _))))))) (Lib.laidMet.reads h (.tail _ (.tail _ (.tail _ (.tail _ (.head _))))))
set_option maxRecDepth 100000 in
/-- the variable bytealg.MaxLen holds some number -/
theorem mx {W : World} (h : W.ShapedOpen Tryz.prog) : MX W := by
  obtain ⟨cs, hh, hs, hr⟩ := h.1 4 #[.int .i64 0] 3 (of_decide_eq_true (by kernel_rfl)) (by kernel_rfl)
  obtain ⟨ts, hts, _, hall⟩ := hr (by kernel_rfl)
  have hc : Tryz.prog.cellTypes Tryz.prog.depth 3 = some [3] := by kernel_rfl
  rw [hc] at hts
  cases hts
  have h1 : 0 < cs.size := by rw [hs]; decide
  obtain ⟨u, hu', hok⟩ := hall 0 cs[0] (by simp [h1])
  have hu3 : (3 : TypeId) = u := Option.some.inj hu'
  subst hu3
  have hcell : W.cell? ⟨4, 0, none⟩ = some cs[0] := by simp [World.cell?, hh, h1]
  unfold MX
  rw [hcell]
  unfold Cell.ok at hok
  rw [Tryz.underlying3] at hok
  generalize cs[0] = v0 at hok ⊢
  match v0, hok with
  | .int k n, h => exact ⟨n, by rw [h.1]⟩
theorem tt {W : World} (h : laidMetH Tryz.prog laid6 W) (hs : W.ShapedOpen Tryz.prog) : TT W.heap.size W := by
  have hm := mx hs
  have h4 : 4 < W.heap.size := by
    obtain ⟨m, h⟩ := hm
    exact World.block_lt_of_cell? W _ h
  exact ⟨⟨ut0 h, by omega⟩, pt h, kt h, hm, h4⟩
theorem wf64 {n : Int} (h : (Lit.int .i64 n).wf = true) : -9223372036854775808 ≤ n ∧ n ≤ 9223372036854775807 := by
  have h1 : IntKind.i64.min = -9223372036854775808 := by decide
  have h2 : IntKind.i64.max = 9223372036854775807 := by decide
  simp only [Lit.wf, h1, h2, Bool.and_eq_true, decide_eq_true_eq] at h
  exact h
theorem cells3' : Tryz.prog.cellsOf 3 = 1 := by kernel_rfl
theorem bulk_lits {H : Type} : ∀ l : List Int, Rows.uptoBulkAll (lits (H := H) .i64 l) = l.length
  | [] => rfl
  | x :: l => by
    show Rows.uptoBulk (DataW.lit (H := H) (.int .i64 x)) + Rows.uptoBulkAll (lits (H := H) .i64 l) = _
    rw [bulk_lits l]
    show 1 + l.length = l.length + 1
    omega
theorem open_nums {H : Type} {enc : TypeId × Value → H} {W : World} {fuel : Nat} {cs : List Value} {x : DataW H × List MemPlace} (h : DataW.trod enc Tryz.prog W 0 (fun _ => true) true fuel 25 cs = some x) (hw : Rows.uptoBulk x.1 ≤ 1048576) :
    ∃ a c l, cs = [.slice a l.length c] ∧ LsI W W.heap.size (.slice a l.length c) l ∧ l.length ≤ 8796093022208 := by
  rcases open_ints (show Tryz.prog.underlying 25 = some (.slice 3) by kernel_rfl) Tryz.underlying3 cells3' h with ⟨rfl, _⟩ | ⟨a, len, cap, zs, rfl, _, hl, hm, hz, rfl, hcell, hwf⟩
  · exact ⟨none, 0, [], rfl, ⟨none, 0, rfl, Nat.le_refl _, fun h => absurd h (by simp)⟩, by simp⟩
  · simp only [if_true] at hz
    have hlen : (zs.take len).length = len := by rw [List.length_take]; omega
    have hb : len ≤ 1048576 := by
      simp only [Rows.uptoBulk, bulk_lits] at hw
      omega
    refine ⟨some a, cap, zs.take len, by rw [hlen], ⟨some a, cap, by rw [hlen], by rw [hlen]; exact hl, fun hp => ?_⟩, by omega⟩
    rw [hlen] at hp
    obtain ⟨b, off, spot⟩ := a
    have hspot : spot = none := by simpa [Addr.add] using World.cell?_spot (hcell 0 (by omega))
    subst hspot
    refine ⟨b, off, rfl, ?_, fun j hj => ?_⟩
    · have := World.block_lt_of_cell? W _ (hcell 0 (by omega))
      simpa [Addr.add] using this
    · rw [hlen] at hj
      have e : (zs.take len).getD j 0 = zs.getD j 0 := by rw [List.getD_eq_getElem?_getD, List.getElem?_take_of_lt hj, ← List.getD_eq_getElem?_getD]
      rw [e, ← add_plain, hcell j (by omega)]
      refine ⟨rfl, wf64 (hwf _ ?_)⟩
      rw [List.getD_eq_getElem?_getD, List.getElem?_eq_getElem (by omega)]
      exact List.getElem_mem _
theorem laidOut : laidOutB Tryz.prog = true := by kernel_rfl
theorem read25 : Tryz.prog.readableRec 25 = true := by kernel_rfl
theorem read9 : Tryz.prog.readableRec 9 = true := by kernel_rfl
theorem read3 : Tryz.prog.readableRec 3 = true := by kernel_rfl
theorem len_toList (s : ByteArray) : s.data.toList.length = s.size := by rw [Array.length_toList]; rfl

set_option maxRecDepth 100000 in
theorem contract (H : Type) (enc : TypeId × Value → H) (F : Stop.Interp) (W : World) (base : Nat) (args : Array Value) (ds gs : List (DataW H)) (before : List MemPlace)
    (hval : ∀ (j : Nat) t v, Tryz.f4.params[j]? = some t → args[j]? = some v → Value.okWide Tryz.prog W .any base t v)
    (hW : DataW.Whole enc Tryz.prog Tryz.f4.params.toList (Rows.OpenSpec.upto Rows.mirrorsSpec).vars false W args.toList ds gs before)
    (hk : Rows.uptoSmall H (ds ++ gs) = true) (hL : laidMetH Tryz.prog Rows.mirrorsUptoRow.laid W) (hsh : W.ShapedOpen Tryz.prog) :
    Calls Tryz.prog 4 args W fun e W' => ∃ v, e = .returned v ∧ ((Rows.OpenSpec.upto Rows.mirrorsSpec).at F).post enc Tryz.prog Tryz.f4 false true false false W args v W' := by
  have hW' := hW
  obtain ⟨p, q, hA0, hV, rfl, hfz, hnd⟩ := hW
  have hA : DataW.TrodAll enc Tryz.prog W 0 (fun _ => true) true Tryz.f4.params.toList args.toList ds p := hA0
  rw [Tryz.params4] at hA hval
  obtain ⟨v0, vs0, d0, ds0, p0, q0, hargs, rfl, rfl, h0, r0⟩ := trodAll_cons hA
  obtain ⟨v1, vs1, d1, ds1, p1, q1, hargs1, rfl, rfl, h1, r1⟩ := trodAll_cons r0
  obtain ⟨v2, vs2, d2, ds2, p2, q2, hargs2, rfl, rfl, h2, r2⟩ := trodAll_cons r1
  obtain ⟨v3, vs3, d3, ds3, p3, q3, hargs3, rfl, rfl, h3, r3⟩ := trodAll_cons r2
  obtain ⟨v4, vs4, d4, ds4, p4, q4, hargs4, rfl, rfl, h4, r4⟩ := trodAll_cons r3
  obtain ⟨v5, vs5, d5, ds5, p5, q5, hargs5, rfl, rfl, h5, r5⟩ := trodAll_cons r4
  obtain ⟨v6, vs6, d6, ds6, p6, q6, hargs6, rfl, rfl, h6, r6⟩ := trodAll_cons r5
  obtain ⟨v7, vs7, d7, ds7, p7, q7, hargs7, rfl, rfl, h7, r7⟩ := trodAll_cons r6
  obtain ⟨rfl, rfl, rfl⟩ := trodAll_nil r7
  obtain rfl : args = #[v0, v1, v2, v3, v4, v5, v6, v7] := Array.toList_inj.1 (by simp only [hargs, hargs1, hargs2, hargs3, hargs4, hargs5, hargs6, hargs7])
  obtain ⟨rfl, rfl⟩ := trodVars_none hV
  obtain ⟨a4, n4, c4, rfl⟩ := okWide_slice (show Tryz.prog.underlying 25 = some (.slice 3) by kernel_rfl) (hval 4 25 v4 (by simp) (by simp))
  obtain ⟨a5, n5, c5, rfl⟩ := okWide_slice (show Tryz.prog.underlying 25 = some (.slice 3) by kernel_rfl) (hval 5 25 v5 (by simp) (by simp))
  obtain ⟨a6, n6, c6, rfl⟩ := okWide_slice (show Tryz.prog.underlying 25 = some (.slice 3) by kernel_rfl) (hval 6 25 v6 (by simp) (by simp))
  have h0' := h0
  have h1' := h1
  have h2' := h2
  have h3' := h3
  have h4' := h4
  have h5' := h5
  have h6' := h6
  have h7' := h7
  obtain ⟨s0, rfl, rfl, rfl, -⟩ := open_string Tryz.underlying9 (hval 0 9 v0 (by simp) (by simp)) h0
  obtain ⟨s1, rfl, rfl, rfl, -⟩ := open_string Tryz.underlying9 (hval 1 9 v1 (by simp) (by simp)) h1
  obtain ⟨m2, rfl, rfl, rfl, w2⟩ := open_int Tryz.underlying3 (hval 2 3 v2 (by simp) (by simp)) h2
  obtain ⟨m3, rfl, rfl, rfl, w3⟩ := open_int Tryz.underlying3 (hval 3 3 v3 (by simp) (by simp)) h3
  obtain ⟨m7, rfl, rfl, rfl, w7⟩ := open_int Tryz.underlying3 (hval 7 3 v7 (by simp) (by simp)) h7
  obtain ⟨fu4, hf4⟩ := h4
  obtain ⟨fu5, hf5⟩ := h5
  obtain ⟨fu6, hf6⟩ := h6
  have hk' : Rows.uptoBulkAll ([DataW.lit (.string s0.data.toList), DataW.lit (.string s1.data.toList), DataW.lit (.int .i64 m2), DataW.lit (.int .i64 m3), d4, d5, d6, DataW.lit (.int .i64 m7)] ++ []) ≤ 1048576 := of_decide_eq_true hk
  simp only [List.append_nil, Rows.uptoBulkAll, Rows.uptoBulk] at hk'
  obtain ⟨b4, e4, l4, ec4, hI4, hn4⟩ := open_nums hf4 (by show Rows.uptoBulk d4 ≤ _; omega)
  obtain ⟨b5, e5, l5, ec5, hI5, hn5⟩ := open_nums hf5 (by show Rows.uptoBulk d5 ≤ _; omega)
  obtain ⟨b6, e6, l6, ec6, hI6, hn6⟩ := open_nums hf6 (by show Rows.uptoBulk d6 ≤ _; omega)
  simp [Value.cells] at ec4 ec5 ec6
  obtain ⟨rfl, rfl, rfl⟩ := ec4
  obtain ⟨rfl, rfl, rfl⟩ := ec5
  obtain ⟨rfl, rfl, rfl⟩ := ec6
  rw [laid_eq] at hL
  have hc := Mirrors_any s0.data.toList s1.data.toList m2 m3 _ _ _ l4 l5 l6 m7 W (tt hL hsh) (by omega) (by omega) (wf64 w2) (wf64 w3) (wf64 w7) hn4 hn5 hn6 hI4 hI5 hI6
  rw [whole_of', whole_of'] at hc
  refine hc.mono fun e W' ⟨he, hB⟩ => ?_
  subst he
  have z4 : ∀ x ∈ p4, x.block < W.heap.size := fun x hx => hW'.lt x (by simp [hx])
  have z5 : ∀ x ∈ p5, x.block < W.heap.size := fun x hx => hW'.lt x (by simp [hx])
  have z6 : ∀ x ∈ p6, x.block < W.heap.size := fun x hx => hW'.lt x (by simp [hx])
  refine ⟨_, rfl, _, _, _, [], [] ++ ([] ++ ([] ++ ([] ++ (p4 ++ (p5 ++ (p6 ++ ([] ++ []))))))), [], hW', ?_, ?_, ?_, hB.frame _, fun h => by cases h⟩
  · exact trodAll_cons_mk (shut_bool Tryz.underlying4 _) trodAll_mk0
  · exact trodAll_cons_mk (Below.trod laidOut read9 (of_decide_eq_true (by kernel_rfl)) h0' hB (fun x hx => by cases hx)) (trodAll_cons_mk (Below.trod laidOut read9 (of_decide_eq_true (by kernel_rfl)) h1' hB (fun x hx => by cases hx))
      (trodAll_cons_mk (Below.trod laidOut read3 (of_decide_eq_true (by kernel_rfl)) h2' hB (fun x hx => by cases hx)) (trodAll_cons_mk (Below.trod laidOut read3 (of_decide_eq_true (by kernel_rfl)) h3' hB (fun x hx => by cases hx))
      (trodAll_cons_mk (Below.trod laidOut read25 (of_decide_eq_true (by kernel_rfl)) h4' hB z4) (trodAll_cons_mk (Below.trod laidOut read25 (of_decide_eq_true (by kernel_rfl)) h5' hB z5) (trodAll_cons_mk (Below.trod laidOut read25 (of_decide_eq_true (by kernel_rfl)) h6' hB z6)
      (trodAll_cons_mk (Below.trod laidOut read3 (of_decide_eq_true (by kernel_rfl)) h7' hB (fun x hx => by cases hx)) trodAll_mk0)))))))
  · rfl

def litV : DataW Unit → Value
  | .lit (.int k z) => .int k z
  | _ => undef
def cellsOfD : DataW Unit → Array Value
  | .agg l => (l.map litV).toArray
  | _ => #[]
/-- A world for the witness: the tables hold what their initialisers lay. -/
def layAt (k : Nat) (cs : Array Value) (w : World) : World :=
  { w with heap := w.heap.modify k fun
      | .cells _ t frozen => .cells cs t frozen
      | o => o }
def laidIn (w : World) : World :=
  layAt 6 (cellsOfD Rows.laid_math_bits_deBruijn64tab) (layAt 5 (cellsOfD Rows.laid_math_bits_deBruijn32tab) (layAt 3 (cellsOfD Rows.laid_internal_strconv_uint64pow10) (layAt 2 (cellsOfD Rows.laid_mandate_digest_roundWords)
    (layAt 1 ((List.range 16).flatMap fun i => [Value.int .u8 (Lib.accLo i), Value.int .u8 (Lib.accHi i)]).toArray (layAt 0 (Lib.firstTab.map fun z => Value.int .u8 z).toArray w)))))
def argv : Array Value := #[.string .empty, .string .empty, .int .i64 0, .int .i64 0, .slice none 0 0, .slice none 0 0, .slice none 0 0, .int .i64 0]
theorem laid_met (os : Os) : laidMet Tryz.prog Rows.mirrorsUptoRow.laid ((laidIn (World.holding Tryz.prog os ⟨#[], #[], []⟩)).forCall (fun _ _ => 0) ⟨#[], argv, []⟩).memory :=
  laidMet_of_run' 8 (by kernel_rfl) (by kernel_rfl)
theorem reads (os : Os) {H : Type} (enc : TypeId × Value → H) : ∃ places, DataW.whole enc Tryz.prog ((laidIn (World.holding Tryz.prog os ⟨#[], #[], []⟩)).forCall (fun _ _ => 0) ⟨#[], argv, []⟩).memory Tryz.f4.params.toList (Rows.OpenSpec.upto Rows.mirrorsSpec).vars false argv.toList 8 = some ([.lit (.string []), .lit (.string []), .lit (.int .i64 0), .lit (.int .i64 0), .nil, .nil, .nil, .lit (.int .i64 0)], [], places) :=
  ⟨[], by kernel_rfl⟩

set_option maxRecDepth 100000 in
theorem lifted (os : Os) (started : os.Started) (H : Type) (enc : TypeId × Value → H) (F : Stop.Interp) :
    ReturnsInHanded {} Tryz.checked os 4 .any ((Rows.OpenSpec.upto Rows.mirrorsSpec).preRow enc Tryz.prog Tryz.f4 Rows.mirrorsUptoRow.domain false Rows.mirrorsUptoRow.laid) (((Rows.OpenSpec.upto Rows.mirrorsSpec).at F).post enc Tryz.prog Tryz.f4 false true false false) := by
  obtain ⟨places, hx⟩ := reads os enc
  refine returnsInHanded_of_row (C := Tryz.checked) (s := Rows.OpenSpec.upto Rows.mirrorsSpec) own started (by kernel_rfl) Tryz.func4
    (witness_row_at (enc := enc) (C := Tryz.checked) false (laidIn (World.holding Tryz.prog os ⟨#[], #[], []⟩)) argv rfl (by kernel_rfl) (by kernel_rfl) (by kernel_rfl)
      (OpenSpec.preRow_of_cond 8 hx (by kernel_rfl) (fun k hk => by cases hk; kernel_rfl) (by kernel_rfl) (laid_met os))) ?_
  intro W base args ds gs before hval hW _ hcond _ hL hsh _
  exact contract H enc F W base args ds gs before hval hW (hcond _ rfl) hL hsh

theorem said : Rows.MirrorsUptoSaid :=
  OpenClaim.holds_of_cond 4 Tryz.f4 rfl rfl rfl rfl rfl rfl rfl ⟨rfl, rfl, rfl, rfl, rfl⟩ rfl rfl rfl rfl rfl (by kernel_rfl) Tryz.func4 (by kernel_rfl)
    (of_decide_eq_true (by kernel_rfl)) (by unfold Func.isWrapper; first | (rw [if_pos (by decide +kernel)]; kernel_rfl) | (rw [if_neg (by decide +kernel)]; exact ⟨rfl, rfl⟩))
    (fun os started H enc _ F => by rw [OpenClaim.pre_eq_preRow]; exact lifted os started H enc F)

theorem plain (f : FuncId) (fn : Func) (hf : Tryz.pinned.checked.prog.funcNamed "mandate/mandatekeep.Mirrors" = some f) (hfn : Tryz.pinned.checked.prog.funcs[f]? = some fn) :
    false = Tryz.pinned.checked.prog.looks [] ∧ ∀ (j : Nat) t, fn.params[j]? = some t → Tryz.pinned.checked.prog.wantsStandIn t = false := by
  obtain rfl : f = 4 := Option.some.inj ((show Tryz.prog.funcNamed "mandate/mandatekeep.Mirrors" = some 4 by kernel_rfl).symm.trans hf) |>.symm
  obtain rfl : fn = Tryz.f4 := (Option.some.inj (Tryz.func4.symm.trans hfn)).symm
  refine ⟨by kernel_rfl, fun j t ht => ?_⟩
  rw [Tryz.params4] at ht
  have h9 : Tryz.prog.wantsStandIn 9 = false := by kernel_rfl
  have h3 : Tryz.prog.wantsStandIn 3 = false := by kernel_rfl
  have h25 : Tryz.prog.wantsStandIn 25 = false := by kernel_rfl
  have h : t ∈ ([9, 9, 3, 3, 25, 25, 25, 3] : List TypeId) := by simpa using Array.mem_of_getElem? ht
  have h' : t = 9 ∨ t = 9 ∨ t = 3 ∨ t = 3 ∨ t = 25 ∨ t = 25 ∨ t = 25 ∨ t = 3 := by
    rcases h with _ | ⟨_, h⟩
    · exact Or.inl rfl
    rcases h with _ | ⟨_, h⟩
    · exact Or.inl rfl
    rcases h with _ | ⟨_, h⟩
    · exact Or.inr (Or.inr (Or.inl rfl))
    rcases h with _ | ⟨_, h⟩
    · exact Or.inr (Or.inr (Or.inl rfl))
    rcases h with _ | ⟨_, h⟩
    · exact Or.inr (Or.inr (Or.inr (Or.inr (Or.inl rfl))))
    rcases h with _ | ⟨_, h⟩
    · exact Or.inr (Or.inr (Or.inr (Or.inr (Or.inl rfl))))
    rcases h with _ | ⟨_, h⟩
    · exact Or.inr (Or.inr (Or.inr (Or.inr (Or.inl rfl))))
    rcases h with _ | ⟨_, h⟩
    · exact Or.inr (Or.inr (Or.inl rfl))
    cases h
  rcases h' with rfl | rfl | rfl | rfl | rfl | rfl | rfl | rfl
  · exact h9
  · exact h9
  · exact h3
  · exact h3
  · exact h25
  · exact h25
  · exact h25
  · exact h3

theorem card : Rows.MirrorsUptoCardSaid :=
  Claim7.holds_tied_plain_at .later [] _ _ _ _ said (fun _ h => by cases h) (by kernel_rfl) (fun _ h => by cases h) mirrorsUpto_row_tie rfl ⟨rfl, rfl⟩ (by kernel_rfl) rfl plain (by kernel_rfl)
end Go.Proofs.YtkmkkmdpjliifaaGreatDoor.mirrors
namespace Go.Proofs.YtkmkkmdpjliifaaGreatDoor
theorem mirrorsUptoHolds : Rows.MirrorsUptoCardSaid := mirrors.card
end Go.Proofs.YtkmkkmdpjliifaaGreatDoor
