/- The law Mirrors, first form: on every bytes, text and raw numbers it returns true, and what was there before the call is as it was. -/
import Derived.Test.YtkmkkmdpjliifaaGreatDoorJyBF
import Derived.Test.YtkmkkmdpjliifaaGreatDoorLfA
import Derived.Test.YtkmkkmdpjliifaaGreatDoorMjA
namespace Go.Proofs.YtkmkkmdpjliifaaGreatDoor.mirrors1
open Go.ChangeShapes Go.WideShapes Go.ChangeAt Go.RowKit Go.Shelf
open Go.ChangeMaps (open_string)
open lf

theorem laid_eq : Rows.mirrorsRow.laid = laid6 := by
  unfold laid6
  rw [← accept_eq, ← first_eq, ← pow_eq, ← words_eq]; rfl
set_option maxRecDepth 100000 in
theorem contract (H : Type) (enc : TypeId × Value → H) (F : Stop.Interp) (W : World) (base : Nat) (args : Array Value) (ds gs : List (DataW H)) (before : List MemPlace)
    (hval : ∀ (j : Nat) t v, Tryz.f4.params[j]? = some t → args[j]? = some v → Value.okWide Tryz.prog W .any base t v)
    (hW : DataW.Whole enc Tryz.prog Tryz.f4.params.toList (OpenSpec.ofChange Rows.mirrorsSpec).vars false W args.toList ds gs before)
    (hsz : (DataW.weightsEach Tryz.prog (Tryz.f4.params.toList ++ (OpenSpec.ofChange Rows.mirrorsSpec).bare.plain.varTypes Tryz.prog) (ds ++ gs)).all (· ≤ reachBytes) = true) (hL : laidMetH Tryz.prog Rows.mirrorsRow.laid W) (hsh : W.ShapedOpen Tryz.prog) :
    Calls Tryz.prog 4 args W fun e W' => ∃ v, e = .returned v ∧ ((OpenSpec.ofChange Rows.mirrorsSpec).at F).post enc Tryz.prog Tryz.f4 false true false false W args v W' := by
  have hW' := hW
  obtain ⟨p, q, hA0, hV, rfl, hfz, hnd⟩ := hW
  have hA : DataW.TrodAll enc Tryz.prog W 0 (fun _ => true) true Tryz.f4.params.toList args.toList ds p := hA0
  rw [Tryz.params4] at hA hval hsz
  obtain ⟨v0, vs0, d0, ds0, p0, q0, hargs0, rfl, rfl, h0, r0⟩ := trodAll_cons hA
  obtain ⟨v1, vs1, d1, ds1, p1, q1, hargs1, rfl, rfl, h1, r1⟩ := trodAll_cons r0
  obtain ⟨v2, vs2, d2, ds2, p2, q2, hargs2, rfl, rfl, h2, r2⟩ := trodAll_cons r1
  obtain ⟨v3, vs3, d3, ds3, p3, q3, hargs3, rfl, rfl, h3, r3⟩ := trodAll_cons r2
  obtain ⟨v4, vs4, d4, ds4, p4, q4, hargs4, rfl, rfl, h4, r4⟩ := trodAll_cons r3
  obtain ⟨v5, vs5, d5, ds5, p5, q5, hargs5, rfl, rfl, h5, r5⟩ := trodAll_cons r4
  obtain ⟨v6, vs6, d6, ds6, p6, q6, hargs6, rfl, rfl, h6, r6⟩ := trodAll_cons r5
  obtain ⟨v7, vs7, d7, ds7, p7, q7, hargs7, rfl, rfl, h7, r7⟩ := trodAll_cons r6
  obtain ⟨rfl, rfl, rfl⟩ := trodAll_nil r7
  obtain rfl : args = #[v0, v1, v2, v3, v4, v5, v6, v7] := Array.toList_inj.1 (by simp only [hargs0, hargs1, hargs2, hargs3, hargs4, hargs5, hargs6, hargs7])
  obtain ⟨rfl, rfl⟩ := trodVars_none hV
  obtain ⟨a4, n4, c4, rfl⟩ := okWide_slice (show Tryz.prog.underlying 25 = some (.slice 3) by kernel_rfl) (hval 4 25 v4 (by simp) (by simp))
  obtain ⟨a5, n5, c5, rfl⟩ := okWide_slice (show Tryz.prog.underlying 25 = some (.slice 3) by kernel_rfl) (hval 5 25 v5 (by simp) (by simp))
  obtain ⟨a6, n6, c6, rfl⟩ := okWide_slice (show Tryz.prog.underlying 25 = some (.slice 3) by kernel_rfl) (hval 6 25 v6 (by simp) (by simp))
  have h0' := h0
  have h1' := h1
  have h2' := h2
  have h3' := h3
  have h4' := h4
  have h5' := h5
  have h6' := h6
  have h7' := h7
  have hw0 : ∀ n ∈ d0.weights Tryz.prog 9, n ≤ reachBytes := fun n hn => of_decide_eq_true (List.all_eq_true.1 hsz n (DataW.weights_mem_each (j := 0) (t := 9) rfl rfl n hn))
  have hw1 : ∀ n ∈ d1.weights Tryz.prog 9, n ≤ reachBytes := fun n hn => of_decide_eq_true (List.all_eq_true.1 hsz n (DataW.weights_mem_each (j := 1) (t := 9) rfl rfl n hn))
  have hw4 : ∀ n ∈ d4.weights Tryz.prog 25, n ≤ reachBytes := fun n hn => of_decide_eq_true (List.all_eq_true.1 hsz n (DataW.weights_mem_each (j := 4) (t := 25) rfl rfl n hn))
  have hw5 : ∀ n ∈ d5.weights Tryz.prog 25, n ≤ reachBytes := fun n hn => of_decide_eq_true (List.all_eq_true.1 hsz n (DataW.weights_mem_each (j := 5) (t := 25) rfl rfl n hn))
  have hw6 : ∀ n ∈ d6.weights Tryz.prog 25, n ≤ reachBytes := fun n hn => of_decide_eq_true (List.all_eq_true.1 hsz n (DataW.weights_mem_each (j := 6) (t := 25) rfl rfl n hn))
  obtain ⟨s0, rfl, rfl, rfl, -⟩ := open_string Tryz.underlying9 (hval 0 9 v0 (by simp) (by simp)) h0
  have hx0 : s0.data.toList.length ≤ 140737488351232 := hw0 _ (by simp [DataW.weights])
  obtain ⟨s1, rfl, rfl, rfl, -⟩ := open_string Tryz.underlying9 (hval 1 9 v1 (by simp) (by simp)) h1
  have hx1 : s1.data.toList.length ≤ 140737488351232 := hw1 _ (by simp [DataW.weights])
  obtain ⟨m2, rfl, rfl, rfl, w2⟩ := open_int Tryz.underlying3 (hval 2 3 v2 (by simp) (by simp)) h2
  obtain ⟨m3, rfl, rfl, rfl, w3⟩ := open_int Tryz.underlying3 (hval 3 3 v3 (by simp) (by simp)) h3
  obtain ⟨m7, rfl, rfl, rfl, w7⟩ := open_int Tryz.underlying3 (hval 7 3 v7 (by simp) (by simp)) h7
  obtain ⟨fu4, hf4⟩ := h4
  obtain ⟨b4, e4, l4, ec4, hI4, hn4⟩ := open_nums hf4 hw4
  simp [Value.cells] at ec4
  obtain ⟨rfl, rfl, rfl⟩ := ec4
  obtain ⟨fu5, hf5⟩ := h5
  obtain ⟨b5, e5, l5, ec5, hI5, hn5⟩ := open_nums hf5 hw5
  simp [Value.cells] at ec5
  obtain ⟨rfl, rfl, rfl⟩ := ec5
  obtain ⟨fu6, hf6⟩ := h6
  obtain ⟨b6, e6, l6, ec6, hI6, hn6⟩ := open_nums hf6 hw6
  simp [Value.cells] at ec6
  obtain ⟨rfl, rfl, rfl⟩ := ec6
  rw [laid_eq] at hL
  have hc := Mirrors3_any s0.data.toList s1.data.toList m2 m3 _ _ _ l4 l5 l6 m7 W (lf.tt hL hsh) hx0 hx1 (wf64 w2) (wf64 w3) (wf64 w7) hn4 hn5 hn6 hI4 hI5 hI6
  rw [whole_of', whole_of'] at hc
  refine hc.mono fun e W' ⟨he, hB⟩ => ?_
  subst he
  have z4 : ∀ x ∈ p4, x.block < W.heap.size := fun x hx => hW'.lt x (by simp [hx])
  have z5 : ∀ x ∈ p5, x.block < W.heap.size := fun x hx => hW'.lt x (by simp [hx])
  have z6 : ∀ x ∈ p6, x.block < W.heap.size := fun x hx => hW'.lt x (by simp [hx])
  refine ⟨_, rfl, _, _, _, [], [] ++ ([] ++ ([] ++ ([] ++ (p4 ++ (p5 ++ (p6 ++ ([] ++ []))))))), [], hW', ?_, ?_, ?_, hB.frame _, fun h => by cases h⟩
  · exact trodAll_cons_mk (shut_bool Tryz.underlying4 _) trodAll_mk0
  · exact trodAll_cons_mk (Below.trod laidOut read9 (of_decide_eq_true (by kernel_rfl)) h0' hB (fun x hx => by cases hx)) (trodAll_cons_mk (Below.trod laidOut read9 (of_decide_eq_true (by kernel_rfl)) h1' hB (fun x hx => by cases hx)) (trodAll_cons_mk (Below.trod laidOut read3 (of_decide_eq_true (by kernel_rfl)) h2' hB (fun x hx => by cases hx)) (trodAll_cons_mk (Below.trod laidOut read3 (of_decide_eq_true (by kernel_rfl)) h3' hB (fun x hx => by cases hx)) (trodAll_cons_mk (Below.trod laidOut read25 (of_decide_eq_true (by kernel_rfl)) h4' hB z4) (trodAll_cons_mk (Below.trod laidOut read25 (of_decide_eq_true (by kernel_rfl)) h5' hB z5) (trodAll_cons_mk (Below.trod laidOut read25 (of_decide_eq_true (by kernel_rfl)) h6' hB z6) (trodAll_cons_mk (Below.trod laidOut read3 (of_decide_eq_true (by kernel_rfl)) h7' hB (fun x hx => by cases hx)) trodAll_mk0)))))))
  · rfl

def argv : Array Value := #[.string .empty, .string .empty, .int .i64 0, .int .i64 0, .slice none 0 0, .slice none 0 0, .slice none 0 0, .int .i64 0]
theorem laid_met (os : Os) : laidMet Tryz.prog Rows.mirrorsRow.laid ((laidIn (World.holding Tryz.prog os ⟨#[], #[], []⟩)).forCall (fun _ _ => 0) ⟨#[], argv, []⟩).memory :=
  laidMet_of_run' 8 (by kernel_rfl) (by kernel_rfl)
theorem reads (os : Os) {H : Type} (enc : TypeId × Value → H) : ∃ places, DataW.whole enc Tryz.prog ((laidIn (World.holding Tryz.prog os ⟨#[], #[], []⟩)).forCall (fun _ _ => 0) ⟨#[], argv, []⟩).memory Tryz.f4.params.toList (OpenSpec.ofChange Rows.mirrorsSpec).vars false argv.toList 8 = some ([.lit (.string []), .lit (.string []), .lit (.int .i64 0), .lit (.int .i64 0), .nil, .nil, .nil, .lit (.int .i64 0)], [], places) :=
  ⟨[], by kernel_rfl⟩

set_option maxRecDepth 100000 in
theorem lifted (os : Os) (started : os.Started) (H : Type) (enc : TypeId × Value → H) (F : Stop.Interp) :
    ReturnsInHanded {} Tryz.checked os 4 .any ((OpenSpec.ofChange Rows.mirrorsSpec).preRow enc Tryz.prog Tryz.f4 Rows.mirrorsRow.domain false Rows.mirrorsRow.laid) (((OpenSpec.ofChange Rows.mirrorsSpec).at F).post enc Tryz.prog Tryz.f4 false true false false) := by
  obtain ⟨places, hx⟩ := reads os enc
  refine returnsInHanded_of_row (C := Tryz.checked) (s := OpenSpec.ofChange Rows.mirrorsSpec) own started (by kernel_rfl) Tryz.func4
    (witness_row_at (enc := enc) (C := Tryz.checked) false (laidIn (World.holding Tryz.prog os ⟨#[], #[], []⟩)) argv rfl (by kernel_rfl) (by kernel_rfl) (by kernel_rfl)
      (OpenSpec.preRow_of_cond 8 hx (by kernel_rfl) (fun k hk => by cases hk) (by kernel_rfl) (laid_met os))) ?_
  intro W base args ds gs before hval hW _ _ hsz hL hsh _
  exact contract H enc F W base args ds gs before hval hW hsz hL hsh

theorem said : Rows.MirrorsSaid :=
  OpenClaim.holds_of_cond 4 Tryz.f4 rfl rfl rfl rfl rfl rfl rfl ⟨rfl, rfl, rfl, rfl, rfl⟩ rfl rfl rfl rfl rfl (by kernel_rfl) Tryz.func4 (by kernel_rfl)
    (of_decide_eq_true (by kernel_rfl)) (by unfold Func.isWrapper; first | (rw [if_pos (by decide +kernel)]; kernel_rfl) | (rw [if_neg (by decide +kernel)]; exact ⟨rfl, rfl⟩))
    (fun os started H enc _ F => by rw [OpenClaim.pre_eq_preRow]; exact lifted os started H enc F)

theorem plain (f : FuncId) (fn : Func) (hf : Tryz.pinned.checked.prog.funcNamed "mandate/mandatekeep.Mirrors" = some f) (hfn : Tryz.pinned.checked.prog.funcs[f]? = some fn) :
    false = Tryz.pinned.checked.prog.looks [] ∧ ∀ (j : Nat) t, fn.params[j]? = some t → Tryz.pinned.checked.prog.wantsStandIn t = false := by
  obtain rfl : f = 4 := Option.some.inj ((show Tryz.prog.funcNamed "mandate/mandatekeep.Mirrors" = some 4 by kernel_rfl).symm.trans hf) |>.symm
  obtain rfl : fn = Tryz.f4 := (Option.some.inj (Tryz.func4.symm.trans hfn)).symm
  refine ⟨by kernel_rfl, fun j t ht => ?_⟩
  rw [Tryz.params4] at ht
  have h3 : Tryz.prog.wantsStandIn 3 = false := by kernel_rfl
  have h9 : Tryz.prog.wantsStandIn 9 = false := by kernel_rfl
  have h25 : Tryz.prog.wantsStandIn 25 = false := by kernel_rfl
  have h : t ∈ ([9, 9, 3, 3, 25, 25, 25, 3] : List TypeId) := by simpa using Array.mem_of_getElem? ht
  rcases h with _ | ⟨_, h⟩
  · exact h9
  rcases h with _ | ⟨_, h⟩
  · exact h9
  rcases h with _ | ⟨_, h⟩
  · exact h3
  rcases h with _ | ⟨_, h⟩
  · exact h3
  rcases h with _ | ⟨_, h⟩
  · exact h25
  rcases h with _ | ⟨_, h⟩
  · exact h25
  rcases h with _ | ⟨_, h⟩
  · exact h25
  rcases h with _ | ⟨_, h⟩
  · exact h3
  cases h

theorem card : Rows.MirrorsCardSaid :=
  Claim7.holds_tied_plain_at .later [] _ _ _ _ said (fun _ h => by cases h) (by kernel_rfl) (fun _ h => by cases h) mirrors_row_tie rfl ⟨rfl, rfl⟩ (by kernel_rfl) rfl plain (by kernel_rfl)
end Go.Proofs.YtkmkkmdpjliifaaGreatDoor.mirrors1
namespace Go.Proofs.YtkmkkmdpjliifaaGreatDoor
theorem mirrorsHolds : Rows.MirrorsCardSaid := mirrors1.card
end Go.Proofs.YtkmkkmdpjliifaaGreatDoor
