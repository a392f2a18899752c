/- The law Spaced: on every raw numbers it returns true, and what was there before the call is as it was. -/
import Derived.Test.YtkmkkmdpjliifaaGreatDoorLfA
import Derived.Test.YtkmkkmdpjliifaaGreatDoorSpO
namespace Go.Proofs.YtkmkkmdpjliifaaGreatDoor.spaced
open Go.ChangeShapes Go.WideShapes Go.ChangeAt Go.RowKit Go.Shelf
open lf

set_option maxRecDepth 100000 in
theorem contract (H : Type) (enc : TypeId × Value → H) (F : Stop.Interp) (W : World) (base : Nat) (args : Array Value) (ds gs : List (DataW H)) (before : List MemPlace)
    (hval : ∀ (j : Nat) t v, Tryz.f5.params[j]? = some t → args[j]? = some v → Value.okWide Tryz.prog W .any base t v)
    (hW : DataW.Whole enc Tryz.prog Tryz.f5.params.toList (OpenSpec.ofChange Rows.spacedSpec).vars false W args.toList ds gs before)
    (hsz : (DataW.weightsEach Tryz.prog (Tryz.f5.params.toList ++ (OpenSpec.ofChange Rows.spacedSpec).bare.plain.varTypes Tryz.prog) (ds ++ gs)).all (· ≤ reachBytes) = true) (hL : laidMetH Tryz.prog Rows.spacedRow.laid W) (hsh : W.ShapedOpen Tryz.prog) :
    Calls Tryz.prog 5 args W fun e W' => ∃ v, e = .returned v ∧ ((OpenSpec.ofChange Rows.spacedSpec).at F).post enc Tryz.prog Tryz.f5 false true false false W args v W' := by
  have hW' := hW
  obtain ⟨p, q, hA0, hV, rfl, hfz, hnd⟩ := hW
  have hA : DataW.TrodAll enc Tryz.prog W 0 (fun _ => true) true Tryz.f5.params.toList args.toList ds p := hA0
  rw [Tryz.params5] at hA hval hsz
  obtain ⟨v0, vs0, d0, ds0, p0, q0, hargs0, rfl, rfl, h0, r0⟩ := trodAll_cons hA
  obtain ⟨v1, vs1, d1, ds1, p1, q1, hargs1, rfl, rfl, h1, r1⟩ := trodAll_cons r0
  obtain ⟨v2, vs2, d2, ds2, p2, q2, hargs2, rfl, rfl, h2, r2⟩ := trodAll_cons r1
  obtain ⟨v3, vs3, d3, ds3, p3, q3, hargs3, rfl, rfl, h3, r3⟩ := trodAll_cons r2
  obtain ⟨v4, vs4, d4, ds4, p4, q4, hargs4, rfl, rfl, h4, r4⟩ := trodAll_cons r3
  obtain ⟨v5, vs5, d5, ds5, p5, q5, hargs5, rfl, rfl, h5, r5⟩ := trodAll_cons r4
  obtain ⟨v6, vs6, d6, ds6, p6, q6, hargs6, rfl, rfl, h6, r6⟩ := trodAll_cons r5
  obtain ⟨v7, vs7, d7, ds7, p7, q7, hargs7, rfl, rfl, h7, r7⟩ := trodAll_cons r6
  obtain ⟨v8, vs8, d8, ds8, p8, q8, hargs8, rfl, rfl, h8, r8⟩ := trodAll_cons r7
  obtain ⟨rfl, rfl, rfl⟩ := trodAll_nil r8
  obtain rfl : args = #[v0, v1, v2, v3, v4, v5, v6, v7, v8] := Array.toList_inj.1 (by simp only [hargs0, hargs1, hargs2, hargs3, hargs4, hargs5, hargs6, hargs7, hargs8])
  obtain ⟨rfl, rfl⟩ := trodVars_none hV
  obtain ⟨a2, n2, c2, rfl⟩ := okWide_slice (show Tryz.prog.underlying 25 = some (.slice 3) by kernel_rfl) (hval 2 25 v2 (by simp) (by simp))
  obtain ⟨a3, n3, c3, rfl⟩ := okWide_slice (show Tryz.prog.underlying 25 = some (.slice 3) by kernel_rfl) (hval 3 25 v3 (by simp) (by simp))
  obtain ⟨a4, n4, c4, rfl⟩ := okWide_slice (show Tryz.prog.underlying 25 = some (.slice 3) by kernel_rfl) (hval 4 25 v4 (by simp) (by simp))
  have h0' := h0
  have h1' := h1
  have h2' := h2
  have h3' := h3
  have h4' := h4
  have h5' := h5
  have h6' := h6
  have h7' := h7
  have h8' := h8
  have hw2 : ∀ n ∈ d2.weights Tryz.prog 25, n ≤ reachBytes := fun n hn => of_decide_eq_true (List.all_eq_true.1 hsz n (DataW.weights_mem_each (j := 2) (t := 25) rfl rfl n hn))
  have hw3 : ∀ n ∈ d3.weights Tryz.prog 25, n ≤ reachBytes := fun n hn => of_decide_eq_true (List.all_eq_true.1 hsz n (DataW.weights_mem_each (j := 3) (t := 25) rfl rfl n hn))
  have hw4 : ∀ n ∈ d4.weights Tryz.prog 25, n ≤ reachBytes := fun n hn => of_decide_eq_true (List.all_eq_true.1 hsz n (DataW.weights_mem_each (j := 4) (t := 25) rfl rfl n hn))
  obtain ⟨m0, rfl, rfl, rfl, w0⟩ := open_int Tryz.underlying3 (hval 0 3 v0 (by simp) (by simp)) h0
  obtain ⟨m1, rfl, rfl, rfl, w1⟩ := open_int Tryz.underlying3 (hval 1 3 v1 (by simp) (by simp)) h1
  obtain ⟨m5, rfl, rfl, rfl, w5⟩ := open_int Tryz.underlying3 (hval 5 3 v5 (by simp) (by simp)) h5
  obtain ⟨m6, rfl, rfl, rfl, w6⟩ := open_int Tryz.underlying3 (hval 6 3 v6 (by simp) (by simp)) h6
  obtain ⟨m7, rfl, rfl, rfl, w7⟩ := open_int Tryz.underlying3 (hval 7 3 v7 (by simp) (by simp)) h7
  obtain ⟨m8, rfl, rfl, rfl, w8⟩ := open_int Tryz.underlying3 (hval 8 3 v8 (by simp) (by simp)) h8
  obtain ⟨fu2, hf2⟩ := h2
  obtain ⟨fu3, hf3⟩ := h3
  obtain ⟨fu4, hf4⟩ := h4
  obtain ⟨b2, e2, l2, ec2, hI2, hn2⟩ := open_nums hf2 hw2
  obtain ⟨b3, e3, l3, ec3, hI3, hn3⟩ := open_nums hf3 hw3
  obtain ⟨b4, e4, l4, ec4, hI4, hn4⟩ := open_nums hf4 hw4
  simp [Value.cells] at ec2 ec3 ec4
  obtain ⟨rfl, rfl, rfl⟩ := ec2
  obtain ⟨rfl, rfl, rfl⟩ := ec3
  obtain ⟨rfl, rfl, rfl⟩ := ec4
  rw [spaced_laid] at hL
  have hc := Spaced_any m0 m1 _ _ _ l2 l3 l4 m5 m6 m7 m8 W (lf.tt hL hsh) (wf64 w0) (wf64 w1) (wf64 w5) (wf64 w6) (wf64 w7) (wf64 w8) hn2 hn3 hn4 hI2 hI3 hI4
  refine hc.mono fun e W' ⟨he, hB⟩ => ?_
  subst he
  have z2 : ∀ x ∈ p2, x.block < W.heap.size := fun x hx => hW'.lt x (by simp [hx])
  have z3 : ∀ x ∈ p3, x.block < W.heap.size := fun x hx => hW'.lt x (by simp [hx])
  have z4 : ∀ x ∈ p4, x.block < W.heap.size := fun x hx => hW'.lt x (by simp [hx])
  refine ⟨_, rfl, _, _, _, [], [] ++ ([] ++ (p2 ++ (p3 ++ (p4 ++ ([] ++ ([] ++ ([] ++ ([] ++ [])))))))), [], hW', ?_, ?_, ?_, hB.frame _, fun h => by cases h⟩
  · exact trodAll_cons_mk (shut_bool Tryz.underlying4 _) trodAll_mk0
  · exact trodAll_cons_mk (Below.trod laidOut read3 (of_decide_eq_true (by kernel_rfl)) h0' hB (fun x hx => by cases hx)) (trodAll_cons_mk (Below.trod laidOut read3 (of_decide_eq_true (by kernel_rfl)) h1' hB (fun x hx => by cases hx)) (trodAll_cons_mk (Below.trod laidOut read25 (of_decide_eq_true (by kernel_rfl)) h2' hB z2) (trodAll_cons_mk (Below.trod laidOut read25 (of_decide_eq_true (by kernel_rfl)) h3' hB z3) (trodAll_cons_mk (Below.trod laidOut read25 (of_decide_eq_true (by kernel_rfl)) h4' hB z4) (trodAll_cons_mk (Below.trod laidOut read3 (of_decide_eq_true (by kernel_rfl)) h5' hB (fun x hx => by cases hx)) (trodAll_cons_mk (Below.trod laidOut read3 (of_decide_eq_true (by kernel_rfl)) h6' hB (fun x hx => by cases hx)) (trodAll_cons_mk (Below.trod laidOut read3 (of_decide_eq_true (by kernel_rfl)) h7' hB (fun x hx => by cases hx)) (trodAll_cons_mk (Below.trod laidOut read3 (of_decide_eq_true (by kernel_rfl)) h8' hB (fun x hx => by cases hx)) trodAll_mk0))))))))
  · rfl

def argv : Array Value := #[.int .i64 0, .int .i64 0, .slice none 0 0, .slice none 0 0, .slice none 0 0, .int .i64 0, .int .i64 0, .int .i64 0, .int .i64 0]
theorem laid_met (os : Os) : laidMet Tryz.prog Rows.spacedRow.laid ((laidIn (World.holding Tryz.prog os ⟨#[], #[], []⟩)).forCall (fun _ _ => 0) ⟨#[], argv, []⟩).memory :=
  laidMet_of_run' 8 (by kernel_rfl) (by kernel_rfl)
theorem reads (os : Os) {H : Type} (enc : TypeId × Value → H) : ∃ places, DataW.whole enc Tryz.prog ((laidIn (World.holding Tryz.prog os ⟨#[], #[], []⟩)).forCall (fun _ _ => 0) ⟨#[], argv, []⟩).memory Tryz.f5.params.toList (OpenSpec.ofChange Rows.spacedSpec).vars false argv.toList 8 = some ([.lit (.int .i64 0), .lit (.int .i64 0), .nil, .nil, .nil, .lit (.int .i64 0), .lit (.int .i64 0), .lit (.int .i64 0), .lit (.int .i64 0)], [], places) :=
  ⟨[], by kernel_rfl⟩

set_option maxRecDepth 100000 in
theorem lifted (os : Os) (started : os.Started) (H : Type) (enc : TypeId × Value → H) (F : Stop.Interp) :
    ReturnsInHanded {} Tryz.checked os 5 .any ((OpenSpec.ofChange Rows.spacedSpec).preRow enc Tryz.prog Tryz.f5 Rows.spacedRow.domain false Rows.spacedRow.laid) (((OpenSpec.ofChange Rows.spacedSpec).at F).post enc Tryz.prog Tryz.f5 false true false false) := by
  obtain ⟨places, hx⟩ := reads os enc
  refine returnsInHanded_of_row (C := Tryz.checked) (s := OpenSpec.ofChange Rows.spacedSpec) own started (by kernel_rfl) Tryz.func5
    (witness_row_at (enc := enc) (C := Tryz.checked) false (laidIn (World.holding Tryz.prog os ⟨#[], #[], []⟩)) argv rfl (by kernel_rfl) (by kernel_rfl) (by kernel_rfl)
      (OpenSpec.preRow_of_cond 8 hx (by kernel_rfl) (fun k hk => by cases hk) (by kernel_rfl) (laid_met os))) ?_
  intro W base args ds gs before hval hW _ _ hsz hL hsh _
  exact contract H enc F W base args ds gs before hval hW hsz hL hsh

theorem said : Rows.SpacedSaid :=
  OpenClaim.holds_of_cond 5 Tryz.f5 rfl rfl rfl rfl rfl rfl rfl ⟨rfl, rfl, rfl, rfl, rfl⟩ rfl rfl rfl rfl rfl (by kernel_rfl) Tryz.func5 (by kernel_rfl)
    (of_decide_eq_true (by kernel_rfl)) (by unfold Func.isWrapper; first | (rw [if_pos (by decide +kernel)]; kernel_rfl) | (rw [if_neg (by decide +kernel)]; exact ⟨rfl, rfl⟩))
    (fun os started H enc _ F => by rw [OpenClaim.pre_eq_preRow]; exact lifted os started H enc F)

theorem plain (f : FuncId) (fn : Func) (hf : Tryz.pinned.checked.prog.funcNamed "mandate/mandatekeep.Spaced" = some f) (hfn : Tryz.pinned.checked.prog.funcs[f]? = some fn) :
    false = Tryz.pinned.checked.prog.looks [] ∧ ∀ (j : Nat) t, fn.params[j]? = some t → Tryz.pinned.checked.prog.wantsStandIn t = false := by
  obtain rfl : f = 5 := Option.some.inj ((show Tryz.prog.funcNamed "mandate/mandatekeep.Spaced" = some 5 by kernel_rfl).symm.trans hf) |>.symm
  obtain rfl : fn = Tryz.f5 := (Option.some.inj (Tryz.func5.symm.trans hfn)).symm
  refine ⟨by kernel_rfl, fun j t ht => ?_⟩
  rw [Tryz.params5] at ht
  have h3 : Tryz.prog.wantsStandIn 3 = false := by kernel_rfl
  have h25 : Tryz.prog.wantsStandIn 25 = false := by kernel_rfl
  have h : t ∈ ([3, 3, 25, 25, 25, 3, 3, 3, 3] : List TypeId) := by simpa using Array.mem_of_getElem? ht
  have h' : t = 3 ∨ t = 25 ∨ t = 3 := by simpa using h
  rcases h' with rfl | rfl | rfl
  · exact h3
  · exact h25
  · exact h3

theorem card : Rows.SpacedCardSaid :=
  Claim7.holds_tied_plain_at .later [] _ _ _ _ said (fun _ h => by cases h) (by kernel_rfl) (fun _ h => by cases h) spaced_row_tie rfl ⟨rfl, rfl⟩ (by kernel_rfl) rfl plain (by kernel_rfl)
end Go.Proofs.YtkmkkmdpjliifaaGreatDoor.spaced
namespace Go.Proofs.YtkmkkmdpjliifaaGreatDoor
theorem spacedHolds : Rows.SpacedCardSaid := spaced.card
end Go.Proofs.YtkmkkmdpjliifaaGreatDoor
