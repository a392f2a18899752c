/- The law Forged, second form: on every raw steps, text and numbers of bulk at most 1,048,576 it returns true, and what was there before the call is as it was. -/
import Derived.Test.YtkmkkmdpjliifaaGreatDoorMiCF
import Derived.Test.YtkmkkmdpjliifaaGreatDoorTrH
import Derived.Test.YtkmkkmdpjliifaaGreatDoorFoK
namespace Go.Proofs.YtkmkkmdpjliifaaGreatDoor.forged
open Go.ChangeShapes Go.WideShapes Go.ChangeAt Go.RowKit Go.Shelf
open Go.ChangeMaps (open_string)
open lf

theorem laid_eq : Rows.forgedUptoRow.laid = laid6 := by
  unfold laid6
  rw [← accept_eq, ← first_eq, ← pow_eq, ← words_eq]; rfl
set_option maxRecDepth 100000 in
theorem contract (H : Type) (enc : TypeId × Value → H) (F : Stop.Interp) (W : World) (base : Nat) (args : Array Value) (ds gs : List (DataW H)) (before : List MemPlace)
    (hval : ∀ (j : Nat) t v, Tryz.f8.params[j]? = some t → args[j]? = some v → Value.okWide Tryz.prog W .any base t v)
    (hW : DataW.Whole enc Tryz.prog Tryz.f8.params.toList (Rows.OpenSpec.upto Rows.forgedSpec).vars false W args.toList ds gs before)
    (hk : Rows.uptoSmall H (ds ++ gs) = true)
    (hsz : (DataW.weightsEach Tryz.prog (Tryz.f8.params.toList ++ (Rows.OpenSpec.upto Rows.forgedSpec).bare.plain.varTypes Tryz.prog) (ds ++ gs)).all (· ≤ reachBytes) = true) (hL : laidMetH Tryz.prog Rows.forgedUptoRow.laid W) (hsh : W.ShapedOpen Tryz.prog) :
    Calls Tryz.prog 8 args W fun e W' => ∃ v, e = .returned v ∧ ((Rows.OpenSpec.upto Rows.forgedSpec).at F).post enc Tryz.prog Tryz.f8 false true false false W args v W' := by
  have hW' := hW
  obtain ⟨p, q, hA0, hV, rfl, hfz, hnd⟩ := hW
  have hA : DataW.TrodAll enc Tryz.prog W 0 (fun _ => true) true Tryz.f8.params.toList args.toList ds p := hA0
  rw [Tryz.params8] at hA hval hsz
  obtain ⟨v0, vs0, d0, ds0, p0, q0, hargs0, rfl, rfl, h0, r0⟩ := trodAll_cons hA
  obtain ⟨v1, vs1, d1, ds1, p1, q1, hargs1, rfl, rfl, h1, r1⟩ := trodAll_cons r0
  obtain ⟨v2, vs2, d2, ds2, p2, q2, hargs2, rfl, rfl, h2, r2⟩ := trodAll_cons r1
  obtain ⟨v3, vs3, d3, ds3, p3, q3, hargs3, rfl, rfl, h3, r3⟩ := trodAll_cons r2
  obtain ⟨v4, vs4, d4, ds4, p4, q4, hargs4, rfl, rfl, h4, r4⟩ := trodAll_cons r3
  obtain ⟨v5, vs5, d5, ds5, p5, q5, hargs5, rfl, rfl, h5, r5⟩ := trodAll_cons r4
  obtain ⟨v6, vs6, d6, ds6, p6, q6, hargs6, rfl, rfl, h6, r6⟩ := trodAll_cons r5
  obtain ⟨v7, vs7, d7, ds7, p7, q7, hargs7, rfl, rfl, h7, r7⟩ := trodAll_cons r6
  obtain ⟨rfl, rfl, rfl⟩ := trodAll_nil r7
  obtain rfl : args = #[v0, v1, v2, v3, v4, v5, v6, v7] := Array.toList_inj.1 (by simp only [hargs0, hargs1, hargs2, hargs3, hargs4, hargs5, hargs6, hargs7])
  obtain ⟨rfl, rfl⟩ := trodVars_none hV
  obtain ⟨a0, n0, c0, rfl⟩ := okWide_slice under72' (hval 0 72 v0 (by simp) (by simp))
  obtain ⟨a5, n5, c5, rfl⟩ := okWide_slice (show Tryz.prog.underlying 25 = some (.slice 3) by kernel_rfl) (hval 5 25 v5 (by simp) (by simp))
  have h0' := h0
  have h1' := h1
  have h2' := h2
  have h3' := h3
  have h4' := h4
  have h5' := h5
  have h6' := h6
  have h7' := h7
  have hw0 : ∀ n ∈ d0.weights Tryz.prog 72, n ≤ reachBytes := fun n hn => of_decide_eq_true (List.all_eq_true.1 hsz n (DataW.weights_mem_each (j := 0) (t := 72) rfl rfl n hn))
  have hw5 : ∀ n ∈ d5.weights Tryz.prog 25, n ≤ reachBytes := fun n hn => of_decide_eq_true (List.all_eq_true.1 hsz n (DataW.weights_mem_each (j := 5) (t := 25) rfl rfl n hn))
  obtain ⟨m1, rfl, rfl, rfl, w1⟩ := open_int Tryz.underlying3 (hval 1 3 v1 (by simp) (by simp)) h1
  obtain ⟨s2, rfl, rfl, rfl, -⟩ := open_string Tryz.underlying9 (hval 2 9 v2 (by simp) (by simp)) h2
  obtain ⟨m3, rfl, rfl, rfl, w3⟩ := open_int Tryz.underlying3 (hval 3 3 v3 (by simp) (by simp)) h3
  obtain ⟨m4, rfl, rfl, rfl, w4⟩ := open_int Tryz.underlying3 (hval 4 3 v4 (by simp) (by simp)) h4
  obtain ⟨m6, rfl, rfl, rfl, w6⟩ := open_int Tryz.underlying3 (hval 6 3 v6 (by simp) (by simp)) h6
  obtain ⟨m7, rfl, rfl, rfl, w7⟩ := open_int Tryz.underlying3 (hval 7 3 v7 (by simp) (by simp)) h7
  have hk' : Rows.uptoBulkAll ([d0, DataW.lit (.int .i64 m1), DataW.lit (.string s2.data.toList), DataW.lit (.int .i64 m3), DataW.lit (.int .i64 m4), d5, DataW.lit (.int .i64 m6), DataW.lit (.int .i64 m7)] ++ []) ≤ 1048576 := of_decide_eq_true hk
  simp only [List.append_nil, Rows.uptoBulkAll, Rows.uptoBulk] at hk'
  have hx : s2.data.toList.length ≤ 1048576 := by omega
  obtain ⟨fu0, hf0⟩ := h0
  obtain ⟨b0, e0, l0, ec0, hI0, hn0⟩ := open_steps hf0 hw0
  simp [Value.cells] at ec0
  obtain ⟨rfl, rfl, rfl⟩ := ec0
  obtain ⟨fu5, hf5⟩ := h5
  obtain ⟨b5, e5, l5, ec5, hI5, hn5⟩ := open_nums hf5 hw5
  simp [Value.cells] at ec5
  obtain ⟨rfl, rfl, rfl⟩ := ec5
  rw [laid_eq] at hL
  have hc := Forged_any _ l0 m1 s2.data.toList m3 m4 _ l5 m6 m7 W (lf.tt hL hsh) (wf64 w1) (wf64 w3) (wf64 w4) (wf64 w6) (wf64 w7) hn0 hI0 hx hn5 hI5
  rw [whole_of'] at hc
  refine hc.mono fun e W' ⟨he, hB⟩ => ?_
  subst he
  have z0 : ∀ x ∈ p0, x.block < W.heap.size := fun x hx => hW'.lt x (by simp [hx])
  have z5 : ∀ x ∈ p5, x.block < W.heap.size := fun x hx => hW'.lt x (by simp [hx])
  refine ⟨_, rfl, _, _, _, [], p0 ++ ([] ++ ([] ++ ([] ++ ([] ++ (p5 ++ ([] ++ ([] ++ []))))))), [], hW', ?_, ?_, ?_, hB.frame _, fun h => by cases h⟩
  · exact trodAll_cons_mk (shut_bool Tryz.underlying4 _) trodAll_mk0
  · exact trodAll_cons_mk (Below.trod laidOut read72 (of_decide_eq_true (by kernel_rfl)) h0' hB z0) (trodAll_cons_mk (Below.trod laidOut read3 (of_decide_eq_true (by kernel_rfl)) h1' hB (fun x hx => by cases hx)) (trodAll_cons_mk (Below.trod laidOut read9 (of_decide_eq_true (by kernel_rfl)) h2' hB (fun x hx => by cases hx)) (trodAll_cons_mk (Below.trod laidOut read3 (of_decide_eq_true (by kernel_rfl)) h3' hB (fun x hx => by cases hx)) (trodAll_cons_mk (Below.trod laidOut read3 (of_decide_eq_true (by kernel_rfl)) h4' hB (fun x hx => by cases hx)) (trodAll_cons_mk (Below.trod laidOut read25 (of_decide_eq_true (by kernel_rfl)) h5' hB z5) (trodAll_cons_mk (Below.trod laidOut read3 (of_decide_eq_true (by kernel_rfl)) h6' hB (fun x hx => by cases hx)) (trodAll_cons_mk (Below.trod laidOut read3 (of_decide_eq_true (by kernel_rfl)) h7' hB (fun x hx => by cases hx)) trodAll_mk0)))))))
  · rfl

def argv : Array Value := #[.slice none 0 0, .int .i64 0, .string .empty, .int .i64 0, .int .i64 0, .slice none 0 0, .int .i64 0, .int .i64 0]
theorem laid_met (os : Os) : laidMet Tryz.prog Rows.forgedUptoRow.laid ((laidIn (World.holding Tryz.prog os ⟨#[], #[], []⟩)).forCall (fun _ _ => 0) ⟨#[], argv, []⟩).memory :=
  laidMet_of_run' 8 (by kernel_rfl) (by kernel_rfl)
theorem reads (os : Os) {H : Type} (enc : TypeId × Value → H) : ∃ places, DataW.whole enc Tryz.prog ((laidIn (World.holding Tryz.prog os ⟨#[], #[], []⟩)).forCall (fun _ _ => 0) ⟨#[], argv, []⟩).memory Tryz.f8.params.toList (Rows.OpenSpec.upto Rows.forgedSpec).vars false argv.toList 8 = some ([.nil, .lit (.int .i64 0), .lit (.string []), .lit (.int .i64 0), .lit (.int .i64 0), .nil, .lit (.int .i64 0), .lit (.int .i64 0)], [], places) :=
  ⟨[], by kernel_rfl⟩

set_option maxRecDepth 100000 in
theorem lifted (os : Os) (started : os.Started) (H : Type) (enc : TypeId × Value → H) (F : Stop.Interp) :
    ReturnsInHanded {} Tryz.checked os 8 .any ((Rows.OpenSpec.upto Rows.forgedSpec).preRow enc Tryz.prog Tryz.f8 Rows.forgedUptoRow.domain false Rows.forgedUptoRow.laid) (((Rows.OpenSpec.upto Rows.forgedSpec).at F).post enc Tryz.prog Tryz.f8 false true false false) := by
  obtain ⟨places, hx⟩ := reads os enc
  refine returnsInHanded_of_row (C := Tryz.checked) (s := Rows.OpenSpec.upto Rows.forgedSpec) own started (by kernel_rfl) Tryz.func8
    (witness_row_at (enc := enc) (C := Tryz.checked) false (laidIn (World.holding Tryz.prog os ⟨#[], #[], []⟩)) argv rfl (by kernel_rfl) (by kernel_rfl) (by kernel_rfl)
      (OpenSpec.preRow_of_cond 8 hx (by kernel_rfl) (fun k hk => by cases hk; kernel_rfl) (by kernel_rfl) (laid_met os))) ?_
  intro W base args ds gs before hval hW _ hcond hsz hL hsh _
  exact contract H enc F W base args ds gs before hval hW (hcond _ rfl) hsz hL hsh

theorem said : Rows.ForgedUptoSaid :=
  OpenClaim.holds_of_cond 8 Tryz.f8 rfl rfl rfl rfl rfl rfl rfl ⟨rfl, rfl, rfl, rfl, rfl⟩ rfl rfl rfl rfl rfl (by kernel_rfl) Tryz.func8 (by kernel_rfl)
    (of_decide_eq_true (by kernel_rfl)) (by unfold Func.isWrapper; first | (rw [if_pos (by decide +kernel)]; kernel_rfl) | (rw [if_neg (by decide +kernel)]; exact ⟨rfl, rfl⟩))
    (fun os started H enc _ F => by rw [OpenClaim.pre_eq_preRow]; exact lifted os started H enc F)

theorem plain (f : FuncId) (fn : Func) (hf : Tryz.pinned.checked.prog.funcNamed "mandate/mandatekeep.Forged" = some f) (hfn : Tryz.pinned.checked.prog.funcs[f]? = some fn) :
    false = Tryz.pinned.checked.prog.looks [] ∧ ∀ (j : Nat) t, fn.params[j]? = some t → Tryz.pinned.checked.prog.wantsStandIn t = false := by
  obtain rfl : f = 8 := Option.some.inj ((show Tryz.prog.funcNamed "mandate/mandatekeep.Forged" = some 8 by kernel_rfl).symm.trans hf) |>.symm
  obtain rfl : fn = Tryz.f8 := (Option.some.inj (Tryz.func8.symm.trans hfn)).symm
  refine ⟨by kernel_rfl, fun j t ht => ?_⟩
  rw [Tryz.params8] at ht
  have h3 : Tryz.prog.wantsStandIn 3 = false := by kernel_rfl
  have h9 : Tryz.prog.wantsStandIn 9 = false := by kernel_rfl
  have h25 : Tryz.prog.wantsStandIn 25 = false := by kernel_rfl
  have h72 : Tryz.prog.wantsStandIn 72 = false := by kernel_rfl
  have h : t ∈ ([72, 3, 9, 3, 3, 25, 3, 3] : List TypeId) := by simpa using Array.mem_of_getElem? ht
  rcases h with _ | ⟨_, h⟩
  · exact h72
  rcases h with _ | ⟨_, h⟩
  · exact h3
  rcases h with _ | ⟨_, h⟩
  · exact h9
  rcases h with _ | ⟨_, h⟩
  · exact h3
  rcases h with _ | ⟨_, h⟩
  · exact h3
  rcases h with _ | ⟨_, h⟩
  · exact h25
  rcases h with _ | ⟨_, h⟩
  · exact h3
  rcases h with _ | ⟨_, h⟩
  · exact h3
  cases h

theorem card : Rows.ForgedUptoCardSaid :=
  Claim7.holds_tied_plain_at .later [] _ _ _ _ said (fun _ h => by cases h) (by kernel_rfl) (fun _ h => by cases h) forgedUpto_row_tie rfl ⟨rfl, rfl⟩ (by kernel_rfl) rfl plain (by kernel_rfl)
end Go.Proofs.YtkmkkmdpjliifaaGreatDoor.forged
namespace Go.Proofs.YtkmkkmdpjliifaaGreatDoor
theorem forgedUptoHolds : Rows.ForgedUptoCardSaid := forged.card
end Go.Proofs.YtkmkkmdpjliifaaGreatDoor
