import Derived.Test.YtkmkkmdpjliifaaGreatDoorNxK
namespace Go.Proofs.YtkmkkmdpjliifaaGreatDoor
open Go.ChangeShapes Go.WideShapes Go.ChangeAt Go.RowKit

set_option maxRecDepth 20000 in
set_option maxHeartbeats 2000000 in
theorem newClientN_any (x : Cl) (a2 a3 a4 : Option Addr) (c2 c3 c4 : Nat) (w : World) (B : Nat) (hB : B ≤ w.heap.size) (hS : Small x) (k2 : Ls w B (.slice a2 x.sc.length c2) x.sc) (k3 : Ls w B (.slice a3 x.tg.length c3) x.tg) (k4 : Ls w B (.slice a4 x.ac.length c4) x.ac) :
    Calls Tryz.prog 116 #[.agg #[.string ⟨x.name.toArray⟩, .string ⟨x.secret.toArray⟩, .slice a2 x.sc.length c2, .slice a3 x.tg.length c3, .slice a4 x.ac.length c4]] w fun e w' =>
      ∃ Q, e = .returned (.pointer (some ⟨Q, 0, none⟩)) ∧ ClX w' (New w w') x Q ∧ Below w.heap.size w w' := by
  have HS := hide hS
  obtain ⟨wa, hwa⟩ : ∃ wa, wa = w.alloc (.cells #[.string ⟨x.name.toArray⟩, .string ⟨x.secret.toArray⟩, .slice a2 x.sc.length c2, .slice a3 x.tg.length c3, .slice a4 x.ac.length c4] 37) := ⟨_, rfl⟩
  have hba : Below w.heap.size w wa := by rw [hwa]; exact (Below.refl _ _).alloc (Nat.le_refl _) _
  have k2a := k2.below (hba.mono hB)
  have k3a := k3.below (hba.mono hB)
  have k4a := k4.below (hba.mono hB)
  have hsa : wa.heap.size = w.heap.size + 1 := by rw [hwa]; simp
  have g0 : wa.cell? ⟨w.heap.size, 0, none⟩ = some (.string ⟨x.name.toArray⟩) := by rw [hwa]; simp
  have g1 : wa.cell? ⟨w.heap.size, 1, none⟩ = some (.string ⟨x.secret.toArray⟩) := by rw [hwa]; simp
  have g2 : wa.cell? ⟨w.heap.size, 2, none⟩ = some (.slice a2 x.sc.length c2) := by rw [hwa]; simp
  have g3 : wa.cell? ⟨w.heap.size, 3, none⟩ = some (.slice a3 x.tg.length c3) := by rw [hwa]; simp
  have g4 : wa.cell? ⟨w.heap.size, 4, none⟩ = some (.slice a4 x.ac.length c4) := by rw [hwa]; simp
  have HWA := hide hwa
  have K2 := hide k2a
  have K3 := hide k3a
  have K4 := hide k4a
  clear hS k2 k3 k4 hwa k2a k3a k4a
  go_enter Tryz.func116, Tryz.ntmps116
  go_wp2
  rw [← unhide HWA]
  clear HWA
  generalize hxn : x.name = xn at g0 ⊢
  generalize hxs : x.secret = xs at g1 ⊢
  have HXS := hide hxs
  clear hxs
  have HXN := hide hxn
  clear hxn
  go_region_held3 (fun w' => w'.cell? ⟨w.heap.size, 0, none⟩ = some (.string ⟨xn.toArray⟩) ∧ w'.cell? ⟨w.heap.size, 1, none⟩ = some (.string ⟨xs.toArray⟩) ∧ w'.cell? ⟨w.heap.size, 2, none⟩ = some (.slice a2 x.sc.length c2) ∧ w'.cell? ⟨w.heap.size, 3, none⟩ = some (.slice a3 x.tg.length c3) ∧ w'.cell? ⟨w.heap.size, 4, none⟩ = some (.slice a4 x.ac.length c4)) (go_keep)
    (first
      | (go_at_call_of 153 (Value.slice a2 x.sc.length c2); refine (isAmongN_any _ x.sc _ B (by simp; omega) (unhide HS).1 (unhide K2).drew).mono ?_; rintro e w1 ⟨p1, rfl, hL1, hb1⟩; have hs1 := hb1.size; have u0 := (hb1.cell (p := ⟨w.heap.size, 0, none⟩) (by show w.heap.size < wa.heap.size; omega)).trans g0; have u1 := (hb1.cell (p := ⟨w.heap.size, 1, none⟩) (by show w.heap.size < wa.heap.size; omega)).trans g1; have u2 := (hb1.cell (p := ⟨w.heap.size, 2, none⟩) (by show w.heap.size < wa.heap.size; omega)).trans g2; have u3 := (hb1.cell (p := ⟨w.heap.size, 3, none⟩) (by show w.heap.size < wa.heap.size; omega)).trans g3; have u4 := (hb1.cell (p := ⟨w.heap.size, 4, none⟩) (by show w.heap.size < wa.heap.size; omega)).trans g4; have K31 := hide ((unhide K3).drew.below (hb1.mono (show B ≤ wa.heap.size by omega))); have K41 := hide ((unhide K4).drew.below (hb1.mono (show B ≤ wa.heap.size by omega))))
      | (go_at_call_of 153 (Value.slice a3 x.tg.length c3); refine (isAmongN_any _ x.tg _ B (show B ≤ w1.heap.size by have hq : wa.heap.size ≤ w1.heap.size := hs1; omega) (unhide HS).2.1 (unhide K31)).mono ?_; rintro e w2 ⟨p2, rfl, hL2, hb2⟩; have hs2 := hb2.size; have hq1 : wa.heap.size ≤ w1.heap.size := hs1; have y0 := (hb2.cell (p := ⟨w.heap.size, 0, none⟩) (by show w.heap.size < w1.heap.size; omega)).trans u0; have y1 := (hb2.cell (p := ⟨w.heap.size, 1, none⟩) (by show w.heap.size < w1.heap.size; omega)).trans u1; have y2 := (hb2.cell (p := ⟨w.heap.size, 2, none⟩) (by show w.heap.size < w1.heap.size; omega)).trans u2; have y3 := (hb2.cell (p := ⟨w.heap.size, 3, none⟩) (by show w.heap.size < w1.heap.size; omega)).trans u3; have y4 := (hb2.cell (p := ⟨w.heap.size, 4, none⟩) (by show w.heap.size < w1.heap.size; omega)).trans u4; have K42 := hide ((unhide K41).below (hb2.mono (show B ≤ w1.heap.size by omega))))
      | (go_at_call_of 153 (Value.slice a4 x.ac.length c4); refine (isAmongN_any _ x.ac _ B (show B ≤ w2.heap.size by have hq : wa.heap.size ≤ w1.heap.size := hs1; have hq2 : w1.heap.size ≤ w2.heap.size := hs2; omega) (unhide HS).2.2 (unhide K42)).mono ?_; rintro e w3 ⟨p3, rfl, hL3, hb3⟩; have hs3 := hb3.size; have hq2 : w1.heap.size ≤ w2.heap.size := hs2; have z0 := (hb3.cell (p := ⟨w.heap.size, 0, none⟩) (by show w.heap.size < w2.heap.size; omega)).trans y0; have z1 := (hb3.cell (p := ⟨w.heap.size, 1, none⟩) (by show w.heap.size < w2.heap.size; omega)).trans y1; have z2 := (hb3.cell (p := ⟨w.heap.size, 2, none⟩) (by show w.heap.size < w2.heap.size; omega)).trans y2; have z3 := (hb3.cell (p := ⟨w.heap.size, 3, none⟩) (by show w.heap.size < w2.heap.size; omega)).trans y3; have z4 := (hb3.cell (p := ⟨w.heap.size, 4, none⟩) (by show w.heap.size < w2.heap.size; omega)).trans y4))
  go_wp2
  go_ret
  have hq3 : w2.heap.size ≤ w3.heap.size := hs3
  have hbA : ∀ o, Below w3.heap.size w3 (w3.alloc o) := fun o => (Below.refl w3.heap.size w3).alloc (Nat.le_refl _) o
  refine ⟨w3.heap.size, rfl, ⟨⟨by omega, by simp⟩, p1, p2, p3, fun j hj => ?_, ?_, ?_, ?_, ⟨_, heap_alloc_new w3 _⟩⟩, ?_⟩
  · unfold cliF
    rw [unhide HXN, unhide HXS]
    rcases (show j = 0 ∨ j = 1 ∨ j = 2 ∨ j = 3 ∨ j = 4 by omega) with rfl | rfl | rfl | rfl | rfl <;> simp
  · exact ((hL1.keep (New.below hb2)).keep (New.below hb3)).keep (fun k h => ⟨(hbA _).block k h.2, by show w.heap.size ≤ k; have := h.1; have : wa.heap.size ≤ k := this; omega, Nat.lt_of_lt_of_le h.2 (hbA _).size⟩)
  · exact (hL2.keep (New.below hb3)).keep (fun k h => ⟨(hbA _).block k h.2, by show w.heap.size ≤ k; have : w1.heap.size ≤ k := h.1; have : wa.heap.size ≤ w1.heap.size := hs1; omega, Nat.lt_of_lt_of_le h.2 (hbA _).size⟩)
  · exact hL3.keep (fun k h => ⟨(hbA _).block k h.2, by show w.heap.size ≤ k; have : w2.heap.size ≤ k := h.1; have : wa.heap.size ≤ w1.heap.size := hs1; have : w1.heap.size ≤ w2.heap.size := hs2; omega, Nat.lt_of_lt_of_le h.2 (hbA _).size⟩)
  · exact Below.alloc (((hba.drew.trans (hb1.mono (show w.heap.size ≤ wa.heap.size by omega))).trans (hb2.mono (by omega))).trans (hb3.mono (by omega))) (by omega) _
end Go.Proofs.YtkmkkmdpjliifaaGreatDoor
namespace Go.Proofs.YtkmkkmdpjliifaaGreatDoor
open Go.ChangeShapes Go.WideShapes Go.ChangeAt Go.RowKit

theorem info120 : (Tryz.prog.info? 120).map (fun i => (i.zero, i.size, i.bytes)) = some (some (.pointer none), 1, 8) := by kernel_rfl
theorem foundC_no {cs : List Cl} {k : Nat} {y : List UInt8} {Qs : List Nat} (h : FoundC cs k y (.pointer none) Qs) : (List.range k).all (fun j => clName cs j != y) = true := by
  rcases h with ⟨_, hA⟩ | ⟨m, q, he, _⟩
  · exact all_true hA
  · cases he
theorem foundC_yes {cs : List Cl} {k : Nat} {y : List UInt8} {Qs : List Nat} {p : Value} (h : FoundC cs k y p Qs) (hp : p ≠ .pointer none) : (List.range k).all (fun j => clName cs j != y) = false := by
  rcases h with ⟨he, _⟩ | ⟨m, q, _, hm, _, he, _⟩
  · exact absurd he hp
  · refine all_false hm ?_
    simp at he
    simp [he]
/-- a block of a roster's, but for the row of its clients -/
def RN (w : World) (R : Nat) (vs : Value) (k : Nat) : Prop := R < k ∧ k < w.heap.size ∧ some k ≠ vs.ownBlock
/-- the clients of a roster: where they lie -/
def RosN (w : World) (cs : List Cl) (R : Nat) (vs : Value) (k : Nat) (Qs : List Nat) : Prop := Qs.length = k ∧ ∀ j q, Qs[j]? = some q → ClX w (RN w R vs) (cs.getD j default) q
theorem RosN.below {w w' : World} {cs : List Cl} {R : Nat} {vs : Value} {k : Nat} {Qs : List Nat} (h : RosN w cs R vs k Qs) (hb : Below w.heap.size w w') : RosN w' cs R vs k Qs :=
  ⟨h.1, fun j q hq => (h.2 j q hq).keep (fun m hm => ⟨hb.block m hm.2.1, hm.1, Nat.lt_of_lt_of_le hm.2.1 hb.size, hm.2.2⟩)⟩
theorem RosN.name {w : World} {cs : List Cl} {R : Nat} {vs : Value} {k : Nat} {Qs : List Nat} (h : RosN w cs R vs k Qs) : ∀ j q, Qs[j]? = some q → w.cell? ⟨q, 0, none⟩ = some (sv (clName cs j)) := fun j q hq => (h.2 j q hq).name

theorem roster_stepN {w w2 w3 w4 : World} {cs : List Cl} {k Q g4 d4 : Nat} {Qs : List Nat} {vs : Value} {x : Cl} {ob : Obj} (hs : w.heap.size + 1 ≤ w2.heap.size) (hb2 : Below w.heap.size w w2) (hs3 : w2.heap.size ≤ w3.heap.size) (hb3 : Below w2.drew.heap.size w2.drew w3)
    (hR3 : Row w3 w.heap.size 176 1 (fun _ => vs)) (hO : w2.ownsRow (w.heap.size + 1) 120 1 vs k (ptrs Qs)) (hQ : RosN w2 cs w.heap.size vs k Qs) (hQc : ClX w3 (New w2.drew w3) x Q) (hnm : cs.getD k default = x)
    (ho4 : w4.ownsRow (w.heap.size + 1) 120 1 (.slice (some ⟨g4, 0, none⟩) (k + 1) d4) (k + 1) (ptrs Qs ++ [.pointer (some ⟨Q, 0, none⟩)])) (hg4 : (w3.alloc ob).grownBy w4 vs.ownBlock) (hat4 : vs.ownBlock = some g4 ∨ g4 = (w3.alloc ob).heap.size) :
    Row (w4.setCell ⟨w.heap.size, 0, none⟩ (.slice (some ⟨g4, 0, none⟩) (k + 1) d4)) w.heap.size 176 1 (fun _ => .slice (some ⟨g4, 0, none⟩) (k + 1) d4) ∧
    (w4.setCell ⟨w.heap.size, 0, none⟩ (.slice (some ⟨g4, 0, none⟩) (k + 1) d4)).ownsRow (w.heap.size + 1) 120 1 (.slice (some ⟨g4, 0, none⟩) (k + 1) d4) (k + 1) (ptrs (Qs ++ [Q])) ∧
    RosN (w4.setCell ⟨w.heap.size, 0, none⟩ (.slice (some ⟨g4, 0, none⟩) (k + 1) d4)) cs w.heap.size (.slice (some ⟨g4, 0, none⟩) (k + 1) d4) (k + 1) (Qs ++ [Q]) ∧
    w.heap.size + 1 ≤ (w4.setCell ⟨w.heap.size, 0, none⟩ (.slice (some ⟨g4, 0, none⟩) (k + 1) d4)).heap.size ∧ Below w.heap.size w (w4.setCell ⟨w.heap.size, 0, none⟩ (.slice (some ⟨g4, 0, none⟩) (k + 1) d4)) := by
  have hlt := hO.lt
  have hsz : w3.heap.size + 1 ≤ w4.heap.size := by have := hg4.size; simpa using this
  have hat : vs.ownBlock = some g4 ∨ g4 = w3.heap.size + 1 := by simpa using hat4
  have hneR : some w.heap.size ≠ vs.ownBlock := fun e => by have := hlt _ e.symm; omega
  have hR4 : Row w4 w.heap.size 176 1 (fun _ => vs) := rowGrown (hR3.alloc ob) hg4 hneR
  have key : ∀ m, w.heap.size < m → m < w3.heap.size → some m ≠ vs.ownBlock → (w4.setCell ⟨w.heap.size, 0, none⟩ (.slice (some ⟨g4, 0, none⟩) (k + 1) d4)).heap[m]? = w3.heap[m]? ∧ RN (w4.setCell ⟨w.heap.size, 0, none⟩ (.slice (some ⟨g4, 0, none⟩) (k + 1) d4)) w.heap.size (.slice (some ⟨g4, 0, none⟩) (k + 1) d4) m := by
    intro m h1 h2 h3
    refine ⟨?_, h1, by simp [World.setCell]; omega, ?_⟩
    · rw [Below.heap_setCell _ _ _ _ (show m ≠ w.heap.size by omega), hg4.block m (by simp; omega) h3]
      exact ((Below.refl w3.heap.size w3).alloc (Nat.le_refl _) ob).block m h2
    · show some m ≠ some g4
      intro e
      injection e with e
      rcases hat with h | h
      · exact h3 (by rw [e]; exact h.symm)
      · omega
  refine ⟨(hR4.set 0 _).congr (fun j hj => by rw [if_pos (by omega)]), ?_, ⟨by rw [List.length_append, hQ.1]; rfl, fun j q hq => ?_⟩, by simp [World.setCell]; omega, ?_⟩
  · have e : ptrs (Qs ++ [Q]) = ptrs Qs ++ [.pointer (some ⟨Q, 0, none⟩)] := by simp [ptrs]
    rw [e]
    exact ownsRow_setCell_below ho4 (by simp) _
  · by_cases hj : j < k
    · rw [List.getElem?_append_left (by rw [hQ.1]; exact hj)] at hq
      refine (hQ.2 j q hq).keep (fun m hm => ?_)
      obtain ⟨e1, e2⟩ := key m hm.1 (by have := hm.2.1; omega) hm.2.2
      exact ⟨e1.trans (hb3.block m hm.2.1), e2⟩
    · have hjk : j = k := by
        have : j < (Qs ++ [Q]).length := by
          rcases Nat.lt_or_ge j (Qs ++ [Q]).length with h | h
          · exact h
          · rw [List.getElem?_eq_none h] at hq; cases hq
        rw [List.length_append, hQ.1] at this
        simp at this
        omega
      subst hjk
      rw [List.getElem?_append_right (by rw [hQ.1]; exact Nat.le_refl _), hQ.1, Nat.sub_self] at hq
      have e : Q = q := by simpa using hq
      subst e
      rw [hnm]
      refine hQc.keep (fun m hm => ?_)
      have h1 : w2.heap.size ≤ m := hm.1
      exact key m (by omega) hm.2 (fun e => by have := hlt _ e.symm; omega)
  · refine Below.setCell (Below.grown ((hb2.drew.trans (hb3.mono (by show w.heap.size ≤ w2.heap.size; omega))).alloc (by omega) ob) hg4 (by simp; omega) (fun j hj => ?_)) (Nat.le_refl _) _
    have := hlt j hj; omega

set_option maxRecDepth 20000 in
set_option maxHeartbeats 2000000 in
theorem rosterN_any (v : Value) (cs : List Cl) (w : World) (B : Nat) (hB : B ≤ w.heap.size) (hF : CFits cs) (hv : Cs w B v cs) (hT : UT w) :
    Calls Tryz.prog 80 #[v] w fun e w' => Below w.heap.size w w' ∧
      ((clientsB cs = false ∧ e = .returned (.tuple #[.pointer none, .int .i64 1])) ∨ (clientsB cs = true ∧ ∃ vs Qs, e = .returned (.tuple #[.pointer (some ⟨w.heap.size, 0, none⟩), .int .i64 0]) ∧ Row w' w.heap.size 176 1 (fun _ => vs) ∧ w'.ownsRow (w.heap.size + 1) 120 1 vs cs.length (ptrs Qs) ∧ RosN w' cs w.heap.size vs cs.length Qs)) := by
  obtain ⟨a, c, rfl, hv⟩ := hv
  have HV := hide hv
  have HF := hide hF
  have HT := hide hT
  clear hv hF hT
  by_cases hn : cs.length ≤ 8
  · have p8 : ¬ (8 : Int) < (cs.length : Int) := by omega
    go_enter Tryz.func80, Tryz.ntmps80
    go_wp2
    go_loopg [14] cs.length (fun q i wr => ∃ (k : Nat) (vs : Value) (Qs : List Nat), k + q = cs.length ∧ i = .int .i64 (k : Nat) ∧ (∀ j, j < k → clOk cs j = true) ∧ Row wr w.heap.size 176 1 (fun _ => vs) ∧
      wr.ownsRow (w.heap.size + 1) 120 1 vs k (ptrs Qs) ∧ RosN wr cs w.heap.size vs k Qs ∧ w.heap.size + 1 ≤ wr.heap.size ∧ Below w.heap.size w wr)
    case atStart =>
      refine ⟨0, .slice none 0 0, [], Nat.zero_add _, rfl, fun j hj => absurd hj (Nat.not_lt_zero _), Row.new w 176 _ _ 1 rfl (fun j hj => by rw [show j = 0 by omega]; rfl), World.ownsRow_nil _ _ _ _, ⟨rfl, fun j q hq => by simp at hq⟩, by simp, (Below.refl _ _).alloc (Nat.le_refl _) _⟩
    case round =>
      obtain ⟨k, vs, Qs, hk, rfl, hA, hR, hown, hQ, hZ, hb⟩ := hrel
      have HA := hide hA
      clear hA
      by_cases hlt : k < cs.length
      · have hw : wrap64 ((k : Int) + 1) = (k : Int) + 1 := w64 _ (by omega) (by omega)
        obtain ⟨g, o, rfl, hg, hC⟩ := unhide HV (by omega)
        have hx := (hC k hlt).below (hb.mono hB) hg
        have hok : clOk cs k = (clGood (cs.getD k default) && (List.range k).all (fun j => clName cs j != (cs.getD k default).name)) := rfl
        have hfit := unhide HF k hlt
        clear hC
        obtain ⟨x, hxx⟩ : ∃ x, cs.getD k default = x := ⟨_, rfl⟩
        rw [hxx] at hx hok hfit
        have hnm := hxx
        clear hxx
        have HO := hide hok
        have HFt := hide hfit
        have HNM := hide hnm
        clear hok hfit hnm
        obtain ⟨h0, h1, ⟨a2, c2, h2, k2⟩, ⟨a3, c3, h3, k3⟩, a4, c4, h4, k4⟩ := hx
        rw [sv_def] at h0 h1
        have hkl : (k : Int) < cs.length := by omega
        generalize hgd : clGood x = b1 at HO
        have HG := hide hgd
        clear hgd
        obtain ⟨wa, hwa⟩ : ∃ wa, wa = wr.alloc (.cells #[.string ⟨x.name.toArray⟩, .string ⟨x.secret.toArray⟩, .slice a2 x.sc.length c2, .slice a3 x.tg.length c3, .slice a4 x.ac.length c4] 37) := ⟨_, rfl⟩
        have hsa : wa.heap.size = wr.heap.size + 1 := by rw [hwa]; simp
        have hba : Below wr.heap.size wr wa := by rw [hwa]; exact (Below.refl _ _).alloc (Nat.le_refl _) _
        have HWA := hide hwa
        have HNL := hide (show some wr.heap.size ≠ vs.ownBlock from fun e => by have := hown.lt _ e.symm; omega)
        have HNR := hide (show some w.heap.size ≠ vs.ownBlock from fun e => by have := hown.lt _ e.symm; omega)
        have HR := hide hR
        have HOW := hide hown
        have HQQ := hide hQ
        have K2 := hide k2
        have K3 := hide k3
        have K4 := hide k4
        clear hwa hR hown hQ k2 k3 k4
        go_wp2_with (go_at_call 114; rw [← unhide HWA])
        have hl0 : wa.cell? ⟨wr.heap.size, 0, none⟩ = some (.string ⟨x.name.toArray⟩) := by rw [unhide HWA]; simp
        have hl1 : wa.cell? ⟨wr.heap.size, 1, none⟩ = some (.string ⟨x.secret.toArray⟩) := by rw [unhide HWA]; simp
        have hl2 : wa.cell? ⟨wr.heap.size, 2, none⟩ = some (.slice a2 x.sc.length c2) := by rw [unhide HWA]; simp
        have hl3 : wa.cell? ⟨wr.heap.size, 3, none⟩ = some (.slice a3 x.tg.length c3) := by rw [unhide HWA]; simp
        have hl4 : wa.cell? ⟨wr.heap.size, 4, none⟩ = some (.slice a4 x.ac.length c4) := by rw [unhide HWA]; simp
        clear HWA h0 h1 h2 h3 h4
        have hsr := hb.size
        have hbB : Below B wr wa := hba.mono (by omega)
        have HTr := hide ((unhide HT).below (show 2 < w.heap.size from (unhide HT).lt) (hb.trans (hba.mono hsr)))
        refine (isClient_any x a2 a3 a4 c2 c3 c4 wa B (by omega) (unhide HFt).1 (unhide HFt).2 ((unhide K2).below hbB) ((unhide K3).below hbB) ((unhide K4).below hbB) (unhide HTr)).mono ?_
        rintro e w1 ⟨rfl, hb1⟩
        rw [unhide HG]
        have hs1 := hb1.size
        have hbr1 : Below wr.heap.size wr w1 := hba.trans (hb1.mono (by omega))
        have hbw1 : Below w.heap.size w w1 := hb.trans (hbr1.mono hsr)
        cases b1 with
        | false =>
          go_wp2
          go_ret2
          refine ⟨hbw1, Or.inl ⟨clientsB_bad (all_false hlt ?_), rfl⟩⟩
          rw [unhide HO]; rfl
        | true =>
        have m0 := (hb1.cell (p := ⟨wr.heap.size, 0, none⟩) (by show wr.heap.size < _; omega)).trans hl0
        have m1 := (hb1.cell (p := ⟨wr.heap.size, 1, none⟩) (by show wr.heap.size < _; omega)).trans hl1
        have m2 := (hb1.cell (p := ⟨wr.heap.size, 2, none⟩) (by show wr.heap.size < _; omega)).trans hl2
        have m3 := (hb1.cell (p := ⟨wr.heap.size, 3, none⟩) (by show wr.heap.size < _; omega)).trans hl3
        have m4 := (hb1.cell (p := ⟨wr.heap.size, 4, none⟩) (by show wr.heap.size < _; omega)).trans hl4
        clear hl0 hl1 hl2 hl3 hl4 hba hbB
        have hR1 := (unhide HR).below hbr1 (by omega)
        have ho1 := ownsRow_below (unhide HOW) hbr1 (Nat.le_refl _)
        have hQ1 := (unhide HQQ).below hbr1
        have K21 := hide ((unhide K2).below (hbr1.mono (show B ≤ wr.heap.size by omega)))
        have K31 := hide ((unhide K3).below (hbr1.mono (show B ≤ wr.heap.size by omega)))
        have K41 := hide ((unhide K4).below (hbr1.mono (show B ≤ wr.heap.size by omega)))
        have HR1 := hide hR1
        have HO1 := hide ho1
        have HQ1 := hide hQ1
        have r0 : w1.cell? ⟨w.heap.size, 0, none⟩ = some vs := hR1.cell (j := 0) (by omega)
        clear hR1 ho1 hQ1 HR HOW HQQ K2 K3 K4 HTr hb1
        go_wp2_with (go_at_call 115; refine (findC_any vs cs Qs k x.name w.heap.size _ (w.heap.size + 1) (by omega) (unhide HQ1).1 (unhide HO1) (unhide HQ1).name r0).mono ?_; rintro e w2 ⟨⟨p, rfl, hp⟩, rfl⟩; obtain ⟨po, rfl⟩ : ∃ po, p = .pointer po := by rcases hp with ⟨rfl, _⟩ | ⟨_, q, rfl, _⟩; exact ⟨_, rfl⟩; exact ⟨_, rfl⟩)
        · rename_i hpo
          go_ret2
          refine ⟨hbw1, Or.inl ⟨clientsB_bad (all_false hlt ?_), rfl⟩⟩
          rw [unhide HO, foundC_yes hp (fun e => by injection e with e; rw [e] at hpo; simp at hpo)]; rfl
        · rename_i hpo
          have hpn : po = none := by simpa using hpo
          subst hpn
          have hokk : clOk cs k = true := by rw [unhide HO, foundC_no hp]; rfl
          clear hp hpo HO
          have z0 := (unhide HR1).frozen 0
          obtain ⟨i0, hi, iz0, iz1, iz2⟩ := info_parts info120
          have HI := hide hi
          have HI0 := hide iz0
          have HI1 := hide iz1
          have HI2 := hide iz2
          clear hi iz0 iz1 iz2
          have hwl : w.heap.size < wr.heap.size := by omega
          have hl2' : wr.heap.size < w2.heap.size := by omega
          go_region_law
            (first
              | (refine step_append_lies _ rfl _ _ 174 rfl (w.heap.size + 1) 120 i0 _ 1 8 Tryz.underlying174 (unhide HI) (unhide HI0) (unhide HI1) (unhide HI2) rfl (by decide) vs k (ptrs Qs) rfl ((unhide HO3).alloc _) ⟨w3.heap.size, 0, none⟩ 1 1 [.pointer (some ⟨Q, 0, none⟩)] rfl rfl (World.news_of_block (heap_alloc_new w3 _)) (fun u hu => by simp at hu; rw [hu]; rfl) (by decide) (by unfold maxLen; omega) (by omega) (by simp; omega) _ rfl ?_; intro g4 d4 w4 ho4 hg4 hat4 hlt4; have r4 := (hg4.cell_far ⟨w.heap.size, 0, none⟩ (by simp; omega) (unhide HNR)).trans (hr3a _); have z4 := (hg4.frozen_far ⟨w.heap.size, 0, none⟩ (by simp; omega) (unhide HNR)).trans (((unhide HR3).alloc _).frozen 0); have v0 := (hg4.cell_far ⟨wr.heap.size, 0, none⟩ (by simp; omega) (unhide HNL)).trans (hl3a 0 _ _ n0); have v1 := (hg4.cell_far ⟨wr.heap.size, 1, none⟩ (by simp; omega) (unhide HNL)).trans (hl3a 1 _ _ n1); have v2 := (hg4.cell_far ⟨wr.heap.size, 2, none⟩ (by simp; omega) (unhide HNL)).trans (hl3a 2 _ _ n2); have v3 := (hg4.cell_far ⟨wr.heap.size, 3, none⟩ (by simp; omega) (unhide HNL)).trans (hl3a 3 _ _ n3); have v4 := (hg4.cell_far ⟨wr.heap.size, 4, none⟩ (by simp; omega) (unhide HNL)).trans (hl3a 4 _ _ n4))
              | (go_simp; go_at_call 116; refine (newClientN_any x a2 a3 a4 c2 c3 c4 _ B (by simp; omega) (unhide HFt).1 (unhide K21).drew (unhide K31).drew (unhide K41).drew).mono ?_; rintro e w3 ⟨Q, rfl, hQc, hb3⟩; have hs3 : w2.heap.size ≤ w3.heap.size := hb3.size; have t3 : ∀ (q : Nat), w3.cell? ⟨wr.heap.size, q, none⟩ = w2.cell? ⟨wr.heap.size, q, none⟩ := fun q => hb3.cell (p := ⟨wr.heap.size, q, none⟩) (by show wr.heap.size < w2.heap.size; omega); have n0 := (t3 0).trans m0; have n1 := (t3 1).trans m1; have n2 := (t3 2).trans m2; have n3 := (t3 3).trans m3; have n4 := (t3 4).trans m4; clear t3; have HR3 := hide ((unhide HR1).drew.below hb3 (show w.heap.size < w2.heap.size by omega)); have r3 : w3.cell? ⟨w.heap.size, 0, none⟩ = some vs := (unhide HR3).cell (j := 0) (by omega); have hr3a : ∀ ob, (w3.alloc ob).cell? ⟨w.heap.size, 0, none⟩ = some vs := fun ob => ((unhide HR3).alloc ob).cell (j := 0) (by omega); have HO3 := hide (ownsRow_below (unhide HO1).drew hb3 (Nat.le_refl _)); have hl3a : ∀ (q : Nat) (ob : Obj) (u : Value), w3.cell? ⟨wr.heap.size, q, none⟩ = some u → (w3.alloc ob).cell? ⟨wr.heap.size, q, none⟩ = some u := fun q ob u h => (((Below.refl w3.heap.size w3).alloc (Nat.le_refl _) ob).cell (p := ⟨wr.heap.size, q, none⟩) (by show wr.heap.size < w3.heap.size; omega)).trans h))
          all_goals
            go_wp2
            go_roundg (gk - 1)
            case measure => omega
            case rel => exact ⟨k + 1, _, Qs ++ [Q], by omega, by first | exact num1 hw | rfl, ok_more (unhide HA) hokk, roster_stepN (by omega) hbw1 hs3 hb3 (unhide HR3) (unhide HO1) (unhide HQ1) hQc (unhide HNM) ho4 hg4 hat4⟩
      · go_wp2
        go_ret2
        have hkk : k = cs.length := by omega
        subst hkk
        refine ⟨hb, Or.inr ⟨?_, vs, Qs, rfl, hR, hown, hQ⟩⟩
        unfold clientsB
        rw [all_true (unhide HA), decide_eq_true hn]; rfl
  · have p8 : (8 : Int) < (cs.length : Int) := by omega
    have hbad : clientsB cs = false := by unfold clientsB; rw [decide_eq_false hn]; simp
    have HB := hide hbad
    clear hbad
    go_enter Tryz.func80, Tryz.ntmps80
    go_wp2
    go_ret2
    exact ⟨Below.refl _ _, Or.inl ⟨unhide HB, rfl⟩⟩
end Go.Proofs.YtkmkkmdpjliifaaGreatDoor
namespace Go.Proofs.YtkmkkmdpjliifaaGreatDoor
open Go.ChangeShapes Go.WideShapes Go.ChangeAt Go.RowKit

end Go.Proofs.YtkmkkmdpjliifaaGreatDoor
namespace Go.Proofs.YtkmkkmdpjliifaaGreatDoor
open Go.ChangeShapes Go.WideShapes Go.ChangeAt Go.RowKit

/-- may a server be of these? -/
def newB (ks : List Ky) (cs : List Cl) : Bool := keysB ks && clientsB cs
end Go.Proofs.YtkmkkmdpjliifaaGreatDoor
namespace Go.Proofs.YtkmkkmdpjliifaaGreatDoor
open Go.ChangeShapes Go.WideShapes Go.ChangeAt Go.RowKit

/-- what of a server never turns: its keys and its clients, all below block s -/
structure Sb (w : World) (s R O : Nat) (vk vs : Value) (ks : List Ky) (cs : List Cl) (Qs : List Nat) : Prop where
  ring : Row w R 173 2 (pr2 vk (.int .i64 0))
  rs : R < s
  keys : Ks w s vk ks
  ros : w.cell? ⟨O, 0, none⟩ = some vs
  os : O < s
  own : w.ownsRow 0 120 1 vs cs.length (ptrs Qs)
  ob : ∀ k, vs.ownBlock = some k → k < s
  cli : ∀ j q, Qs[j]? = some q → ClX w (· < s) (cs.getD j default) q
  len : Qs.length = cs.length
  kb : keysB ks = true
  cb : clientsB cs = true
theorem ownsRow_at {w w' : World} {base size : Nat} {e : TypeId} {v : Value} {n : Nat} {xs : List Value} (h : w.ownsRow base e size v n xs) (hb : ∀ k, v.ownBlock = some k → w'.heap[k]? = w.heap[k]?) : w'.ownsRow base e size v n xs := by
  obtain ⟨h1, h2⟩ := h
  refine ⟨h1, ?_⟩
  rcases h2 with h2 | ⟨g, cap, cur, hv, hg, hh, r⟩
  · exact Or.inl h2
  · exact Or.inr ⟨g, cap, cur, hv, hg, by rw [hb g (by rw [hv]; rfl)]; exact hh, r⟩
theorem ownsRow_down {w : World} {base b2 size : Nat} {e : TypeId} {v : Value} {n : Nat} {xs : List Value} (h : w.ownsRow base e size v n xs) (hb : b2 ≤ base) : w.ownsRow b2 e size v n xs := by
  obtain ⟨h1, h2⟩ := h
  refine ⟨h1, ?_⟩
  rcases h2 with h2 | ⟨g, cap, cur, hv, hg, r⟩
  · exact Or.inl h2
  · exact Or.inr ⟨g, cap, cur, hv, Nat.le_trans hb hg, r⟩
theorem Sb.below {w w' : World} {s R O : Nat} {vk vs : Value} {ks : List Ky} {cs : List Cl} {Qs : List Nat} (h : Sb w s R O vk vs ks cs Qs) (hb : Below s w w') : Sb w' s R O vk vs ks cs Qs :=
  ⟨h.ring.below hb h.rs, h.rs, h.keys.below hb, (hb.cell (p := ⟨O, 0, none⟩) h.os).trans h.ros, h.os, ownsRow_at h.own (fun k e => hb.block k (h.ob k e)), h.ob, fun j q hq => (h.cli j q hq).keep (fun k hk => ⟨hb.block k hk, hk⟩), h.len, h.kb, h.cb⟩
theorem Ks.up {w : World} {B B' : Nat} {v : Value} {l : List Ky} (h : Ks w B v l) (hb : B ≤ B') : Ks w B' v l := by
  obtain ⟨a, c, rfl, h⟩ := h
  refine ⟨a, c, rfl, fun hp => ?_⟩
  obtain ⟨g, o, rfl, hg, h⟩ := h hp
  exact ⟨g, o, rfl, Nat.lt_of_lt_of_le hg hb, h⟩
/-- a server, cell by cell -/
def seF (now R O : Nat) (vg : Value) (j : Nat) : Value := if j = 0 then .int .i64 (now : Nat) else if j = 1 then .pointer (some ⟨R, 0, none⟩) else if j = 2 then .pointer (some ⟨O, 0, none⟩) else vg

set_option maxRecDepth 20000 in
set_option maxHeartbeats 1000000 in
theorem NewS_any (v vc : Value) (ks : List Ky) (cs : List Cl) (w : World) (B : Nat) (hB : B ≤ w.heap.size) (hl : ks.length ≤ 8796093022208) (hF : KFits ks) (hv : Ks w B v ks) (hCF : CFits cs) (hC : Cs w B vc cs) (hT : UT w) :
    Calls Tryz.prog 41 #[v, vc] w fun e w' => Below w.heap.size w w' ∧ ((newB ks cs = false ∧ e = .returned (.tuple #[.pointer none, .int .i64 1])) ∨
      (newB ks cs = true ∧ ∃ s R O vk vs Qs, e = .returned (.tuple #[.pointer (some ⟨s, 0, none⟩), .int .i64 0]) ∧ w.heap.size ≤ s ∧ s + 1 = w'.heap.size ∧ Sb w' s R O vk vs ks cs Qs ∧ Row w' s 132 4 (seF 0 R O (.slice none 0 0)))) := by
  have hNR := NewRing_any v ks w B hB hl hF hv
  have hv' := hv
  have hC' := hC
  obtain ⟨a, c, rfl, _⟩ := hv'
  obtain ⟨a2, c2, rfl, _⟩ := hC'
  have HNR := hide hNR
  have HC := hide hC
  have HCF := hide hCF
  have HT := hide hT
  clear hNR hC hCF hT hv hF hl
  go_enter Tryz.func41, Tryz.ntmps41
  go_wp2_with fail
  refine (unhide HNR).mono ?_
  rintro e w1 ⟨hb1, hr⟩
  have hs1 := hb1.size
  rcases hr with ⟨hk, rfl⟩ | ⟨hk, R, vk, rfl, hR, hRow, hown⟩
  · have hnb : newB ks cs = false := by unfold newB; rw [hk]; rfl
    have HNB := hide hnb
    clear hnb hk
    go_wp2
    go_ret2
    exact ⟨hb1, Or.inl ⟨unhide HNB, rfl⟩⟩
  · have HK := hide hk
    have HRow := hide hRow
    have HOwn := hide hown
    clear hk hRow hown
    go_wp2_with fail
    refine (rosterN_any _ cs w1 B (by omega) (unhide HCF) ((unhide HC).below (hb1.mono hB)) ((unhide HT).belowS hb1)).mono ?_
    rintro e w2 ⟨hb2, hr⟩
    have hb12 := hb1.trans (hb2.mono hs1)
    have hs2 := hb12.size
    rcases hr with ⟨hc, rfl⟩ | ⟨hc, vs, Qs, rfl, hRO, hOO, hQQ⟩
    · have hnb : newB ks cs = false := by unfold newB; rw [hc]; simp
      have HNB2 := hide hnb
      clear hnb hc
      go_wp2
      go_ret2
      exact ⟨hb12, Or.inl ⟨unhide HNB2, rfl⟩⟩
    · have HC2 := hide hc
      have HRO := hide hRO
      have HOO := hide hOO
      have HQQ := hide hQQ
      clear hc hRO hOO hQQ
      go_wp2
      go_ret2
      have hb3 : ∀ o, Below w2.heap.size w2 (w2.alloc o) := fun o => (Below.refl _ _).alloc (Nat.le_refl _) o
      have hs12 := hb2.size
      have hRl := (unhide HRow).lt
      have hOl := (unhide HRO).lt
      refine ⟨hb12.alloc hs2 _, Or.inr ⟨?_, w2.heap.size, R, w1.heap.size, vk, vs, Qs, rfl, by omega, by simp, ⟨((unhide HRow).below hb2 hRl).alloc _, by omega, ?_, ?_, hOl, ownsRow_down (ownsRow_below (unhide HOO) (hb3 _) (Nat.le_refl _)) (Nat.zero_le _), fun k e => ((unhide HOO).lt k e).2, fun j q hq => ?_, (unhide HQQ).1, unhide HK, unhide HC2⟩, ?_⟩⟩
      · unfold newB; rw [unhide HK, unhide HC2]; rfl
      · exact (((owns_Ks rfl (unhide HOwn)).below hb2).below ((hb3 _).mono hs12)).up hs12
      · exact ((unhide HRO).alloc _).cell (j := 0) (by decide)
      · exact ((unhide HQQ).2 j q hq).keep (fun k hk => ⟨(hb3 _).block k hk.2.1, hk.2.1⟩)
      · refine Row.new w2 132 _ _ 4 rfl (fun j hj => ?_)
        rcases (show j = 0 ∨ j = 1 ∨ j = 2 ∨ j = 3 by omega) with rfl | rfl | rfl | rfl <;> rfl
end Go.Proofs.YtkmkkmdpjliifaaGreatDoor
