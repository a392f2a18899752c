import Derived.Test.YtkmkkmdpjliifaaDoorNxH
import Derived.Deep.Strs
import Derived.Deep.SlicePairs
import Derived.SizedLaws
import Derived.ProofKit
import Derived.OpenShut
namespace Go.Proofs.YtkmkkmdpjliifaaDoor
open Go.ChangeShapes Go.WideShapes Go.ChangeAt Go.RowKit Go.Deep

theorem cells9' : Tryd.prog.cellsOf 9 = 1 := by kernel_rfl
theorem cells35' : Tryd.prog.cellsOf 35 = 1 := by kernel_rfl
theorem cells59' : Tryd.prog.cellsOf 59 = 2 := by kernel_rfl
theorem cells105' : Tryd.prog.cellsOf 105 = 5 := by kernel_rfl
theorem bytes9' : Tryd.prog.bytesOf 9 = 16 := by kernel_rfl
theorem bytes59' : Tryd.prog.bytesOf 59 = 32 := by kernel_rfl
theorem bytes105' : Tryd.prog.bytesOf 105 = 104 := by kernel_rfl
theorem whole_of' (s : ByteArray) : (⟨s.data.toList.toArray⟩ : ByteArray) = s := by cases s; simp
theorem str_fit {s : ByteArray} (h : s.size ≤ maxLen) : s.data.toList.length ≤ 9223372036854775807 := by
  rw [show s.data.toList.length = s.size by rw [Array.length_toList]; rfl]
  exact Nat.le_trans h (by unfold maxLen; decide)
theorem getD_range {α : Type} (n : Nat) (f : Nat → α) (d : α) (i : Nat) (h : i < n) : ((List.range n).map f).getD i d = f i := by simp [List.getD, h]

section
variable {H : Type} {enc : TypeId × Value → H} {W : World}
theorem open_list {fuel : Nat} {cs : List Value} {x : DataW H × List MemPlace} (h : DataW.trod enc Tryd.prog W 0 (fun _ => true) true fuel 35 cs = some x) (hw : ∀ n ∈ x.1.weights Tryd.prog 35, n ≤ reachBytes) :
    ∃ a c l, cs = [.slice a l.length c] ∧ Ls W W.heap.size (.slice a l.length c) l ∧ l.length ≤ 8796093022208 ∧ Fits l := by
  rcases open_strs Tryd.underlying35 Tryd.underlying9 cells9' h with ⟨rfl, _⟩ | ⟨a, len, cap, m, Sx, rfl, _, hl, hm, hmm, rfl, hcell⟩
  · exact ⟨none, 0, [], rfl, ⟨none, 0, rfl, Nat.le_refl _, fun h => absurd h (by simp)⟩, by simp, fun i hi => absurd hi (by simp)⟩
  · simp only [if_true] at hmm
    subst hmm
    have hlen : ((List.range len).map fun i => (Sx i).data.toList).length = len := by simp
    have hb : (len + (m - len)) * 16 ≤ reachBytes := by
      have := hw ((len + (m - len)) * 16) (by simp [DataW.weights, Tryd.underlying35, bytes9'])
      exact this
    refine ⟨some a, m, (List.range len).map fun i => (Sx i).data.toList, by rw [hlen], ⟨some a, m, by rw [hlen], by rw [hlen]; exact hl, fun hp => ?_⟩, by rw [hlen]; unfold reachBytes at hb; omega, fun i hi => ?_⟩
    · rw [hlen] at hp
      obtain ⟨b, off, spot⟩ := a
      have hspot : spot = none := by simpa [Addr.add] using World.cell?_spot (hcell 0 (by omega)).1
      subst hspot
      refine ⟨b, off, rfl, ?_, fun j hj => ?_⟩
      · have := World.block_lt_of_cell? W _ (hcell 0 (by omega)).1
        simpa [Addr.add] using this
      · rw [hlen] at hj
        rw [getD_range len _ [] j hj, ← add_plain, (hcell j (by omega)).1]
        unfold sv
        rw [whole_of']
    · rw [hlen] at hi
      rw [getD_range len _ [] i hi]
      exact str_fit (hcell i (by omega)).2
theorem mem_weightsAll {P : Program} {e : TypeId} {d : DataW H} {n : Nat} (hn : n ∈ d.weights P e) : ∀ {l : List (DataW H)}, d ∈ l → n ∈ DataW.weightsAll P e l
  | [], h => by simp at h
  | y :: l, h => by
    simp only [DataW.weightsAll, List.mem_append]
    rcases List.mem_cons.1 h with rfl | h
    · exact Or.inl hn
    · exact Or.inr (mem_weightsAll hn h)

theorem open_keys {fuel : Nat} {cs : List Value} {x : DataW H × List MemPlace} (h : DataW.trod enc Tryd.prog W 0 (fun _ => true) true fuel 52 cs = some x) (hw : ∀ n ∈ x.1.weights Tryd.prog 52, n ≤ reachBytes) :
    ∃ a c ks, cs = [.slice a ks.length c] ∧ Ks W W.heap.size (.slice a ks.length c) ks ∧ ks.length ≤ 4398046511104 ∧ KFits ks := by
  rcases open_slice_pairs Tryd.underlying52 Tryd.underlying59 cells59' rfl rfl cells9' cells9' h with ⟨rfl, _⟩ | ⟨a, len, cap, m, n, V0, V1, D0, D1, P0, P1, rfl, _, hl, hm, hmm, rfl, hx⟩
  · exact ⟨none, 0, [], rfl, ⟨none, 0, rfl, fun h => absurd h (by simp)⟩, by simp, fun i hi => absurd hi (by simp)⟩
  · simp only [if_true] at hmm
    subst hmm
    have each : ∀ i, i < len → ∃ q : ByteArray × ByteArray, V0 i = .string q.1 ∧ V1 i = .string q.2 ∧ q.1.size ≤ maxLen ∧ q.2.size ≤ maxLen := fun i hi => by
      obtain ⟨_, _, t0, t1⟩ := hx i (by omega)
      obtain ⟨s0, e0, _, l0⟩ := DataW.trod_string Tryd.underlying9 t0
      obtain ⟨s1, e1, _, l1⟩ := DataW.trod_string Tryd.underlying9 t1
      exact ⟨(s0, s1), by simpa using e0, by simpa using e1, l0, l1⟩
    obtain ⟨q, hq⟩ := choose_lt each
    have hlen : ((List.range len).map fun i => (⟨(q i).1.data.toList, (q i).2.data.toList⟩ : Ky)).length = len := by simp
    have hb : (len + (m - len)) * 32 ≤ reachBytes := by
      have := hw ((len + (m - len)) * 32) (by simp [DataW.weights, Tryd.underlying52, bytes59'])
      exact this
    refine ⟨some a, m, (List.range len).map fun i => (⟨(q i).1.data.toList, (q i).2.data.toList⟩ : Ky), by rw [hlen], ⟨some a, m, by rw [hlen], fun hp => ?_⟩, by rw [hlen]; unfold reachBytes at hb; omega, fun i hi => ?_⟩
    · rw [hlen] at hp
      obtain ⟨b, off, spot⟩ := a
      have hspot : spot = none := by simpa [Addr.add] using World.cell?_spot (hx 0 (by omega)).1
      subst hspot
      refine ⟨b, off, rfl, ?_, fun i hi => ?_⟩
      · have := World.block_lt_of_cell? W _ (hx 0 (by omega)).1
        simpa [Addr.add] using this
      · rw [hlen] at hi
        rw [getD_range len _ default i hi]
        obtain ⟨c0, c1, _, _⟩ := hx i (by omega)
        obtain ⟨e0, e1, _, _⟩ := hq i hi
        rw [add_plain] at c0 c1
        exact ⟨by rw [c0, e0]; unfold sv; rw [whole_of'], by rw [Nat.add_assoc, c1, e1]; unfold sv; rw [whole_of']⟩
    · rw [hlen] at hi
      rw [getD_range len _ default i hi]
      obtain ⟨_, _, l0, l1⟩ := hq i hi
      exact ⟨str_fit l0, str_fit l1⟩

theorem weights_field {fs : List TypeId} {ds : List (DataW H)} {j : Nat} {t : TypeId} {d : DataW H} {n : Nat} (ht : fs[j]? = some t) (hd : ds[j]? = some d) (hn : n ∈ d.weights Tryd.prog t) : n ∈ DataW.weightsEach Tryd.prog fs ds := DataW.weights_mem_each ht hd n hn

set_option maxRecDepth 100000 in
theorem open_client {fuel : Nat} {cs : List Value} {x : DataW H × List MemPlace} (h : DataW.trod enc Tryd.prog W 0 (fun _ => true) true fuel 105 cs = some x) (hw : ∀ n ∈ x.1.weights Tryd.prog 105, n ≤ reachBytes) :
    ∃ (y : Cl) (a2 a3 a4 : Option Addr) (c2 c3 c4 : Nat), cs = [sv y.name, sv y.secret, .slice a2 y.sc.length c2, .slice a3 y.tg.length c3, .slice a4 y.ac.length c4] ∧ Ls W W.heap.size (.slice a2 y.sc.length c2) y.sc ∧ Ls W W.heap.size (.slice a3 y.tg.length c3) y.tg ∧
      Ls W W.heap.size (.slice a4 y.ac.length c4) y.ac ∧ Small y ∧ ClFits y := by
  obtain ⟨xs, n, _, rfl, hl, hlen, hf⟩ := DataW.trod_struct Tryd.underlying105 h
  rw [cells105'] at hl
  match cs, hl with
  | [v0, v1, v2, v3, v4], _ =>
  match xs, hlen with
  | [y0, y1, y2, y3, y4], _ =>
  have f0 := hf 0 _ rfl
  have f1 := hf 1 _ rfl
  have f2 := hf 2 _ rfl
  have f3 := hf 3 _ rfl
  have f4 := hf 4 _ rfl
  simp [cells9', cells35'] at f0 f1 f2 f3 f4
  obtain ⟨s0, e0, _, l0⟩ := DataW.trod_string Tryd.underlying9 f0
  obtain ⟨s1, e1, _, l1⟩ := DataW.trod_string Tryd.underlying9 f1
  have hww : ∀ (j : Nat) (t : TypeId) (d : DataW H), [(9 : Nat), 9, 35, 35, 35][j]? = some t → [y0.1, y1.1, y2.1, y3.1, y4.1][j]? = some d → ∀ n ∈ d.weights Tryd.prog t, n ≤ reachBytes := fun j t d ht hd n hn => by
    refine hw n ?_
    simp only [DataW.weights, Tryd.underlying105]
    exact weights_field (fs := [9, 9, 35, 35, 35]) (ds := [y0.1, y1.1, y2.1, y3.1, y4.1]) ht hd hn
  obtain ⟨a2, c2, t2, e2, k2, m2, q2⟩ := open_list f2 (hww 2 _ _ rfl rfl)
  obtain ⟨a3, c3, t3, e3, k3, m3, q3⟩ := open_list f3 (hww 3 _ _ rfl rfl)
  obtain ⟨a4, c4, t4, e4, k4, m4, q4⟩ := open_list f4 (hww 4 _ _ rfl rfl)
  simp at e0 e1 e2 e3 e4
  subst e0 e1 e2 e3 e4
  refine ⟨⟨s0.data.toList, s1.data.toList, t2, t3, t4⟩, a2, a3, a4, c2, c3, c4, ?_, k2, k3, k4, ⟨m2, m3, m4⟩, str_fit l0, str_fit l1, q2, q3, q4⟩
  unfold sv
  rw [whole_of', whole_of']

set_option maxRecDepth 100000 in
theorem open_clients {fuel : Nat} {cs : List Value} {x : DataW H × List MemPlace} (h : DataW.trod enc Tryd.prog W 0 (fun _ => true) true fuel 53 cs = some x) (hw : ∀ n ∈ x.1.weights Tryd.prog 53, n ≤ reachBytes) :
    ∃ a c l, cs = [.slice a l.length c] ∧ Cs W W.heap.size (.slice a l.length c) l ∧ l.length ≤ 1353245080301 ∧ CFits l := by
  rcases open_slice Tryd.underlying53 h with ⟨rfl, _⟩ | ⟨a, len, cap, m, n, D, Pl, rfl, _, hl, hm, hmm, rfl, hx⟩
  · exact ⟨none, 0, [], rfl, ⟨none, 0, rfl, fun h => absurd h (by simp)⟩, by simp, fun i hi => absurd hi (by simp)⟩
  · simp only [if_true] at hmm
    subst hmm
    have hwD : ∀ i, i < len → ∀ n ∈ (D i).weights Tryd.prog 105, n ≤ reachBytes := fun i hi n hn => by
      refine hw n ?_
      simp only [DataW.weights, Tryd.underlying53]
      exact List.mem_cons.2 (Or.inr (List.mem_append.2 (Or.inl (mem_weightsAll hn (List.mem_map.2 ⟨i, List.mem_range.2 hi, rfl⟩)))))
    have each : ∀ i, i < len → ∃ y : Cl, Small y ∧ ClFits y ∧ ∃ (a2 a3 a4 : Option Addr) (c2 c3 c4 : Nat), W.cells? 0 (a.add (i * 5)) 5 = some [sv y.name, sv y.secret, .slice a2 y.sc.length c2, .slice a3 y.tg.length c3, .slice a4 y.ac.length c4] ∧
        Ls W W.heap.size (.slice a2 y.sc.length c2) y.sc ∧ Ls W W.heap.size (.slice a3 y.tg.length c3) y.tg ∧ Ls W W.heap.size (.slice a4 y.ac.length c4) y.ac := fun i hi => by
      obtain ⟨cs', h1, h2⟩ := hx i (by omega)
      obtain ⟨y, a2, a3, a4, c2, c3, c4, rfl, k2, k3, k4, hS, hF⟩ := open_client h2 (hwD i hi)
      rw [cells105'] at h1
      exact ⟨y, hS, hF, a2, a3, a4, c2, c3, c4, h1, k2, k3, k4⟩
    obtain ⟨q, hq⟩ := choose_lt each
    have hlen : ((List.range len).map q).length = len := by simp
    have hb : (len + (m - len)) * 104 ≤ reachBytes := by
      have := hw ((len + (m - len)) * 104) (by simp [DataW.weights, Tryd.underlying53, bytes105'])
      exact this
    refine ⟨some a, m, (List.range len).map q, by rw [hlen], ⟨some a, m, by rw [hlen], fun hp => ?_⟩, by rw [hlen]; unfold reachBytes at hb; omega, fun i hi => ?_⟩
    · rw [hlen] at hp
      obtain ⟨b, off, spot⟩ := a
      obtain ⟨_, _, a2, a3, a4, c2, c3, c4, hc, _⟩ := hq 0 hp
      have hc0 := (World.cells?_some hc).2.2 0 (by omega)
      have hspot : spot = none := by
        have := World.cell?_spot (v := sv (q 0).name) (by simpa using hc0)
        simpa [Addr.add] using this
      subst hspot
      refine ⟨b, off, rfl, ?_, fun i hi => ?_⟩
      · have := World.block_lt_of_cell? W _ (show _ = some (sv (q 0).name) by simpa using hc0)
        simpa [Addr.add] using this
      · rw [hlen] at hi
        rw [getD_range len _ default i hi]
        obtain ⟨_, _, a2, a3, a4, c2, c3, c4, hc, k2, k3, k4⟩ := hq i hi
        have hcc := (World.cells?_some hc).2.2
        have g0 := hcc 0 (by omega)
        have g1 := hcc 1 (by omega)
        have g2 := hcc 2 (by omega)
        have g3 := hcc 3 (by omega)
        have g4 := hcc 4 (by omega)
        rw [add_add, add_plain] at g0 g1 g2 g3 g4
        simp only [Nat.add_zero, ← Nat.add_assoc] at g0 g1 g2 g3 g4
        exact ⟨by simpa using g0, by simpa using g1, ⟨a2, c2, by simpa using g2, k2⟩, ⟨a3, c3, by simpa using g3, k3⟩, a4, c4, by simpa using g4, k4⟩
    · rw [hlen] at hi
      rw [getD_range len _ default i hi]
      exact ⟨(hq i hi).1, (hq i hi).2.1⟩
end
end Go.Proofs.YtkmkkmdpjliifaaDoor
