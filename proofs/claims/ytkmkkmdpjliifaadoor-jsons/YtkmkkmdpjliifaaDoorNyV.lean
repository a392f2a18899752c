import Derived.Test.YtkmkkmdpjliifaaDoorNyI
import Derived.Deep.Strs
import Derived.Deep.SlicePairs
import Derived.SizedLaws
import Derived.ProofKit
import Derived.OpenShut
namespace Go.Proofs.YtkmkkmdpjliifaaDoor
open Go.ChangeShapes Go.WideShapes Go.ChangeAt Go.RowKit Go.Deep

theorem cells9' : Tryd.prog.cellsOf 9 = 1 := by kernel_rfl
theorem cells35' : Tryd.prog.cellsOf 35 = 1 := by kernel_rfl
theorem bytes9' : Tryd.prog.bytesOf 9 = 16 := by kernel_rfl
theorem whole_of' (s : ByteArray) : (⟨s.data.toList.toArray⟩ : ByteArray) = s := by cases s; simp
theorem str_fit {s : ByteArray} (h : s.size ≤ maxLen) : s.data.toList.length ≤ 9223372036854775807 := by
  rw [show s.data.toList.length = s.size by rw [Array.length_toList]; rfl]
  exact Nat.le_trans h (by unfold maxLen; decide)
theorem getD_range {α : Type} (n : Nat) (f : Nat → α) (d : α) (i : Nat) (h : i < n) : ((List.range n).map f).getD i d = f i := by simp [List.getD, h]

section
variable {H : Type} {enc : TypeId × Value → H} {W : World}
theorem open_list {fuel : Nat} {cs : List Value} {x : DataW H × List MemPlace} (h : DataW.trod enc Tryd.prog W 0 (fun _ => true) true fuel 35 cs = some x) (hw : ∀ n ∈ x.1.weights Tryd.prog 35, n ≤ reachBytes) :
    ∃ a c l, cs = [.slice a l.length c] ∧ Ls W W.heap.size (.slice a l.length c) l ∧ l.length ≤ 8796093022208 ∧ Fits l := by
  rcases open_strs Tryd.underlying35 Tryd.underlying9 cells9' h with ⟨rfl, _⟩ | ⟨a, len, cap, m, Sx, rfl, _, hl, hm, hmm, rfl, hcell⟩
  · exact ⟨none, 0, [], rfl, ⟨none, 0, rfl, Nat.le_refl _, fun h => absurd h (by simp)⟩, by simp, fun i hi => absurd hi (by simp)⟩
  · simp only [if_true] at hmm
    subst hmm
    have hlen : ((List.range len).map fun i => (Sx i).data.toList).length = len := by simp
    have hb : (len + (m - len)) * 16 ≤ reachBytes := by
      have := hw ((len + (m - len)) * 16) (by simp [DataW.weights, Tryd.underlying35, bytes9'])
      exact this
    refine ⟨some a, m, (List.range len).map fun i => (Sx i).data.toList, by rw [hlen], ⟨some a, m, by rw [hlen], by rw [hlen]; exact hl, fun hp => ?_⟩, by rw [hlen]; unfold reachBytes at hb; omega, fun i hi => ?_⟩
    · rw [hlen] at hp
      obtain ⟨b, off, spot⟩ := a
      have hspot : spot = none := by simpa [Addr.add] using World.cell?_spot (hcell 0 (by omega)).1
      subst hspot
      refine ⟨b, off, rfl, ?_, fun j hj => ?_⟩
      · have := World.block_lt_of_cell? W _ (hcell 0 (by omega)).1
        simpa [Addr.add] using this
      · rw [hlen] at hj
        rw [getD_range len _ [] j hj, ← add_plain, (hcell j (by omega)).1]
        unfold sv
        rw [whole_of']
    · rw [hlen] at hi
      rw [getD_range len _ [] i hi]
      exact str_fit (hcell i (by omega)).2
end
end Go.Proofs.YtkmkkmdpjliifaaDoor
