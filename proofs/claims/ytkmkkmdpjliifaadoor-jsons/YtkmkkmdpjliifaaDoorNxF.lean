import Derived.Test.YtkmkkmdpjliifaaDoorNxE
namespace Go.Proofs.YtkmkkmdpjliifaaDoor
open Go.ChangeShapes Go.WideShapes Go.ChangeAt Go.RowKit

theorem num1 {k : Nat} (h : wrap64 ((k : Int) + 1) = (k : Int) + 1) : Value.int .i64 (wrap64 ((k : Int) + 1)) = Value.int .i64 ((k + 1 : Nat) : Int) := congrArg (Value.int .i64) (h.trans rfl)
theorem listR_next {l : List (List UInt8)} {k m q : Nat} {y : List UInt8} {b1 : Bool} (hO : okAt l k = (b1 && (List.range k).all fun j => l.getD j [] != y)) (h1 : (!b1) = false) (hA : ∀ j, j < k → okAt l j = true)
    (hA2 : ∀ j, j < m → (l.getD j [] != y) = true) (hm : m + q = k) (hlt : ¬ m < k) : ∀ j, j < k + 1 → okAt l j = true := by
  intro j hj
  have hmk : m = k := by omega
  subst hmk
  by_cases e : j = m
  · rw [e, hO, all_true hA2]
    simp at h1
    rw [h1]; rfl
  · exact hA j (by omega)
theorem listR_bad {l : List (List UInt8)} {k m : Nat} {y z : List UInt8} {b1 : Bool} (hk : k < l.length) (hO : okAt l k = (b1 && (List.range k).all fun j => l.getD j [] != y)) (hm : m < k) (hz : l.getD m [] = z) (h2 : (z == y) = true) : listB l = false := by
  have hf : okAt l k = false := by
    rw [hO, all_false hm]
    · simp
    · rw [hz]; simp at h2; rw [h2]; simp
  unfold listB
  rw [all_false hk hf]; simp
theorem listR_more {l : List (List UInt8)} {m : Nat} {y z : List UInt8} (hA2 : ∀ j, j < m → (l.getD j [] != y) = true) (hz : l.getD m [] = z) (h2 : (z == y) = false) : ∀ j, j < m + 1 → (l.getD j [] != y) = true := by
  intro j hj
  by_cases e : j = m
  · rw [e, hz]
    simp at h2
    simpa using h2
  · exact hA2 j (by omega)

set_option maxRecDepth 20000 in
set_option maxHeartbeats 1000000 in
theorem ListR_any (v : Value) (l : List (List UInt8)) (w : World) (B : Nat) (hB : B ≤ w.heap.size) (hl : l.length ≤ 8796093022208) (hF : Fits l) (hv : Ls w B v l) :
    Calls Tryd.prog 69 #[v] w fun e w' => e = .returned (.bool (listB l)) ∧ Below w.heap.size w w' := by
  obtain ⟨a, c, rfl, hle, hv⟩ := hv
  clear hle
  have HL := hide hl
  have HV := hide hv
  have HF := hide hF
  clear hl hv hF
  go_enter Tryd.func69, Tryd.ntmps69
  go_wp2
  go_loopg [3] l.length (fun q i wr => ∃ k : Nat, k + q = l.length ∧ i = .int .i64 (k : Nat) ∧ (∀ j, j < k → okAt l j = true) ∧ Below w.heap.size w wr)
  case atStart => exact ⟨0, Nat.zero_add _, rfl, fun j hj => absurd hj (Nat.not_lt_zero _), Below.refl _ _⟩
  case round =>
    obtain ⟨k, hk, rfl, hA, hb⟩ := hrel
    have HA := hide hA
    clear hA
    have hw : wrap64 ((k : Int) + 1) = (k : Int) + 1 := w64 _ (by omega) (by have := unhide HL; omega)
    by_cases hlt : k < l.length
    · obtain ⟨g, o, rfl, hg, hC⟩ := unhide HV (by omega)
      have hC' : ∀ j, j < l.length → wr.cell? ⟨g, o + j, none⟩ = some (sv (l.getD j [])) := fun j hj => (hb.cell (p := ⟨g, o + j, none⟩) (by show g < _; omega)).trans (hC j hj)
      have hc := hC' k hlt
      have HC := hide hC'
      clear hC hC'
      have hok : okAt l k = (nameN (l.getD k []) && (List.range k).all (fun j => l.getD j [] != l.getD k [])) := rfl
      have hfit := unhide HF k hlt
      generalize hy : l.getD k [] = y at hc hok hfit
      have HO := hide hok
      have HFt := hide hfit
      have HY := hide hy
      clear hok hy hfit
      rw [sv_def] at hc
      have hsz := hb.size
      generalize hn : nameN y = b1 at HO
      have HN := hide hn
      clear hn
      go_wp2_with (go_at_call 68; refine (Name_any y _ (unhide HFt)).mono ?_; rintro e w1 ⟨rfl, hb1⟩; rw [unhide HN]; have hb' := hb.trans (hb1.mono hsz); have HC1 : Hid (∀ j, j < l.length → w1.cell? ⟨g, o + j, none⟩ = some (sv (l.getD j []))) := fun j hj => (hb1.cell (p := ⟨g, o + j, none⟩) (by show g < _; omega)).trans (unhide HC j hj))
      · rename_i h1
        go_ret
        refine ⟨congrArg (fun b => Ending.returned (Value.bool b)) ?_, hb'⟩
        unfold listB
        have hf : okAt l k = false := by rw [unhide HO]; simp at h1; rw [h1]; simp
        rw [all_false hlt hf]; simp
      · rename_i h1
        have hc1 := unhide HC1 k hlt
        rw [unhide HY, sv_def] at hc1
        obtain ⟨gO, hgO⟩ : ∃ q, q = gk := ⟨_, rfl⟩
        have HW := hide hw
        clear hw
        go_loopg [5] k (fun q i wq => ∃ (m n : Nat), m + q = k ∧ i = .int .i64 (m : Nat) ∧ (∀ j, j < m → (l.getD j [] != y) = true) ∧ wq = w1.drewN n)
        case atStart => exact ⟨0, 0, Nat.zero_add _, rfl, fun j hj => absurd hj (Nat.not_lt_zero _), rfl⟩
        case round =>
          obtain ⟨m, n, hm, rfl, hA2, rfl⟩ := hrel
          have HA2 := hide hA2
          clear hA2
          have hw2 : wrap64 ((m : Int) + 1) = (m : Int) + 1 := w64 _ (by omega) (by have := unhide HL; omega)
          by_cases hlt2 : m < k
          · have hc2 := unhide HC1 m (by omega)
            generalize hz : l.getD m [] = z at hc2
            have HZ := hide hz
            clear hz
            rw [sv_def] at hc2
            have hml : (m : Int) < l.length := by omega
            have hml2 : m < l.length := by omega
            have hkl : (k : Int) < l.length := by omega
            go_wp2
            go_quiet (fail)
            go_wp2
            · rename_i h2
              go_ret
              exact ⟨congrArg (fun b => Ending.returned (Value.bool b)) (listR_bad hlt (unhide HO) hlt2 (unhide HZ) h2).symm, below_drewN' (below_drewN' hb' _) _⟩
            · rename_i h2
              go_roundg (gk - 1)
              case measure => omega
              case rel => exact ⟨m + 1, _, by omega, num1 hw2, listR_more (unhide HA2) (unhide HZ) h2, rfl⟩
          · clear hw2
            have hw := unhide HW
            go_wp2
            go_roundg (gO - 1)
            case measure => omega
            case rel =>
              exact ⟨k + 1, by omega, num1 hw, listR_next (unhide HO) h1 (unhide HA) (unhide HA2) hm hlt2, below_drewN' hb' _⟩
    · go_wp2
      go_ret
      refine ⟨congrArg (fun b => Ending.returned (Value.bool b)) ?_, hb⟩
      unfold listB
      rw [all_true (fun j hj => unhide HA j (by omega)), Bool.and_true]
      simp
      omega
end Go.Proofs.YtkmkkmdpjliifaaDoor
