import Derived.Test.YtkmkkmdpjliifaaDoorTxB
import Derived.Test.YtkmkkmdpjliifaaDoorTxL
import Derived.Test.YtkmkkmdpjliifaaDoorTxX
import Derived.BigRegion
import Derived.Deep.RegionHeld3
import Derived.Deep.LoopGhost
namespace Go.Proofs.YtkmkkmdpjliifaaDoor
open Go.ChangeShapes Go.WideShapes Go.ChangeAt Go.RowKit

theorem keep_set {w' : World} {g p j : Nat} {v a : Value} (h : w'.cell? ⟨g, j, none⟩ = some a) (hne : j ≠ p) : (w'.setCell ⟨g, p, none⟩ v).cell? ⟨g, j, none⟩ = some a := by
  rw [World.cell?_setCell_other]
  · exact h
  · intro hh; injection hh with _ h2; exact hne h2.symm
theorem add32' (a b : BitVec 32) : (wi a + wi b) % 4294967296 = wi (a + b) := add64 a b
theorem sz141 : (Tryd.prog.info? 141).map (·.size) = some 64 := by kernel_rfl
theorem sz122 : (Tryd.prog.info? 122).map (·.size) = some 8 := by kernel_rfl
theorem sz26 : (Tryd.prog.info? 26).map (·.size) = some 32 := by kernel_rfl
theorem sz87 : (Tryd.prog.info? 87).map (·.size) = some 64 := by kernel_rfl
/-- words, as an array's -/
def uf (f : Nat → BitVec 32) (j : Nat) : Value := .int .u32 (wi (f j))

set_option maxRecDepth 20000 in
set_option maxHeartbeats 1000000 in
theorem startWords_any (w : World) : Calls Tryd.prog 79 #[] w fun e w' => e = .returned (.agg (arrOf 8 (uf H0))) ∧ Below w.heap.size w w' := by
  go_enter Tryd.func79, Tryd.ntmps79
  go_wp2
  refine ret_row Tryd.results79 _ (Row.new w 122 _ (uf H0) 8 rfl (fun j hj => ?_)) rfl Tryd.underlying122 (Or.inr ⟨_, _, rfl⟩) (by kernel_rfl) rfl ⟨rfl, (Below.refl _ _).alloc (Nat.le_refl _) _⟩
  unfold uf
  rw [wi_H0 j hj]
  rcases (show j = 0 ∨ j = 1 ∨ j = 2 ∨ j = 3 ∨ j = 4 ∨ j = 5 ∨ j = 6 ∨ j = 7 by omega) with rfl | rfl | rfl | rfl | rfl | rfl | rfl | rfl <;> rfl

set_option maxRecDepth 20000 in
set_option maxHeartbeats 1000000 in
theorem spread_any (l : List UInt8) (b o cap : Nat) (w : World) (hb : b < w.heap.size) (hC : Cel w b o 64 (fun j => .int .u8 (by_ l j : Nat))) :
    Calls Tryd.prog 100 #[.slice (some ⟨b, o, none⟩) 64 cap] w fun e w' => e = .returned (.agg (arrOf 64 (uf (Wk l 48)))) ∧ Below w.heap.size w w' := by
  go_enter Tryd.func100, Tryd.ntmps100
  go_wp2
  go_loopg [6] 16 (fun q i wr => ∃ k : Nat, k + q = 16 ∧ i = .int .i64 k ∧ Row wr w.heap.size 141 64 (fun _ => .int .u32 0) ∧ Row wr (w.heap.size + 1) 141 64 (fun j => .int .u32 (if j < k then wi (wordAt l (4 * j)) else 0)) ∧ Below w.heap.size w wr)
  case atStart =>
    refine ⟨0, rfl, rfl, (Row.new w 141 (Array.replicate 64 (.int .u32 0)) _ 64 (by simp) (fun j hj => by simp [hj])).alloc _, ?_, ((Below.refl _ _).alloc (Nat.le_refl _) _).alloc (by simp) _⟩
    have h := Row.new (w.alloc (.cells (Array.replicate 64 (.int .u32 0)) 141)) 141 (Array.replicate 64 (.int .u32 0)) (fun j => .int .u32 (if j < 0 then wi (wordAt l (4 * j)) else 0)) 64 (by simp) (fun j hj => by simp [hj])
    rw [show (w.alloc (.cells (Array.replicate 64 (.int .u32 0)) 141)).heap.size = w.heap.size + 1 by simp] at h
    exact h
  case round =>
    obtain ⟨k, hk, rfl, hR0, hR, hB⟩ := hrel
    by_cases hlt : k < 16
    · have hc := hR.cell (j := k) (by omega)
      have hfz := hR.frozen k
      rw [if_neg (by omega)] at hc
      have hC' := hC.below hB hb
      have hb0 := hC'.cell (j := 4 * k) (by omega)
      have hb1 := hC'.cell (j := 4 * k + 1) (by omega)
      have hb2 := hC'.cell (j := 4 * k + 2) (by omega)
      have hb3 := hC'.cell (j := 4 * k + 3) (by omega)
      go_wp2_with fail
      go_region
      go_wp2
      go_roundg (gk - 1)
      case measure => omega
      case rel =>
        refine ⟨k + 1, by omega, by go_num, (hR0.other (by simp) _).drew, ((hR.set k _).drew).congr (fun j hj => ?_), (hB.setCell (by simp) _).drew⟩
        rw [word_or]
        by_cases e1 : j = k
        · subst e1; simp only [if_true, Nat.lt_succ_self]
        · have e2 : (j < k + 1) ↔ j < k := by omega
          simp only [e1, e2, if_false]
    · obtain rfl : k = 16 := by omega
      clear hlt
      go_wp2
      go_loopg [5] 48 (fun q i wq => ∃ n : Nat, n + q = 48 ∧ i = .int .i64 (16 + n) ∧ Row wq w.heap.size 141 64 (fun _ => .int .u32 0) ∧ Row wq (w.heap.size + 1) 141 64 (fun j => .int .u32 (if j < 16 + n then wi (Wk l n j) else 0)) ∧ Below w.heap.size w wq)
      case atStart => exact ⟨0, rfl, rfl, hR0, hR, hB⟩
      case round =>
        clear hR0 hR hB
        obtain ⟨n, hn, rfl, hR0, hR, hB⟩ := hrel
        by_cases hlt : n < 48
        · have hc := hR.cell (j := 16 + n) (by omega)
          have hfz := hR.frozen (16 + n)
          have hc16 := hR.cell (j := 16 + n - 16) (by omega)
          have hc15 := hR.cell (j := 16 + n - 15) (by omega)
          have hc7 := hR.cell (j := 16 + n - 7) (by omega)
          have hc2 := hR.cell (j := 16 + n - 2) (by omega)
          rw [if_neg (by omega)] at hc
          rw [if_pos (by omega)] at hc16 hc15 hc7 hc2
          have hc16' := hc16
          rw [show 16 + n - 16 = n by omega] at hc16'
          have hc15' := hc15
          rw [show 16 + n - 15 = n + 1 by omega] at hc15'
          have hc7' := hc7
          rw [show 16 + n - 7 = n + 9 by omega] at hc7'
          have hc2' := hc2
          rw [show 16 + n - 2 = n + 14 by omega] at hc2'
          have hw16 : IntKind.i64.wrap (16 + (n : Int) - 16) = (n : Int) := by rw [IntKind.wrap_i64]; omega
          have hw15 : IntKind.i64.wrap (16 + (n : Int) - 15) = (n : Int) + 1 := by rw [IntKind.wrap_i64]; omega
          have hw7 : IntKind.i64.wrap (16 + (n : Int) - 7) = (n : Int) + 9 := by rw [IntKind.wrap_i64]; omega
          have hw2 : IntKind.i64.wrap (16 + (n : Int) - 2) = (n : Int) + 14 := by rw [IntKind.wrap_i64]; omega
          have hi16 : (0 ≤ (n : Int) ∧ (n : Int) < 64) := by omega
          have hi15 : (0 ≤ (n : Int) + 1 ∧ (n : Int) + 1 < 64) := by omega
          have hi7 : (0 ≤ (n : Int) + 9 ∧ (n : Int) + 9 < 64) := by omega
          have hi2 : (0 ≤ (n : Int) + 14 ∧ (n : Int) + 14 < 64) := by omega
          have hi0 : (0 ≤ 16 + (n : Int) ∧ 16 + (n : Int) < 64) := by omega
          have ht15 : ((n : Int) + 1).toNat = n + 1 := by omega
          have ht7 : ((n : Int) + 9).toNat = n + 9 := by omega
          have ht2 : ((n : Int) + 14).toNat = n + 14 := by omega
          have ht0 : (16 + (n : Int)).toNat = 16 + n := by omega
          clear hc16 hc15 hc7 hc2
          go_wp2_with fail
          go_region_held3 (fun w' => w'.cell? ⟨w.heap.size + 1, n, none⟩ = some (.int .u32 (wi (Wk l n n))) ∧ w'.cell? ⟨w.heap.size + 1, n + 1, none⟩ = some (.int .u32 (wi (Wk l n (n + 1)))) ∧ w'.cell? ⟨w.heap.size + 1, n + 9, none⟩ = some (.int .u32 (wi (Wk l n (n + 9)))) ∧ w'.cell? ⟨w.heap.size + 1, n + 14, none⟩ = some (.int .u32 (wi (Wk l n (n + 14))))) (first | go_keep | (refine ⟨keep_set (by simp [*]) (by omega), keep_set (by simp [*]) (by omega), keep_set (by simp [*]) (by omega), keep_set (by simp [*]) (by omega)⟩))
            (first | (go_at_call_of 118 (7 : Int); refine (shift7 _ _).mono ?_; rintro e w' ⟨rfl, nq, rfl⟩) | (go_at_call_of 118 (17 : Int); refine (shift17 _ _).mono ?_; rintro e w' ⟨rfl, nq2, rfl⟩))
          go_wp2
          go_roundg (gk - 1)
          case measure => omega
          case rel =>
            refine ⟨n + 1, by omega, by go_num, (hR0.other (by simp) _).drewN _, ((hR.set (16 + n) _).drewN _).congr (fun j hj => ?_), below_drewN' (hB.setCell (by simp) _) _⟩
            rw [add32', add32', add32']
            by_cases e1 : j = 16 + n
            · rw [if_pos e1, if_pos (by omega)]
              subst e1
              show _ = Value.int .u32 (wi (if 16 + n = 16 + n then wext (Wk l n) (16 + n) else Wk l n (16 + n)))
              rw [if_pos rfl]
              unfold wext
              rw [show 16 + n - 16 = n by omega, show 16 + n - 15 = n + 1 by omega, show 16 + n - 7 = n + 9 by omega, show 16 + n - 2 = n + 14 by omega]
            · have e2 : (j < 16 + (n + 1)) ↔ j < 16 + n := by omega
              rw [if_neg e1]
              simp only [e2]
              show _ = Value.int .u32 (if _ then wi (if j = 16 + n then wext (Wk l n) j else Wk l n j) else 0)
              rw [if_neg e1]
        · obtain rfl : n = 48 := by omega
          clear hlt
          have hR' : Row wr (w.heap.size + 1) 141 64 (uf (Wk l 48)) := hR.congr (fun j hj => by rw [if_pos (by omega)]; rfl)
          clear hR
          go_wp2_with (first | (refine ldRow rfl 141 _ rfl rfl hR' Tryd.underlying141 sz141 ?_) | (refine stRow rfl 141 _ _ rfl rfl rfl hR0 sz141 (fun _ _ => rfl) ?_; intro w2 hR2 hg2))
          refine ret_row Tryd.results100 _ hR2 rfl Tryd.underlying141 (Or.inr ⟨_, _, rfl⟩) sz141 rfl ⟨rfl, ?_⟩
          exact hB.grown hg2 hB.size (fun k hk => by cases hk; exact Nat.le_refl _)
end Go.Proofs.YtkmkkmdpjliifaaDoor
