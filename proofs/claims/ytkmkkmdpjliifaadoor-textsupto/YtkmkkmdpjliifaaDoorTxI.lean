import Derived.Test.YtkmkkmdpjliifaaDoorTxH
namespace Go.Proofs.YtkmkkmdpjliifaaDoor
open Go.ChangeShapes Go.WideShapes Go.ChangeAt Go.RowKit

theorem info93 : (Tryd.prog.info? 93).map (fun i => (i.zero, i.size, i.bytes)) = some (some (.int .u32 0), 1, 4) := by kernel_rfl
theorem index91 (f : Nat → BitVec 32) (k : Nat) (hk : k < 8) (u : World) : (Instr.index 122 (.agg (arrOf 8 (uf f))) (.int .i64 (k : Int))).run Tryd.prog u = .ok (.int .u32 (wi (f k))) u := by
  have hw : IntKind.i64.wrap (k : Int) = (k : Int) := by rw [IntKind.wrap_i64]; omega
  have h1 := arrOf_get 8 (uf f) k hk
  obtain ⟨i0, hi, hz0, hz1, hz2⟩ := info_parts info93
  unfold Instr.index
  simp [run_underlying Tryd.underlying122, run_underlying Tryd.underlying93, asIntOf, hk, sizeOf, typeInfo, hi, hz1, part, isAgg, h1]
  rfl
theorem b4_0 (x : BitVec 32) : wi x / 16777216 % 256 = (b4 x 0 : Nat) := by unfold wi b4; omega
theorem b4_1 (x : BitVec 32) : wi x / 65536 % 256 = (b4 x 1 : Nat) := by unfold wi b4; omega
theorem b4_2 (x : BitVec 32) : wi x / 256 % 256 = (b4 x 2 : Nat) := by unfold wi b4; omega
theorem b4_3 (x : BitVec 32) : wi x % 256 = (b4 x 3 : Nat) := by unfold wi b4; omega
/-- bytes, as an array's -/
def bf (f : Nat → Nat) (j : Nat) : Value := .int .u8 (f j : Int)

set_option maxRecDepth 20000 in
set_option maxHeartbeats 1000000 in
theorem wordBytes_any (hv : Nat → BitVec 32) (w : World) :
    Calls Tryd.prog 82 #[.agg (arrOf 8 (uf hv))] w fun e w' => e = .returned (.agg (arrOf 32 (bf (fun j => b4 (hv (j / 4)) (j % 4))))) ∧ Below w.heap.size w w' := by
  have hR := Row.arr w 122 8 (uf hv)
  go_enter Tryd.func82, Tryd.ntmps82
  go_wp2_with (refine ldRow rfl 122 _ rfl rfl ((hR.alloc _).alloc _) Tryd.underlying122 sz122 ?_)
  go_loopg [7] 8 (fun q i wr => ∃ k : Nat, k + q = 8 ∧ i = .int .i64 k ∧ Row wr (w.heap.size + 1) 26 32 (fun _ => .int .u8 0) ∧ Row wr (w.heap.size + 1 + 1) 26 32 (fun j => .int .u8 (if j < 4 * k then (b4 (hv (j / 4)) (j % 4) : Nat) else 0 : Int)) ∧ Below w.heap.size w wr)
  case atStart =>
    refine ⟨0, rfl, rfl, ?_, ?_, (((Below.refl _ _).alloc (Nat.le_refl _) _).alloc (by simp) _).alloc (by simp; omega) _⟩
    · have h := Row.new (w.alloc (.cells (arrOf 8 (uf hv)) 122)) 26 (Array.replicate 32 (.int .u8 0)) (fun _ => .int .u8 0) 32 (by simp) (fun j hj => by simp [hj])
      rw [show (w.alloc (.cells (arrOf 8 (uf hv)) 122)).heap.size = w.heap.size + 1 by simp] at h
      exact h.alloc _
    · have h := Row.new ((w.alloc (.cells (arrOf 8 (uf hv)) 122)).alloc (.cells (Array.replicate 32 (.int .u8 0)) 26)) 26 (Array.replicate 32 (.int .u8 0)) (fun j => .int .u8 (if j < 4 * 0 then (b4 (hv (j / 4)) (j % 4) : Nat) else 0 : Int)) 32 (by simp) (fun j hj => by simp [hj])
      rw [show ((w.alloc (.cells (arrOf 8 (uf hv)) 122)).alloc (.cells (Array.replicate 32 (.int .u8 0)) 26)).heap.size = w.heap.size + 1 + 1 by simp] at h
      exact h
  case round =>
    obtain ⟨k, hk, rfl, hR0, hR, hB⟩ := hrel
    by_cases hlt : k < 8
    · have hix := index91 hv k hlt
      have c0 := hR.cell (j := 4 * k) (by omega)
      have c1 := hR.cell (j := 4 * k + 1) (by omega)
      have c2 := hR.cell (j := 4 * k + 2) (by omega)
      have c3 := hR.cell (j := 4 * k + 3) (by omega)
      rw [if_neg (by omega)] at c0 c1 c2 c3
      have f0 := hR.frozen (4 * k)
      have f1 := hR.frozen (4 * k + 1)
      have f2 := hR.frozen (4 * k + 2)
      have f3 := hR.frozen (4 * k + 3)
      go_wp2
      go_roundg (gk - 1)
      case measure => omega
      case rel =>
        refine ⟨k + 1, by omega, by go_num, (((hR0.other (by simp) _).other (by simp) _).other (by simp) _).other (by simp) _, ((((hR.set (4 * k) _).set (4 * k + 1) _).set (4 * k + 2) _).set (4 * k + 3) _).congr (fun j hj => ?_),
          (((hB.setCell (by simp; omega) _).setCell (by simp; omega) _).setCell (by simp; omega) _).setCell (by simp; omega) _⟩
        show (if j = 4 * k + 3 then _ else if j = 4 * k + 2 then _ else if j = 4 * k + 1 then _ else if j = 4 * k then _ else _) = _
        rw [b4_0, b4_1, b4_2, b4_3]
        by_cases e3 : j = 4 * k + 3
        · rw [if_pos e3, if_pos (by omega), show j / 4 = k by omega, show j % 4 = 3 by omega]
        · rw [if_neg e3]
          by_cases e2 : j = 4 * k + 2
          · rw [if_pos e2, if_pos (by omega), show j / 4 = k by omega, show j % 4 = 2 by omega]
          · rw [if_neg e2]
            by_cases e1 : j = 4 * k + 1
            · rw [if_pos e1, if_pos (by omega), show j / 4 = k by omega, show j % 4 = 1 by omega]
            · rw [if_neg e1]
              by_cases e0 : j = 4 * k
              · rw [if_pos e0, if_pos (by omega), show j / 4 = k by omega, show j % 4 = 0 by omega]
              · rw [if_neg e0]
                have e4 : (j < 4 * (k + 1)) ↔ j < 4 * k := by omega
                simp only [e4]
    · obtain rfl : k = 8 := by omega
      have hR' : Row wr (w.heap.size + 1 + 1) 26 32 (bf (fun j => b4 (hv (j / 4)) (j % 4))) := hR.congr (fun j hj => by rw [if_pos (by omega)]; rfl)
      clear hR hlt
      go_wp2_with (first | (refine ldRow rfl 26 _ rfl rfl hR' Tryd.underlying26 sz26 ?_) | (refine stRow rfl 26 _ _ rfl rfl rfl hR0 sz26 (fun _ _ => rfl) ?_; intro w2 hR2 hg2))
      refine ret_row Tryd.results82 _ hR2 rfl Tryd.underlying26 (Or.inr ⟨_, _, rfl⟩) sz26 rfl ⟨rfl, ?_⟩
      exact hB.grown hg2 hB.size (fun k hk => by cases hk; omega)
end Go.Proofs.YtkmkkmdpjliifaaDoor
