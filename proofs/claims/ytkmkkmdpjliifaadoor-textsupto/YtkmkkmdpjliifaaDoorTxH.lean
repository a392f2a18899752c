import Derived.Test.YtkmkkmdpjliifaaDoorTxG
import Derived.Test.YtkmkkmdpjliifaaDoorTxRd
namespace Go.Proofs.YtkmkkmdpjliifaaDoor
open Go.ChangeShapes Go.WideShapes Go.ChangeAt Go.RowKit

theorem Row.arr (w : World) (t : TypeId) (n : Nat) (f : Nat → Value) : Row (w.alloc (.cells (arrOf n f) t)) w.heap.size t n f :=
  Row.new w t _ f n (arrOf_size n f) (fun j hj => arrOf_get n f j hj)

theorem not32 (a : BitVec 32) : bits .xor .u32 IntKind.u32.max (wi a) = wi (~~~ a) := by
  have : IntKind.u32.max = wi (BitVec.allOnes 32) := by decide
  rw [this, xor32, BitVec.allOnes_xor]
theorem wi_add (a b : BitVec 32) : wi (a + b) = (wi a + wi b) % 4294967296 := (add64 a b).symm
theorem sum7 (a b c d e f g : BitVec 32) : (wi a + wi b + wi c + wi d + wi e + (wi f + wi g)) % 4294967296 = wi (a + b + c + d + e + (f + g)) := by
  simp only [wi_add]; omega
theorem sum6 (a b c d e f : BitVec 32) : (wi f + (wi a + wi b + wi c + wi d + wi e)) % 4294967296 = wi (f + (a + b + c + d + e)) := by
  simp only [wi_add]; omega
theorem arrOf_congr (n : Nat) {f g : Nat → Value} (h : ∀ j, j < n → f j = g j) : arrOf n f = arrOf n g :=
  arrOf_eq n f _ (arrOf_size n g) (fun j hj => by rw [arrOf_get n g j hj, h j hj])

set_option maxRecDepth 20000 in
set_option maxHeartbeats 1000000 in
theorem mix_any (hv : Nat → BitVec 32) (l : List UInt8) (b o cap : Nat) (w : World) (hb : b < w.heap.size) (hC : Cel w b o 64 (fun j => .int .u8 (by_ l j : Nat)))
    (h0 : 0 < w.heap.size) (hK : Rd w 0 0 64 (fun j => .int .u32 (wi (K0 j)))) :
    Calls Tryd.prog 81 #[.agg (arrOf 8 (uf hv)), .slice (some ⟨b, o, none⟩) 64 cap] w fun e w' => e = .returned (.agg (arrOf 8 (uf (blk K0 hv l)))) ∧ Below w.heap.size w w' := by
  go_enter Tryd.func81, Tryd.ntmps81
  have hC2 : Cel ((w.alloc (.cells (arrOf 8 (uf hv)) 122)).alloc (.cells (Array.replicate 8 (.int .u32 0)) 122)) b o 64 (fun j => .int .u8 (by_ l j : Nat)) := (hC.alloc hb _).alloc (by simp; omega) _
  go_wp2_with fail
  refine (spread_any l b o cap _ (by simp; omega) hC2).mono ?_
  rintro e w1 ⟨rfl, hb1⟩
  have hs1 : w.heap.size + 2 ≤ w1.heap.size := by have := hb1.size; simp at this; omega
  have hRh : Row w1 w.heap.size 122 8 (uf hv) := ((Row.arr w 122 8 (uf hv)).alloc _).below hb1 (by simp; omega)
  have hRz : Row w1 (w.heap.size + 1) 122 8 (fun _ => .int .u32 0) := by
    have := Row.new (w.alloc (.cells (arrOf 8 (uf hv)) 122)) 122 (Array.replicate 8 (.int .u32 0)) (fun _ => .int .u32 0) 8 (by simp) (fun j hj => by simp [hj])
    rw [show (w.alloc (.cells (arrOf 8 (uf hv)) 122)).heap.size = w.heap.size + 1 by simp] at this
    exact this.below hb1 (by simp)
  have hB1 : Below w.heap.size w w1 := (((Below.refl w.heap.size w).alloc (Nat.le_refl _) _).alloc (by simp) _).trans (hb1.mono (by simp; omega))
  have hK1 := hK.below hB1 h0
  clear hb1 hC2
  go_wp2_with (refine stRow rfl 141 _ _ rfl rfl rfl (Row.new w1 141 (Array.replicate 64 (.int .u32 0)) (fun _ => .int .u32 0) 64 (by simp) (fun j hj => by simp [hj])) sz141 (fun _ _ => rfl) ?_; intro w2 hS hg2)
  have hs2 := hg2.size
  simp at hs2
  have hRh2 := (hRh.alloc _).grown hg2 (by simp; omega)
  have hRz2 := (hRz.alloc _).grown hg2 (by simp; omega)
  have hK2 := (hK1.alloc (by omega) _).grown (by simp) hg2 (by simp; omega)
  have hB2 : Below w.heap.size w w2 := (hB1.alloc (by omega) _).grown hg2 (by simp; omega) (fun k hk => by cases hk; omega)
  clear hRh hRz hK1 hB1 hg2
  have c0 : w2.cell? ⟨w.heap.size, 0, none⟩ = some (.int .u32 (wi (hv 0))) := hRh2.cell (by omega)
  have c1 : w2.cell? ⟨w.heap.size, 1, none⟩ = some (.int .u32 (wi (hv 1))) := hRh2.cell (by omega)
  have c2 : w2.cell? ⟨w.heap.size, 2, none⟩ = some (.int .u32 (wi (hv 2))) := hRh2.cell (by omega)
  have c3 : w2.cell? ⟨w.heap.size, 3, none⟩ = some (.int .u32 (wi (hv 3))) := hRh2.cell (by omega)
  have c4 : w2.cell? ⟨w.heap.size, 4, none⟩ = some (.int .u32 (wi (hv 4))) := hRh2.cell (by omega)
  have c5 : w2.cell? ⟨w.heap.size, 5, none⟩ = some (.int .u32 (wi (hv 5))) := hRh2.cell (by omega)
  have c6 : w2.cell? ⟨w.heap.size, 6, none⟩ = some (.int .u32 (wi (hv 6))) := hRh2.cell (by omega)
  have c7 : w2.cell? ⟨w.heap.size, 7, none⟩ = some (.int .u32 (wi (hv 7))) := hRh2.cell (by omega)
  go_quiet (fail)
  go_wp2
  go_quiet (fail)
  go_wp2
  clear c0 c1 c2 c3 c4 c5 c6 c7
  go_loopg [6, 7, 8, 9, 10, 11, 12, 13, 35] 64 (fun q a b c d e f g r i wq => ∃ n : Nat, n + q = 64 ∧ i = .int .i64 n ∧
            a = .int .u32 (wi (rounds K0 (Wk l 48) (S8.of hv) n).a) ∧ b = .int .u32 (wi (rounds K0 (Wk l 48) (S8.of hv) n).b) ∧
            c = .int .u32 (wi (rounds K0 (Wk l 48) (S8.of hv) n).c) ∧ d = .int .u32 (wi (rounds K0 (Wk l 48) (S8.of hv) n).d) ∧
            e = .int .u32 (wi (rounds K0 (Wk l 48) (S8.of hv) n).e) ∧ f = .int .u32 (wi (rounds K0 (Wk l 48) (S8.of hv) n).f) ∧
            g = .int .u32 (wi (rounds K0 (Wk l 48) (S8.of hv) n).g) ∧ r = .int .u32 (wi (rounds K0 (Wk l 48) (S8.of hv) n).h) ∧
            ∃ nq, wq = w2.drewN nq)
  case atStart => exact ⟨0, rfl, rfl, rfl, rfl, rfl, rfl, rfl, rfl, rfl, rfl, _, by rw [World.drewN_drewN]⟩
  case round =>
    obtain ⟨n, hn, rfl, rfl, rfl, rfl, rfl, rfl, rfl, rfl, rfl, nq, rfl⟩ := hrel
    generalize hS' : rounds K0 (Wk l 48) (S8.of hv) n = S
    have HS : Hid (rounds K0 (Wk l 48) (S8.of hv) n = S) := hS'
    clear hS'
    by_cases hlt : n < 64
    · have hKc : w2.cell? ⟨0, n, none⟩ = some (.int .u32 (wi (K0 n))) := hK2.cell0 hlt
      have hWc : w2.cell? ⟨w1.heap.size, n, none⟩ = some (.int .u32 (wi (Wk l 48 n))) := hS.cell hlt
      go_wp2_with fail
      go_quiet ((go_at_call 101; refine (thrice6 _ _).mono (fun e w'' h => ⟨h.1, _, h.2⟩)))
      go_wp2_with (go_at_call 101; refine (thrice2 _ _).mono ?_; rintro e w' ⟨rfl, rfl⟩)
      go_roundg (gk - 1)
      case measure => omega
      case rel =>
        refine ⟨n + 1, by omega, by go_num, ?_⟩
        have hr : rounds K0 (Wk l 48) (S8.of hv) (n + 1) = rnd (K0 n) (Wk l 48 n) S := by
          show rnd _ _ (rounds K0 (Wk l 48) (S8.of hv) n) = _
          rw [HS.out]
        rw [hr]
        simp only [not32, and32, xor32, sum7, sum6]
        exact ⟨rfl, rfl, rfl, rfl, rfl, rfl, rfl, rfl, _, rfl⟩
    · obtain rfl : n = 64 := by omega
      clear hlt
      have c0 : w2.cell? ⟨w.heap.size, 0, none⟩ = some (.int .u32 (wi (hv 0))) := hRh2.cell (by omega)
      have c1 : w2.cell? ⟨w.heap.size, 1, none⟩ = some (.int .u32 (wi (hv 1))) := hRh2.cell (by omega)
      have c2 : w2.cell? ⟨w.heap.size, 2, none⟩ = some (.int .u32 (wi (hv 2))) := hRh2.cell (by omega)
      have c3 : w2.cell? ⟨w.heap.size, 3, none⟩ = some (.int .u32 (wi (hv 3))) := hRh2.cell (by omega)
      have c4 : w2.cell? ⟨w.heap.size, 4, none⟩ = some (.int .u32 (wi (hv 4))) := hRh2.cell (by omega)
      have c5 : w2.cell? ⟨w.heap.size, 5, none⟩ = some (.int .u32 (wi (hv 5))) := hRh2.cell (by omega)
      have c6 : w2.cell? ⟨w.heap.size, 6, none⟩ = some (.int .u32 (wi (hv 6))) := hRh2.cell (by omega)
      have c7 : w2.cell? ⟨w.heap.size, 7, none⟩ = some (.int .u32 (wi (hv 7))) := hRh2.cell (by omega)
      have d0 : w2.cell? ⟨w.heap.size + 1, 0, none⟩ = some (.int .u32 0) := hRz2.cell (by omega)
      have d1 : w2.cell? ⟨w.heap.size + 1, 1, none⟩ = some (.int .u32 0) := hRz2.cell (by omega)
      have d2 : w2.cell? ⟨w.heap.size + 1, 2, none⟩ = some (.int .u32 0) := hRz2.cell (by omega)
      have d3 : w2.cell? ⟨w.heap.size + 1, 3, none⟩ = some (.int .u32 0) := hRz2.cell (by omega)
      have d4 : w2.cell? ⟨w.heap.size + 1, 4, none⟩ = some (.int .u32 0) := hRz2.cell (by omega)
      have d5 : w2.cell? ⟨w.heap.size + 1, 5, none⟩ = some (.int .u32 0) := hRz2.cell (by omega)
      have d6 : w2.cell? ⟨w.heap.size + 1, 6, none⟩ = some (.int .u32 0) := hRz2.cell (by omega)
      have d7 : w2.cell? ⟨w.heap.size + 1, 7, none⟩ = some (.int .u32 0) := hRz2.cell (by omega)
      have f0 := hRz2.frozen 0
      have f1 := hRz2.frozen 1
      have f2 := hRz2.frozen 2
      have f3 := hRz2.frozen 3
      have f4 := hRz2.frozen 4
      have f5 := hRz2.frozen 5
      have f6 := hRz2.frozen 6
      have f7 := hRz2.frozen 7
      go_wp2
      have hfin := (((((((((hRz2.drewN nq).set 0 (.int .u32 ((wi (hv 0) + wi S.a) % 4294967296))).set 1 (.int .u32 ((wi (hv 1) + wi S.b) % 4294967296))).set 2 (.int .u32 ((wi (hv 2) + wi S.c) % 4294967296))).set 3 (.int .u32 ((wi (hv 3) + wi S.d) % 4294967296))).set 4 (.int .u32 ((wi (hv 4) + wi S.e) % 4294967296))).set 5 (.int .u32 ((wi (hv 5) + wi S.f) % 4294967296))).set 6 (.int .u32 ((wi (hv 6) + wi S.g) % 4294967296))).set 7 (.int .u32 ((wi (hv 7) + wi S.h) % 4294967296)))
      refine ret_row Tryd.results81 _ hfin rfl Tryd.underlying122 (Or.inr ⟨_, _, rfl⟩) sz122 rfl ⟨congrArg (fun c => Ending.returned (.agg c)) (arrOf_congr 8 (fun j hj => ?_)), ?_⟩
      · unfold uf blk
        rw [HS.out]
        rcases (show j = 0 ∨ j = 1 ∨ j = 2 ∨ j = 3 ∨ j = 4 ∨ j = 5 ∨ j = 6 ∨ j = 7 by omega) with rfl | rfl | rfl | rfl | rfl | rfl | rfl | rfl <;> exact congrArg (Value.int .u32) (add32' _ _)
      · exact ((((((((below_drewN' hB2 nq).setCell (by simp) _).setCell (by simp) _).setCell (by simp) _).setCell (by simp) _).setCell (by simp) _).setCell (by simp) _).setCell (by simp) _).setCell (by simp) _
end Go.Proofs.YtkmkkmdpjliifaaDoor
