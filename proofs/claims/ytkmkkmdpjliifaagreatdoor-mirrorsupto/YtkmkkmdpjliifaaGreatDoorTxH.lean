import Derived.Test.YtkmkkmdpjliifaaGreatDoorSvI
import Derived.Test.YtkmkkmdpjliifaaGreatDoorTxC
namespace Go.Proofs.YtkmkkmdpjliifaaGreatDoor
open Go.ChangeShapes Go.WideShapes Go.ChangeAt Go.RowKit

theorem Row.arr (w : World) (t : TypeId) (n : Nat) (f : Nat → Value) : Row (w.alloc (.cells (arrOf n f) t)) w.heap.size t n f :=
  Row.new w t _ f n (arrOf_size n f) (fun j hj => arrOf_get n f j hj)

theorem not32 (a : BitVec 32) : bits .xor .u32 IntKind.u32.max (wi a) = wi (~~~ a) := by
  have : IntKind.u32.max = wi (BitVec.allOnes 32) := by decide
  rw [this, xor32, BitVec.allOnes_xor]
theorem wi_add (a b : BitVec 32) : wi (a + b) = (wi a + wi b) % 4294967296 := (add64 a b).symm
theorem sum7 (a b c d e f g : BitVec 32) : (wi a + wi b + wi c + wi d + wi e + (wi f + wi g)) % 4294967296 = wi (a + b + c + d + e + (f + g)) := by
  simp only [wi_add]; omega
theorem sum6 (a b c d e f : BitVec 32) : (wi f + (wi a + wi b + wi c + wi d + wi e)) % 4294967296 = wi (f + (a + b + c + d + e)) := by
  simp only [wi_add]; omega
theorem arrOf_congr (n : Nat) {f g : Nat → Value} (h : ∀ j, j < n → f j = g j) : arrOf n f = arrOf n g :=
  arrOf_eq n f _ (arrOf_size n g) (fun j hj => by rw [arrOf_get n g j hj, h j hj])

set_option maxRecDepth 20000 in
set_option maxHeartbeats 1000000 in
theorem mix_any (hv : Nat → BitVec 32) (l : List UInt8) (b o cap : Nat) (w : World) (hb : b < w.heap.size) (hC : Cel w b o 64 (fun j => .int .u8 (by_ l j : Nat)))
    (h0 : 2 < w.heap.size) (hK : Rk w 2 0 64 (fun j => .int .u32 (wi (K0 j)))) :
    Calls Tryz.prog 167 #[.agg (arrOf 8 (uf hv)), .slice (some ⟨b, o, none⟩) 64 cap] w fun e w' => e = .returned (.agg (arrOf 8 (uf (blk K0 hv l)))) ∧ Below w.heap.size w w' := by
  go_enter Tryz.func167, Tryz.ntmps167
  have hC2 : Cel ((w.alloc (.cells (arrOf 8 (uf hv)) 212)).alloc (.cells (Array.replicate 8 (.int .u32 0)) 212)) b o 64 (fun j => .int .u8 (by_ l j : Nat)) := (hC.alloc hb _).alloc (by simp; omega) _
  go_wp2_with fail
  refine (spread_any l b o cap _ (by simp; omega) hC2).mono ?_
  rintro e w1 ⟨rfl, hb1⟩
  have hs1 : w.heap.size + 2 ≤ w1.heap.size := by have := hb1.size; simp at this; omega
  have hRh : Row w1 w.heap.size 212 8 (uf hv) := ((Row.arr w 212 8 (uf hv)).alloc _).below hb1 (by simp; omega)
  have hRz : Row w1 (w.heap.size + 1) 212 8 (fun _ => .int .u32 0) := by
    have := Row.new (w.alloc (.cells (arrOf 8 (uf hv)) 212)) 212 (Array.replicate 8 (.int .u32 0)) (fun _ => .int .u32 0) 8 (by simp) (fun j hj => by simp [hj])
    rw [show (w.alloc (.cells (arrOf 8 (uf hv)) 212)).heap.size = w.heap.size + 1 by simp] at this
    exact this.below hb1 (by simp)
  have hB1 : Below w.heap.size w w1 := (((Below.refl w.heap.size w).alloc (Nat.le_refl _) _).alloc (by simp) _).trans (hb1.mono (by simp; omega))
  have hK1 := hK.below hB1 h0
  clear hb1 hC2
  go_wp2_with (refine stRow rfl 247 _ _ rfl rfl rfl (Row.new w1 247 (Array.replicate 64 (.int .u32 0)) (fun _ => .int .u32 0) 64 (by simp) (fun j hj => by simp [hj])) sz247 (fun _ _ => rfl) ?_; intro w2 hS hg2)
  have hs2 := hg2.size
  simp at hs2
  have hRh2 := (hRh.alloc _).grown hg2 (by simp; omega)
  have hRz2 := (hRz.alloc _).grown hg2 (by simp; omega)
  have hK2 := (hK1.alloc (by omega) _).grown (by simp; omega) hg2 (by simp; omega)
  have hB2 : Below w.heap.size w w2 := (hB1.alloc (by omega) _).grown hg2 (by simp; omega) (fun k hk => by cases hk; omega)
  clear hRh hRz hK1 hB1 hg2
  have c0 : w2.cell? ⟨w.heap.size, 0, none⟩ = some (.int .u32 (wi (hv 0))) := hRh2.cell (by omega)
  have c1 : w2.cell? ⟨w.heap.size, 1, none⟩ = some (.int .u32 (wi (hv 1))) := hRh2.cell (by omega)
  have c2 : w2.cell? ⟨w.heap.size, 2, none⟩ = some (.int .u32 (wi (hv 2))) := hRh2.cell (by omega)
  have c3 : w2.cell? ⟨w.heap.size, 3, none⟩ = some (.int .u32 (wi (hv 3))) := hRh2.cell (by omega)
  have c4 : w2.cell? ⟨w.heap.size, 4, none⟩ = some (.int .u32 (wi (hv 4))) := hRh2.cell (by omega)
  have c5 : w2.cell? ⟨w.heap.size, 5, none⟩ = some (.int .u32 (wi (hv 5))) := hRh2.cell (by omega)
  have c6 : w2.cell? ⟨w.heap.size, 6, none⟩ = some (.int .u32 (wi (hv 6))) := hRh2.cell (by omega)
  have c7 : w2.cell? ⟨w.heap.size, 7, none⟩ = some (.int .u32 (wi (hv 7))) := hRh2.cell (by omega)
  go_quiet (fail)
  go_wp2
  go_quiet (fail)
  go_wp2
  clear c0 c1 c2 c3 c4 c5 c6 c7
  go_loopg [6, 7, 8, 9, 10, 11, 12, 13, 35] 64 (fun q a b c d e f g r i wq => ∃ n : Nat, n + q = 64 ∧ i = .int .i64 n ∧
            a = .int .u32 (wi (rounds K0 (Wk l 48) (S8.of hv) n).a) ∧ b = .int .u32 (wi (rounds K0 (Wk l 48) (S8.of hv) n).b) ∧
            c = .int .u32 (wi (rounds K0 (Wk l 48) (S8.of hv) n).c) ∧ d = .int .u32 (wi (rounds K0 (Wk l 48) (S8.of hv) n).d) ∧
            e = .int .u32 (wi (rounds K0 (Wk l 48) (S8.of hv) n).e) ∧ f = .int .u32 (wi (rounds K0 (Wk l 48) (S8.of hv) n).f) ∧
            g = .int .u32 (wi (rounds K0 (Wk l 48) (S8.of hv) n).g) ∧ r = .int .u32 (wi (rounds K0 (Wk l 48) (S8.of hv) n).h) ∧
            ∃ nq, wq = w2.drewN nq)
  case atStart => exact ⟨0, rfl, rfl, rfl, rfl, rfl, rfl, rfl, rfl, rfl, rfl, _, by rw [World.drewN_drewN]⟩
  case round =>
    obtain ⟨n, hn, rfl, rfl, rfl, rfl, rfl, rfl, rfl, rfl, rfl, nq, rfl⟩ := hrel
    generalize hS' : rounds K0 (Wk l 48) (S8.of hv) n = S
    have HS : Hid (rounds K0 (Wk l 48) (S8.of hv) n = S) := hS'
    clear hS'
    by_cases hlt : n < 64
    · have hKc : w2.cell? ⟨2, n, none⟩ = some (.int .u32 (wi (K0 n))) := hK2.cell0 hlt
      have hWc : w2.cell? ⟨w1.heap.size, n, none⟩ = some (.int .u32 (wi (Wk l 48 n))) := hS.cell hlt
      go_wp2_with fail
      go_quiet ((go_at_call 198; refine (thrice6 _ _).mono (fun e w'' h => ⟨h.1, _, h.2⟩)))
      go_wp2_with (go_at_call 198; refine (thrice2 _ _).mono ?_; rintro e w' ⟨rfl, rfl⟩)
      go_roundg (gk - 1)
      case measure => omega
      case rel =>
        refine ⟨n + 1, by omega, by go_num, ?_⟩
        have hr : rounds K0 (Wk l 48) (S8.of hv) (n + 1) = rnd (K0 n) (Wk l 48 n) S := by
          show rnd _ _ (rounds K0 (Wk l 48) (S8.of hv) n) = _
          rw [HS.out]
        rw [hr]
        simp only [not32, and32, xor32, sum7, sum6]
        exact ⟨rfl, rfl, rfl, rfl, rfl, rfl, rfl, rfl, _, rfl⟩
    · obtain rfl : n = 64 := by omega
      clear hlt
      have c0 : w2.cell? ⟨w.heap.size, 0, none⟩ = some (.int .u32 (wi (hv 0))) := hRh2.cell (by omega)
      have c1 : w2.cell? ⟨w.heap.size, 1, none⟩ = some (.int .u32 (wi (hv 1))) := hRh2.cell (by omega)
      have c2 : w2.cell? ⟨w.heap.size, 2, none⟩ = some (.int .u32 (wi (hv 2))) := hRh2.cell (by omega)
      have c3 : w2.cell? ⟨w.heap.size, 3, none⟩ = some (.int .u32 (wi (hv 3))) := hRh2.cell (by omega)
      have c4 : w2.cell? ⟨w.heap.size, 4, none⟩ = some (.int .u32 (wi (hv 4))) := hRh2.cell (by omega)
      have c5 : w2.cell? ⟨w.heap.size, 5, none⟩ = some (.int .u32 (wi (hv 5))) := hRh2.cell (by omega)
      have c6 : w2.cell? ⟨w.heap.size, 6, none⟩ = some (.int .u32 (wi (hv 6))) := hRh2.cell (by omega)
      have c7 : w2.cell? ⟨w.heap.size, 7, none⟩ = some (.int .u32 (wi (hv 7))) := hRh2.cell (by omega)
      have d0 : w2.cell? ⟨w.heap.size + 1, 0, none⟩ = some (.int .u32 0) := hRz2.cell (by omega)
      have d1 : w2.cell? ⟨w.heap.size + 1, 1, none⟩ = some (.int .u32 0) := hRz2.cell (by omega)
      have d2 : w2.cell? ⟨w.heap.size + 1, 2, none⟩ = some (.int .u32 0) := hRz2.cell (by omega)
      have d3 : w2.cell? ⟨w.heap.size + 1, 3, none⟩ = some (.int .u32 0) := hRz2.cell (by omega)
      have d4 : w2.cell? ⟨w.heap.size + 1, 4, none⟩ = some (.int .u32 0) := hRz2.cell (by omega)
      have d5 : w2.cell? ⟨w.heap.size + 1, 5, none⟩ = some (.int .u32 0) := hRz2.cell (by omega)
      have d6 : w2.cell? ⟨w.heap.size + 1, 6, none⟩ = some (.int .u32 0) := hRz2.cell (by omega)
      have d7 : w2.cell? ⟨w.heap.size + 1, 7, none⟩ = some (.int .u32 0) := hRz2.cell (by omega)
      have f0 := hRz2.frozen 0
      have f1 := hRz2.frozen 1
      have f2 := hRz2.frozen 2
      have f3 := hRz2.frozen 3
      have f4 := hRz2.frozen 4
      have f5 := hRz2.frozen 5
      have f6 := hRz2.frozen 6
      have f7 := hRz2.frozen 7
      go_wp2
      have hfin := (((((((((hRz2.drewN nq).set 0 (.int .u32 ((wi (hv 0) + wi S.a) % 4294967296))).set 1 (.int .u32 ((wi (hv 1) + wi S.b) % 4294967296))).set 2 (.int .u32 ((wi (hv 2) + wi S.c) % 4294967296))).set 3 (.int .u32 ((wi (hv 3) + wi S.d) % 4294967296))).set 4 (.int .u32 ((wi (hv 4) + wi S.e) % 4294967296))).set 5 (.int .u32 ((wi (hv 5) + wi S.f) % 4294967296))).set 6 (.int .u32 ((wi (hv 6) + wi S.g) % 4294967296))).set 7 (.int .u32 ((wi (hv 7) + wi S.h) % 4294967296)))
      refine ret_row Tryz.results167 _ hfin rfl Tryz.underlying212 (Or.inr ⟨_, _, rfl⟩) sz212 rfl ⟨congrArg (fun c => Ending.returned (.agg c)) (arrOf_congr 8 (fun j hj => ?_)), ?_⟩
      · unfold uf blk
        rw [HS.out]
        rcases (show j = 0 ∨ j = 1 ∨ j = 2 ∨ j = 3 ∨ j = 4 ∨ j = 5 ∨ j = 6 ∨ j = 7 by omega) with rfl | rfl | rfl | rfl | rfl | rfl | rfl | rfl <;> exact congrArg (Value.int .u32) (add32' _ _)
      · exact ((((((((below_drewN' hB2 nq).setCell (by simp) _).setCell (by simp) _).setCell (by simp) _).setCell (by simp) _).setCell (by simp) _).setCell (by simp) _).setCell (by simp) _).setCell (by simp) _
end Go.Proofs.YtkmkkmdpjliifaaGreatDoor
namespace Go.Proofs.YtkmkkmdpjliifaaGreatDoor
open Go.ChangeShapes Go.WideShapes Go.ChangeAt Go.RowKit

theorem info154 : (Tryz.prog.info? 154).map (fun i => (i.zero, i.size, i.bytes)) = some (some (.int .u32 0), 1, 4) := by kernel_rfl
theorem index210 (f : Nat → BitVec 32) (k : Nat) (hk : k < 8) (u : World) : (Instr.index 212 (.agg (arrOf 8 (uf f))) (.int .i64 (k : Int))).run Tryz.prog u = .ok (.int .u32 (wi (f k))) u := by
  have hw : IntKind.i64.wrap (k : Int) = (k : Int) := by rw [IntKind.wrap_i64]; omega
  have h1 := arrOf_get 8 (uf f) k hk
  obtain ⟨i0, hi, hz0, hz1, hz2⟩ := info_parts info154
  unfold Instr.index
  simp [run_underlying Tryz.underlying212, run_underlying Tryz.underlying154, asIntOf, hk, sizeOf, typeInfo, hi, hz1, part, isAgg, h1]
  rfl
theorem b4_0 (x : BitVec 32) : wi x / 16777216 % 256 = (b4 x 0 : Nat) := by unfold wi b4; omega
theorem b4_1 (x : BitVec 32) : wi x / 65536 % 256 = (b4 x 1 : Nat) := by unfold wi b4; omega
theorem b4_2 (x : BitVec 32) : wi x / 256 % 256 = (b4 x 2 : Nat) := by unfold wi b4; omega
theorem b4_3 (x : BitVec 32) : wi x % 256 = (b4 x 3 : Nat) := by unfold wi b4; omega
/-- bytes, as an array's -/
def bf (f : Nat → Nat) (j : Nat) : Value := .int .u8 (f j : Int)

set_option maxRecDepth 20000 in
set_option maxHeartbeats 1000000 in
theorem wordBytes_any (hv : Nat → BitVec 32) (w : World) :
    Calls Tryz.prog 168 #[.agg (arrOf 8 (uf hv))] w fun e w' => e = .returned (.agg (arrOf 32 (bf (fun j => b4 (hv (j / 4)) (j % 4))))) ∧ Below w.heap.size w w' := by
  have hR := Row.arr w 212 8 (uf hv)
  go_enter Tryz.func168, Tryz.ntmps168
  go_wp2_with (refine ldRow rfl 212 _ rfl rfl ((hR.alloc _).alloc _) Tryz.underlying212 sz212 ?_)
  go_loopg [7] 8 (fun q i wr => ∃ k : Nat, k + q = 8 ∧ i = .int .i64 k ∧ Row wr (w.heap.size + 1) 105 32 (fun _ => .int .u8 0) ∧ Row wr (w.heap.size + 1 + 1) 105 32 (fun j => .int .u8 (if j < 4 * k then (b4 (hv (j / 4)) (j % 4) : Nat) else 0 : Int)) ∧ Below w.heap.size w wr)
  case atStart =>
    refine ⟨0, rfl, rfl, ?_, ?_, (((Below.refl _ _).alloc (Nat.le_refl _) _).alloc (by simp) _).alloc (by simp; omega) _⟩
    · have h := Row.new (w.alloc (.cells (arrOf 8 (uf hv)) 212)) 105 (Array.replicate 32 (.int .u8 0)) (fun _ => .int .u8 0) 32 (by simp) (fun j hj => by simp [hj])
      rw [show (w.alloc (.cells (arrOf 8 (uf hv)) 212)).heap.size = w.heap.size + 1 by simp] at h
      exact h.alloc _
    · have h := Row.new ((w.alloc (.cells (arrOf 8 (uf hv)) 212)).alloc (.cells (Array.replicate 32 (.int .u8 0)) 105)) 105 (Array.replicate 32 (.int .u8 0)) (fun j => .int .u8 (if j < 4 * 0 then (b4 (hv (j / 4)) (j % 4) : Nat) else 0 : Int)) 32 (by simp) (fun j hj => by simp [hj])
      rw [show ((w.alloc (.cells (arrOf 8 (uf hv)) 212)).alloc (.cells (Array.replicate 32 (.int .u8 0)) 105)).heap.size = w.heap.size + 1 + 1 by simp] at h
      exact h
  case round =>
    obtain ⟨k, hk, rfl, hR0, hR, hB⟩ := hrel
    by_cases hlt : k < 8
    · have hix := index210 hv k hlt
      have c0 := hR.cell (j := 4 * k) (by omega)
      have c1 := hR.cell (j := 4 * k + 1) (by omega)
      have c2 := hR.cell (j := 4 * k + 2) (by omega)
      have c3 := hR.cell (j := 4 * k + 3) (by omega)
      rw [if_neg (by omega)] at c0 c1 c2 c3
      have f0 := hR.frozen (4 * k)
      have f1 := hR.frozen (4 * k + 1)
      have f2 := hR.frozen (4 * k + 2)
      have f3 := hR.frozen (4 * k + 3)
      go_wp2
      go_roundg (gk - 1)
      case measure => omega
      case rel =>
        refine ⟨k + 1, by omega, by go_num, (((hR0.other (by simp) _).other (by simp) _).other (by simp) _).other (by simp) _, ((((hR.set (4 * k) _).set (4 * k + 1) _).set (4 * k + 2) _).set (4 * k + 3) _).congr (fun j hj => ?_),
          (((hB.setCell (by simp; omega) _).setCell (by simp; omega) _).setCell (by simp; omega) _).setCell (by simp; omega) _⟩
        show (if j = 4 * k + 3 then _ else if j = 4 * k + 2 then _ else if j = 4 * k + 1 then _ else if j = 4 * k then _ else _) = _
        rw [b4_0, b4_1, b4_2, b4_3]
        by_cases e3 : j = 4 * k + 3
        · rw [if_pos e3, if_pos (by omega), show j / 4 = k by omega, show j % 4 = 3 by omega]
        · rw [if_neg e3]
          by_cases e2 : j = 4 * k + 2
          · rw [if_pos e2, if_pos (by omega), show j / 4 = k by omega, show j % 4 = 2 by omega]
          · rw [if_neg e2]
            by_cases e1 : j = 4 * k + 1
            · rw [if_pos e1, if_pos (by omega), show j / 4 = k by omega, show j % 4 = 1 by omega]
            · rw [if_neg e1]
              by_cases e0 : j = 4 * k
              · rw [if_pos e0, if_pos (by omega), show j / 4 = k by omega, show j % 4 = 0 by omega]
              · rw [if_neg e0]
                have e4 : (j < 4 * (k + 1)) ↔ j < 4 * k := by omega
                simp only [e4]
    · obtain rfl : k = 8 := by omega
      have hR' : Row wr (w.heap.size + 1 + 1) 105 32 (bf (fun j => b4 (hv (j / 4)) (j % 4))) := hR.congr (fun j hj => by rw [if_pos (by omega)]; rfl)
      clear hR hlt
      go_wp2_with (first | (refine ldRow rfl 105 _ rfl rfl hR' Tryz.underlying105 sz105 ?_) | (refine stRow rfl 105 _ _ rfl rfl rfl hR0 sz105 (fun _ _ => rfl) ?_; intro w2 hR2 hg2))
      refine ret_row Tryz.results168 _ hR2 rfl Tryz.underlying105 (Or.inr ⟨_, _, rfl⟩) sz105 rfl ⟨rfl, ?_⟩
      exact hB.grown hg2 hB.size (fun k hk => by cases hk; omega)
end Go.Proofs.YtkmkkmdpjliifaaGreatDoor
namespace Go.Proofs.YtkmkkmdpjliifaaGreatDoor
open Go.ChangeShapes Go.WideShapes Go.ChangeAt Go.RowKit

/-- the words after n blocks -/
def hk (K H : Nat → BitVec 32) (P : List UInt8) : Nat → Nat → BitVec 32
  | 0 => H
  | n + 1 => blk K (hk K H P n) ((P.drop (64 * n)).take 64)
/-- the hash -/
def shaF (K H : Nat → BitVec 32) (l : List UInt8) (j : Nat) : Nat := b4 (hk K H (padL l) ((padL l).length / 64) (j / 4)) (j % 4)
def shaL (K H : Nat → BitVec 32) (l : List UInt8) : List UInt8 := bs 32 (shaF K H l)
theorem bs_four (f : Nat → Nat) (g : Nat → BitVec 32) (hf : ∀ j, f j = b4 (g (j / 4)) (j % 4)) (k : Nat) : bs (4 * k) f ++ b4s (g k) = bs (4 * (k + 1)) f := by
  have e : ∀ i, i < 4 → UInt8.ofNat (f (4 * k + i)) = UInt8.ofNat (b4 (g k) i) := fun i hi => by
    rw [hf, show (4 * k + i) / 4 = k by omega, show (4 * k + i) % 4 = i by omega]
  rw [show 4 * (k + 1) = 4 * k + 1 + 1 + 1 + 1 by omega]
  unfold bs b4s
  rw [List.range_succ, List.range_succ, List.range_succ, List.range_succ]
  simp only [List.map_append, List.map_cons, List.map_nil, List.append_assoc, List.cons_append, List.nil_append]
  rw [show 4 * k + 1 + 1 + 1 = 4 * k + 3 by omega, show 4 * k + 1 + 1 = 4 * k + 2 by omega, e 3 (by omega), e 2 (by omega), e 1 (by omega)]
  have e0 := e 0 (by omega)
  rw [Nat.add_zero] at e0
  rw [e0]
/-- a block of the key, some bits of each byte turned -/
def tk (l : List UInt8) (m : Nat) : List UInt8 := bs 64 (fun j => by_ l j ^^^ m)
theorem tk_length (l : List UInt8) (m : Nat) : (tk l m).length = 64 := bs_length _ _
theorem shaL_length (K H : Nat → BitVec 32) (l : List UInt8) : (shaL K H l).length = 32 := bs_length _ _
theorem by_zeros (l : List UInt8) (n j : Nat) : by_ (l ++ List.replicate n 0) j = by_ l j := by
  unfold by_
  rw [List.getD_eq_getElem?_getD, List.getD_eq_getElem?_getD]
  rcases Nat.lt_or_ge j l.length with h | h
  · rw [List.getElem?_append_left h]
  · rw [List.getElem?_append_right h, List.getElem?_eq_none (l := l) h]
    rcases Nat.lt_or_ge (j - l.length) n with h2 | h2
    · rw [List.getElem?_replicate_of_lt h2]; rfl
    · rw [List.getElem?_eq_none (by simpa using h2)]
theorem tk_zeros (l : List UInt8) (n m : Nat) : tk (l ++ List.replicate n 0) m = tk l m := by
  unfold tk; congr 1; funext j; rw [by_zeros]
/-- a key of more than 64 bytes is its hash -/
def keyL (K H : Nat → BitVec 32) (key : List UInt8) : List UInt8 := if 64 < key.length then shaL K H key else key
theorem keyL_le (K H : Nat → BitVec 32) (key : List UInt8) : (keyL K H key).length ≤ 64 := by
  unfold keyL; split
  · rw [shaL_length]; omega
  · omega
/-- the mac -/
def macL (K H : Nat → BitVec 32) (key text : List UInt8) : List UInt8 := shaL K H (tk (keyL K H key) 92 ++ shaL K H (tk (keyL K H key) 54 ++ text))
theorem padL_le (l : List UInt8) : (padL l).length ≤ l.length + 72 := by
  simp only [padL, List.length_append, List.length_cons, List.length_replicate, bs_length]
  unfold zs; omega
end Go.Proofs.YtkmkkmdpjliifaaGreatDoor
namespace Go.Proofs.YtkmkkmdpjliifaaGreatDoor
open Go.ChangeShapes Go.WideShapes Go.ChangeAt Go.RowKit

theorem arr8 (h : Nat → BitVec 32) : arrOf 8 (uf h) = #[.int .u32 (wi (h 0)), .int .u32 (wi (h 1)), .int .u32 (wi (h 2)), .int .u32 (wi (h 3)), .int .u32 (wi (h 4)), .int .u32 (wi (h 5)), .int .u32 (wi (h 6)), .int .u32 (wi (h 7))] :=
  arrOf_eq 8 _ _ rfl (fun j hj => by rcases (show j = 0 ∨ j = 1 ∨ j = 2 ∨ j = 3 ∨ j = 4 ∨ j = 5 ∨ j = 6 ∨ j = 7 by omega) with rfl | rfl | rfl | rfl | rfl | rfl | rfl | rfl <;> rfl)
theorem mix_lit (hv : Nat → BitVec 32) (l : List UInt8) (b o cap : Nat) (w : World) (hb : b < w.heap.size) (hC : Cel w b o 64 (fun j => .int .u8 (by_ l j : Nat)))
    (h0 : 2 < w.heap.size) (hK : Rk w 2 0 64 (fun j => .int .u32 (wi (K0 j)))) :
    Calls Tryz.prog 167 #[.agg #[.int .u32 (wi (hv 0)), .int .u32 (wi (hv 1)), .int .u32 (wi (hv 2)), .int .u32 (wi (hv 3)), .int .u32 (wi (hv 4)), .int .u32 (wi (hv 5)), .int .u32 (wi (hv 6)), .int .u32 (wi (hv 7))], .slice (some ⟨b, o, none⟩) 64 cap] w fun e w' =>
      e = .returned (.agg #[.int .u32 (wi (blk K0 hv l 0)), .int .u32 (wi (blk K0 hv l 1)), .int .u32 (wi (blk K0 hv l 2)), .int .u32 (wi (blk K0 hv l 3)), .int .u32 (wi (blk K0 hv l 4)), .int .u32 (wi (blk K0 hv l 5)), .int .u32 (wi (blk K0 hv l 6)), .int .u32 (wi (blk K0 hv l 7))]) ∧ Below w.heap.size w w' := by
  have := mix_any hv l b o cap w hb hC h0 hK
  rw [arr8, arr8] at this
  exact this
theorem start_lit (w : World) : Calls Tryz.prog 165 #[] w fun e w' => e = .returned (.agg #[.int .u32 (wi (H0 0)), .int .u32 (wi (H0 1)), .int .u32 (wi (H0 2)), .int .u32 (wi (H0 3)), .int .u32 (wi (H0 4)), .int .u32 (wi (H0 5)), .int .u32 (wi (H0 6)), .int .u32 (wi (H0 7))]) ∧ Below w.heap.size w w' := by
  have := startWords_any w
  rw [arr8] at this
  exact this
theorem bytes_lit (hv : Nat → BitVec 32) (w : World) :
    Calls Tryz.prog 168 #[.agg #[.int .u32 (wi (hv 0)), .int .u32 (wi (hv 1)), .int .u32 (wi (hv 2)), .int .u32 (wi (hv 3)), .int .u32 (wi (hv 4)), .int .u32 (wi (hv 5)), .int .u32 (wi (hv 6)), .int .u32 (wi (hv 7))]] w fun e w' => e = .returned (.agg (arrOf 32 (bf (fun j => b4 (hv (j / 4)) (j % 4))))) ∧ Below w.heap.size w w' := by
  have := wordBytes_any hv w
  rw [arr8] at this
  exact this

theorem elem110 : Tryz.prog.underlying 110 = some (.slice (Tryz.prog.elem 110)) := by kernel_rfl
theorem elem110' : Tryz.prog.elem 110 = 5 := by kernel_rfl
theorem sliceB64 (g L cap n : Nat) (h : 64 * n + 64 ≤ L) (hL : L ≤ cap) (hl : L ≤ 8388608) (u : World) :
    (Instr.slice 110 (.slice (some ⟨g, 0, none⟩) L cap) (some (.int .i64 (64 * (n : Int)))) (some (.int .i64 (IntKind.i64.wrap (64 * (n : Int) + 64)))) none).run Tryz.prog u = .ok (.slice (some ⟨g, 64 * n, none⟩) 64 (cap - 64 * n)) u := by
  have hw : IntKind.i64.wrap (64 * (n : Int) + 64) = 64 * (n : Int) + 64 := by rw [IntKind.wrap_i64]; omega
  obtain ⟨i0, hi, hz0, hz1, hz2⟩ := info_parts info5
  rw [hw, run_slice_lh (w := u) 110 _ L cap elem110 .i64 .i64 _ _ (by omega) (by omega) (by omega), elem110']
  have e1 : (64 * (n : Int)).toNat = 64 * n := by omega
  have e2 : (64 * (n : Int) + 64).toNat = 64 * n + 64 := by omega
  have hsz : (sizeOf 5).run Tryz.prog u = .ok 1 u := by simp [sizeOf, typeInfo, hi, hz1]
  rw [hsz]
  simp only [Result.andThen, sliced, e1, e2]
  rw [if_neg (by omega), show 64 * n + 64 - 64 * n = 64 by omega]
  simp [Addr.add]
  omega
theorem OwnB.cap {w : World} {base g n cap : Nat} {l : List Nat} (h : OwnB w base (.slice (some ⟨g, 0, none⟩) n cap) l) : n ≤ cap := by
  rcases h.2 with ⟨h1, _⟩ | ⟨g', cap', cur, hv, _, _, hc, _⟩
  · cases h1
  · cases hv; exact hc

theorem set8 {w : World} {b : Nat} {t : TypeId} {f : Nat → Value} (h : Row w b t 8 f) (g : Nat → Value) :
    Row ((((((((w.setCell ⟨b, 0, none⟩ (g 0)).setCell ⟨b, 1, none⟩ (g 1)).setCell ⟨b, 2, none⟩ (g 2)).setCell ⟨b, 3, none⟩ (g 3)).setCell ⟨b, 4, none⟩ (g 4)).setCell ⟨b, 5, none⟩ (g 5)).setCell ⟨b, 6, none⟩ (g 6)).setCell ⟨b, 7, none⟩ (g 7)) b t 8 g ∧
    w.grownBy ((((((((w.setCell ⟨b, 0, none⟩ (g 0)).setCell ⟨b, 1, none⟩ (g 1)).setCell ⟨b, 2, none⟩ (g 2)).setCell ⟨b, 3, none⟩ (g 3)).setCell ⟨b, 4, none⟩ (g 4)).setCell ⟨b, 5, none⟩ (g 5)).setCell ⟨b, 6, none⟩ (g 6)).setCell ⟨b, 7, none⟩ (g 7)) (some b) := by
  refine ⟨((((((((h.set 0 (g 0)).set 1 (g 1)).set 2 (g 2)).set 3 (g 3)).set 4 (g 4)).set 5 (g 5)).set 6 (g 6)).set 7 (g 7)).congr (fun j hj => ?_), ?_⟩
  · rcases (show j = 0 ∨ j = 1 ∨ j = 2 ∨ j = 3 ∨ j = 4 ∨ j = 5 ∨ j = 6 ∨ j = 7 by omega) with rfl | rfl | rfl | rfl | rfl | rfl | rfl | rfl <;> rfl
  · exact grown_trans (grown_trans (grown_trans (grown_trans (grown_trans (grown_trans (grown_trans (grown_setCell _ _ _) (grown_setCell _ _ _)) (grown_setCell _ _ _)) (grown_setCell _ _ _)) (grown_setCell _ _ _)) (grown_setCell _ _ _)) (grown_setCell _ _ _)) (grown_setCell _ _ _)

set_option maxRecDepth 20000 in
set_option maxHeartbeats 1000000 in
theorem hash_any (s : ByteArray) (w : World) (hs : s.size ≤ 4194304) (h0 : 2 < w.heap.size) (hK : Rk w 2 0 64 (fun j => .int .u32 (wi (K0 j)))) :
    Calls Tryz.prog 132 #[.string s] w fun e w' => e = .returned (.agg (arrOf 32 (bf (shaF K0 H0 s.data.toList)))) ∧ Below w.heap.size w w' := by
  go_enter Tryz.func132, Tryz.ntmps132
  go_wp2_with fail
  refine (start_lit _).mono ?_
  rintro e w1 ⟨rfl, hb1⟩
  have hs1 : w.heap.size + 1 ≤ w1.heap.size := by have := hb1.size; simp at this; omega
  have hR0 : Row w1 w.heap.size 105 32 (fun _ => .int .u8 0) := (Row.new w 105 (Array.replicate 32 (.int .u8 0)) _ 32 (by simp) (fun j hj => by simp [hj])).below hb1 (by simp)
  have hB1 : Below w.heap.size w w1 := ((Below.refl w.heap.size w).alloc (Nat.le_refl _) _).trans (hb1.mono (by simp))
  clear hb1
  go_wp2_with fail
  refine (pad_any s _ hs).mono ?_
  rintro e w2 ⟨v, rfl, hO, hb2⟩
  have hs2 : w1.heap.size + 1 ≤ w2.heap.size := by have := hb2.size; simp at this; omega
  have hR0' := (hR0.alloc _).below hb2 (by simp; omega)
  have hR1 : Row w2 w1.heap.size 212 8 (uf H0) := by
    have h := Row.arr w1 212 8 (uf H0)
    rw [arr8] at h
    exact h.below hb2 (by simp)
  have hB2 := (hB1.alloc (by omega) _).trans (hb2.mono (by simp; omega))
  have hP := padM_padL s.data.toList
  obtain ⟨P, hPP⟩ : ∃ P, P = padL s.data.toList := ⟨_, rfl⟩
  have hpl : P.length ≤ s.size + 72 := by rw [hPP]; exact padL_le s.data.toList
  have hpm : P.length % 64 = 0 := by rw [hPP]; exact padL_length s.data.toList
  have hpos : 0 < P.length := by rw [hPP]; simp only [padL, List.length_append, List.length_cons]; omega
  rw [← hPP] at hP
  rw [← hP] at hO
  rcases OwnB.shape hO with ⟨_, h2⟩ | ⟨g, cap, rfl, hg0, hg, hC⟩
  · rw [List.map_eq_nil_iff] at h2; rw [h2] at hpos; exact absurd hpos (by simp)
  have hcap := OwnB.cap hO
  rw [List.length_map] at hC hcap ⊢
  have hC' : Cel w2 g 0 P.length (fun j => .int .u8 (by_ P j : Nat)) := hC.congr (fun j hj => by
    unfold by_
    rw [List.getD_eq_getElem?_getD, List.getElem?_map, List.getElem?_eq_getElem hj, List.getD_eq_getElem?_getD, List.getElem?_eq_getElem hj]; rfl)
  have hg1 : w1.heap.size < g := by simp at hg0; omega
  have HP : Hid (P = padL s.data.toList ∧ s.size ≤ 4194304 ∧ P.length ≤ s.size + 72) := ⟨hPP, hs, hpl⟩
  clear hPP hs hpl hP hO hC hg0 hb2 hR0 hB1
  obtain ⟨b3, hb3⟩ : ∃ b3, b3 = w1.heap.size := ⟨_, rfl⟩
  rw [← hb3] at hs1 hs2 hR1 hg1 ⊢
  clear hb3
  go_wp2
  go_loopg [5] (P.length / 64) (fun q i wq => ∃ n : Nat, n + q = P.length / 64 ∧ i = .int .i64 ((64 * n : Nat) : Int) ∧ Row wq w.heap.size 105 32 (fun _ => .int .u8 0) ∧ Row wq b3 212 8 (uf (hk K0 H0 P n)) ∧ Cel wq g 0 P.length (fun j => .int .u8 (by_ P j : Nat)) ∧ g < wq.heap.size ∧ Below w.heap.size w wq)
  case atStart => exact ⟨0, by omega, rfl, hR0', hR1, hC', hg, hB2⟩
  case round =>
    clear hR0' hR1 hC' hg hB2
    obtain ⟨n, hn, rfl, hR0, hR1, hC, hg, hB⟩ := hrel
    by_cases hlt : n < P.length / 64
    · have c0 : wr.cell? ⟨b3, 0, none⟩ = some (.int .u32 (wi (hk K0 H0 P n 0))) := hR1.cell (by omega)
      have c1 : wr.cell? ⟨b3, 1, none⟩ = some (.int .u32 (wi (hk K0 H0 P n 1))) := hR1.cell (by omega)
      have c2 : wr.cell? ⟨b3, 2, none⟩ = some (.int .u32 (wi (hk K0 H0 P n 2))) := hR1.cell (by omega)
      have c3 : wr.cell? ⟨b3, 3, none⟩ = some (.int .u32 (wi (hk K0 H0 P n 3))) := hR1.cell (by omega)
      have c4 : wr.cell? ⟨b3, 4, none⟩ = some (.int .u32 (wi (hk K0 H0 P n 4))) := hR1.cell (by omega)
      have c5 : wr.cell? ⟨b3, 5, none⟩ = some (.int .u32 (wi (hk K0 H0 P n 5))) := hR1.cell (by omega)
      have c6 : wr.cell? ⟨b3, 6, none⟩ = some (.int .u32 (wi (hk K0 H0 P n 6))) := hR1.cell (by omega)
      have c7 : wr.cell? ⟨b3, 7, none⟩ = some (.int .u32 (wi (hk K0 H0 P n 7))) := hR1.cell (by omega)
      have hsl := sliceB64 g P.length cap n (by omega) hcap (by have := HP.out; omega)
      have hCn : Cel wr g (64 * n) 64 (fun j => .int .u8 (by_ ((P.drop (64 * n)).take 64) j : Nat)) := fun j hj => by
        have h1 := hC (64 * n + j) (by omega)
        rw [Nat.zero_add] at h1
        have h2 : by_ ((P.drop (64 * n)).take 64) j = by_ P (64 * n + j) := by
          unfold by_
          rw [List.getD_eq_getElem?_getD, List.getElem?_take_of_lt hj, List.getElem?_drop, List.getD_eq_getElem?_getD]
        show _ = some (Value.int .u8 ((by_ ((P.drop (64 * n)).take 64) j : Nat) : Int)) ∧ _
        rw [h2]; exact h1
      have hbs := hB.size
      have hmix := mix_lit (hk K0 H0 P n) ((P.drop (64 * n)).take 64) g (64 * n) (cap - 64 * n) wr.drew hg hCn (by show 2 < wr.heap.size; omega) (hK.below hB.drew h0)
      have HM := hide hmix
      have HCN := hide hCn
      clear hmix hCn
      go_wp2_with fail
      go_region_with (go_at_call 167; refine (unhide HM).mono ?_; rintro e w3 ⟨rfl, hb4⟩; have hR3 := hR1.drew.below hb4 (by show b3 < wr.heap.size; omega); have d0 := hR3.cell (j := 0) (by omega); have d1 := hR3.cell (j := 1) (by omega); have d2 := hR3.cell (j := 2) (by omega); have d3 := hR3.cell (j := 3) (by omega); have d4 := hR3.cell (j := 4) (by omega); have d5 := hR3.cell (j := 5) (by omega); have d6 := hR3.cell (j := 6) (by omega); have d7 := hR3.cell (j := 7) (by omega); have f0 := hR3.frozen 0; have f1 := hR3.frozen 1; have f2 := hR3.frozen 2; have f3 := hR3.frozen 3; have f4 := hR3.frozen 4; have f5 := hR3.frozen 5; have f6 := hR3.frozen 6; have f7 := hR3.frozen 7)
      go_wp2
      go_roundg (gk - 1)
      case measure => omega
      case rel =>
        obtain ⟨k1, k2⟩ := set8 hR3 (uf (hk K0 H0 P (n + 1)))
        have k3 := k2.size
        have k4 := hb4.size
        have k5 : wr.drew.heap.size = wr.heap.size := rfl
        have h6 := HP.out
        have h7 : wrap64 (64 * (n : Int) + 64) = ((64 * (n + 1) : Nat) : Int) := by rw [w64 _ (by omega) (by omega)]; omega
        refine ⟨n + 1, by omega, by rw [← h7], ((hR0.drew.below hb4 (by omega)).grown k2 (by simp; omega)), k1, ((hC.drewN 1).below hb4 hg).grown (by omega) k2 (by simp; omega), by simp; omega, ?_⟩
        exact (hB.drew.trans (hb4.mono (by omega))).grown k2 (by omega) (fun k hk => by cases hk; omega)
    · have hnn : n = P.length / 64 := by omega
      have HN : Hid (n = P.length / 64) := hnn
      have hge : ¬ (64 * (n : Int) < P.length) := by omega
      clear hlt hnn
      have c0 : wr.cell? ⟨b3, 0, none⟩ = some (.int .u32 (wi (hk K0 H0 P n 0))) := hR1.cell (by omega)
      have c1 : wr.cell? ⟨b3, 1, none⟩ = some (.int .u32 (wi (hk K0 H0 P n 1))) := hR1.cell (by omega)
      have c2 : wr.cell? ⟨b3, 2, none⟩ = some (.int .u32 (wi (hk K0 H0 P n 2))) := hR1.cell (by omega)
      have c3 : wr.cell? ⟨b3, 3, none⟩ = some (.int .u32 (wi (hk K0 H0 P n 3))) := hR1.cell (by omega)
      have c4 : wr.cell? ⟨b3, 4, none⟩ = some (.int .u32 (wi (hk K0 H0 P n 4))) := hR1.cell (by omega)
      have c5 : wr.cell? ⟨b3, 5, none⟩ = some (.int .u32 (wi (hk K0 H0 P n 5))) := hR1.cell (by omega)
      have c6 : wr.cell? ⟨b3, 6, none⟩ = some (.int .u32 (wi (hk K0 H0 P n 6))) := hR1.cell (by omega)
      have c7 : wr.cell? ⟨b3, 7, none⟩ = some (.int .u32 (wi (hk K0 H0 P n 7))) := hR1.cell (by omega)
      go_wp2_with fail
      refine (bytes_lit (hk K0 H0 P n) _).mono ?_
      rintro e w3 ⟨rfl, hb3⟩
      have k4 := hb3.size
      have hR3 := hR0.below hb3 hR0.lt
      go_wp2_with (refine stRow rfl 105 _ _ rfl rfl rfl hR3 sz105 (fun _ _ => rfl) ?_; intro w4 hR4 hg4)
      refine ret_row Tryz.results132 _ hR4 rfl Tryz.underlying105 (Or.inr ⟨_, _, rfl⟩) sz105 rfl ⟨?_, ?_⟩
      · refine congrArg (fun f => Ending.returned (.agg (arrOf 32 (bf f)))) ?_
        funext j
        unfold shaF
        rw [HN.out, HP.out.1]
      · exact (hB.trans (hb3.mono hB.size)).grown hg4 (by have := hB.size; omega) (fun k hk => by cases hk; exact Nat.le_refl _)
end Go.Proofs.YtkmkkmdpjliifaaGreatDoor
