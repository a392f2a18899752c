import Derived.Test.YtkmkkmdpjliifaaGreatDoorTxM
import Derived.Test.YtkmkkmdpjliifaaGreatDoorSvH
import Derived.BigRegion
import Derived.Deep.RegionHeld3
import Derived.Deep.LoopGhost
namespace Go.Proofs.YtkmkkmdpjliifaaGreatDoor
open Go.ChangeShapes Go.WideShapes Go.ChangeAt Go.RowKit

theorem keep_set {w' : World} {g p j : Nat} {v a : Value} (h : w'.cell? ⟨g, j, none⟩ = some a) (hne : j ≠ p) : (w'.setCell ⟨g, p, none⟩ v).cell? ⟨g, j, none⟩ = some a := by
  rw [World.cell?_setCell_other]
  · exact h
  · intro hh; injection hh with _ h2; exact hne h2.symm
theorem add32' (a b : BitVec 32) : (wi a + wi b) % 4294967296 = wi (a + b) := add64 a b
theorem sz247 : (Tryz.prog.info? 247).map (·.size) = some 64 := by kernel_rfl
theorem sz212 : (Tryz.prog.info? 212).map (·.size) = some 8 := by kernel_rfl
theorem sz105 : (Tryz.prog.info? 105).map (·.size) = some 32 := by kernel_rfl
theorem sz188 : (Tryz.prog.info? 188).map (·.size) = some 64 := by kernel_rfl
/-- words, as an array's -/
def uf (f : Nat → BitVec 32) (j : Nat) : Value := .int .u32 (wi (f j))

set_option maxRecDepth 20000 in
set_option maxHeartbeats 1000000 in
theorem startWords_any (w : World) : Calls Tryz.prog 165 #[] w fun e w' => e = .returned (.agg (arrOf 8 (uf H0))) ∧ Below w.heap.size w w' := by
  go_enter Tryz.func165, Tryz.ntmps165
  go_wp2
  refine ret_row Tryz.results165 _ (Row.new w 212 _ (uf H0) 8 rfl (fun j hj => ?_)) rfl Tryz.underlying212 (Or.inr ⟨_, _, rfl⟩) (by kernel_rfl) rfl ⟨rfl, (Below.refl _ _).alloc (Nat.le_refl _) _⟩
  unfold uf
  rw [wi_H0 j hj]
  rcases (show j = 0 ∨ j = 1 ∨ j = 2 ∨ j = 3 ∨ j = 4 ∨ j = 5 ∨ j = 6 ∨ j = 7 by omega) with rfl | rfl | rfl | rfl | rfl | rfl | rfl | rfl <;> rfl

set_option maxRecDepth 20000 in
set_option maxHeartbeats 1000000 in
theorem spread_any (l : List UInt8) (b o cap : Nat) (w : World) (hb : b < w.heap.size) (hC : Cel w b o 64 (fun j => .int .u8 (by_ l j : Nat))) :
    Calls Tryz.prog 197 #[.slice (some ⟨b, o, none⟩) 64 cap] w fun e w' => e = .returned (.agg (arrOf 64 (uf (Wk l 48)))) ∧ Below w.heap.size w w' := by
  go_enter Tryz.func197, Tryz.ntmps197
  go_wp2
  go_loopg [6] 16 (fun q i wr => ∃ k : Nat, k + q = 16 ∧ i = .int .i64 k ∧ Row wr w.heap.size 247 64 (fun _ => .int .u32 0) ∧ Row wr (w.heap.size + 1) 247 64 (fun j => .int .u32 (if j < k then wi (wordAt l (4 * j)) else 0)) ∧ Below w.heap.size w wr)
  case atStart =>
    refine ⟨0, rfl, rfl, (Row.new w 247 (Array.replicate 64 (.int .u32 0)) _ 64 (by simp) (fun j hj => by simp [hj])).alloc _, ?_, ((Below.refl _ _).alloc (Nat.le_refl _) _).alloc (by simp) _⟩
    have h := Row.new (w.alloc (.cells (Array.replicate 64 (.int .u32 0)) 247)) 247 (Array.replicate 64 (.int .u32 0)) (fun j => .int .u32 (if j < 0 then wi (wordAt l (4 * j)) else 0)) 64 (by simp) (fun j hj => by simp [hj])
    rw [show (w.alloc (.cells (Array.replicate 64 (.int .u32 0)) 247)).heap.size = w.heap.size + 1 by simp] at h
    exact h
  case round =>
    obtain ⟨k, hk, rfl, hR0, hR, hB⟩ := hrel
    by_cases hlt : k < 16
    · have hc := hR.cell (j := k) (by omega)
      have hfz := hR.frozen k
      rw [if_neg (by omega)] at hc
      have hC' := hC.below hB hb
      have hb0 := hC'.cell (j := 4 * k) (by omega)
      have hb1 := hC'.cell (j := 4 * k + 1) (by omega)
      have hb2 := hC'.cell (j := 4 * k + 2) (by omega)
      have hb3 := hC'.cell (j := 4 * k + 3) (by omega)
      go_wp2_with fail
      go_region
      go_wp2
      go_roundg (gk - 1)
      case measure => omega
      case rel =>
        refine ⟨k + 1, by omega, by go_num, (hR0.other (by simp) _).drew, ((hR.set k _).drew).congr (fun j hj => ?_), (hB.setCell (by simp) _).drew⟩
        rw [word_or]
        by_cases e1 : j = k
        · subst e1; simp only [if_true, Nat.lt_succ_self]
        · have e2 : (j < k + 1) ↔ j < k := by omega
          simp only [e1, e2, if_false]
    · obtain rfl : k = 16 := by omega
      clear hlt
      go_wp2
      go_loopg [5] 48 (fun q i wq => ∃ n : Nat, n + q = 48 ∧ i = .int .i64 (16 + n) ∧ Row wq w.heap.size 247 64 (fun _ => .int .u32 0) ∧ Row wq (w.heap.size + 1) 247 64 (fun j => .int .u32 (if j < 16 + n then wi (Wk l n j) else 0)) ∧ Below w.heap.size w wq)
      case atStart => exact ⟨0, rfl, rfl, hR0, hR, hB⟩
      case round =>
        clear hR0 hR hB
        obtain ⟨n, hn, rfl, hR0, hR, hB⟩ := hrel
        by_cases hlt : n < 48
        · have hc := hR.cell (j := 16 + n) (by omega)
          have hfz := hR.frozen (16 + n)
          have hc16 := hR.cell (j := 16 + n - 16) (by omega)
          have hc15 := hR.cell (j := 16 + n - 15) (by omega)
          have hc7 := hR.cell (j := 16 + n - 7) (by omega)
          have hc2 := hR.cell (j := 16 + n - 2) (by omega)
          rw [if_neg (by omega)] at hc
          rw [if_pos (by omega)] at hc16 hc15 hc7 hc2
          have hc16' := hc16
          rw [show 16 + n - 16 = n by omega] at hc16'
          have hc15' := hc15
          rw [show 16 + n - 15 = n + 1 by omega] at hc15'
          have hc7' := hc7
          rw [show 16 + n - 7 = n + 9 by omega] at hc7'
          have hc2' := hc2
          rw [show 16 + n - 2 = n + 14 by omega] at hc2'
          have hw16 : IntKind.i64.wrap (16 + (n : Int) - 16) = (n : Int) := by rw [IntKind.wrap_i64]; omega
          have hw15 : IntKind.i64.wrap (16 + (n : Int) - 15) = (n : Int) + 1 := by rw [IntKind.wrap_i64]; omega
          have hw7 : IntKind.i64.wrap (16 + (n : Int) - 7) = (n : Int) + 9 := by rw [IntKind.wrap_i64]; omega
          have hw2 : IntKind.i64.wrap (16 + (n : Int) - 2) = (n : Int) + 14 := by rw [IntKind.wrap_i64]; omega
          have hi16 : (0 ≤ (n : Int) ∧ (n : Int) < 64) := by omega
          have hi15 : (0 ≤ (n : Int) + 1 ∧ (n : Int) + 1 < 64) := by omega
          have hi7 : (0 ≤ (n : Int) + 9 ∧ (n : Int) + 9 < 64) := by omega
          have hi2 : (0 ≤ (n : Int) + 14 ∧ (n : Int) + 14 < 64) := by omega
          have hi0 : (0 ≤ 16 + (n : Int) ∧ 16 + (n : Int) < 64) := by omega
          have ht15 : ((n : Int) + 1).toNat = n + 1 := by omega
          have ht7 : ((n : Int) + 9).toNat = n + 9 := by omega
          have ht2 : ((n : Int) + 14).toNat = n + 14 := by omega
          have ht0 : (16 + (n : Int)).toNat = 16 + n := by omega
          clear hc16 hc15 hc7 hc2
          go_wp2_with fail
          go_region_held3 (fun w' => w'.cell? ⟨w.heap.size + 1, n, none⟩ = some (.int .u32 (wi (Wk l n n))) ∧ w'.cell? ⟨w.heap.size + 1, n + 1, none⟩ = some (.int .u32 (wi (Wk l n (n + 1)))) ∧ w'.cell? ⟨w.heap.size + 1, n + 9, none⟩ = some (.int .u32 (wi (Wk l n (n + 9)))) ∧ w'.cell? ⟨w.heap.size + 1, n + 14, none⟩ = some (.int .u32 (wi (Wk l n (n + 14))))) (first | go_keep | (refine ⟨keep_set (by simp [*]) (by omega), keep_set (by simp [*]) (by omega), keep_set (by simp [*]) (by omega), keep_set (by simp [*]) (by omega)⟩))
            (first | (go_at_call_of 218 (7 : Int); refine (shift7 _ _).mono ?_; rintro e w' ⟨rfl, nq, rfl⟩) | (go_at_call_of 218 (17 : Int); refine (shift17 _ _).mono ?_; rintro e w' ⟨rfl, nq2, rfl⟩))
          go_wp2
          go_roundg (gk - 1)
          case measure => omega
          case rel =>
            refine ⟨n + 1, by omega, by go_num, (hR0.other (by simp) _).drewN _, ((hR.set (16 + n) _).drewN _).congr (fun j hj => ?_), below_drewN' (hB.setCell (by simp) _) _⟩
            rw [add32', add32', add32']
            by_cases e1 : j = 16 + n
            · rw [if_pos e1, if_pos (by omega)]
              subst e1
              show _ = Value.int .u32 (wi (if 16 + n = 16 + n then wext (Wk l n) (16 + n) else Wk l n (16 + n)))
              rw [if_pos rfl]
              unfold wext
              rw [show 16 + n - 16 = n by omega, show 16 + n - 15 = n + 1 by omega, show 16 + n - 7 = n + 9 by omega, show 16 + n - 2 = n + 14 by omega]
            · have e2 : (j < 16 + (n + 1)) ↔ j < 16 + n := by omega
              rw [if_neg e1]
              simp only [e2]
              show _ = Value.int .u32 (if _ then wi (if j = 16 + n then wext (Wk l n) j else Wk l n j) else 0)
              rw [if_neg e1]
        · obtain rfl : n = 48 := by omega
          clear hlt
          have hR' : Row wr (w.heap.size + 1) 247 64 (uf (Wk l 48)) := hR.congr (fun j hj => by rw [if_pos (by omega)]; rfl)
          clear hR
          go_wp2_with (first | (refine ldRow rfl 247 _ rfl rfl hR' Tryz.underlying247 sz247 ?_) | (refine stRow rfl 247 _ _ rfl rfl rfl hR0 sz247 (fun _ _ => rfl) ?_; intro w2 hR2 hg2))
          refine ret_row Tryz.results197 _ hR2 rfl Tryz.underlying247 (Or.inr ⟨_, _, rfl⟩) sz247 rfl ⟨rfl, ?_⟩
          exact hB.grown hg2 hB.size (fun k hk => by cases hk; exact Nat.le_refl _)
end Go.Proofs.YtkmkkmdpjliifaaGreatDoor
namespace Go.Proofs.YtkmkkmdpjliifaaGreatDoor
open Go.RowKit

/-- n cells of block g from o on, to be read; f tells what they hold. -/
def Rk (w : World) (g o n : Nat) (f : Nat → Value) : Prop := ∀ j, j < n → w.cell? ⟨g, o + j, none⟩ = some (f j)
section
variable {w w' : World} {g o n : Nat} {f : Nat → Value}
theorem Rk.cell0 (h : Rk w g 0 n f) {j : Nat} (hj : j < n) : w.cell? ⟨g, j, none⟩ = some (f j) := by have := h j hj; rwa [Nat.zero_add] at this
theorem Rk.below {B : Nat} (h : Rk w g o n f) (hb : Below B w w') (hg : g < B) : Rk w' g o n f := fun j hj => (hb.cell (p := ⟨g, o + j, none⟩) hg).trans (h j hj)
theorem Rk.alloc (h : Rk w g o n f) (hg : g < w.heap.size) (ob : Obj) : Rk (w.alloc ob) g o n f := h.below ((Below.refl w.heap.size w).alloc (Nat.le_refl _) ob) hg
theorem Rk.grown {row : Option Nat} (h : Rk w g o n f) (hl : g < w.heap.size) (hg : w.grownBy w' row) (hne : some g ≠ row) : Rk w' g o n f := fun j hj =>
  (World.cell?_of_block (a := ⟨g, o + j, none⟩) (hg.block g hl hne)).trans (h j hj)
end
end Go.Proofs.YtkmkkmdpjliifaaGreatDoor
namespace Go.Proofs.YtkmkkmdpjliifaaGreatDoor
open Go.ChangeShapes Go.WideShapes Go.ChangeAt Go.RowKit

theorem Row.arr (w : World) (t : TypeId) (n : Nat) (f : Nat → Value) : Row (w.alloc (.cells (arrOf n f) t)) w.heap.size t n f :=
  Row.new w t _ f n (arrOf_size n f) (fun j hj => arrOf_get n f j hj)

theorem not32 (a : BitVec 32) : bits .xor .u32 IntKind.u32.max (wi a) = wi (~~~ a) := by
  have : IntKind.u32.max = wi (BitVec.allOnes 32) := by decide
  rw [this, xor32, BitVec.allOnes_xor]
theorem wi_add (a b : BitVec 32) : wi (a + b) = (wi a + wi b) % 4294967296 := (add64 a b).symm
theorem sum7 (a b c d e f g : BitVec 32) : (wi a + wi b + wi c + wi d + wi e + (wi f + wi g)) % 4294967296 = wi (a + b + c + d + e + (f + g)) := by
  simp only [wi_add]; omega
theorem sum6 (a b c d e f : BitVec 32) : (wi f + (wi a + wi b + wi c + wi d + wi e)) % 4294967296 = wi (f + (a + b + c + d + e)) := by
  simp only [wi_add]; omega
theorem arrOf_congr (n : Nat) {f g : Nat → Value} (h : ∀ j, j < n → f j = g j) : arrOf n f = arrOf n g :=
  arrOf_eq n f _ (arrOf_size n g) (fun j hj => by rw [arrOf_get n g j hj, h j hj])

set_option maxRecDepth 20000 in
set_option maxHeartbeats 1000000 in
theorem mix_any (hv : Nat → BitVec 32) (l : List UInt8) (b o cap : Nat) (w : World) (hb : b < w.heap.size) (hC : Cel w b o 64 (fun j => .int .u8 (by_ l j : Nat)))
    (h0 : 2 < w.heap.size) (hK : Rk w 2 0 64 (fun j => .int .u32 (wi (K0 j)))) :
    Calls Tryz.prog 167 #[.agg (arrOf 8 (uf hv)), .slice (some ⟨b, o, none⟩) 64 cap] w fun e w' => e = .returned (.agg (arrOf 8 (uf (blk K0 hv l)))) ∧ Below w.heap.size w w' := by
  go_enter Tryz.func167, Tryz.ntmps167
  have hC2 : Cel ((w.alloc (.cells (arrOf 8 (uf hv)) 212)).alloc (.cells (Array.replicate 8 (.int .u32 0)) 212)) b o 64 (fun j => .int .u8 (by_ l j : Nat)) := (hC.alloc hb _).alloc (by simp; omega) _
  go_wp2_with fail
  refine (spread_any l b o cap _ (by simp; omega) hC2).mono ?_
  rintro e w1 ⟨rfl, hb1⟩
  have hs1 : w.heap.size + 2 ≤ w1.heap.size := by have := hb1.size; simp at this; omega
  have hRh : Row w1 w.heap.size 212 8 (uf hv) := ((Row.arr w 212 8 (uf hv)).alloc _).below hb1 (by simp; omega)
  have hRz : Row w1 (w.heap.size + 1) 212 8 (fun _ => .int .u32 0) := by
    have := Row.new (w.alloc (.cells (arrOf 8 (uf hv)) 212)) 212 (Array.replicate 8 (.int .u32 0)) (fun _ => .int .u32 0) 8 (by simp) (fun j hj => by simp [hj])
    rw [show (w.alloc (.cells (arrOf 8 (uf hv)) 212)).heap.size = w.heap.size + 1 by simp] at this
    exact this.below hb1 (by simp)
  have hB1 : Below w.heap.size w w1 := (((Below.refl w.heap.size w).alloc (Nat.le_refl _) _).alloc (by simp) _).trans (hb1.mono (by simp; omega))
  have hK1 := hK.below hB1 h0
  clear hb1 hC2
  go_wp2_with (refine stRow rfl 247 _ _ rfl rfl rfl (Row.new w1 247 (Array.replicate 64 (.int .u32 0)) (fun _ => .int .u32 0) 64 (by simp) (fun j hj => by simp [hj])) sz247 (fun _ _ => rfl) ?_; intro w2 hS hg2)
  have hs2 := hg2.size
  simp at hs2
  have hRh2 := (hRh.alloc _).grown hg2 (by simp; omega)
  have hRz2 := (hRz.alloc _).grown hg2 (by simp; omega)
  have hK2 := (hK1.alloc (by omega) _).grown (by simp; omega) hg2 (by simp; omega)
  have hB2 : Below w.heap.size w w2 := (hB1.alloc (by omega) _).grown hg2 (by simp; omega) (fun k hk => by cases hk; omega)
  clear hRh hRz hK1 hB1 hg2
  have c0 : w2.cell? ⟨w.heap.size, 0, none⟩ = some (.int .u32 (wi (hv 0))) := hRh2.cell (by omega)
  have c1 : w2.cell? ⟨w.heap.size, 1, none⟩ = some (.int .u32 (wi (hv 1))) := hRh2.cell (by omega)
  have c2 : w2.cell? ⟨w.heap.size, 2, none⟩ = some (.int .u32 (wi (hv 2))) := hRh2.cell (by omega)
  have c3 : w2.cell? ⟨w.heap.size, 3, none⟩ = some (.int .u32 (wi (hv 3))) := hRh2.cell (by omega)
  have c4 : w2.cell? ⟨w.heap.size, 4, none⟩ = some (.int .u32 (wi (hv 4))) := hRh2.cell (by omega)
  have c5 : w2.cell? ⟨w.heap.size, 5, none⟩ = some (.int .u32 (wi (hv 5))) := hRh2.cell (by omega)
  have c6 : w2.cell? ⟨w.heap.size, 6, none⟩ = some (.int .u32 (wi (hv 6))) := hRh2.cell (by omega)
  have c7 : w2.cell? ⟨w.heap.size, 7, none⟩ = some (.int .u32 (wi (hv 7))) := hRh2.cell (by omega)
  go_quiet (fail)
  go_wp2
  go_quiet (fail)
  go_wp2
  clear c0 c1 c2 c3 c4 c5 c6 c7
  go_loopg [6, 7, 8, 9, 10, 11, 12, 13, 35] 64 (fun q a b c d e f g r i wq => ∃ n : Nat, n + q = 64 ∧ i = .int .i64 n ∧
            a = .int .u32 (wi (rounds K0 (Wk l 48) (S8.of hv) n).a) ∧ b = .int .u32 (wi (rounds K0 (Wk l 48) (S8.of hv) n).b) ∧
            c = .int .u32 (wi (rounds K0 (Wk l 48) (S8.of hv) n).c) ∧ d = .int .u32 (wi (rounds K0 (Wk l 48) (S8.of hv) n).d) ∧
            e = .int .u32 (wi (rounds K0 (Wk l 48) (S8.of hv) n).e) ∧ f = .int .u32 (wi (rounds K0 (Wk l 48) (S8.of hv) n).f) ∧
            g = .int .u32 (wi (rounds K0 (Wk l 48) (S8.of hv) n).g) ∧ r = .int .u32 (wi (rounds K0 (Wk l 48) (S8.of hv) n).h) ∧
            ∃ nq, wq = w2.drewN nq)
  case atStart => exact ⟨0, rfl, rfl, rfl, rfl, rfl, rfl, rfl, rfl, rfl, rfl, _, by rw [World.drewN_drewN]⟩
  case round =>
    obtain ⟨n, hn, rfl, rfl, rfl, rfl, rfl, rfl, rfl, rfl, rfl, nq, rfl⟩ := hrel
    generalize hS' : rounds K0 (Wk l 48) (S8.of hv) n = S
    have HS : Hid (rounds K0 (Wk l 48) (S8.of hv) n = S) := hS'
    clear hS'
    by_cases hlt : n < 64
    · have hKc : w2.cell? ⟨2, n, none⟩ = some (.int .u32 (wi (K0 n))) := hK2.cell0 hlt
      have hWc : w2.cell? ⟨w1.heap.size, n, none⟩ = some (.int .u32 (wi (Wk l 48 n))) := hS.cell hlt
      go_wp2_with fail
      go_quiet ((go_at_call 198; refine (thrice6 _ _).mono (fun e w'' h => ⟨h.1, _, h.2⟩)))
      go_wp2_with (go_at_call 198; refine (thrice2 _ _).mono ?_; rintro e w' ⟨rfl, rfl⟩)
      go_roundg (gk - 1)
      case measure => omega
      case rel =>
        refine ⟨n + 1, by omega, by go_num, ?_⟩
        have hr : rounds K0 (Wk l 48) (S8.of hv) (n + 1) = rnd (K0 n) (Wk l 48 n) S := by
          show rnd _ _ (rounds K0 (Wk l 48) (S8.of hv) n) = _
          rw [HS.out]
        rw [hr]
        simp only [not32, and32, xor32, sum7, sum6]
        exact ⟨rfl, rfl, rfl, rfl, rfl, rfl, rfl, rfl, _, rfl⟩
    · obtain rfl : n = 64 := by omega
      clear hlt
      have c0 : w2.cell? ⟨w.heap.size, 0, none⟩ = some (.int .u32 (wi (hv 0))) := hRh2.cell (by omega)
      have c1 : w2.cell? ⟨w.heap.size, 1, none⟩ = some (.int .u32 (wi (hv 1))) := hRh2.cell (by omega)
      have c2 : w2.cell? ⟨w.heap.size, 2, none⟩ = some (.int .u32 (wi (hv 2))) := hRh2.cell (by omega)
      have c3 : w2.cell? ⟨w.heap.size, 3, none⟩ = some (.int .u32 (wi (hv 3))) := hRh2.cell (by omega)
      have c4 : w2.cell? ⟨w.heap.size, 4, none⟩ = some (.int .u32 (wi (hv 4))) := hRh2.cell (by omega)
      have c5 : w2.cell? ⟨w.heap.size, 5, none⟩ = some (.int .u32 (wi (hv 5))) := hRh2.cell (by omega)
      have c6 : w2.cell? ⟨w.heap.size, 6, none⟩ = some (.int .u32 (wi (hv 6))) := hRh2.cell (by omega)
      have c7 : w2.cell? ⟨w.heap.size, 7, none⟩ = some (.int .u32 (wi (hv 7))) := hRh2.cell (by omega)
      have d0 : w2.cell? ⟨w.heap.size + 1, 0, none⟩ = some (.int .u32 0) := hRz2.cell (by omega)
      have d1 : w2.cell? ⟨w.heap.size + 1, 1, none⟩ = some (.int .u32 0) := hRz2.cell (by omega)
      have d2 : w2.cell? ⟨w.heap.size + 1, 2, none⟩ = some (.int .u32 0) := hRz2.cell (by omega)
      have d3 : w2.cell? ⟨w.heap.size + 1, 3, none⟩ = some (.int .u32 0) := hRz2.cell (by omega)
      have d4 : w2.cell? ⟨w.heap.size + 1, 4, none⟩ = some (.int .u32 0) := hRz2.cell (by omega)
      have d5 : w2.cell? ⟨w.heap.size + 1, 5, none⟩ = some (.int .u32 0) := hRz2.cell (by omega)
      have d6 : w2.cell? ⟨w.heap.size + 1, 6, none⟩ = some (.int .u32 0) := hRz2.cell (by omega)
      have d7 : w2.cell? ⟨w.heap.size + 1, 7, none⟩ = some (.int .u32 0) := hRz2.cell (by omega)
      have f0 := hRz2.frozen 0
      have f1 := hRz2.frozen 1
      have f2 := hRz2.frozen 2
      have f3 := hRz2.frozen 3
      have f4 := hRz2.frozen 4
      have f5 := hRz2.frozen 5
      have f6 := hRz2.frozen 6
      have f7 := hRz2.frozen 7
      go_wp2
      have hfin := (((((((((hRz2.drewN nq).set 0 (.int .u32 ((wi (hv 0) + wi S.a) % 4294967296))).set 1 (.int .u32 ((wi (hv 1) + wi S.b) % 4294967296))).set 2 (.int .u32 ((wi (hv 2) + wi S.c) % 4294967296))).set 3 (.int .u32 ((wi (hv 3) + wi S.d) % 4294967296))).set 4 (.int .u32 ((wi (hv 4) + wi S.e) % 4294967296))).set 5 (.int .u32 ((wi (hv 5) + wi S.f) % 4294967296))).set 6 (.int .u32 ((wi (hv 6) + wi S.g) % 4294967296))).set 7 (.int .u32 ((wi (hv 7) + wi S.h) % 4294967296)))
      refine ret_row Tryz.results167 _ hfin rfl Tryz.underlying212 (Or.inr ⟨_, _, rfl⟩) sz212 rfl ⟨congrArg (fun c => Ending.returned (.agg c)) (arrOf_congr 8 (fun j hj => ?_)), ?_⟩
      · unfold uf blk
        rw [HS.out]
        rcases (show j = 0 ∨ j = 1 ∨ j = 2 ∨ j = 3 ∨ j = 4 ∨ j = 5 ∨ j = 6 ∨ j = 7 by omega) with rfl | rfl | rfl | rfl | rfl | rfl | rfl | rfl <;> exact congrArg (Value.int .u32) (add32' _ _)
      · exact ((((((((below_drewN' hB2 nq).setCell (by simp) _).setCell (by simp) _).setCell (by simp) _).setCell (by simp) _).setCell (by simp) _).setCell (by simp) _).setCell (by simp) _).setCell (by simp) _
end Go.Proofs.YtkmkkmdpjliifaaGreatDoor
namespace Go.Proofs.YtkmkkmdpjliifaaGreatDoor
open Go.ChangeShapes Go.WideShapes Go.ChangeAt Go.RowKit

theorem info154 : (Tryz.prog.info? 154).map (fun i => (i.zero, i.size, i.bytes)) = some (some (.int .u32 0), 1, 4) := by kernel_rfl
theorem index210 (f : Nat → BitVec 32) (k : Nat) (hk : k < 8) (u : World) : (Instr.index 212 (.agg (arrOf 8 (uf f))) (.int .i64 (k : Int))).run Tryz.prog u = .ok (.int .u32 (wi (f k))) u := by
  have hw : IntKind.i64.wrap (k : Int) = (k : Int) := by rw [IntKind.wrap_i64]; omega
  have h1 := arrOf_get 8 (uf f) k hk
  obtain ⟨i0, hi, hz0, hz1, hz2⟩ := info_parts info154
  unfold Instr.index
  simp [run_underlying Tryz.underlying212, run_underlying Tryz.underlying154, asIntOf, hk, sizeOf, typeInfo, hi, hz1, part, isAgg, h1]
  rfl
theorem b4_0 (x : BitVec 32) : wi x / 16777216 % 256 = (b4 x 0 : Nat) := by unfold wi b4; omega
theorem b4_1 (x : BitVec 32) : wi x / 65536 % 256 = (b4 x 1 : Nat) := by unfold wi b4; omega
theorem b4_2 (x : BitVec 32) : wi x / 256 % 256 = (b4 x 2 : Nat) := by unfold wi b4; omega
theorem b4_3 (x : BitVec 32) : wi x % 256 = (b4 x 3 : Nat) := by unfold wi b4; omega
/-- bytes, as an array's -/
def bf (f : Nat → Nat) (j : Nat) : Value := .int .u8 (f j : Int)

set_option maxRecDepth 20000 in
set_option maxHeartbeats 1000000 in
theorem wordBytes_any (hv : Nat → BitVec 32) (w : World) :
    Calls Tryz.prog 168 #[.agg (arrOf 8 (uf hv))] w fun e w' => e = .returned (.agg (arrOf 32 (bf (fun j => b4 (hv (j / 4)) (j % 4))))) ∧ Below w.heap.size w w' := by
  have hR := Row.arr w 212 8 (uf hv)
  go_enter Tryz.func168, Tryz.ntmps168
  go_wp2_with (refine ldRow rfl 212 _ rfl rfl ((hR.alloc _).alloc _) Tryz.underlying212 sz212 ?_)
  go_loopg [7] 8 (fun q i wr => ∃ k : Nat, k + q = 8 ∧ i = .int .i64 k ∧ Row wr (w.heap.size + 1) 105 32 (fun _ => .int .u8 0) ∧ Row wr (w.heap.size + 1 + 1) 105 32 (fun j => .int .u8 (if j < 4 * k then (b4 (hv (j / 4)) (j % 4) : Nat) else 0 : Int)) ∧ Below w.heap.size w wr)
  case atStart =>
    refine ⟨0, rfl, rfl, ?_, ?_, (((Below.refl _ _).alloc (Nat.le_refl _) _).alloc (by simp) _).alloc (by simp; omega) _⟩
    · have h := Row.new (w.alloc (.cells (arrOf 8 (uf hv)) 212)) 105 (Array.replicate 32 (.int .u8 0)) (fun _ => .int .u8 0) 32 (by simp) (fun j hj => by simp [hj])
      rw [show (w.alloc (.cells (arrOf 8 (uf hv)) 212)).heap.size = w.heap.size + 1 by simp] at h
      exact h.alloc _
    · have h := Row.new ((w.alloc (.cells (arrOf 8 (uf hv)) 212)).alloc (.cells (Array.replicate 32 (.int .u8 0)) 105)) 105 (Array.replicate 32 (.int .u8 0)) (fun j => .int .u8 (if j < 4 * 0 then (b4 (hv (j / 4)) (j % 4) : Nat) else 0 : Int)) 32 (by simp) (fun j hj => by simp [hj])
      rw [show ((w.alloc (.cells (arrOf 8 (uf hv)) 212)).alloc (.cells (Array.replicate 32 (.int .u8 0)) 105)).heap.size = w.heap.size + 1 + 1 by simp] at h
      exact h
  case round =>
    obtain ⟨k, hk, rfl, hR0, hR, hB⟩ := hrel
    by_cases hlt : k < 8
    · have hix := index210 hv k hlt
      have c0 := hR.cell (j := 4 * k) (by omega)
      have c1 := hR.cell (j := 4 * k + 1) (by omega)
      have c2 := hR.cell (j := 4 * k + 2) (by omega)
      have c3 := hR.cell (j := 4 * k + 3) (by omega)
      rw [if_neg (by omega)] at c0 c1 c2 c3
      have f0 := hR.frozen (4 * k)
      have f1 := hR.frozen (4 * k + 1)
      have f2 := hR.frozen (4 * k + 2)
      have f3 := hR.frozen (4 * k + 3)
      go_wp2
      go_roundg (gk - 1)
      case measure => omega
      case rel =>
        refine ⟨k + 1, by omega, by go_num, (((hR0.other (by simp) _).other (by simp) _).other (by simp) _).other (by simp) _, ((((hR.set (4 * k) _).set (4 * k + 1) _).set (4 * k + 2) _).set (4 * k + 3) _).congr (fun j hj => ?_),
          (((hB.setCell (by simp; omega) _).setCell (by simp; omega) _).setCell (by simp; omega) _).setCell (by simp; omega) _⟩
        show (if j = 4 * k + 3 then _ else if j = 4 * k + 2 then _ else if j = 4 * k + 1 then _ else if j = 4 * k then _ else _) = _
        rw [b4_0, b4_1, b4_2, b4_3]
        by_cases e3 : j = 4 * k + 3
        · rw [if_pos e3, if_pos (by omega), show j / 4 = k by omega, show j % 4 = 3 by omega]
        · rw [if_neg e3]
          by_cases e2 : j = 4 * k + 2
          · rw [if_pos e2, if_pos (by omega), show j / 4 = k by omega, show j % 4 = 2 by omega]
          · rw [if_neg e2]
            by_cases e1 : j = 4 * k + 1
            · rw [if_pos e1, if_pos (by omega), show j / 4 = k by omega, show j % 4 = 1 by omega]
            · rw [if_neg e1]
              by_cases e0 : j = 4 * k
              · rw [if_pos e0, if_pos (by omega), show j / 4 = k by omega, show j % 4 = 0 by omega]
              · rw [if_neg e0]
                have e4 : (j < 4 * (k + 1)) ↔ j < 4 * k := by omega
                simp only [e4]
    · obtain rfl : k = 8 := by omega
      have hR' : Row wr (w.heap.size + 1 + 1) 105 32 (bf (fun j => b4 (hv (j / 4)) (j % 4))) := hR.congr (fun j hj => by rw [if_pos (by omega)]; rfl)
      clear hR hlt
      go_wp2_with (first | (refine ldRow rfl 105 _ rfl rfl hR' Tryz.underlying105 sz105 ?_) | (refine stRow rfl 105 _ _ rfl rfl rfl hR0 sz105 (fun _ _ => rfl) ?_; intro w2 hR2 hg2))
      refine ret_row Tryz.results168 _ hR2 rfl Tryz.underlying105 (Or.inr ⟨_, _, rfl⟩) sz105 rfl ⟨rfl, ?_⟩
      exact hB.grown hg2 hB.size (fun k hk => by cases hk; omega)
end Go.Proofs.YtkmkkmdpjliifaaGreatDoor
namespace Go.Proofs.YtkmkkmdpjliifaaGreatDoor
open Go.ChangeShapes Go.WideShapes Go.ChangeAt Go.RowKit

/-- the words after n blocks -/
def hk (K H : Nat → BitVec 32) (P : List UInt8) : Nat → Nat → BitVec 32
  | 0 => H
  | n + 1 => blk K (hk K H P n) ((P.drop (64 * n)).take 64)
/-- the hash -/
def shaF (K H : Nat → BitVec 32) (l : List UInt8) (j : Nat) : Nat := b4 (hk K H (padL l) ((padL l).length / 64) (j / 4)) (j % 4)
def shaL (K H : Nat → BitVec 32) (l : List UInt8) : List UInt8 := bs 32 (shaF K H l)
/-- a block of the key, some bits of each byte turned -/
def tk (l : List UInt8) (m : Nat) : List UInt8 := bs 64 (fun j => by_ l j ^^^ m)
theorem tk_length (l : List UInt8) (m : Nat) : (tk l m).length = 64 := bs_length _ _
/-- a key of more than 64 bytes is its hash -/
def keyL (K H : Nat → BitVec 32) (key : List UInt8) : List UInt8 := if 64 < key.length then shaL K H key else key
/-- the mac -/
def macL (K H : Nat → BitVec 32) (key text : List UInt8) : List UInt8 := shaL K H (tk (keyL K H key) 92 ++ shaL K H (tk (keyL K H key) 54 ++ text))
theorem padL_le (l : List UInt8) : (padL l).length ≤ l.length + 72 := by
  simp only [padL, List.length_append, List.length_cons, List.length_replicate, bs_length]
  unfold zs; omega
end Go.Proofs.YtkmkkmdpjliifaaGreatDoor
