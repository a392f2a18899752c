import Derived.Test.YtkmkkmdpjliifaaGreatDoorTxG
import Derived.Test.YtkmkkmdpjliifaaGreatDoorTxJ
import Derived.Test.YtkmkkmdpjliifaaGreatDoorTxM
import Derived.BigRegion
import Derived.Deep.LoopGhost
import Derived.Deep.RegionWith
namespace Go.Proofs.YtkmkkmdpjliifaaGreatDoor
open Go.ChangeShapes Go.WideShapes Go.ChangeAt Go.RowKit

theorem arr8 (h : Nat → BitVec 32) : arrOf 8 (uf h) = #[.int .u32 (wi (h 0)), .int .u32 (wi (h 1)), .int .u32 (wi (h 2)), .int .u32 (wi (h 3)), .int .u32 (wi (h 4)), .int .u32 (wi (h 5)), .int .u32 (wi (h 6)), .int .u32 (wi (h 7))] :=
  arrOf_eq 8 _ _ rfl (fun j hj => by rcases (show j = 0 ∨ j = 1 ∨ j = 2 ∨ j = 3 ∨ j = 4 ∨ j = 5 ∨ j = 6 ∨ j = 7 by omega) with rfl | rfl | rfl | rfl | rfl | rfl | rfl | rfl <;> rfl)
theorem mix_lit (hv : Nat → BitVec 32) (l : List UInt8) (b o cap : Nat) (w : World) (hb : b < w.heap.size) (hC : Cel w b o 64 (fun j => .int .u8 (by_ l j : Nat)))
    (h0 : 2 < w.heap.size) (hK : Rk w 2 0 64 (fun j => .int .u32 (wi (K0 j)))) :
    Calls Tryz.prog 167 #[.agg #[.int .u32 (wi (hv 0)), .int .u32 (wi (hv 1)), .int .u32 (wi (hv 2)), .int .u32 (wi (hv 3)), .int .u32 (wi (hv 4)), .int .u32 (wi (hv 5)), .int .u32 (wi (hv 6)), .int .u32 (wi (hv 7))], .slice (some ⟨b, o, none⟩) 64 cap] w fun e w' =>
      e = .returned (.agg #[.int .u32 (wi (blk K0 hv l 0)), .int .u32 (wi (blk K0 hv l 1)), .int .u32 (wi (blk K0 hv l 2)), .int .u32 (wi (blk K0 hv l 3)), .int .u32 (wi (blk K0 hv l 4)), .int .u32 (wi (blk K0 hv l 5)), .int .u32 (wi (blk K0 hv l 6)), .int .u32 (wi (blk K0 hv l 7))]) ∧ Below w.heap.size w w' := by
  have := mix_any hv l b o cap w hb hC h0 hK
  rw [arr8, arr8] at this
  exact this
theorem start_lit (w : World) : Calls Tryz.prog 165 #[] w fun e w' => e = .returned (.agg #[.int .u32 (wi (H0 0)), .int .u32 (wi (H0 1)), .int .u32 (wi (H0 2)), .int .u32 (wi (H0 3)), .int .u32 (wi (H0 4)), .int .u32 (wi (H0 5)), .int .u32 (wi (H0 6)), .int .u32 (wi (H0 7))]) ∧ Below w.heap.size w w' := by
  have := startWords_any w
  rw [arr8] at this
  exact this
theorem bytes_lit (hv : Nat → BitVec 32) (w : World) :
    Calls Tryz.prog 168 #[.agg #[.int .u32 (wi (hv 0)), .int .u32 (wi (hv 1)), .int .u32 (wi (hv 2)), .int .u32 (wi (hv 3)), .int .u32 (wi (hv 4)), .int .u32 (wi (hv 5)), .int .u32 (wi (hv 6)), .int .u32 (wi (hv 7))]] w fun e w' => e = .returned (.agg (arrOf 32 (bf (fun j => b4 (hv (j / 4)) (j % 4))))) ∧ Below w.heap.size w w' := by
  have := wordBytes_any hv w
  rw [arr8] at this
  exact this

theorem elem110 : Tryz.prog.underlying 110 = some (.slice (Tryz.prog.elem 110)) := by kernel_rfl
theorem elem110' : Tryz.prog.elem 110 = 5 := by kernel_rfl
theorem sliceB64 (g L cap n : Nat) (h : 64 * n + 64 ≤ L) (hL : L ≤ cap) (hl : L ≤ 8388608) (u : World) :
    (Instr.slice 110 (.slice (some ⟨g, 0, none⟩) L cap) (some (.int .i64 (64 * (n : Int)))) (some (.int .i64 (IntKind.i64.wrap (64 * (n : Int) + 64)))) none).run Tryz.prog u = .ok (.slice (some ⟨g, 64 * n, none⟩) 64 (cap - 64 * n)) u := by
  have hw : IntKind.i64.wrap (64 * (n : Int) + 64) = 64 * (n : Int) + 64 := by rw [IntKind.wrap_i64]; omega
  obtain ⟨i0, hi, hz0, hz1, hz2⟩ := info_parts info5
  rw [hw, run_slice_lh (w := u) 110 _ L cap elem110 .i64 .i64 _ _ (by omega) (by omega) (by omega), elem110']
  have e1 : (64 * (n : Int)).toNat = 64 * n := by omega
  have e2 : (64 * (n : Int) + 64).toNat = 64 * n + 64 := by omega
  have hsz : (sizeOf 5).run Tryz.prog u = .ok 1 u := by simp [sizeOf, typeInfo, hi, hz1]
  rw [hsz]
  simp only [Result.andThen, sliced, e1, e2]
  rw [if_neg (by omega), show 64 * n + 64 - 64 * n = 64 by omega]
  simp [Addr.add]
  omega
theorem OwnB.cap {w : World} {base g n cap : Nat} {l : List Nat} (h : OwnB w base (.slice (some ⟨g, 0, none⟩) n cap) l) : n ≤ cap := by
  rcases h.2 with ⟨h1, _⟩ | ⟨g', cap', cur, hv, _, _, hc, _⟩
  · cases h1
  · cases hv; exact hc

theorem set8 {w : World} {b : Nat} {t : TypeId} {f : Nat → Value} (h : Row w b t 8 f) (g : Nat → Value) :
    Row ((((((((w.setCell ⟨b, 0, none⟩ (g 0)).setCell ⟨b, 1, none⟩ (g 1)).setCell ⟨b, 2, none⟩ (g 2)).setCell ⟨b, 3, none⟩ (g 3)).setCell ⟨b, 4, none⟩ (g 4)).setCell ⟨b, 5, none⟩ (g 5)).setCell ⟨b, 6, none⟩ (g 6)).setCell ⟨b, 7, none⟩ (g 7)) b t 8 g ∧
    w.grownBy ((((((((w.setCell ⟨b, 0, none⟩ (g 0)).setCell ⟨b, 1, none⟩ (g 1)).setCell ⟨b, 2, none⟩ (g 2)).setCell ⟨b, 3, none⟩ (g 3)).setCell ⟨b, 4, none⟩ (g 4)).setCell ⟨b, 5, none⟩ (g 5)).setCell ⟨b, 6, none⟩ (g 6)).setCell ⟨b, 7, none⟩ (g 7)) (some b) := by
  refine ⟨((((((((h.set 0 (g 0)).set 1 (g 1)).set 2 (g 2)).set 3 (g 3)).set 4 (g 4)).set 5 (g 5)).set 6 (g 6)).set 7 (g 7)).congr (fun j hj => ?_), ?_⟩
  · rcases (show j = 0 ∨ j = 1 ∨ j = 2 ∨ j = 3 ∨ j = 4 ∨ j = 5 ∨ j = 6 ∨ j = 7 by omega) with rfl | rfl | rfl | rfl | rfl | rfl | rfl | rfl <;> rfl
  · exact grown_trans (grown_trans (grown_trans (grown_trans (grown_trans (grown_trans (grown_trans (grown_setCell _ _ _) (grown_setCell _ _ _)) (grown_setCell _ _ _)) (grown_setCell _ _ _)) (grown_setCell _ _ _)) (grown_setCell _ _ _)) (grown_setCell _ _ _)) (grown_setCell _ _ _)

set_option maxRecDepth 20000 in
set_option maxHeartbeats 1000000 in
theorem hash_any (s : ByteArray) (w : World) (hs : s.size ≤ 4194304) (h0 : 2 < w.heap.size) (hK : Rk w 2 0 64 (fun j => .int .u32 (wi (K0 j)))) :
    Calls Tryz.prog 132 #[.string s] w fun e w' => e = .returned (.agg (arrOf 32 (bf (shaF K0 H0 s.data.toList)))) ∧ Below w.heap.size w w' := by
  go_enter Tryz.func132, Tryz.ntmps132
  go_wp2_with fail
  refine (start_lit _).mono ?_
  rintro e w1 ⟨rfl, hb1⟩
  have hs1 : w.heap.size + 1 ≤ w1.heap.size := by have := hb1.size; simp at this; omega
  have hR0 : Row w1 w.heap.size 105 32 (fun _ => .int .u8 0) := (Row.new w 105 (Array.replicate 32 (.int .u8 0)) _ 32 (by simp) (fun j hj => by simp [hj])).below hb1 (by simp)
  have hB1 : Below w.heap.size w w1 := ((Below.refl w.heap.size w).alloc (Nat.le_refl _) _).trans (hb1.mono (by simp))
  clear hb1
  go_wp2_with fail
  refine (pad_any s _ hs).mono ?_
  rintro e w2 ⟨v, rfl, hO, hb2⟩
  have hs2 : w1.heap.size + 1 ≤ w2.heap.size := by have := hb2.size; simp at this; omega
  have hR0' := (hR0.alloc _).below hb2 (by simp; omega)
  have hR1 : Row w2 w1.heap.size 212 8 (uf H0) := by
    have h := Row.arr w1 212 8 (uf H0)
    rw [arr8] at h
    exact h.below hb2 (by simp)
  have hB2 := (hB1.alloc (by omega) _).trans (hb2.mono (by simp; omega))
  have hP := padM_padL s.data.toList
  obtain ⟨P, hPP⟩ : ∃ P, P = padL s.data.toList := ⟨_, rfl⟩
  have hpl : P.length ≤ s.size + 72 := by rw [hPP]; exact padL_le s.data.toList
  have hpm : P.length % 64 = 0 := by rw [hPP]; exact padL_length s.data.toList
  have hpos : 0 < P.length := by rw [hPP]; simp only [padL, List.length_append, List.length_cons]; omega
  rw [← hPP] at hP
  rw [← hP] at hO
  rcases OwnB.shape hO with ⟨_, h2⟩ | ⟨g, cap, rfl, hg0, hg, hC⟩
  · rw [List.map_eq_nil_iff] at h2; rw [h2] at hpos; exact absurd hpos (by simp)
  have hcap := OwnB.cap hO
  rw [List.length_map] at hC hcap ⊢
  have hC' : Cel w2 g 0 P.length (fun j => .int .u8 (by_ P j : Nat)) := hC.congr (fun j hj => by
    unfold by_
    rw [List.getD_eq_getElem?_getD, List.getElem?_map, List.getElem?_eq_getElem hj, List.getD_eq_getElem?_getD, List.getElem?_eq_getElem hj]; rfl)
  have hg1 : w1.heap.size < g := by simp at hg0; omega
  have HP : Hid (P = padL s.data.toList ∧ s.size ≤ 4194304 ∧ P.length ≤ s.size + 72) := ⟨hPP, hs, hpl⟩
  clear hPP hs hpl hP hO hC hg0 hb2 hR0 hB1
  obtain ⟨b3, hb3⟩ : ∃ b3, b3 = w1.heap.size := ⟨_, rfl⟩
  rw [← hb3] at hs1 hs2 hR1 hg1 ⊢
  clear hb3
  go_wp2
  go_loopg [5] (P.length / 64) (fun q i wq => ∃ n : Nat, n + q = P.length / 64 ∧ i = .int .i64 ((64 * n : Nat) : Int) ∧ Row wq w.heap.size 105 32 (fun _ => .int .u8 0) ∧ Row wq b3 212 8 (uf (hk K0 H0 P n)) ∧ Cel wq g 0 P.length (fun j => .int .u8 (by_ P j : Nat)) ∧ g < wq.heap.size ∧ Below w.heap.size w wq)
  case atStart => exact ⟨0, by omega, rfl, hR0', hR1, hC', hg, hB2⟩
  case round =>
    clear hR0' hR1 hC' hg hB2
    obtain ⟨n, hn, rfl, hR0, hR1, hC, hg, hB⟩ := hrel
    by_cases hlt : n < P.length / 64
    · have c0 : wr.cell? ⟨b3, 0, none⟩ = some (.int .u32 (wi (hk K0 H0 P n 0))) := hR1.cell (by omega)
      have c1 : wr.cell? ⟨b3, 1, none⟩ = some (.int .u32 (wi (hk K0 H0 P n 1))) := hR1.cell (by omega)
      have c2 : wr.cell? ⟨b3, 2, none⟩ = some (.int .u32 (wi (hk K0 H0 P n 2))) := hR1.cell (by omega)
      have c3 : wr.cell? ⟨b3, 3, none⟩ = some (.int .u32 (wi (hk K0 H0 P n 3))) := hR1.cell (by omega)
      have c4 : wr.cell? ⟨b3, 4, none⟩ = some (.int .u32 (wi (hk K0 H0 P n 4))) := hR1.cell (by omega)
      have c5 : wr.cell? ⟨b3, 5, none⟩ = some (.int .u32 (wi (hk K0 H0 P n 5))) := hR1.cell (by omega)
      have c6 : wr.cell? ⟨b3, 6, none⟩ = some (.int .u32 (wi (hk K0 H0 P n 6))) := hR1.cell (by omega)
      have c7 : wr.cell? ⟨b3, 7, none⟩ = some (.int .u32 (wi (hk K0 H0 P n 7))) := hR1.cell (by omega)
      have hsl := sliceB64 g P.length cap n (by omega) hcap (by have := HP.out; omega)
      have hCn : Cel wr g (64 * n) 64 (fun j => .int .u8 (by_ ((P.drop (64 * n)).take 64) j : Nat)) := fun j hj => by
        have h1 := hC (64 * n + j) (by omega)
        rw [Nat.zero_add] at h1
        have h2 : by_ ((P.drop (64 * n)).take 64) j = by_ P (64 * n + j) := by
          unfold by_
          rw [List.getD_eq_getElem?_getD, List.getElem?_take_of_lt hj, List.getElem?_drop, List.getD_eq_getElem?_getD]
        show _ = some (Value.int .u8 ((by_ ((P.drop (64 * n)).take 64) j : Nat) : Int)) ∧ _
        rw [h2]; exact h1
      have hbs := hB.size
      have hmix := mix_lit (hk K0 H0 P n) ((P.drop (64 * n)).take 64) g (64 * n) (cap - 64 * n) wr.drew hg hCn (by show 2 < wr.heap.size; omega) (hK.below hB.drew h0)
      have HM := hide hmix
      have HCN := hide hCn
      clear hmix hCn
      go_wp2_with fail
      go_region_with (go_at_call 167; refine (unhide HM).mono ?_; rintro e w3 ⟨rfl, hb4⟩; have hR3 := hR1.drew.below hb4 (by show b3 < wr.heap.size; omega); have d0 := hR3.cell (j := 0) (by omega); have d1 := hR3.cell (j := 1) (by omega); have d2 := hR3.cell (j := 2) (by omega); have d3 := hR3.cell (j := 3) (by omega); have d4 := hR3.cell (j := 4) (by omega); have d5 := hR3.cell (j := 5) (by omega); have d6 := hR3.cell (j := 6) (by omega); have d7 := hR3.cell (j := 7) (by omega); have f0 := hR3.frozen 0; have f1 := hR3.frozen 1; have f2 := hR3.frozen 2; have f3 := hR3.frozen 3; have f4 := hR3.frozen 4; have f5 := hR3.frozen 5; have f6 := hR3.frozen 6; have f7 := hR3.frozen 7)
      go_wp2
      go_roundg (gk - 1)
      case measure => omega
      case rel =>
        obtain ⟨k1, k2⟩ := set8 hR3 (uf (hk K0 H0 P (n + 1)))
        have k3 := k2.size
        have k4 := hb4.size
        have k5 : wr.drew.heap.size = wr.heap.size := rfl
        have h6 := HP.out
        have h7 : wrap64 (64 * (n : Int) + 64) = ((64 * (n + 1) : Nat) : Int) := by rw [w64 _ (by omega) (by omega)]; omega
        refine ⟨n + 1, by omega, by rw [← h7], ((hR0.drew.below hb4 (by omega)).grown k2 (by simp; omega)), k1, ((hC.drewN 1).below hb4 hg).grown (by omega) k2 (by simp; omega), by simp; omega, ?_⟩
        exact (hB.drew.trans (hb4.mono (by omega))).grown k2 (by omega) (fun k hk => by cases hk; omega)
    · have hnn : n = P.length / 64 := by omega
      have HN : Hid (n = P.length / 64) := hnn
      have hge : ¬ (64 * (n : Int) < P.length) := by omega
      clear hlt hnn
      have c0 : wr.cell? ⟨b3, 0, none⟩ = some (.int .u32 (wi (hk K0 H0 P n 0))) := hR1.cell (by omega)
      have c1 : wr.cell? ⟨b3, 1, none⟩ = some (.int .u32 (wi (hk K0 H0 P n 1))) := hR1.cell (by omega)
      have c2 : wr.cell? ⟨b3, 2, none⟩ = some (.int .u32 (wi (hk K0 H0 P n 2))) := hR1.cell (by omega)
      have c3 : wr.cell? ⟨b3, 3, none⟩ = some (.int .u32 (wi (hk K0 H0 P n 3))) := hR1.cell (by omega)
      have c4 : wr.cell? ⟨b3, 4, none⟩ = some (.int .u32 (wi (hk K0 H0 P n 4))) := hR1.cell (by omega)
      have c5 : wr.cell? ⟨b3, 5, none⟩ = some (.int .u32 (wi (hk K0 H0 P n 5))) := hR1.cell (by omega)
      have c6 : wr.cell? ⟨b3, 6, none⟩ = some (.int .u32 (wi (hk K0 H0 P n 6))) := hR1.cell (by omega)
      have c7 : wr.cell? ⟨b3, 7, none⟩ = some (.int .u32 (wi (hk K0 H0 P n 7))) := hR1.cell (by omega)
      go_wp2_with fail
      refine (bytes_lit (hk K0 H0 P n) _).mono ?_
      rintro e w3 ⟨rfl, hb3⟩
      have k4 := hb3.size
      have hR3 := hR0.below hb3 hR0.lt
      go_wp2_with (refine stRow rfl 105 _ _ rfl rfl rfl hR3 sz105 (fun _ _ => rfl) ?_; intro w4 hR4 hg4)
      refine ret_row Tryz.results132 _ hR4 rfl Tryz.underlying105 (Or.inr ⟨_, _, rfl⟩) sz105 rfl ⟨?_, ?_⟩
      · refine congrArg (fun f => Ending.returned (.agg (arrOf 32 (bf f)))) ?_
        funext j
        unfold shaF
        rw [HN.out, HP.out.1]
      · exact (hB.trans (hb3.mono hB.size)).grown hg4 (by have := hB.size; omega) (fun k hk => by cases hk; exact Nat.le_refl _)
end Go.Proofs.YtkmkkmdpjliifaaGreatDoor
namespace Go.Proofs.YtkmkkmdpjliifaaGreatDoor
open Go.ChangeShapes Go.WideShapes Go.ChangeAt Go.RowKit

set_option maxRecDepth 20000 in
set_option maxHeartbeats 1000000 in
theorem turned_any (f : Nat → Nat) (m : Nat) (w : World) (hf : ∀ j, j < 64 → f j < 256) (hm : m < 256) :
    Calls Tryz.prog 133 #[.agg (arrOf 64 (bf f)), .int .u8 (m : Int)] w fun e w' => e = .returned (.string ⟨(bs 64 (fun j => f j ^^^ m)).toArray⟩) ∧ Below w.heap.size w w' := by
  have HF := hide hf
  clear hf
  go_enter Tryz.func133, Tryz.ntmps133
  go_wp2
  go_loopg [6] 64 (fun q i wr => ∃ k : Nat, k + q = 64 ∧ i = .int .i64 k ∧ Row wr w.heap.size 188 64 (fun j => .int .u8 (if j < k then ((f j ^^^ m : Nat) : Int) else f j)) ∧ Below w.heap.size w wr)
  case atStart => exact ⟨0, rfl, rfl, (Row.arr w 188 64 (bf f)).congr (fun j hj => by rw [if_neg (by omega)]; rfl), (Below.refl _ _).alloc (Nat.le_refl _) _⟩
  case round =>
    obtain ⟨k, hk, rfl, hR, hB⟩ := hrel
    by_cases hlt : k < 64
    · have hc := hR.cell hlt
      have hfz := hR.frozen k
      simp only [Nat.lt_irrefl, if_false] at hc
      go_wp2
      go_roundg (gk - 1)
      case measure => omega
      case rel =>
        refine ⟨k + 1, by omega, by go_num, (hR.set k _).congr (fun j hj => ?_), hB.setCell (Nat.le_refl _) _⟩
        rw [xor8 _ _ (unhide HF k hlt) hm]
        by_cases e1 : j = k
        · subst e1; simp only [if_true, Nat.lt_succ_self]
        · have e2 : (j < k + 1) ↔ j < k := by omega
          simp only [e1, e2, if_false]
    · obtain rfl : k = 64 := by omega
      clear hlt
      have hcv := conv8 (w := wr) w.heap.size 0 64 64 (fun j => f j ^^^ m) (fun i hi => by rw [Nat.zero_add, hR.cell hi]; simp [hi])
      go_wp2
      go_ret
      exact ⟨rfl, hB⟩

theorem byteCells_getD (str : ByteArray) (j : Nat) (hj : j < str.size) : (byteCells str).getD j undef = .int .u8 (by_ str.data.toList j : Nat) := by
  have h2 : j < str.data.toList.length := by rw [Array.length_toList]; exact hj
  unfold byteCells by_
  rw [List.getD_eq_getElem?_getD, List.getElem?_map, List.getElem?_eq_getElem h2, List.getD_eq_getElem?_getD, List.getElem?_eq_getElem h2]; rfl
/-- copy(b, s) -/
theorem copyStr {w : World} {ops : Array Oper} {rest : List Oper} {o : Oper} {a : Act} {Q : Exit → Act → World → Prop} (hgd : o.guard = none) (d s : Operand)
    (ho : o.op = .call { callee := .builtin .copy, args := #[d, s], argTypes := #[110, 9] }) {g n cap : Nat} {f : Nat → Value} {t : TypeId} {str : ByteArray} (hd : a.eval d = .slice (some ⟨g, 0, none⟩) n cap) (hs : a.eval s = .string str)
    (hRow : Row w g t n f) (hlen : str.size ≤ n)
    (h : ∀ w', Row w' g t n (fun j => if j < str.size then .int .u8 (by_ str.data.toList j : Nat) else f j) → w.grownBy w' (some g) → wpList Tryz.prog ops Q rest (a.put o.dst (goInt str.size)) w') : wpList Tryz.prog ops Q (o :: rest) a w := by
  obtain ⟨i0, hi, hz0, hz1, hz2⟩ := info_parts info5
  have hbl := byteCells_length str
  have hst := run_storeCells_cells (P := Tryz.prog) g 0 (byteCells str) 0 w (fun j hj => by simp [hRow.cell (show j < n by omega)]) (fun j hj => hRow.frozen _) (fun v hv => by
    obtain ⟨_, _, rfl⟩ := List.mem_map.1 hv
    rfl)
  have hfc := firstCells_string (P := Tryz.prog) str w
  have hrun : (Builtin.copy_ #[110, 9] o.type #[.slice (some ⟨g, 0, none⟩) n cap, .string str]).run Tryz.prog w = .ok (goInt str.size) (w.setCells g 0 (byteCells str)) := by
    have hmin : Nat.min str.size n = str.size := Nat.min_eq_left hlen
    simp only [Nat.add_zero] at hst
    simp [Builtin.copy_, run_underlying Tryz.underlying110, Builtin.lenOf, sizeOf, typeInfo, hi, hz1, hmin, hfc, hst]
  refine wpList_plain hgd fun K hK' => ?_
  unfold Oper.wp
  simp [execOp, ho, resolve, invoke, builtin, hd, hs, hrun, Result.andThen]
  refine hK' _ _ (h _ ((Row.setCells (byteCells str) 0 w f hRow).congr (fun j hj => ?_)) (grown_setCells g _ 0 w))
  rw [hbl, Nat.zero_add, Nat.sub_zero]
  by_cases e : j < str.size
  · rw [if_pos ⟨Nat.zero_le _, e⟩, byteCells_getD str j e, if_pos e]
  · rw [if_neg (fun h => e h.2), if_neg e]
/-- copy(b, c), c an array's -/
theorem copyRow {w : World} {g g2 n cap m cap2 : Nat} {t t2 : TypeId} {f f2 : Nat → Value} (hRow : Row w g t n f) (hRow2 : Row w g2 t2 m f2) (hle : m ≤ n) (h1 : ∀ j, j < m → (f2 j).oneCell' = true) (ty : TypeId) :
    ∃ w', (Builtin.copy_ #[110, 110] ty #[.slice (some ⟨g, 0, none⟩) n cap, .slice (some ⟨g2, 0, none⟩) m cap2]).run Tryz.prog w = .ok (goInt m) w' ∧ Row w' g t n (fun j => if j < m then f2 j else f j) ∧ w.grownBy w' (some g) := by
  have hal : (arrOf m f2).toList.length = m := by rw [Array.length_toList, arrOf_size]
  have hg : ∀ j, j < m → (arrOf m f2).toList[j]? = some (f2 j) := fun j hj => by rw [Array.getElem?_toList, arrOf_get m f2 j hj]
  have hrun := run_copy_cells (P := Tryz.prog) w 110 110 ty 5 g 0 n cap ⟨g2, 0, none⟩ m cap2 (arrOf m f2).toList Tryz.underlying110 (by kernel_rfl) (by rw [hal]; exact (Nat.min_eq_left hle).symm)
    (fun j v hv => by
      have hj : j < m := by
        rcases Nat.lt_or_ge j m with h | h
        · exact h
        · rw [List.getElem?_eq_none (by omega)] at hv; cases hv
      rw [hg j hj] at hv
      rw [← Option.some.inj hv, Addr.add_mid, Nat.zero_add]
      exact hRow2.cell hj)
    (fun j hj => by rw [Nat.zero_add, hRow.cell (by omega)]; rfl) (fun j hj => hRow.frozen _)
    (fun v hv => by
      obtain ⟨j, hj, rfl⟩ := List.mem_iff_getElem.1 hv
      have hj' : j < m := by omega
      have := hg j hj'
      rw [List.getElem?_eq_getElem hj] at this
      rw [Option.some.inj this]; exact h1 j hj')
  rw [hal] at hrun
  refine ⟨_, hrun, (Row.setCells (arrOf m f2).toList 0 w f hRow).congr (fun j hj => ?_), grown_setCells g _ 0 w⟩
  rw [hal, Nat.zero_add, Nat.sub_zero]
  by_cases e : j < m
  · rw [if_pos ⟨Nat.zero_le _, e⟩, if_pos e, List.getD_eq_getElem?_getD, hg j e]; rfl
  · rw [if_neg (fun h => e h.2), if_neg e]
theorem hashL (l : List UInt8) (w : World) (hs : l.length ≤ 4194304) (h0 : 2 < w.heap.size) (hK : Rk w 2 0 64 (fun j => .int .u32 (wi (K0 j)))) :
    Calls Tryz.prog 132 #[.string ⟨l.toArray⟩] w fun e w' => e = .returned (.agg (arrOf 32 (bf (shaF K0 H0 l)))) ∧ Below w.heap.size w w' :=
  hash_any ⟨l.toArray⟩ w hs h0 hK

set_option maxRecDepth 20000 in
set_option maxHeartbeats 1000000 in
theorem keyBlock_any (l : List UInt8) (w : World) (hl : l.length ≤ 2097152) (h0 : 2 < w.heap.size) (hK : Rk w 2 0 64 (fun j => .int .u32 (wi (K0 j)))) :
    Calls Tryz.prog 131 #[.string ⟨l.toArray⟩] w fun e w' => e = .returned (.agg (arrOf 64 (bf (by_ (keyL K0 H0 l))))) ∧ Below w.heap.size w w' := by
  have hsz : (ByteArray.mk l.toArray).size = l.length := by simp [ByteArray.size]
  have HSZ := hide hsz
  have hRa : ∀ o, Row ((w.alloc (.cells (Array.replicate 64 (.int .u8 0)) 188)).alloc o) w.heap.size 188 64 (fun _ => .int .u8 0) := fun o =>
    (Row.new w 188 (Array.replicate 64 (.int .u8 0)) _ 64 (by simp) (fun j hj => by simp [hj])).alloc _
  have hRb : Row ((w.alloc (.cells (Array.replicate 64 (.int .u8 0)) 188)).alloc (.cells (Array.replicate 64 (.int .u8 0)) 188)) (w.heap.size + 1) 188 64 (fun _ => .int .u8 0) := by
    have h := Row.new (w.alloc (.cells (Array.replicate 64 (.int .u8 0)) 188)) 188 (Array.replicate 64 (.int .u8 0)) (fun _ => .int .u8 0) 64 (by simp) (fun j hj => by simp [hj])
    rw [show (w.alloc (.cells (Array.replicate 64 (.int .u8 0)) 188)).heap.size = w.heap.size + 1 by simp] at h
    exact h
  clear hsz
  go_enter Tryz.func131, Tryz.ntmps131
  by_cases h64 : 64 < l.length
  · have hkl : keyL K0 H0 l = shaL K0 H0 l := by unfold keyL; rw [if_pos h64]
    have HK := hide hkl
    clear hkl
    have hK2 : ∀ o1 o2, Rk ((w.alloc o1).alloc o2) 2 0 64 (fun j => .int .u32 (wi (K0 j))) := fun o1 o2 => (hK.alloc h0 _).alloc (by simp; omega) _
    go_wp2_with fail
    refine (hashL l _ (by omega) (by simp; omega) (hK2 _ _)).mono ?_
    rintro e w1 ⟨rfl, hb1⟩
    have hs1 : w.heap.size + 2 ≤ w1.heap.size := by have := hb1.size; simp at this; omega
    have hR0 := (hRa (.cells (Array.replicate 64 (.int .u8 0)) 188)).below hb1 (by simp; omega)
    have hR1 := hRb.below hb1 (by simp)
    have hB1 : Below w.heap.size w w1 := (((Below.refl w.heap.size w).alloc (Nat.le_refl _) _).alloc (by simp) _).trans (hb1.mono (by simp; omega))
    clear hb1 hRa hRb hK2
    go_wp2_with (refine stRow rfl 105 _ _ rfl rfl rfl (Row.new w1 105 (Array.replicate 32 (.int .u8 0)) (fun _ => .int .u8 0) 32 (by simp) (fun j hj => by simp [hj])) sz105 (fun _ _ => rfl) ?_; intro w2 hS hg2)
    have hs2 := hg2.size
    simp at hs2
    have hR0' := (hR0.alloc _).grown hg2 (by simp; omega)
    have hR1' := (hR1.alloc _).grown hg2 (by simp; omega)
    have hB2 := (hB1.alloc (by omega) _).grown hg2 (by simp; omega) (fun k hk => by cases hk; omega)
    clear hR0 hR1 hB1 hg2
    obtain ⟨w3, hcp, hR3, hg3⟩ := copyRow (cap := 64) (cap2 := 32) hR1'.drew hS.drew (by decide) (fun _ _ => rfl) 3
    have hR0'' := hR0'.drew.grown hg3 (by simp)
    have hB3 := hB2.drew.grown hg3 (by have := hB2.size; exact this) (fun k hk => by cases hk; omega)
    have hR3' : Row w3 (w.heap.size + 1) 188 64 (bf (by_ (keyL K0 H0 l))) := hR3.congr (fun j hj => by
      unfold bf
      rw [unhide HK]
      unfold shaL by_ bs
      rw [List.getD_eq_getElem?_getD, List.getElem?_map]
      by_cases e : j < 32
      · rw [if_pos e, List.getElem?_range e]
        show _ = Value.int .u8 ((UInt8.ofNat (shaF K0 H0 l j)).toNat : Int)
        rw [UInt8.toNat_ofNat', Nat.mod_eq_of_lt]
        exact Nat.mod_lt _ (by decide)
      · rw [if_neg e, List.getElem?_eq_none (by simp; omega)]; rfl)
    clear hR3 hS hR0' hR1' hB2
    go_region
    go_wp2_with (first | (refine ldRow rfl 188 _ rfl rfl hR3' Tryz.underlying188 sz188 ?_) | (refine stRow rfl 188 _ _ rfl rfl rfl hR0'' sz188 (fun _ _ => rfl) ?_; intro w4 hR4 hg4))
    refine ret_row Tryz.results131 _ hR4 rfl Tryz.underlying188 (Or.inr ⟨_, _, rfl⟩) sz188 rfl ⟨rfl, ?_⟩
    exact hB3.grown hg4 hB3.size (fun k hk => by cases hk; exact Nat.le_refl _)
  · have hkl : keyL K0 H0 l = l := by unfold keyL; rw [if_neg h64]
    have HK := hide hkl
    clear hkl
    go_wp2_with (first | (refine copyStr rfl _ _ rfl rfl rfl hRb (by rw [unhide HSZ]; omega) ?_; intro w2 hR2 hg2; have hR0 := (hRa (.cells (Array.replicate 64 (.int .u8 0)) 188)).grown hg2 (by simp)) | (refine ldRow rfl 188 _ rfl rfl hR2 Tryz.underlying188 sz188 ?_) | (refine stRow rfl 188 _ _ rfl rfl rfl hR0 sz188 (fun j _ => by show Value.oneCell' (if _ then _ else _) = true; split <;> rfl) ?_; intro w4 hR4 hg4))
    refine ret_row Tryz.results131 _ hR4 rfl Tryz.underlying188 (Or.inr ⟨_, _, rfl⟩) sz188 rfl ⟨?_, ?_⟩
    · refine congrArg (fun c => Ending.returned (.agg c)) (arrOf_congr 64 (fun j hj => ?_))
      unfold bf
      rw [unhide HK, unhide HSZ]
      by_cases e : j < l.length
      · rw [if_pos e]
      · rw [if_neg e]
        unfold by_
        rw [List.getD_eq_getElem?_getD, List.getElem?_eq_none (by omega)]; rfl
    · have hs2 := hg2.size
      simp at hs2
      have hB2 : Below w.heap.size w w2 := (((Below.refl w.heap.size w).alloc (Nat.le_refl _) _).alloc (by simp) _).grown hg2 (by simp; omega) (fun k hk => by cases hk; omega)
      exact hB2.grown hg4 hB2.size (fun k hk => by cases hk; exact Nat.le_refl _)
end Go.Proofs.YtkmkkmdpjliifaaGreatDoor
namespace Go.Proofs.YtkmkkmdpjliifaaGreatDoor
open Go.ChangeShapes Go.WideShapes Go.ChangeAt Go.RowKit

end Go.Proofs.YtkmkkmdpjliifaaGreatDoor
namespace Go.Proofs.YtkmkkmdpjliifaaGreatDoor
open Go.ChangeShapes Go.WideShapes Go.ChangeAt Go.RowKit

/-- one text behind another -/
theorem cat_any (a b c : List UInt8) (hc : a ++ b = c) (hl : c.length ≤ 16777216) (u : World) : (Op.stringOp .add ⟨a.toArray⟩ ⟨b.toArray⟩).run Tryz.prog u = .ok (.string ⟨c.toArray⟩) u := by
  subst hc
  have h1 : (ByteArray.mk a.toArray).size = a.length := by simp [ByteArray.size]
  have h2 : (ByteArray.mk b.toArray).size = b.length := by simp [ByteArray.size]
  rw [List.length_append] at hl
  rw [run_string_add_sum (w := u) _ _ (by omega), ByteArray.mk_append_mk]

end Go.Proofs.YtkmkkmdpjliifaaGreatDoor
namespace Go.Proofs.YtkmkkmdpjliifaaGreatDoor
open Go.ChangeShapes Go.WideShapes Go.ChangeAt Go.RowKit

/-- from the loop that lengthens the key on -/
def kz (l : List UInt8) (k : Nat) : List UInt8 := l ++ List.replicate k 0
end Go.Proofs.YtkmkkmdpjliifaaGreatDoor
