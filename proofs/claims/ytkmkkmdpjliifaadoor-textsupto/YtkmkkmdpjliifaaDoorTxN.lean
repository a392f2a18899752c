import Derived.Test.YtkmkkmdpjliifaaDoorTxI
import Derived.Test.YtkmkkmdpjliifaaDoorTxJ
import Derived.Test.YtkmkkmdpjliifaaDoorTxT
namespace Go.Proofs.YtkmkkmdpjliifaaDoor
open Go.ChangeShapes Go.WideShapes Go.ChangeAt Go.RowKit

theorem arr8 (h : Nat → BitVec 32) : arrOf 8 (uf h) = #[.int .u32 (wi (h 0)), .int .u32 (wi (h 1)), .int .u32 (wi (h 2)), .int .u32 (wi (h 3)), .int .u32 (wi (h 4)), .int .u32 (wi (h 5)), .int .u32 (wi (h 6)), .int .u32 (wi (h 7))] :=
  arrOf_eq 8 _ _ rfl (fun j hj => by rcases (show j = 0 ∨ j = 1 ∨ j = 2 ∨ j = 3 ∨ j = 4 ∨ j = 5 ∨ j = 6 ∨ j = 7 by omega) with rfl | rfl | rfl | rfl | rfl | rfl | rfl | rfl <;> rfl)
theorem mix_lit (hv : Nat → BitVec 32) (l : List UInt8) (b o cap : Nat) (w : World) (hb : b < w.heap.size) (hC : Cel w b o 64 (fun j => .int .u8 (by_ l j : Nat)))
    (h0 : 0 < w.heap.size) (hK : Rd w 0 0 64 (fun j => .int .u32 (wi (K0 j)))) :
    Calls Tryd.prog 81 #[.agg #[.int .u32 (wi (hv 0)), .int .u32 (wi (hv 1)), .int .u32 (wi (hv 2)), .int .u32 (wi (hv 3)), .int .u32 (wi (hv 4)), .int .u32 (wi (hv 5)), .int .u32 (wi (hv 6)), .int .u32 (wi (hv 7))], .slice (some ⟨b, o, none⟩) 64 cap] w fun e w' =>
      e = .returned (.agg #[.int .u32 (wi (blk K0 hv l 0)), .int .u32 (wi (blk K0 hv l 1)), .int .u32 (wi (blk K0 hv l 2)), .int .u32 (wi (blk K0 hv l 3)), .int .u32 (wi (blk K0 hv l 4)), .int .u32 (wi (blk K0 hv l 5)), .int .u32 (wi (blk K0 hv l 6)), .int .u32 (wi (blk K0 hv l 7))]) ∧ Below w.heap.size w w' := by
  have := mix_any hv l b o cap w hb hC h0 hK
  rw [arr8, arr8] at this
  exact this
theorem start_lit (w : World) : Calls Tryd.prog 79 #[] w fun e w' => e = .returned (.agg #[.int .u32 (wi (H0 0)), .int .u32 (wi (H0 1)), .int .u32 (wi (H0 2)), .int .u32 (wi (H0 3)), .int .u32 (wi (H0 4)), .int .u32 (wi (H0 5)), .int .u32 (wi (H0 6)), .int .u32 (wi (H0 7))]) ∧ Below w.heap.size w w' := by
  have := startWords_any w
  rw [arr8] at this
  exact this
theorem bytes_lit (hv : Nat → BitVec 32) (w : World) :
    Calls Tryd.prog 82 #[.agg #[.int .u32 (wi (hv 0)), .int .u32 (wi (hv 1)), .int .u32 (wi (hv 2)), .int .u32 (wi (hv 3)), .int .u32 (wi (hv 4)), .int .u32 (wi (hv 5)), .int .u32 (wi (hv 6)), .int .u32 (wi (hv 7))]] w fun e w' => e = .returned (.agg (arrOf 32 (bf (fun j => b4 (hv (j / 4)) (j % 4))))) ∧ Below w.heap.size w w' := by
  have := wordBytes_any hv w
  rw [arr8] at this
  exact this

theorem elem33 : Tryd.prog.underlying 33 = some (.slice (Tryd.prog.elem 33)) := by kernel_rfl
theorem elem33' : Tryd.prog.elem 33 = 5 := by kernel_rfl
theorem sliceB64 (g L cap n : Nat) (h : 64 * n + 64 ≤ L) (hL : L ≤ cap) (hl : L ≤ 8388608) (u : World) :
    (Instr.slice 33 (.slice (some ⟨g, 0, none⟩) L cap) (some (.int .i64 (64 * (n : Int)))) (some (.int .i64 (IntKind.i64.wrap (64 * (n : Int) + 64)))) none).run Tryd.prog u = .ok (.slice (some ⟨g, 64 * n, none⟩) 64 (cap - 64 * n)) u := by
  have hw : IntKind.i64.wrap (64 * (n : Int) + 64) = 64 * (n : Int) + 64 := by rw [IntKind.wrap_i64]; omega
  obtain ⟨i0, hi, hz0, hz1, hz2⟩ := info_parts info5
  rw [hw, run_slice_lh (w := u) 33 _ L cap elem33 .i64 .i64 _ _ (by omega) (by omega) (by omega), elem33']
  have e1 : (64 * (n : Int)).toNat = 64 * n := by omega
  have e2 : (64 * (n : Int) + 64).toNat = 64 * n + 64 := by omega
  have hsz : (sizeOf 5).run Tryd.prog u = .ok 1 u := by simp [sizeOf, typeInfo, hi, hz1]
  rw [hsz]
  simp only [Result.andThen, sliced, e1, e2]
  rw [if_neg (by omega), show 64 * n + 64 - 64 * n = 64 by omega]
  simp [Addr.add]
  omega
theorem OwnB.cap {w : World} {base g n cap : Nat} {l : List Nat} (h : OwnB w base (.slice (some ⟨g, 0, none⟩) n cap) l) : n ≤ cap := by
  rcases h.2 with ⟨h1, _⟩ | ⟨g', cap', cur, hv, _, _, hc, _⟩
  · cases h1
  · cases hv; exact hc

theorem set8 {w : World} {b : Nat} {t : TypeId} {f : Nat → Value} (h : Row w b t 8 f) (g : Nat → Value) :
    Row ((((((((w.setCell ⟨b, 0, none⟩ (g 0)).setCell ⟨b, 1, none⟩ (g 1)).setCell ⟨b, 2, none⟩ (g 2)).setCell ⟨b, 3, none⟩ (g 3)).setCell ⟨b, 4, none⟩ (g 4)).setCell ⟨b, 5, none⟩ (g 5)).setCell ⟨b, 6, none⟩ (g 6)).setCell ⟨b, 7, none⟩ (g 7)) b t 8 g ∧
    w.grownBy ((((((((w.setCell ⟨b, 0, none⟩ (g 0)).setCell ⟨b, 1, none⟩ (g 1)).setCell ⟨b, 2, none⟩ (g 2)).setCell ⟨b, 3, none⟩ (g 3)).setCell ⟨b, 4, none⟩ (g 4)).setCell ⟨b, 5, none⟩ (g 5)).setCell ⟨b, 6, none⟩ (g 6)).setCell ⟨b, 7, none⟩ (g 7)) (some b) := by
  refine ⟨((((((((h.set 0 (g 0)).set 1 (g 1)).set 2 (g 2)).set 3 (g 3)).set 4 (g 4)).set 5 (g 5)).set 6 (g 6)).set 7 (g 7)).congr (fun j hj => ?_), ?_⟩
  · rcases (show j = 0 ∨ j = 1 ∨ j = 2 ∨ j = 3 ∨ j = 4 ∨ j = 5 ∨ j = 6 ∨ j = 7 by omega) with rfl | rfl | rfl | rfl | rfl | rfl | rfl | rfl <;> rfl
  · exact grown_trans (grown_trans (grown_trans (grown_trans (grown_trans (grown_trans (grown_trans (grown_setCell _ _ _) (grown_setCell _ _ _)) (grown_setCell _ _ _)) (grown_setCell _ _ _)) (grown_setCell _ _ _)) (grown_setCell _ _ _)) (grown_setCell _ _ _)) (grown_setCell _ _ _)

set_option maxRecDepth 20000 in
set_option maxHeartbeats 1000000 in
theorem hash_any (s : ByteArray) (w : World) (hs : s.size ≤ 4194304) (h0 : 0 < w.heap.size) (hK : Rd w 0 0 64 (fun j => .int .u32 (wi (K0 j)))) :
    Calls Tryd.prog 58 #[.string s] w fun e w' => e = .returned (.agg (arrOf 32 (bf (shaF K0 H0 s.data.toList)))) ∧ Below w.heap.size w w' := by
  go_enter Tryd.func58, Tryd.ntmps58
  go_wp2_with fail
  refine (start_lit _).mono ?_
  rintro e w1 ⟨rfl, hb1⟩
  have hs1 : w.heap.size + 1 ≤ w1.heap.size := by have := hb1.size; simp at this; omega
  have hR0 : Row w1 w.heap.size 26 32 (fun _ => .int .u8 0) := (Row.new w 26 (Array.replicate 32 (.int .u8 0)) _ 32 (by simp) (fun j hj => by simp [hj])).below hb1 (by simp)
  have hB1 : Below w.heap.size w w1 := ((Below.refl w.heap.size w).alloc (Nat.le_refl _) _).trans (hb1.mono (by simp))
  clear hb1
  go_wp2_with fail
  refine (pad_any s _ hs).mono ?_
  rintro e w2 ⟨v, rfl, hO, hb2⟩
  have hs2 : w1.heap.size + 1 ≤ w2.heap.size := by have := hb2.size; simp at this; omega
  have hR0' := (hR0.alloc _).below hb2 (by simp; omega)
  have hR1 : Row w2 w1.heap.size 122 8 (uf H0) := by
    have h := Row.arr w1 122 8 (uf H0)
    rw [arr8] at h
    exact h.below hb2 (by simp)
  have hB2 := (hB1.alloc (by omega) _).trans (hb2.mono (by simp; omega))
  have hP := padM_padL s.data.toList
  obtain ⟨P, hPP⟩ : ∃ P, P = padL s.data.toList := ⟨_, rfl⟩
  have hpl : P.length ≤ s.size + 72 := by rw [hPP]; exact padL_le s.data.toList
  have hpm : P.length % 64 = 0 := by rw [hPP]; exact padL_length s.data.toList
  have hpos : 0 < P.length := by rw [hPP]; simp only [padL, List.length_append, List.length_cons]; omega
  rw [← hPP] at hP
  rw [← hP] at hO
  rcases OwnB.shape hO with ⟨_, h2⟩ | ⟨g, cap, rfl, hg0, hg, hC⟩
  · rw [List.map_eq_nil_iff] at h2; rw [h2] at hpos; exact absurd hpos (by simp)
  have hcap := OwnB.cap hO
  rw [List.length_map] at hC hcap ⊢
  have hC' : Cel w2 g 0 P.length (fun j => .int .u8 (by_ P j : Nat)) := hC.congr (fun j hj => by
    unfold by_
    rw [List.getD_eq_getElem?_getD, List.getElem?_map, List.getElem?_eq_getElem hj, List.getD_eq_getElem?_getD, List.getElem?_eq_getElem hj]; rfl)
  have hg1 : w1.heap.size < g := by simp at hg0; omega
  have HP : Hid (P = padL s.data.toList ∧ s.size ≤ 4194304 ∧ P.length ≤ s.size + 72) := ⟨hPP, hs, hpl⟩
  clear hPP hs hpl hP hO hC hg0 hb2 hR0 hB1
  obtain ⟨b3, hb3⟩ : ∃ b3, b3 = w1.heap.size := ⟨_, rfl⟩
  rw [← hb3] at hs1 hs2 hR1 hg1 ⊢
  clear hb3
  go_wp2
  go_loopg [5] (P.length / 64) (fun q i wq => ∃ n : Nat, n + q = P.length / 64 ∧ i = .int .i64 ((64 * n : Nat) : Int) ∧ Row wq w.heap.size 26 32 (fun _ => .int .u8 0) ∧ Row wq b3 122 8 (uf (hk K0 H0 P n)) ∧ Cel wq g 0 P.length (fun j => .int .u8 (by_ P j : Nat)) ∧ g < wq.heap.size ∧ Below w.heap.size w wq)
  case atStart => exact ⟨0, by omega, rfl, hR0', hR1, hC', hg, hB2⟩
  case round =>
    clear hR0' hR1 hC' hg hB2
    obtain ⟨n, hn, rfl, hR0, hR1, hC, hg, hB⟩ := hrel
    by_cases hlt : n < P.length / 64
    · have c0 : wr.cell? ⟨b3, 0, none⟩ = some (.int .u32 (wi (hk K0 H0 P n 0))) := hR1.cell (by omega)
      have c1 : wr.cell? ⟨b3, 1, none⟩ = some (.int .u32 (wi (hk K0 H0 P n 1))) := hR1.cell (by omega)
      have c2 : wr.cell? ⟨b3, 2, none⟩ = some (.int .u32 (wi (hk K0 H0 P n 2))) := hR1.cell (by omega)
      have c3 : wr.cell? ⟨b3, 3, none⟩ = some (.int .u32 (wi (hk K0 H0 P n 3))) := hR1.cell (by omega)
      have c4 : wr.cell? ⟨b3, 4, none⟩ = some (.int .u32 (wi (hk K0 H0 P n 4))) := hR1.cell (by omega)
      have c5 : wr.cell? ⟨b3, 5, none⟩ = some (.int .u32 (wi (hk K0 H0 P n 5))) := hR1.cell (by omega)
      have c6 : wr.cell? ⟨b3, 6, none⟩ = some (.int .u32 (wi (hk K0 H0 P n 6))) := hR1.cell (by omega)
      have c7 : wr.cell? ⟨b3, 7, none⟩ = some (.int .u32 (wi (hk K0 H0 P n 7))) := hR1.cell (by omega)
      have hsl := sliceB64 g P.length cap n (by omega) hcap (by have := HP.out; omega)
      have hCn : Cel wr g (64 * n) 64 (fun j => .int .u8 (by_ ((P.drop (64 * n)).take 64) j : Nat)) := fun j hj => by
        have h1 := hC (64 * n + j) (by omega)
        rw [Nat.zero_add] at h1
        have h2 : by_ ((P.drop (64 * n)).take 64) j = by_ P (64 * n + j) := by
          unfold by_
          rw [List.getD_eq_getElem?_getD, List.getElem?_take_of_lt hj, List.getElem?_drop, List.getD_eq_getElem?_getD]
        show _ = some (Value.int .u8 ((by_ ((P.drop (64 * n)).take 64) j : Nat) : Int)) ∧ _
        rw [h2]; exact h1
      have hbs := hB.size
      have hmix := mix_lit (hk K0 H0 P n) ((P.drop (64 * n)).take 64) g (64 * n) (cap - 64 * n) wr.drew hg hCn (by show 0 < wr.heap.size; omega) (hK.below hB.drew h0)
      have HM := hide hmix
      have HCN := hide hCn
      clear hmix hCn
      go_wp2_with fail
      go_region_with (go_at_call 81; refine (unhide HM).mono ?_; rintro e w3 ⟨rfl, hb4⟩; have hR3 := hR1.drew.below hb4 (by show b3 < wr.heap.size; omega); have d0 := hR3.cell (j := 0) (by omega); have d1 := hR3.cell (j := 1) (by omega); have d2 := hR3.cell (j := 2) (by omega); have d3 := hR3.cell (j := 3) (by omega); have d4 := hR3.cell (j := 4) (by omega); have d5 := hR3.cell (j := 5) (by omega); have d6 := hR3.cell (j := 6) (by omega); have d7 := hR3.cell (j := 7) (by omega); have f0 := hR3.frozen 0; have f1 := hR3.frozen 1; have f2 := hR3.frozen 2; have f3 := hR3.frozen 3; have f4 := hR3.frozen 4; have f5 := hR3.frozen 5; have f6 := hR3.frozen 6; have f7 := hR3.frozen 7)
      go_wp2
      go_roundg (gk - 1)
      case measure => omega
      case rel =>
        obtain ⟨k1, k2⟩ := set8 hR3 (uf (hk K0 H0 P (n + 1)))
        have k3 := k2.size
        have k4 := hb4.size
        have k5 : wr.drew.heap.size = wr.heap.size := rfl
        have h6 := HP.out
        have h7 : wrap64 (64 * (n : Int) + 64) = ((64 * (n + 1) : Nat) : Int) := by rw [w64 _ (by omega) (by omega)]; omega
        refine ⟨n + 1, by omega, by rw [← h7], ((hR0.drew.below hb4 (by omega)).grown k2 (by simp; omega)), k1, ((hC.drewN 1).below hb4 hg).grown (by omega) k2 (by simp; omega), by simp; omega, ?_⟩
        exact (hB.drew.trans (hb4.mono (by omega))).grown k2 (by omega) (fun k hk => by cases hk; omega)
    · have hnn : n = P.length / 64 := by omega
      have HN : Hid (n = P.length / 64) := hnn
      have hge : ¬ (64 * (n : Int) < P.length) := by omega
      clear hlt hnn
      have c0 : wr.cell? ⟨b3, 0, none⟩ = some (.int .u32 (wi (hk K0 H0 P n 0))) := hR1.cell (by omega)
      have c1 : wr.cell? ⟨b3, 1, none⟩ = some (.int .u32 (wi (hk K0 H0 P n 1))) := hR1.cell (by omega)
      have c2 : wr.cell? ⟨b3, 2, none⟩ = some (.int .u32 (wi (hk K0 H0 P n 2))) := hR1.cell (by omega)
      have c3 : wr.cell? ⟨b3, 3, none⟩ = some (.int .u32 (wi (hk K0 H0 P n 3))) := hR1.cell (by omega)
      have c4 : wr.cell? ⟨b3, 4, none⟩ = some (.int .u32 (wi (hk K0 H0 P n 4))) := hR1.cell (by omega)
      have c5 : wr.cell? ⟨b3, 5, none⟩ = some (.int .u32 (wi (hk K0 H0 P n 5))) := hR1.cell (by omega)
      have c6 : wr.cell? ⟨b3, 6, none⟩ = some (.int .u32 (wi (hk K0 H0 P n 6))) := hR1.cell (by omega)
      have c7 : wr.cell? ⟨b3, 7, none⟩ = some (.int .u32 (wi (hk K0 H0 P n 7))) := hR1.cell (by omega)
      go_wp2_with fail
      refine (bytes_lit (hk K0 H0 P n) _).mono ?_
      rintro e w3 ⟨rfl, hb3⟩
      have k4 := hb3.size
      have hR3 := hR0.below hb3 hR0.lt
      go_wp2_with (refine stRow rfl 26 _ _ rfl rfl rfl hR3 sz26 (fun _ _ => rfl) ?_; intro w4 hR4 hg4)
      refine ret_row Tryd.results58 _ hR4 rfl Tryd.underlying26 (Or.inr ⟨_, _, rfl⟩) sz26 rfl ⟨?_, ?_⟩
      · refine congrArg (fun f => Ending.returned (.agg (arrOf 32 (bf f)))) ?_
        funext j
        unfold shaF
        rw [HN.out, HP.out.1]
      · exact (hB.trans (hb3.mono hB.size)).grown hg4 (by have := hB.size; omega) (fun k hk => by cases hk; exact Nat.le_refl _)
end Go.Proofs.YtkmkkmdpjliifaaDoor
