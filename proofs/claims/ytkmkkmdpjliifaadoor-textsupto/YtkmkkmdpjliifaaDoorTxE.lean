import Derived.Test.YtkmkkmdpjliifaaDoorTxD
import Derived.Test.YtkmkkmdpjliifaaDoorTxT
import Derived.Deep.RegionWith
namespace Go.Proofs.YtkmkkmdpjliifaaDoor
open Go.ChangeShapes Go.WideShapes Go.ChangeAt Go.RowKit

theorem slice64 (P : List UInt8) (n : Nat) (h : 64 * n + 64 ≤ P.length) (hl : P.length ≤ 8388608) (u : World) :
    (Instr.slice 9 (.string ⟨P.toArray⟩) (some (.int .i64 (64 * (n : Int)))) (some (.int .i64 (IntKind.i64.wrap (64 * (n : Int) + 64)))) none).run Tryd.prog u = .ok (.string ⟨((P.drop (64 * n)).take 64).toArray⟩) u := by
  have hw : IntKind.i64.wrap (64 * (n : Int) + 64) = 64 * (n : Int) + 64 := by rw [IntKind.wrap_i64]; omega
  have hsz : (ByteArray.mk P.toArray).size = P.length := by simp [ByteArray.size]
  rw [hw, run_slice_string (w := u) 9 _ .i64 .i64 _ _ Tryd.underlying9 (by omega) (by omega) (by omega), ByteArray.extract_mk,
    show (64 * (n : Int)).toNat = 64 * n by omega, show (64 * (n : Int) + 64).toNat - 64 * n = 64 by omega]
/-- one text behind another -/
theorem cat_any (a b c : List UInt8) (hc : a ++ b = c) (hl : c.length ≤ 16777216) (u : World) : (Op.stringOp .add ⟨a.toArray⟩ ⟨b.toArray⟩).run Tryd.prog u = .ok (.string ⟨c.toArray⟩) u := by
  subst hc
  have h1 : (ByteArray.mk a.toArray).size = a.length := by simp [ByteArray.size]
  have h2 : (ByteArray.mk b.toArray).size = b.length := by simp [ByteArray.size]
  rw [List.length_append] at hl
  rw [run_string_add_sum (w := u) _ _ (by omega), ByteArray.mk_append_mk]

set_option maxRecDepth 20000 in
set_option maxHeartbeats 1000000 in
theorem sha_any (K H : Nat → BitVec 32) (s : ByteArray) (gH gK capH capK : Nat) (w : World)
    (hs : s.size ≤ 4194304) (hgH : gH < w.heap.size) (hgK : gK < w.heap.size)
    (hH : Cel w gH 0 8 (fun j => .int .i64 (wi (H j)))) (hK : Cel w gK 0 64 (fun j => .int .i64 (wi (K j)))) :
    Calls Tryd.prog 28 #[.agg #[.slice (some ⟨gH, 0, none⟩) 8 capH, .slice (some ⟨gK, 0, none⟩) 64 capK], .string s] w fun e w' =>
      e = .returned (.string ⟨(shaL K H s.data.toList).toArray⟩) ∧ Below w.heap.size w w' := by
  have hpl : (padL s.data.toList).length ≤ s.size + 72 := padL_le s.data.toList
  have hpm := padL_length s.data.toList
  go_enter Tryd.func28, Tryd.ntmps28
  go_wp2_with fail
  refine (padded_any _ _ hs).mono ?_
  rintro e w1 ⟨rfl, hb1⟩
  obtain ⟨P, hP⟩ : ∃ P, P = padL s.data.toList := ⟨_, rfl⟩
  rw [← hP] at hpl hpm ⊢
  have HP : Hid (P = padL s.data.toList ∧ s.size ≤ 4194304 ∧ P.length ≤ s.size + 72) := ⟨hP, hs, hpl⟩
  clear hP hs hpl
  go_wp2
  rw [show (w.alloc (.cells #[.slice (some ⟨gH, 0, none⟩) 8 capH, .slice (some ⟨gK, 0, none⟩) 64 capK] 24)).heap.size = w.heap.size + 1 by simp] at hb1
  go_loopg [5, 7] (P.length / 64) (fun q hv i wq => ∃ n : Nat, n + q = P.length / 64 ∧ i = .int .i64 ((64 * n : Nat) : Int) ∧ (∃ g cap, hv = .slice (some ⟨g, 0, none⟩) 8 cap ∧ g < wq.heap.size ∧ Cel wq g 0 8 (fun j => .int .i64 (wi (hk K H P n j)))) ∧
     Below (w.heap.size + 1) (w.alloc (.cells #[.slice (some ⟨gH, 0, none⟩) 8 capH, .slice (some ⟨gK, 0, none⟩) 64 capK] 24)) wq)
  case atStart =>
    have hz := hb1.size
    simp at hz
    exact ⟨0, by omega, rfl, ⟨gH, capH, rfl, by omega, (hH.alloc hgH _).below hb1 (by omega)⟩, hb1⟩
  case round =>
    clear hb1
    obtain ⟨n, hn, rfl, ⟨g, cap, rfl, hg, hC⟩, hB⟩ := hrel
    have hK' := (hK.alloc hgK _).below hB (by omega)
    by_cases hlt : n < P.length / 64
    · have hbox : wr.cell? ⟨w.heap.size, 1, none⟩ = some (.slice (some ⟨gK, 0, none⟩) 64 capK) := by
        rw [hB.cell (p := ⟨w.heap.size, 1, none⟩) (Nat.lt_succ_self _)]; simp
      have hbox0 : wr.cell? ⟨w.heap.size, 0, none⟩ = some (.slice (some ⟨gH, 0, none⟩) 8 capH) := by
        rw [hB.cell (p := ⟨w.heap.size, 0, none⟩) (Nat.lt_succ_self _)]; simp
      have hsl := slice64 P n (by omega) (by have := HP.out; omega)
      have hblk := block_any K (hk K H P n) ⟨((P.drop (64 * n)).take 64).toArray⟩ (.slice (some ⟨gH, 0, none⟩) 8 capH) gK g capK cap wr.drew
        (by simp [ByteArray.size]; omega) (by have := hB.size; simp at this; show gK < wr.heap.size; omega) hg hK' hC
      have HBK := hide hblk
      clear hblk
      go_wp2_with fail
      go_region_with (go_at_call 61; refine (unhide HBK).mono ?_; rintro e w' ⟨g', rfl, h1, h2, h3, h4⟩)
      all_goals go_wp2
      all_goals go_roundg (gk - 1)
      case measure => omega
      case rel =>
        have h5 : Below (w.heap.size + 1) wr.drew w' := h4.mono (by have := hB.size; simp at this; show _ ≤ wr.heap.size; omega)
        have h6 := HP.out
        have h7 : wrap64 (64 * (n : Int) + 64) = ((64 * (n + 1) : Nat) : Int) := by rw [w64 _ (by omega) (by omega)]; omega
        exact ⟨n + 1, by omega, by rw [← h7], ⟨g', 8, rfl, h2, h3⟩, hB.drew.trans h5⟩
    · have hnn : n = P.length / 64 := by omega
      have HN : Hid (n = P.length / 64) := hnn
      have hge : ¬ (64 * (n : Int) < P.length) := by omega
      clear hlt hnn
      go_wp2
      go_loopg [8, 9] 8 (fun q o i wq => ∃ k : Nat, k + q = 8 ∧ i = .int .i64 k ∧ o = .string ⟨(bs (4 * k) (shaF K H s.data.toList)).toArray⟩ ∧ Below wr.heap.size wr wq)
      case atStart => exact ⟨0, rfl, rfl, rfl, Below.refl _ _⟩
      case round =>
        obtain ⟨k, hk8, rfl, rfl, hB2⟩ := hrel
        by_cases hlt : k < 8
        · have hc := (hC.below hB2 hg).cell0 (j := k) hlt
          have hf : ∀ j, shaF K H s.data.toList j = b4 (hk K H P n (j / 4)) (j % 4) := fun j => by
            unfold shaF; rw [HN.out, HP.out.1]
          have hadd := cat_any (bs (4 * k) (shaF K H s.data.toList)) (b4s (hk K H P n k)) _ (bs_four _ _ hf k) (by rw [bs_length]; omega)
          clear hf
          go_wp2_with (go_at_call 62; refine (U_any _ _).mono ?_; rintro e w' ⟨rfl, hb⟩)
          go_roundg (gk - 1)
          case measure => omega
          case rel => exact ⟨k + 1, by omega, by go_num, rfl, hB2.trans (hb.mono hB2.size)⟩
        · obtain rfl : k = 8 := by omega
          go_wp2
          go_ret
          refine ⟨rfl, ?_⟩
          refine Below.trans ((Below.refl w.heap.size w).alloc (Nat.le_refl _) _) (Below.trans (hB.mono (by omega)) (hB2.mono ?_))
          have := hB.size; simp at this; omega
end Go.Proofs.YtkmkkmdpjliifaaDoor
