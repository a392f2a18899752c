import Derived.Test.YtkmkkmdpjliifaaDoorUxB
import Derived.Test.YtkmkkmdpjliifaaDoorTxE
namespace Go.Proofs.YtkmkkmdpjliifaaDoor
open Go.ChangeShapes Go.WideShapes Go.ChangeAt Go.RowKit

/-- a character of Base64 -/
def ac (n : Nat) : UInt8 := aL.getD n 0
/-- the first p characters of Base64 -/
def pT (l : List UInt8) (p : Nat) : List UInt8 := (List.range p).map (fun p => ac (cv l p))
theorem pT_length (l : List UInt8) (p : Nat) : (pT l p).length = p := by simp [pT]
theorem pT_succ (l : List UInt8) (p : Nat) : pT l p ++ [ac (cv l p)] = pT l (p + 1) := by simp [pT, List.range_succ]
/-- Base64 -/
def packL (l : List UInt8) : List UInt8 := pT l (mOf l.length)
theorem sliceAl (n : Nat) (hn : n < 64) (u : World) : (Instr.slice 9 (.string ⟨#[65, 66, 67, 68, 69, 70, 71, 72, 73, 74, 75, 76, 77, 78, 79, 80, 81, 82, 83, 84, 85, 86, 87, 88, 89, 90, 97, 98, 99, 100, 101, 102, 103, 104, 105, 106, 107, 108, 109, 110, 111, 112, 113, 114, 115, 116, 117, 118, 119, 120, 121, 122, 48, 49, 50, 51, 52, 53, 54, 55, 56, 57, 45, 95]⟩) (some (.int .i64 (n : Int))) (some (.int .i64 ((n : Int) + 1))) none).run Tryd.prog u = .ok (.string ⟨[ac n].toArray⟩) u := by
  have hsz : (ByteArray.mk #[65, 66, 67, 68, 69, 70, 71, 72, 73, 74, 75, 76, 77, 78, 79, 80, 81, 82, 83, 84, 85, 86, 87, 88, 89, 90, 97, 98, 99, 100, 101, 102, 103, 104, 105, 106, 107, 108, 109, 110, 111, 112, 113, 114, 115, 116, 117, 118, 119, 120, 121, 122, 48, 49, 50, 51, 52, 53, 54, 55, 56, 57, 45, 95]).size = 64 := rfl
  rw [run_slice_string (w := u) 9 _ .i64 .i64 _ _ Tryd.underlying9 (by omega) (by omega) (by omega)]
  have h : ∀ n, n < 64 → ((aL.drop n).take 1) = [ac n] := by decide +kernel
  have e : (ByteArray.mk #[65, 66, 67, 68, 69, 70, 71, 72, 73, 74, 75, 76, 77, 78, 79, 80, 81, 82, 83, 84, 85, 86, 87, 88, 89, 90, 97, 98, 99, 100, 101, 102, 103, 104, 105, 106, 107, 108, 109, 110, 111, 112, 113, 114, 115, 116, 117, 118, 119, 120, 121, 122, 48, 49, 50, 51, 52, 53, 54, 55, 56, 57, 45, 95]) = ByteArray.mk aL.toArray := rfl
  rw [e, ByteArray.extract_mk, show ((n : Int) + 1).toNat - (n : Int).toNat = 1 by omega, Int.toNat_natCast, h n hn]

set_option maxHeartbeats 1000000 in
theorem packR_any (l : List UInt8) (w : World) (hl : l.length ≤ 1048576) :
    Calls Tryd.prog 10 #[.string ⟨l.toArray⟩] w fun e w' => e = .returned (.string ⟨(packL l).toArray⟩) ∧ Below w.heap.size w w' := by
  have hm : mOf l.length = (8 * l.length + 5) / 6 := rfl
  have HL : Hid (l.length ≤ 1048576 ∧ mOf l.length = (8 * l.length + 5) / 6) := ⟨hl, hm⟩
  have hmm : 8 * l.length ≤ 6 * mOf l.length ∧ 6 * mOf l.length ≤ 8 * l.length + 5 := by omega
  have hl8 : 8 * l.length ≤ 8388608 := by omega
  clear hl hm
  go_enter Tryd.func10, Tryd.ntmps10
  go_wp2_with fail
  refine (bits_any l _ HL.out.1).mono ?_
  rintro e w1 ⟨ao, cap, rfl, hO, hB⟩
  go_wp2
  go_loopg [3] (6 * mOf l.length - 8 * l.length) (fun q v wr => ∃ (k : Nat) (ao : Option Addr) (cap : Nat), k + q = 6 * mOf l.length ∧ 8 * l.length ≤ k ∧ v = .slice ao k cap ∧ OwnN wr w.heap.size (.slice ao k cap) (bL l k) ∧ Below w.heap.size w wr)
  case atStart => exact ⟨8 * l.length, ao, cap, by omega, Nat.le_refl _, rfl, hO, hB⟩
  case round =>
    clear hO hB
    obtain ⟨k, ao, cap, hk, hk8, rfl, hO, hB⟩ := hrel
    have hsz := hB.size
    by_cases hlt : k < 6 * mOf l.length
    · have hmod : (0 : Int) < (k : Int) % 6 := by have := HL.out; omega
      go_wp2_with (at_builtin; refine app22 rfl _ _ rfl w.heap.size _ _ _ rfl (hO.alloc _) _ rfl (cell_new _ _ _) (by rw [List.length_map, bL_length]; have := HL.out; omega) (by simp; omega) ?_; intro v' w2 hO1 hg1)
      go_roundg (gk - 1)
      case measure => omega
      case rel =>
        have e : bx l k = 0 := by unfold bx; rw [if_neg (by omega)]
        have hO2 : OwnN w2 w.heap.size v' (bL l (k + 1)) := by
          rw [← bL_succ, e]; exact OwnN.snoc hO1
        obtain ⟨ao', cap', e2⟩ := hO2.form
        rw [bL_length] at e2
        subst e2
        exact ⟨k + 1, ao', cap', by omega, by omega, rfl, hO2, below_grown (hB.alloc hsz _) hg1 (by simp; omega) (fun k hk => by have := Own.lt hO k hk; simp; omega) (Nat.le_refl _)⟩
    · obtain rfl : k = 6 * mOf l.length := by omega
      have hmod : ¬ (0 : Int) < ((6 * mOf l.length : Nat) : Int) % 6 := by omega
      have hc : ∀ j, j < 6 * mOf l.length → ∃ g, ao = some ⟨g, 0, none⟩ ∧ wr.cell? ⟨g, j, none⟩ = some (.int .i64 (bx l j : Nat)) := fun j hj => by
        rcases OwnN.shape hO with ⟨_, h2⟩ | ⟨g, cap2, h1, _, _, h4⟩
        · have := congrArg List.length h2; rw [bL_length] at this; simp at this; omega
        · rw [bL_length] at h1 h4
          cases h1
          refine ⟨g, rfl, ?_⟩
          rw [h4.cell0 hj, bL_getD l _ j hj]
      have HC := hide hc
      clear hc hlt
      generalize hM : mOf l.length = M at hmm hmod hk hk8 HC hO ⊢
      have HM := hide hM
      clear hM
      go_wp2
      go_loopg [4, 5] M (fun q s i wq => ∃ p : Nat, p + q = M ∧ i = .int .i64 ((6 * p : Nat) : Int) ∧ s = .string ⟨(pT l p).toArray⟩ ∧ wq = wr)
      case atStart => exact ⟨0, by omega, rfl, rfl, rfl⟩
      case round =>
        obtain ⟨p, hp, rfl, rfl, rfl⟩ := hrel
        by_cases hlt : p < M
        · obtain ⟨g, hao, _⟩ := unhide HC 0 (by omega)
          subst hao
          go_wp2
          go_loopg [6, 7] 6 (fun q n k wq => ∃ t : Nat, t + q = 6 ∧ k = .int .i64 t ∧ n = .int .i64 (gb (bx l) (6 * p) t : Nat) ∧ wq = wr)
          case atStart => exact ⟨0, rfl, rfl, rfl, rfl⟩
          case round =>
            obtain ⟨t, ht, rfl, rfl, rfl⟩ := hrel
            have hgl := gb_lt (bx l) (6 * p) (bx_lt l) t
            by_cases hlt2 : t < 6
            · have hct : wr.cell? ⟨g, 6 * p + t, none⟩ = some (.int .i64 (bx l (6 * p + t) : Nat)) := by
                obtain ⟨g', e1, e2⟩ := unhide HC (6 * p + t) (by omega)
                cases e1; exact e2
              have h64 : (2:Nat) ^ t ≤ 32 := Nat.le_trans (Nat.pow_le_pow_right (n := 2) (j := 5) (by decide) (by omega)) (by decide)
              have hb2 := bx_lt l (6 * p + t)
              have hg2 : gb (bx l) (6 * p) t < 32 := Nat.lt_of_lt_of_le hgl h64
              clear hgl h64
              generalize hgv : gb (bx l) (6 * p) t = gv at hg2 ⊢
              have HGV := hide hgv
              generalize hbv : bx l (6 * p + t) = bv at hb2 hct
              have HBV := hide hbv
              clear hgv hbv
              go_wp2
              go_roundg (gk - 1)
              case measure => omega
              case rel =>
                refine ⟨t + 1, by omega, by go_num, congrArg (Value.int .i64) ?_, rfl⟩
                rw [gb, unhide HGV, unhide HBV]; omega
            · obtain rfl : t = 6 := by omega
              have hcv : gb (bx l) (6 * p) 6 = cv l p := gb_cv l p (by rw [unhide HM]; exact hlt)
              have hcl := cv_lt l p
              rw [hcv]
              have hsl := sliceAl (cv l p) hcl
              have hadd := cat_any (pT l p) [ac (cv l p)] _ (pT_succ l p) (by rw [pT_length]; omega)
              clear hgl hlt2 hcv
              generalize cv l p = cc at hcl hsl hadd ⊢
              go_wp2
              go_roundg (M - (p + 1))
              case measure => omega
              case rel => exact ⟨p + 1, by omega, congrArg (Value.int .i64) (by omega), rfl, rfl⟩
        · obtain rfl : p = M := by omega
          go_wp2
          go_ret
          refine ⟨?_, hB⟩
          unfold packL
          rw [unhide HM]
          rfl
end Go.Proofs.YtkmkkmdpjliifaaDoor
