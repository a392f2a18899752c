import Derived.Test.YtkmkkmdpjliifaaDoorUxF
namespace Go.Proofs.YtkmkkmdpjliifaaDoor
open Go.ChangeShapes Go.WideShapes Go.ChangeAt Go.RowKit

/-- a bit of what the characters stand for -/
def cx (s : List UInt8) (t : Nat) : Nat := fs s (t / 6) / 2 ^ (5 - t % 6) % 2
theorem cx_lt (s : List UInt8) (t : Nat) : cx s t < 2 := Nat.mod_lt _ (by decide)
def cL (s : List UInt8) (t : Nat) : List Nat := (List.range t).map (cx s)
theorem cL_length (s : List UInt8) (t : Nat) : (cL s t).length = t := by simp [cL]
theorem cL_succ (s : List UInt8) (t : Nat) : cL s t ++ [cx s t] = cL s (t + 1) := by simp [cL, List.range_succ]
theorem cL_getD (s : List UInt8) (t j : Nat) (h : j < t) : (cL s t).getD j 0 = cx s j := by
  unfold cL; rw [List.getD_eq_getElem?_getD, List.getElem?_map, List.getElem?_range h]; rfl
theorem gb_uv (s : List UInt8) (p : Nat) (hp : 8 * p + 8 ≤ 6 * s.length) : gb (cx s) (8 * p) 8 = uv s p := by
  rw [gb_eq (nb 6 (fs s) s.length) (6 * s.length) (8 * p) (cx s) 8 (by omega) (fun j hj => ?_)]
  · rfl
  · unfold cx
    rw [← nb_bit 6 (fs s) s.length (8 * p + j) (by decide) (fun j _ => fs_lt s j) (by omega)]
theorem bit_val6 (b d j : Nat) (hb : b < 64) (hd : 32 / 2 ^ j = d) (hj : j < 6) : (wrap64 ((b : Int).tdiv (d : Int))).tmod 2 = ((b / 2 ^ (5 - j) % 2 : Nat) : Int) := by
  have e : d = 2 ^ (5 - j) := by
    rw [← hd]
    rcases (show j = 0 ∨ j = 1 ∨ j = 2 ∨ j = 3 ∨ j = 4 ∨ j = 5 by omega) with rfl | rfl | rfl | rfl | rfl | rfl <;> decide
  have h1 : (b : Int).tdiv (d : Int) = ((b / d : Nat) : Int) := by
    rw [Int.tdiv_eq_ediv_of_nonneg (Int.natCast_nonneg _)]; exact (Int.natCast_ediv b d).symm
  have h2 : b / d ≤ b := Nat.div_le_self _ _
  rw [h1, ← e]
  generalize b / d = y at h2
  rw [w64 _ (by omega) (by omega), Int.tmod_eq_emod_of_nonneg (Int.natCast_nonneg _)]
  omega
theorem sgn_fs (s : List UInt8) (k : Nat) (h : sgo (by_ s k) = true) : sgn (by_ s k) = (fs s k : Nat) := by
  have h1 : 0 ≤ sgn (by_ s k) := of_decide_eq_true h
  unfold fs sgv; omega
theorem sgn_neg (s : List UInt8) (k : Nat) (h : sgo (by_ s k) = false) : sgn (by_ s k) < 0 := by
  have h1 := of_decide_eq_false h; omega

set_option maxRecDepth 20000 in
set_option maxHeartbeats 1000000 in
theorem unpackR_any (s : List UInt8) (w : World) (hl : s.length ≤ 1048576) :
    Calls Tryd.prog 12 #[.string ⟨s.toArray⟩] w fun e w' => e = .returned (.tuple #[.string ⟨(uO s).toArray⟩, .int .i64 (uE s)]) ∧ Below w.heap.size w w' := by
  go_enter Tryd.func12, Tryd.ntmps12
  go_wp2
  go_loopg [4, 5] s.length (fun q v i wr => ∃ (k : Nat), k + q = s.length ∧ i = .int .i64 k ∧ OwnN wr w.heap.size v (cL s (6 * k)) ∧ allS s k ∧ Below w.heap.size w wr)
  case atStart => exact ⟨0, by omega, rfl, Own.nil _ _, fun j hj => by omega, Below.refl _ _⟩
  case round =>
    obtain ⟨k, hk, rfl, hO, hA, hB⟩ := hrel
    have HA := hide hA
    clear hA
    by_cases hlt : k < s.length
    · have hlk : k < (ByteArray.mk s.toArray).size := by simpa [ByteArray.size] using hlt
      have hbl := by_lt s k
      cases hok : sgo (by_ s k)
      · have HOK := hide hok
        clear hok
        have hneg := sgn_neg s k (unhide HOK)
        go_wp2_with fail
        rw [by_get ⟨s.toArray⟩ k hlk, show (ByteArray.mk s.toArray).data.toList = s from rfl]
        refine (sign_any (by_ s k) _ hbl).mono ?_
        rintro e w' ⟨rfl, rfl⟩
        go_wp2
        go_ret2
        have hno : (allB s && okN s) = false := by rw [allB_no s k hlt (unhide HOK), Bool.false_and]
        exact ⟨ret_tup (by rw [uO_no s hno]) (uE_no s hno).symm, hB⟩
      · have HOK := hide hok
        clear hok
        go_wp2_with fail
        rw [by_get ⟨s.toArray⟩ k hlk, show (ByteArray.mk s.toArray).data.toList = s from rfl]
        refine (sign_any (by_ s k) _ hbl).mono ?_
        rintro e w' ⟨rfl, rfl⟩
        rw [sgn_fs s k (unhide HOK)]
        have hbl := fs_lt s k
        generalize hbb : fs s k = b at hbl ⊢
        have HBB := hide hbb
        clear hbb
        go_wp2
        go_loopg [4, 7] 6 (fun q v i wq => ∃ (j : Nat), j + q = 6 ∧ i = .int .i64 ((32 / 2 ^ j : Nat) : Int) ∧ OwnN wq w.heap.size v (cL s (6 * k + j)) ∧ Below w.heap.size w wq)
        case atStart => exact ⟨0, rfl, rfl, hO, hB⟩
        case round =>
          clear hO hB
          obtain ⟨j, hj, rfl, hO, hB⟩ := hrel
          have hsz := hB.size
          by_cases hlj : j < 6
          · have hpos : 0 < 32 / 2 ^ j := by
              rcases (show j = 0 ∨ j = 1 ∨ j = 2 ∨ j = 3 ∨ j = 4 ∨ j = 5 by omega) with rfl | rfl | rfl | rfl | rfl | rfl <;> decide
            have hnext : 32 / 2 ^ (j + 1) = 32 / 2 ^ j / 2 := by rw [Nat.pow_succ, Nat.div_div_eq_div_mul]
            generalize hd : 32 / 2 ^ j = d at hpos hnext ⊢
            have HD := hide hd
            have HNX := hide hnext
            clear hd hnext
            go_wp2_with (at_builtin; refine app22 rfl _ _ rfl w.heap.size _ _ _ rfl (hO.alloc _) _ rfl (cell_new _ _ _) (by rw [List.length_map, cL_length]; omega) (by simp; omega) ?_; intro v' w1 hO1 hg1)
            go_roundg (gk - 1)
            case measure => omega
            case rel =>
              have h128 : 32 / 2 ^ j ≤ 32 := Nat.div_le_self _ _
              rw [unhide HD] at h128
              refine ⟨j + 1, by omega, congrArg (Value.int .i64) ?_, ?_, ?_⟩
              · rw [unhide HNX]
                first
                  | omega
                  | (rw [w64 _ (by omega) (by omega)]; omega)
              · have e : cx s (6 * k + j) = b / 2 ^ (5 - j) % 2 := by
                  unfold cx
                  rw [show (6 * k + j) / 6 = k by omega, show (6 * k + j) % 6 = j by omega, unhide HBB]
                rw [← Nat.add_assoc, ← cL_succ, e]
                refine OwnN.snoc ?_
                rw [← bit_val6 b d j (by omega) (unhide HD) hlj]
                exact hO1
              · exact below_grown (hB.alloc hsz _) hg1 (by simp; omega) (fun k hk => by have := Own.lt hO k hk; simp; omega) (Nat.le_refl _)
          · obtain rfl : j = 6 := by omega
            go_wp2
            go_roundg (s.length - (k + 1))
            case measure => omega
            case rel =>
              refine ⟨k + 1, by omega, congrArg (Value.int .i64) (by first | omega | (rw [w64 _ (by omega) (by omega)]; omega)), by rw [show 6 * (k + 1) = 6 * k + 6 by omega]; exact hO, fun j hj => ?_, hB⟩
              by_cases e : j = k
              · subst e; exact unhide HOK
              · exact unhide HA j (by omega)
    · obtain rfl : k = s.length := by omega
      obtain ⟨ao, cap, e⟩ := hO.form
      rw [cL_length] at e
      subst e
      have hc : ∀ j, j < 6 * s.length → ∃ g, ao = some ⟨g, 0, none⟩ ∧ g < wr.heap.size ∧ wr.cell? ⟨g, j, none⟩ = some (.int .i64 (cx s j : Nat)) := fun j hj => by
        rcases OwnN.shape hO with ⟨_, h2⟩ | ⟨g, cap2, h1, _, h3, h4⟩
        · have := congrArg List.length h2; rw [cL_length] at this; simp at this; omega
        · rw [cL_length] at h1 h4
          cases h1
          refine ⟨g, rfl, h3, ?_⟩
          rw [h4.cell0 hj, cL_getD s _ j hj]
      have HC := hide hc
      clear hc hlt hO
      obtain ⟨bz, hbz⟩ : ∃ bz, bz = wr.heap.size := ⟨_, rfl⟩
      have hB0 := Below.refl bz wr
      have hbw : w.heap.size ≤ bz := by rw [hbz]; exact hB.size
      go_wp2
      go_loopg [8, 9] (6 * s.length / 8) (fun q v i wq => ∃ p : Nat, p + q = 6 * s.length / 8 ∧ i = .int .i64 ((8 * p : Nat) : Int) ∧ OwnB wq bz v (uN s p) ∧ Below bz wr wq)
      case atStart => exact ⟨0, by omega, rfl, OwnB.nil _ _, hB0⟩
      case round =>
        clear hB0
        obtain ⟨p, hp, rfl, hO, hB2⟩ := hrel
        have hs2 := hB2.size
        by_cases hlt : 8 * p + 8 ≤ 6 * s.length
        · obtain ⟨g, hao, hgl, _⟩ := unhide HC 0 (by omega)
          subst hao
          have hgb : g < bz := by omega
          go_wp2
          go_loopg [10, 11] 8 (fun q n k wq => ∃ t : Nat, t + q = 8 ∧ k = .int .i64 t ∧ n = .int .i64 (gb (cx s) (8 * p) t : Nat) ∧ wq = wr)
          case atStart => exact ⟨0, rfl, rfl, rfl, rfl⟩
          case round =>
            obtain ⟨t, ht, rfl, rfl, rfl⟩ := hrel
            by_cases hlt2 : t < 8
            · have hct : wr.cell? ⟨g, 8 * p + t, none⟩ = some (.int .i64 (cx s (8 * p + t) : Nat)) := by
                obtain ⟨g', e1, e2, e3⟩ := unhide HC (8 * p + t) (by omega)
                cases e1
                rw [hB2.cell (p := ⟨g, 8 * p + t, none⟩) hgb]; exact e3
              have hgl2 := gb_lt (cx s) (8 * p) (cx_lt s) t
              have h64 : (2:Nat) ^ t ≤ 128 := Nat.le_trans (Nat.pow_le_pow_right (n := 2) (j := 7) (by decide) (by omega)) (by decide)
              have hb2 := cx_lt s (8 * p + t)
              have hg2 : gb (cx s) (8 * p) t < 128 := Nat.lt_of_lt_of_le hgl2 h64
              clear hgl2 h64
              generalize hgv : gb (cx s) (8 * p) t = gv at hg2 ⊢
              have HGV := hide hgv
              generalize hbv : cx s (8 * p + t) = bv at hb2 hct
              have HBV := hide hbv
              clear hgv hbv
              go_wp2
              go_roundg (gk - 1)
              case measure => omega
              case rel =>
                refine ⟨t + 1, by omega, by go_num, congrArg (Value.int .i64) ?_, rfl⟩
                rw [gb, unhide HGV, unhide HBV]; omega
            · obtain rfl : t = 8 := by omega
              rw [gb_uv s p hlt]
              have hxl := uv_lt s p
              have hus := uN_succ s p
              generalize uv s p = x at hxl hus ⊢
              have HUS := hide hus
              have hxm : (x : Int) % 256 = x := by omega
              clear hus hlt2
              go_wp2_with (at_builtin; refine app33 rfl _ _ rfl bz _ _ x rfl (hO.alloc _) _ rfl (by simp) (by rw [uN_length]; omega) (by simp; omega) ?_; intro v' w1 hO1 hg1)
              go_roundg (6 * s.length / 8 - (p + 1))
              case measure => omega
              case rel =>
                rw [unhide HUS] at hO1
                exact ⟨p + 1, by omega, congrArg (Value.int .i64) (by omega), hO1, below_grown (hB2.alloc (by omega) _) hg1 (by simp; omega) (fun k hk => by have := OwnB.lt hO k hk; simp; omega) (Nat.le_refl _)⟩
        · obtain rfl : p = 6 * s.length / 8 := by omega
          have hcv := conv_own hO
          have hol : (uN s (6 * s.length / 8)).map UInt8.ofNat = outL s := rfl
          rw [hol] at hcv
          have hlt' : ¬ (8 * ((6 * s.length / 8 : Nat) : Int) + 8 ≤ 6 * (s.length : Int)) := by omega
          have hrt := round_trip s (unhide HA)
          have hall := allB_yes s (unhide HA)
          have hol2 := outL_length s
          have hoL : (outL s).length ≤ 1048576 := by rw [hol2]; omega
          clear hol hlt hol2
          generalize hP : outL s = O at hcv hrt hoL
          have HP : Hid (outL s = O ∧ decide (packL O = s) = okN s ∧ allB s = true) := ⟨hP, hrt, hall⟩
          clear hP hrt hall
          go_wp2_with fail
          refine (packR_any O _ hoL).mono ?_
          rintro e w3 ⟨rfl, hb3⟩
          have hBf : Below w.heap.size w w3 := (hB.trans (hB2.mono hbw)).trans (hb3.mono (by omega))
          have hcv3 := conv_own (hO.below hb3)
          rw [show (uN s (6 * s.length / 8)).map UInt8.ofNat = outL s from rfl, HP.out.1] at hcv3
          clear hcv
          by_cases he : packL O = s
          · have he' : (packL O == s) = true := by rw [beq_iff_eq]; exact he
            have HE := hide he
            clear he
            go_wp2
            go_ret2
            have hyes : (allB s && okN s) = true := by rw [HP.out.2.2, ← HP.out.2.1, decide_eq_true (unhide HE)]; rfl
            exact ⟨ret_tup (by rw [uO_yes s hyes, HP.out.1]) (uE_yes s hyes).symm, hBf⟩
          · have he' : (packL O == s) = false := by rw [beq_eq_false_iff_ne]; exact he
            have HE := hide he
            clear he
            go_wp2
            go_ret2
            have hno : (allB s && okN s) = false := by rw [HP.out.2.2, ← HP.out.2.1, decide_eq_false (unhide HE)]; rfl
            exact ⟨ret_tup (by rw [uO_no s hno]) (uE_no s hno).symm, hBf⟩
end Go.Proofs.YtkmkkmdpjliifaaDoor
