import Derived.Test.YtkmkkmdpjliifaaDoorUxE
namespace Go.Proofs.YtkmkkmdpjliifaaDoor
open Go.ChangeShapes Go.WideShapes Go.ChangeAt Go.RowKit

def allB (s : List UInt8) : Bool := (List.range s.length).all (fun j => sgo (by_ s j))
theorem allB_yes (s : List UInt8) (h : allS s s.length) : allB s = true := by
  unfold allB; rw [List.all_eq_true]; intro j hj; exact h j (List.mem_range.1 hj)
theorem allB_no (s : List UInt8) (j : Nat) (hj : j < s.length) (h : sgo (by_ s j) = false) : allB s = false := by
  unfold allB; rw [List.all_eq_false]; exact ⟨j, List.mem_range.2 hj, by simp [h]⟩
/-- what Unpack answers -/
def uO (s : List UInt8) : List UInt8 := if allB s && okN s then outL s else []
def uE (s : List UInt8) : Int := if allB s && okN s then 0 else 2
theorem ret_tup {x y : ByteArray} {a b : Int} (h1 : x = y) (h2 : a = b) : Ending.returned (.tuple #[.string x, .int .i64 a]) = .returned (.tuple #[.string y, .int .i64 b]) := by rw [h1, h2]
theorem uE_no (s : List UInt8) (h : (allB s && okN s) = false) : uE s = 2 := by unfold uE; rw [h]; rfl
theorem uO_no (s : List UInt8) (h : (allB s && okN s) = false) : uO s = [] := by unfold uO; rw [h]; rfl
theorem uE_yes (s : List UInt8) (h : (allB s && okN s) = true) : uE s = 0 := by unfold uE; rw [h]; rfl
theorem uO_yes (s : List UInt8) (h : (allB s && okN s) = true) : uO s = outL s := by unfold uO; rw [h]; rfl
theorem held6 (h b : Nat) (_hh : h < 4294967296) (hb : b < 64) : bits .or .u32 ((h : Int) * 64 % 4294967296) (b : Int) = (((64 * h + b) % 4294967296 : Nat) : Int) := by
  rw [show (h : Int) * 64 % 4294967296 = ((2 ^ 6 * (h % 67108864) : Nat) : Int) by omega, orN32 _ _ (by omega) (by omega), or_add _ 6 _ (by omega)]
  omega
theorem emit8 (H N e : Nat) (hH : N % 4294967296 = H) (he : e ≤ 7) : (H : Int) / 2 ^ e % 256 = ((N / 2 ^ e % 256 : Nat) : Int) := by
  have h1 : (H : Int) / 2 ^ e = ((H / 2 ^ e : Nat) : Int) := by rw [Int.natCast_ediv, Int.natCast_pow]; rfl
  have h3 : N % 4294967296 / 2 ^ e % 256 = N / 2 ^ e % 256 := by
    rcases (show e = 0 ∨ e = 1 ∨ e = 2 ∨ e = 3 ∨ e = 4 ∨ e = 5 ∨ e = 6 ∨ e = 7 by omega) with rfl | rfl | rfl | rfl | rfl | rfl | rfl | rfl <;> omega
  rw [h1, ← h3, hH]; omega
theorem maskC (h c : Nat) (hh : h < 4294967296) (hc : c < 8) : bits .and .u32 (h : Int) ((2 ^ c - 1) % 4294967296) = ((h % 2 ^ c : Nat) : Int) := by
  have h1 : (((2 : Int) ^ c - 1) % 4294967296) = ((2 ^ c - 1 : Nat) : Int) := by
    rcases (show c = 0 ∨ c = 1 ∨ c = 2 ∨ c = 3 ∨ c = 4 ∨ c = 5 ∨ c = 6 ∨ c = 7 by omega) with rfl | rfl | rfl | rfl | rfl | rfl | rfl | rfl <;> decide
  have h2 : 2 ^ c - 1 < 4294967296 := by
    have : 2 ^ c ≤ 2 ^ 8 := Nat.pow_le_pow_right (by decide) (by omega)
    omega
  rw [h1, ← wi_ofNat h hh, ← wi_ofNat _ h2, and32]
  unfold wi
  rw [BitVec.toNat_and, BitVec.toNat_ofNat, BitVec.toNat_ofNat, Nat.mod_eq_of_lt (show h < 2 ^ 32 by omega), Nat.mod_eq_of_lt (show 2 ^ c - 1 < 2 ^ 32 by omega), Nat.and_two_pow_sub_one_eq_mod]
theorem mod_low (Y c : Nat) (hc : c < 8) : Y % 4294967296 % 2 ^ c = Y % 2 ^ c := by
  rcases (show c = 0 ∨ c = 1 ∨ c = 2 ∨ c = 3 ∨ c = 4 ∨ c = 5 ∨ c = 6 ∨ c = 7 by omega) with rfl | rfl | rfl | rfl | rfl | rfl | rfl | rfl <;> omega
theorem okN_one (s : List UInt8) (h : s.length % 4 = 1) : okN s = false := by unfold okN; rw [decide_eq_false]; intro h2; exact h2.1 h

set_option maxRecDepth 20000 in
set_option maxHeartbeats 1000000 in
theorem unpackP_any (s : List UInt8) (w : World) (hl : s.length ≤ 1048576) :
    Calls Tryd.prog 32 #[.string ⟨s.toArray⟩] w fun e w' => e = .returned (.tuple #[.string ⟨(uO s).toArray⟩, .int .i64 (uE s)]) ∧ Below w.heap.size w w' := by
  have hmk : ∀ u : World, (Instr.makeSlice 33 (.int .i64 0) (.int .i64 ((s.length : Int) / 4 * 3 + 3))).run Tryd.prog u = .ok (.slice (some ⟨u.heap.size, 0, none⟩) 0 (s.length / 4 * 3 + 3)) (u.alloc (.cells (zc .u8 (s.length / 4 * 3 + 3)) 5)) := fun u => by
    rw [make8 _ _ (by omega) (by omega) (by omega), show ((s.length : Int) / 4 * 3 + 3).toNat = s.length / 4 * 3 + 3 by omega]; rfl
  have hO0 := ownB_made w (s.length / 4 * 3 + 3) (by omega)
  go_enter Tryd.func32, Tryd.ntmps32
  by_cases h1 : s.length % 4 = 1
  · have h1' : (((s.length : Int) % 4) == 1) = true := by rw [beq_iff_eq]; omega
    have hno : (allB s && okN s) = false := by rw [okN_one s h1, Bool.and_false]
    have HNO := hide hno
    clear hno h1
    go_wp2
    go_ret2
    exact ⟨ret_tup (by rw [uO_no s (unhide HNO)]) (uE_no s (unhide HNO)).symm, Below.refl _ _⟩
  · have h1' : (((s.length : Int) % 4) == 1) = false := by rw [beq_eq_false_iff_ne]; omega
    have H1 := hide h1
    clear h1
    go_wp2
    go_loopg [4, 5, 6, 22] s.length (fun q v h c i wr => ∃ k p : Nat, k + q = s.length ∧ i = .int .i64 k ∧ 8 * p ≤ 6 * k ∧ 6 * k < 8 * p + 8 ∧ c = .int .i64 ((6 * k - 8 * p : Nat) : Int) ∧ h = .int .u32 ((nb 6 (fs s) k % 4294967296 : Nat) : Int) ∧ OwnB wr w.heap.size v (uN s p) ∧ allS s k ∧ Below w.heap.size w wr)
    case atStart => exact ⟨0, 0, by omega, rfl, by omega, by omega, rfl, rfl, hO0, fun j hj => by omega, (Below.refl _ _).alloc (Nat.le_refl _) _⟩
    case round =>
      clear hO0 hmk
      obtain ⟨k, p, hk, rfl, hp1, hp2, rfl, rfl, hO, hA, hB⟩ := hrel
      generalize hc : 6 * k - 8 * p = c
      have hc6 : c < 8 := by omega
      have HC := hide hc
      clear hc
      generalize hh : nb 6 (fs s) k % 4294967296 = h
      have HH := hide hh
      have hhl : h < 4294967296 := by omega
      have HHL := hide hhl
      have HA := hide hA
      clear hh hhl hA
      have hsz := hB.size
      by_cases hlt : k < s.length
      · have hlk : k < (ByteArray.mk s.toArray).size := by simpa [ByteArray.size] using hlt
        have hbl := by_lt s k
        cases hok : sgo (by_ s k)
        · have HOK := hide hok
          clear hok
          go_wp2_with fail
          rw [by_get ⟨s.toArray⟩ k hlk, show (ByteArray.mk s.toArray).data.toList = s from rfl]
          refine (six_any (by_ s k) _ hbl).mono ?_
          rintro e w' ⟨rfl, rfl⟩
          rw [unhide HOK]
          go_wp2
          go_ret2
          have hno : (allB s && okN s) = false := by rw [allB_no s k hlt (unhide HOK), Bool.false_and]
          exact ⟨ret_tup (by rw [uO_no s hno]) (uE_no s hno).symm, hB⟩
        · have HOK := hide hok
          clear hok
          go_wp2_with fail
          rw [by_get ⟨s.toArray⟩ k hlk, show (ByteArray.mk s.toArray).data.toList = s from rfl]
          refine (six_any (by_ s k) _ hbl).mono ?_
          rintro e w' ⟨rfl, rfl⟩
          rw [unhide HOK]
          have hsg : sgv (by_ s k) < 64 := fs_lt s k
          have hH := held6 h (sgv (by_ s k)) (unhide HHL) hsg
          have hN : nb 6 (fs s) (k + 1) % 4294967296 = (64 * h + sgv (by_ s k)) % 4294967296 := by
            have := unhide HH
            rw [nb, ← this]; show (2 ^ 6 * nb 6 (fs s) k + sgv (by_ s k)) % 4294967296 = _; omega
          generalize (64 * h + sgv (by_ s k)) % 4294967296 = H at hH hN
          have HN := hide hN
          clear hN
          by_cases h8 : 2 ≤ c
          · have hem := emit8 H (nb 6 (fs s) (k + 1)) (c - 2) (unhide HN) (by omega)
            have hcc := unhide HC
            rw [show c - 2 = 6 * (k + 1) - 8 * p - 8 by omega, ← uv_full s p (k + 1) (by omega) (by omega), show 6 * (k + 1) - 8 * p - 8 = c - 2 by omega] at hem
            have HEM := hide hem
            clear hem hcc
            go_wp2_with (at_builtin; refine app33 rfl _ _ rfl w.heap.size _ _ (uv s p) rfl (hO.alloc _) _ rfl (by rw [← unhide HEM]; exact cell_new _ _ _) (by rw [uN_length]; omega) (by simp; omega) ?_; intro v' w1 hO1 hg1)
            go_roundg (gk - 1)
            case measure => omega
            case rel =>
              rw [uN_succ] at hO1
              have hcc := unhide HC
              refine ⟨k + 1, p + 1, by omega, by go_num, by omega, by omega, congrArg (Value.int .i64) (by omega), by rw [unhide HN], hO1, fun j hj => ?_, below_grown (hB.alloc hsz _) hg1 (by simp; omega) (fun k hk => by have := OwnB.lt hO k hk; simp; omega) (Nat.le_refl _)⟩
              by_cases e : j = k
              · subst e; exact unhide HOK
              · exact unhide HA j (by omega)
          · have h8' : ¬ (8 : Int) ≤ (c : Int) + 6 := by omega
            go_wp2
            go_roundg (gk - 1)
            case measure => omega
            case rel =>
              have hcc := unhide HC
              refine ⟨k + 1, p, by omega, by go_num, by omega, by omega, congrArg (Value.int .i64) (by omega), by rw [unhide HN], hO, fun j hj => ?_, hB⟩
              by_cases e : j = k
              · subst e; exact unhide HOK
              · exact unhide HA j (by omega)
      · obtain rfl : k = s.length := by omega
        have hcv := conv_own hO
        have hcc := unhide HC
        have hcr : 6 * s.length % 8 = c := by omega
        have hpq : 6 * s.length / 8 = p := by omega
        have hmk := maskC h c (unhide HHL) hc6
        have hml := mod_low (nb 6 (fs s) s.length) c hc6
        rw [unhide HH] at hml
        have hall := allB_yes s (unhide HA)
        have hok : okN s = decide (h % 2 ^ c = 0) := by
          unfold okN
          rw [hcr, ← hml, decide_eq_decide]
          exact ⟨fun h => h.2, fun h => ⟨unhide H1, h⟩⟩
        have HFIN : Hid (okN s = decide (h % 2 ^ c = 0) ∧ allB s = true ∧ outL s = (uN s p).map UInt8.ofNat) := ⟨hok, hall, by unfold outL; rw [hpq]⟩
        clear hcc hcr hpq hml hall hok
        generalize h % 2 ^ c = m at hmk HFIN
        by_cases hm : m = 0
        · have hm' : ((m : Int) != 0) = false := by rw [hm]; rfl
          have HM := hide hm
          clear hm
          go_wp2
          go_ret2
          have hyes : (allB s && okN s) = true := by rw [HFIN.out.2.1, HFIN.out.1, unhide HM]; rfl
          exact ⟨ret_tup (by rw [uO_yes s hyes, HFIN.out.2.2]) (uE_yes s hyes).symm, hB⟩
        · have hm' : ((m : Int) != 0) = true := by rw [bne_iff_ne]; omega
          have HM := hide hm
          clear hm
          go_wp2
          go_ret2
          have hno : (allB s && okN s) = false := by rw [HFIN.out.2.1, HFIN.out.1, decide_eq_false (unhide HM)]; rfl
          exact ⟨ret_tup (by rw [uO_no s hno]) (uE_no s hno).symm, hB⟩
end Go.Proofs.YtkmkkmdpjliifaaDoor
