import Derived.Test.YtkmkkmdpjliifaaGreatDoorTxZ
import Derived.Test.YtkmkkmdpjliifaaGreatDoorSvH
namespace Go.Proofs.YtkmkkmdpjliifaaGreatDoor
open Go.RowKit

/-- what the characters stand for -/
def fs (s : List UInt8) (j : Nat) : Nat := sgv (by_ s j)
theorem fs_lt (s : List UInt8) (j : Nat) : fs s j < 2 ^ 6 := by
  have := sgn_lo (by_ s j); unfold fs sgv; omega
/-- the byte at j that they come to -/
def uv (s : List UInt8) (j : Nat) : Nat := nbu 6 (fs s) s.length / 2 ^ (6 * s.length - 8 * j - 8) % 256
theorem uv_lt (s : List UInt8) (j : Nat) : uv s j < 256 := Nat.mod_lt _ (by decide)
theorem uv_full (s : List UInt8) (j i : Nat) (hi : i ≤ s.length) (hj : 8 * j + 8 ≤ 6 * i) : uv s j = nbu 6 (fs s) i / 2 ^ (6 * i - 8 * j - 8) % 256 := by
  have hpre := nb_pre 6 (fs s) i (s.length - i) (fun j _ => fs_lt s j)
  rw [show i + (s.length - i) = s.length by omega] at hpre
  unfold uv
  rw [show 6 * s.length - 8 * j - 8 = 6 * (s.length - i) + (6 * i - 8 * j - 8) by omega, Nat.pow_add, ← Nat.div_div_eq_div_mul, hpre]
def uN (s : List UInt8) (q : Nat) : List Nat := (List.range q).map (uv s)
theorem uN_length (s : List UInt8) (q : Nat) : (uN s q).length = q := by simp [uN]
theorem uN_succ (s : List UInt8) (q : Nat) : uN s q ++ [uv s q] = uN s (q + 1) := by simp [uN, List.range_succ]
def outL (s : List UInt8) : List UInt8 := (uN s (6 * s.length / 8)).map UInt8.ofNat
theorem outL_length (s : List UInt8) : (outL s).length = 6 * s.length / 8 := by unfold outL; rw [List.length_map, uN_length]
theorem by_outL (s : List UInt8) (j : Nat) (hj : j < 6 * s.length / 8) : by_ (outL s) j = uv s j := by
  unfold by_ outL uN
  rw [List.getD_eq_getElem?_getD, List.getElem?_map, List.getElem?_map, List.getElem?_range hj]
  show (UInt8.ofNat (uv s j)).toNat = _
  rw [UInt8.toNat_ofNat']
  exact Nat.mod_eq_of_lt (uv_lt s j)
theorem nb_outL (s : List UInt8) : ∀ j, j ≤ 6 * s.length / 8 → nbu 8 (by_ (outL s)) j = nbu 6 (fs s) s.length / 2 ^ (6 * s.length - 8 * j)
  | 0, _ => by
    have := nb_lt 6 (fs s) s.length (fun j _ => fs_lt s j)
    rw [nbu, Nat.mul_zero, Nat.sub_zero, Nat.div_eq_of_lt this]
  | j + 1, h => by
    rw [nbu, nb_outL s j (by omega), by_outL s j (by omega)]
    unfold uv
    rw [show 6 * s.length - 8 * j = (6 * s.length - 8 * j - 8) + 8 by omega, Nat.pow_add, ← Nat.div_div_eq_div_mul, show 6 * s.length - 8 * (j + 1) = 6 * s.length - 8 * j - 8 by omega, Nat.add_sub_cancel]
    omega
/-- are they Base64 of some bytes? -/
def okN (s : List UInt8) : Bool := decide (s.length % 4 ≠ 1 ∧ nbu 6 (fs s) s.length % 2 ^ (6 * s.length % 8) = 0)
def allS (s : List UInt8) (k : Nat) : Prop := ∀ j, j < k → sgo (by_ s j) = true
theorem digit (s : List UInt8) (p : Nat) (hp : p < s.length) : nbu 6 (fs s) s.length / 2 ^ (6 * (s.length - 1 - p)) % 64 = fs s p := by
  have hpre := nb_pre 6 (fs s) (p + 1) (s.length - 1 - p) (fun j _ => fs_lt s j)
  rw [show p + 1 + (s.length - 1 - p) = s.length by omega] at hpre
  have := fs_lt s p
  rw [hpre, nbu]; omega
theorem al_fs (s : List UInt8) (p : Nat) (h : sgo (by_ s p) = true) : al (fs s p) = by_ s p := by
  have h1 : 0 ≤ sgn (by_ s p) := of_decide_eq_true h
  exact (al_sgn (by_ s p) (by_lt s p) h1).1
theorem ac_by (x : Nat) (s : List UInt8) (p : Nat) (hp : p < s.length) (h : al x = by_ s p) : s[p]? = some (ac x) := by
  rw [List.getElem?_eq_getElem hp]
  congr 1
  apply UInt8.toNat_inj.1
  have h2 : by_ s p = (s[p]).toNat := by unfold by_; rw [List.getD_eq_getElem?_getD, List.getElem?_eq_getElem hp]; rfl
  rw [← h2, ← h]; rfl
theorem mOf_back (L : Nat) (h : L % 4 ≠ 1) : mOf (6 * L / 8) = L := by
  unfold mOf
  rcases (show L % 4 = 0 ∨ L % 4 = 2 ∨ L % 4 = 3 by omega) with e | e | e
  · rw [show 6 * L / 8 = 3 * (L / 4) by omega]; omega
  · rw [show 6 * L / 8 = 3 * (L / 4) + 1 by omega]; omega
  · rw [show 6 * L / 8 = 3 * (L / 4) + 2 by omega]; omega
theorem mOf_one (L : Nat) (h : L % 4 = 1) : mOf (6 * L / 8) ≠ L := by
  unfold mOf
  rw [show 6 * L / 8 = 3 * (L / 4) by omega]; omega
theorem round_trip (s : List UInt8) (hv : allS s s.length) : decide (packL (outL s) = s) = okN s := by
  unfold okN
  rw [decide_eq_decide]
  have hol := outL_length s
  have hnb := nb_outL s (6 * s.length / 8) (Nat.le_refl _)
  have hr : 6 * s.length - 8 * (6 * s.length / 8) = 6 * s.length % 8 := by omega
  rw [hr] at hnb
  have hm : s.length % 4 ≠ 1 → mOf (outL s).length = s.length := by intro h; rw [hol]; exact mOf_back _ h
  have hcv : s.length % 4 ≠ 1 → ∀ p, cv (outL s) p = nbu 6 (fs s) s.length / 2 ^ (6 * s.length % 8) * 2 ^ (6 * s.length % 8) / 2 ^ (6 * (s.length - 1 - p)) % 64 := by
    intro h p
    unfold cv
    rw [hm h, hol, hnb, show 6 * s.length - 8 * (6 * s.length / 8) = 6 * s.length % 8 by omega]
  constructor
  · intro h
    have h4 : s.length % 4 ≠ 1 := by
      intro h1
      have := congrArg List.length h
      unfold packL at this
      rw [pT_length, hol] at this
      exact mOf_one _ h1 this
    refine ⟨h4, ?_⟩
    rcases Nat.eq_zero_or_pos s.length with h0 | h0
    · rw [h0]; rfl
    · have hp : s.length - 1 < s.length := by omega
      have h5 : (packL (outL s))[s.length - 1]? = s[s.length - 1]? := by rw [h]
      unfold packL pT at h5
      rw [hm h4, List.getElem?_map, List.getElem?_range hp, List.getElem?_eq_getElem hp] at h5
      have h6 : ac (cv (outL s) (s.length - 1)) = s[s.length - 1] := Option.some.inj h5
      have h7 : al (cv (outL s) (s.length - 1)) = by_ s (s.length - 1) := by
        unfold by_
        rw [List.getD_eq_getElem?_getD, List.getElem?_eq_getElem hp]
        show (ac (cv (outL s) (s.length - 1))).toNat = _
        rw [h6]; rfl
      have h8 := sgn_al (cv (outL s) (s.length - 1)) (cv_lt _ _)
      have h9 : fs s (s.length - 1) = cv (outL s) (s.length - 1) := by unfold fs sgv; rw [← h7, h8]; rfl
      have h10 := digit s (s.length - 1) hp
      rw [h9, hcv h4] at h10
      rw [show s.length - 1 - (s.length - 1) = 0 by omega, Nat.mul_zero, Nat.pow_zero, Nat.div_one, Nat.div_one] at h10
      generalize nbu 6 (fs s) s.length = Y at h10 ⊢
      rcases (show 6 * s.length % 8 = 0 ∨ 6 * s.length % 8 = 2 ∨ 6 * s.length % 8 = 4 by omega) with e | e | e <;> rw [e] at h10 ⊢ <;> omega
  · rintro ⟨h4, h0⟩
    have hY : nbu 6 (fs s) s.length / 2 ^ (6 * s.length % 8) * 2 ^ (6 * s.length % 8) = nbu 6 (fs s) s.length := Nat.div_mul_cancel (Nat.dvd_of_mod_eq_zero h0)
    apply List.ext_getElem?
    intro p
    unfold packL pT
    rw [hm h4, List.getElem?_map]
    rcases Nat.lt_or_ge p s.length with hp | hp
    · rw [List.getElem?_range hp]
      show some (ac (cv (outL s) p)) = _
      rw [hcv h4, hY, digit s p hp, ac_by (fs s p) s p hp (al_fs s p (hv p hp))]
    · rw [List.getElem?_eq_none (by simpa using hp), List.getElem?_eq_none hp]; rfl
end Go.Proofs.YtkmkkmdpjliifaaGreatDoor
namespace Go.Proofs.YtkmkkmdpjliifaaGreatDoor
open Go.ChangeShapes Go.WideShapes Go.ChangeAt Go.RowKit

def allB (s : List UInt8) : Bool := (List.range s.length).all (fun j => sgo (by_ s j))
theorem allB_yes (s : List UInt8) (h : allS s s.length) : allB s = true := by
  unfold allB; rw [List.all_eq_true]; intro j hj; exact h j (List.mem_range.1 hj)
theorem allB_no (s : List UInt8) (j : Nat) (hj : j < s.length) (h : sgo (by_ s j) = false) : allB s = false := by
  unfold allB; rw [List.all_eq_false]; exact ⟨j, List.mem_range.2 hj, by simp [h]⟩
/-- what Unpack answers -/
def uO (s : List UInt8) : List UInt8 := if allB s && okN s then outL s else []
def uE (s : List UInt8) : Int := if allB s && okN s then 0 else 2
theorem ret_tup {x y : ByteArray} {a b : Int} (h1 : x = y) (h2 : a = b) : Ending.returned (.tuple #[.string x, .int .i64 a]) = .returned (.tuple #[.string y, .int .i64 b]) := by rw [h1, h2]
theorem uE_no (s : List UInt8) (h : (allB s && okN s) = false) : uE s = 2 := by unfold uE; rw [h]; rfl
theorem uO_no (s : List UInt8) (h : (allB s && okN s) = false) : uO s = [] := by unfold uO; rw [h]; rfl
theorem uE_yes (s : List UInt8) (h : (allB s && okN s) = true) : uE s = 0 := by unfold uE; rw [h]; rfl
theorem uO_yes (s : List UInt8) (h : (allB s && okN s) = true) : uO s = outL s := by unfold uO; rw [h]; rfl
theorem held6 (h b : Nat) (_hh : h < 4294967296) (hb : b < 64) : bits .or .u32 ((h : Int) * 64 % 4294967296) (b : Int) = (((64 * h + b) % 4294967296 : Nat) : Int) := by
  rw [show (h : Int) * 64 % 4294967296 = ((2 ^ 6 * (h % 67108864) : Nat) : Int) by omega, orN32 _ _ (by omega) (by omega), or_add _ 6 _ (by omega)]
  omega
theorem emit8 (H N e : Nat) (hH : N % 4294967296 = H) (he : e ≤ 7) : (H : Int) / 2 ^ e % 256 = ((N / 2 ^ e % 256 : Nat) : Int) := by
  have h1 : (H : Int) / 2 ^ e = ((H / 2 ^ e : Nat) : Int) := by rw [Int.natCast_ediv, Int.natCast_pow]; rfl
  have h3 : N % 4294967296 / 2 ^ e % 256 = N / 2 ^ e % 256 := by
    rcases (show e = 0 ∨ e = 1 ∨ e = 2 ∨ e = 3 ∨ e = 4 ∨ e = 5 ∨ e = 6 ∨ e = 7 by omega) with rfl | rfl | rfl | rfl | rfl | rfl | rfl | rfl <;> omega
  rw [h1, ← h3, hH]; omega
theorem maskC (h c : Nat) (hh : h < 4294967296) (hc : c < 8) : bits .and .u32 (h : Int) ((2 ^ c - 1) % 4294967296) = ((h % 2 ^ c : Nat) : Int) := by
  have h1 : (((2 : Int) ^ c - 1) % 4294967296) = ((2 ^ c - 1 : Nat) : Int) := by
    rcases (show c = 0 ∨ c = 1 ∨ c = 2 ∨ c = 3 ∨ c = 4 ∨ c = 5 ∨ c = 6 ∨ c = 7 by omega) with rfl | rfl | rfl | rfl | rfl | rfl | rfl | rfl <;> decide
  have h2 : 2 ^ c - 1 < 4294967296 := by
    have : 2 ^ c ≤ 2 ^ 8 := Nat.pow_le_pow_right (by decide) (by omega)
    omega
  rw [h1, ← wi_ofNat h hh, ← wi_ofNat _ h2, and32]
  unfold wi
  rw [BitVec.toNat_and, BitVec.toNat_ofNat, BitVec.toNat_ofNat, Nat.mod_eq_of_lt (show h < 2 ^ 32 by omega), Nat.mod_eq_of_lt (show 2 ^ c - 1 < 2 ^ 32 by omega), Nat.and_two_pow_sub_one_eq_mod]
theorem mod_low (Y c : Nat) (hc : c < 8) : Y % 4294967296 % 2 ^ c = Y % 2 ^ c := by
  rcases (show c = 0 ∨ c = 1 ∨ c = 2 ∨ c = 3 ∨ c = 4 ∨ c = 5 ∨ c = 6 ∨ c = 7 by omega) with rfl | rfl | rfl | rfl | rfl | rfl | rfl | rfl <;> omega
theorem okN_one (s : List UInt8) (h : s.length % 4 = 1) : okN s = false := by unfold okN; rw [decide_eq_false]; intro h2; exact h2.1 h

set_option maxRecDepth 20000 in
set_option maxHeartbeats 1000000 in
theorem unpackP_any (s : List UInt8) (w : World) (hl : s.length ≤ 1048576) :
    Calls Tryz.prog 60 #[.string ⟨s.toArray⟩] w fun e w' => e = .returned (.tuple #[.string ⟨(uO s).toArray⟩, .int .i64 (uE s)]) ∧ Below w.heap.size w w' := by
  have hmk : ∀ u : World, (Instr.makeSlice 110 (.int .i64 0) (.int .i64 ((s.length : Int) / 4 * 3 + 3))).run Tryz.prog u = .ok (.slice (some ⟨u.heap.size, 0, none⟩) 0 (s.length / 4 * 3 + 3)) (u.alloc (.cells (zc .u8 (s.length / 4 * 3 + 3)) 5)) := fun u => by
    rw [make8 _ _ (by omega) (by omega) (by omega), show ((s.length : Int) / 4 * 3 + 3).toNat = s.length / 4 * 3 + 3 by omega]; rfl
  have hO0 := ownB_made w (s.length / 4 * 3 + 3) (by omega)
  go_enter Tryz.func60, Tryz.ntmps60
  by_cases h1 : s.length % 4 = 1
  · have h1' : (((s.length : Int) % 4) == 1) = true := by rw [beq_iff_eq]; omega
    have hno : (allB s && okN s) = false := by rw [okN_one s h1, Bool.and_false]
    have HNO := hide hno
    clear hno h1
    go_wp2
    go_ret2
    exact ⟨ret_tup (by rw [uO_no s (unhide HNO)]) (uE_no s (unhide HNO)).symm, Below.refl _ _⟩
  · have h1' : (((s.length : Int) % 4) == 1) = false := by rw [beq_eq_false_iff_ne]; omega
    have H1 := hide h1
    clear h1
    go_wp2
    go_loopg [4, 5, 6, 22] s.length (fun q v h c i wr => ∃ k p : Nat, k + q = s.length ∧ i = .int .i64 k ∧ 8 * p ≤ 6 * k ∧ 6 * k < 8 * p + 8 ∧ c = .int .i64 ((6 * k - 8 * p : Nat) : Int) ∧ h = .int .u32 ((nbu 6 (fs s) k % 4294967296 : Nat) : Int) ∧ OwnB wr w.heap.size v (uN s p) ∧ allS s k ∧ Below w.heap.size w wr)
    case atStart => exact ⟨0, 0, by omega, rfl, by omega, by omega, rfl, rfl, hO0, fun j hj => by omega, (Below.refl _ _).alloc (Nat.le_refl _) _⟩
    case round =>
      clear hO0 hmk
      obtain ⟨k, p, hk, rfl, hp1, hp2, rfl, rfl, hO, hA, hB⟩ := hrel
      generalize hc : 6 * k - 8 * p = c
      have hc6 : c < 8 := by omega
      have HC := hide hc
      clear hc
      generalize hh : nbu 6 (fs s) k % 4294967296 = h
      have HH := hide hh
      have hhl : h < 4294967296 := by omega
      have HHL := hide hhl
      have HA := hide hA
      clear hh hhl hA
      have hsz := hB.size
      by_cases hlt : k < s.length
      · have hlk : k < (ByteArray.mk s.toArray).size := by simpa [ByteArray.size] using hlt
        have hbl := by_lt s k
        cases hok : sgo (by_ s k)
        · have HOK := hide hok
          clear hok
          go_wp2_with fail
          rw [by_get ⟨s.toArray⟩ k hlk, show (ByteArray.mk s.toArray).data.toList = s from rfl]
          refine (six_any (by_ s k) _ hbl).mono ?_
          rintro e w' ⟨rfl, rfl⟩
          rw [unhide HOK]
          go_wp2
          go_ret2
          have hno : (allB s && okN s) = false := by rw [allB_no s k hlt (unhide HOK), Bool.false_and]
          exact ⟨ret_tup (by rw [uO_no s hno]) (uE_no s hno).symm, hB⟩
        · have HOK := hide hok
          clear hok
          go_wp2_with fail
          rw [by_get ⟨s.toArray⟩ k hlk, show (ByteArray.mk s.toArray).data.toList = s from rfl]
          refine (six_any (by_ s k) _ hbl).mono ?_
          rintro e w' ⟨rfl, rfl⟩
          rw [unhide HOK]
          have hsg : sgv (by_ s k) < 64 := fs_lt s k
          have hH := held6 h (sgv (by_ s k)) (unhide HHL) hsg
          have hN : nbu 6 (fs s) (k + 1) % 4294967296 = (64 * h + sgv (by_ s k)) % 4294967296 := by
            have := unhide HH
            rw [nbu, ← this]; show (2 ^ 6 * nbu 6 (fs s) k + sgv (by_ s k)) % 4294967296 = _; omega
          generalize (64 * h + sgv (by_ s k)) % 4294967296 = H at hH hN
          have HN := hide hN
          clear hN
          by_cases h8 : 2 ≤ c
          · have hem := emit8 H (nbu 6 (fs s) (k + 1)) (c - 2) (unhide HN) (by omega)
            have hcc := unhide HC
            rw [show c - 2 = 6 * (k + 1) - 8 * p - 8 by omega, ← uv_full s p (k + 1) (by omega) (by omega), show 6 * (k + 1) - 8 * p - 8 = c - 2 by omega] at hem
            have HEM := hide hem
            clear hem hcc
            go_wp2_with (at_builtin; refine app110 rfl _ _ rfl w.heap.size _ _ (uv s p) rfl (hO.alloc _) _ rfl (by rw [← unhide HEM]; exact cell_new _ _ _) (by rw [uN_length]; omega) (by simp; omega) ?_; intro v' w1 hO1 hg1)
            go_roundg (gk - 1)
            case measure => omega
            case rel =>
              rw [uN_succ] at hO1
              have hcc := unhide HC
              refine ⟨k + 1, p + 1, by omega, by go_num, by omega, by omega, congrArg (Value.int .i64) (by omega), by rw [unhide HN], hO1, fun j hj => ?_, below_grown (hB.alloc hsz _) hg1 (by simp; omega) (fun k hk => by have := OwnB.lt hO k hk; simp; omega) (Nat.le_refl _)⟩
              by_cases e : j = k
              · subst e; exact unhide HOK
              · exact unhide HA j (by omega)
          · have h8' : ¬ (8 : Int) ≤ (c : Int) + 6 := by omega
            go_wp2
            go_roundg (gk - 1)
            case measure => omega
            case rel =>
              have hcc := unhide HC
              refine ⟨k + 1, p, by omega, by go_num, by omega, by omega, congrArg (Value.int .i64) (by omega), by rw [unhide HN], hO, fun j hj => ?_, hB⟩
              by_cases e : j = k
              · subst e; exact unhide HOK
              · exact unhide HA j (by omega)
      · obtain rfl : k = s.length := by omega
        have hcv := conv_own hO
        have hcc := unhide HC
        have hcr : 6 * s.length % 8 = c := by omega
        have hpq : 6 * s.length / 8 = p := by omega
        have hmk := maskC h c (unhide HHL) hc6
        have hml := mod_low (nbu 6 (fs s) s.length) c hc6
        rw [unhide HH] at hml
        have hall := allB_yes s (unhide HA)
        have hok : okN s = decide (h % 2 ^ c = 0) := by
          unfold okN
          rw [hcr, ← hml, decide_eq_decide]
          exact ⟨fun h => h.2, fun h => ⟨unhide H1, h⟩⟩
        have HFIN : Hid (okN s = decide (h % 2 ^ c = 0) ∧ allB s = true ∧ outL s = (uN s p).map UInt8.ofNat) := ⟨hok, hall, by unfold outL; rw [hpq]⟩
        clear hcc hcr hpq hml hall hok
        generalize h % 2 ^ c = m at hmk HFIN
        by_cases hm : m = 0
        · have hm' : ((m : Int) != 0) = false := by rw [hm]; rfl
          have HM := hide hm
          clear hm
          go_wp2
          go_ret2
          have hyes : (allB s && okN s) = true := by rw [HFIN.out.2.1, HFIN.out.1, unhide HM]; rfl
          exact ⟨ret_tup (by rw [uO_yes s hyes, HFIN.out.2.2]) (uE_yes s hyes).symm, hB⟩
        · have hm' : ((m : Int) != 0) = true := by rw [bne_iff_ne]; omega
          have HM := hide hm
          clear hm
          go_wp2
          go_ret2
          have hno : (allB s && okN s) = false := by rw [HFIN.out.2.1, HFIN.out.1, decide_eq_false (unhide HM)]; rfl
          exact ⟨ret_tup (by rw [uO_no s hno]) (uE_no s hno).symm, hB⟩
end Go.Proofs.YtkmkkmdpjliifaaGreatDoor
namespace Go.Proofs.YtkmkkmdpjliifaaGreatDoor
open Go.ChangeShapes Go.WideShapes Go.ChangeAt Go.RowKit

/-- a bit of what the characters stand for -/
def cx (s : List UInt8) (t : Nat) : Nat := fs s (t / 6) / 2 ^ (5 - t % 6) % 2
end Go.Proofs.YtkmkkmdpjliifaaGreatDoor
namespace Go.Proofs.YtkmkkmdpjliifaaGreatDoor
open Go.ChangeShapes Go.WideShapes Go.ChangeAt Go.RowKit

theorem Pack_any (l : List UInt8) (w : World) (hl : l.length ≤ 1048576) :
    Calls Tryz.prog 16 #[.string ⟨l.toArray⟩] w fun e w' => e = .returned (.string ⟨(packL l).toArray⟩) ∧ Below w.heap.size w w' := by
  go_enter Tryz.func16, Tryz.ntmps16
  go_wp2_with fail
  refine (packP_any l _ hl).mono ?_
  rintro e w1 ⟨rfl, hb1⟩
  go_wp2
  go_ret
  exact ⟨rfl, hb1⟩
theorem Unpack_any (s : List UInt8) (w : World) (hl : s.length ≤ 1048576) :
    Calls Tryz.prog 17 #[.string ⟨s.toArray⟩] w fun e w' => e = .returned (.tuple #[.string ⟨(uO s).toArray⟩, .int .i64 (uE s)]) ∧ Below w.heap.size w w' := by
  go_enter Tryz.func17, Tryz.ntmps17
  go_wp2_with fail
  refine (unpackP_any s _ hl).mono ?_
  rintro e w1 ⟨rfl, hb1⟩
  go_wp2
  go_ret2
  exact ⟨rfl, hb1⟩

end Go.Proofs.YtkmkkmdpjliifaaGreatDoor
namespace Go.Proofs.YtkmkkmdpjliifaaGreatDoor
open Go.ChangeShapes Go.WideShapes Go.ChangeAt Go.RowKit

/-- the table of the hash -/
def KT (w : World) : Prop := Rk w 2 0 64 (fun j => .int .u32 (wi (K0 j)))
theorem KT.below {w w' : World} {B : Nat} (h : KT w) (hB : 2 < B) (hb : Below B w w') : KT w' := Rk.below h hb hB
theorem packL_length (l : List UInt8) : (packL l).length = (8 * l.length + 5) / 6 := pT_length _ _
/-- what stands ahead of the key's name in a token's head -/
def headL : List UInt8 := [123, 34, 97, 108, 103, 34, 58, 34, 72, 83, 50, 53, 54, 34, 44, 34, 107, 105, 100, 34, 58, 34]
/-- what is signed -/
def signS (k : Ky) (T : List UInt8) : List UInt8 := packL (headL ++ k.name ++ [34, 125]) ++ [46] ++ packL T
/-- a token -/
def tokS (k : Ky) (T : List UInt8) : List UInt8 := signS k T ++ [46] ++ packL (macL K0 H0 k.secret (signS k T))
theorem macL_length (k t : List UInt8) : (macL K0 H0 k t).length = 32 := by unfold macL shaL; exact bs_length _ _
theorem keysB_at {ks : List Ky} (h : keysB ks = true) (i : Nat) (hi : i < ks.length) : (ks.getD i default).name.length ≤ 16 ∧ (ks.getD i default).secret.length ≤ 64 := by
  unfold keysB at h
  simp at h
  have h1 := h.1.1 i hi
  unfold kyOk plainB at h1
  simp at h1
  exact ⟨h1.1.1.2, h1.1.2⟩
theorem keysB_pos {ks : List Ky} (h : keysB ks = true) : 0 < ks.length := by
  unfold keysB at h
  simp at h
  omega

set_option maxRecDepth 20000 in
set_option maxHeartbeats 2000000 in
theorem Sign_any (T : List UInt8) (hT : T.length ≤ 65536) (w : World) (s R O : Nat) (vk vs : Value) (ks : List Ky) (cs : List Cl) (Qs : List Nat) (hs : s ≤ w.heap.size) (h2 : 2 < w.heap.size) (h : Sb w s R O vk vs ks cs Qs) (hK : KT w) :
    Calls Tryz.prog 138 #[.pointer (some ⟨R, 0, none⟩), .string ⟨T.toArray⟩] w fun e w' => e = .returned (.string ⟨(tokS (ks.getD 0 default) T).toArray⟩) ∧ Below w.heap.size w w' := by
  have hpos := keysB_pos h.kb
  obtain ⟨hn16, hs64⟩ := keysB_at h.kb 0 hpos
  have r0 : w.cell? ⟨R, 0, none⟩ = some vk := h.ring.cell (j := 0) (by decide)
  have r1 : w.cell? ⟨R, 1, none⟩ = some (.int .i64 0) := h.ring.cell (j := 1) (by decide)
  obtain ⟨a, c, rfl, hk⟩ := h.keys
  obtain ⟨g, o, rfl, hg, hk⟩ := hk hpos
  obtain ⟨k0, k1⟩ := hk 0 hpos
  have hlen : (0 : Int) < (ks.length : Int) := by omega
  rw [Nat.zero_mul, Nat.add_zero] at k0 k1
  generalize ks.getD 0 default = ky at *
  rw [sv_def] at k0 k1
  have hal : ∀ o, Below w.heap.size w (w.alloc o) := fun o => (Below.refl _ _).alloc (Nat.le_refl _) o
  have hRl : R < w.heap.size := Nat.lt_of_lt_of_le h.rs hs
  have hgl : g < w.heap.size := Nat.lt_of_lt_of_le hg hs
  have ra0 : ∀ ob, (w.alloc ob).cell? ⟨R, 0, none⟩ = some (.slice (some ⟨g, o, none⟩) ks.length c) := fun ob => ((hal ob).cell (p := ⟨R, 0, none⟩) hRl).trans r0
  have ra1 : ∀ ob, (w.alloc ob).cell? ⟨R, 1, none⟩ = some (.int .i64 0) := fun ob => ((hal ob).cell (p := ⟨R, 1, none⟩) hRl).trans r1
  have ka0 : ∀ ob, (w.alloc ob).cell? ⟨g, o, none⟩ = some (.string ⟨ky.name.toArray⟩) := fun ob => ((hal ob).cell (p := ⟨g, o, none⟩) hgl).trans k0
  have ka1 : ∀ ob, (w.alloc ob).cell? ⟨g, o + 1, none⟩ = some (.string ⟨ky.secret.toArray⟩) := fun ob => ((hal ob).cell (p := ⟨g, o + 1, none⟩) hgl).trans k1
  clear hk h hal
  have HB := hide (And.intro hn16 (And.intro hs64 hT))
  clear hn16 hs64 hT
  generalize hky : ky.name = kn at *
  generalize hkz : ky.secret = kz at *
  have HKY := hide (And.intro hky hkz)
  clear hky hkz
  go_enter Tryz.func138, Tryz.ntmps138
  go_wp2_with fail
  go_region
  clear r0 r1 k0 k1 ra0 ra1 ka0 ka1 hlen
  obtain ⟨wA, hwA⟩ : ∃ wA, wA = (w.alloc (.cells #[.string ⟨kn.toArray⟩, .string ⟨kz.toArray⟩] 34)).drew := ⟨_, rfl⟩
  have hbA : Below w.heap.size w wA := by rw [hwA]; exact ((Below.refl _ _).alloc (Nat.le_refl _) _).drew
  have hsA : wA.heap.size = w.heap.size + 1 := by rw [hwA]; show (w.alloc _).heap.size = _; simp
  have hRA : Row wA w.heap.size 34 2 (pr2 (.string ⟨kn.toArray⟩) (.string ⟨kz.toArray⟩)) := by
    rw [hwA]
    exact (Row.new w 34 #[.string ⟨kn.toArray⟩, .string ⟨kz.toArray⟩] _ 2 rfl (fun j hj => by rcases (show j = 0 ∨ j = 1 by omega) with rfl | rfl <;> rfl)).drew
  rw [← hwA]
  clear hwA
  have f0 : wA.cell? ⟨w.heap.size, 0, none⟩ = some (.string ⟨kn.toArray⟩) := hRA.cell (j := 0) (by decide)
  obtain ⟨h1, hh1⟩ : ∃ h1, [123, 34, 97, 108, 103, 34, 58, 34, 72, 83, 50, 53, 54, 34, 44, 34, 107, 105, 100, 34, 58, 34] ++ kn = h1 := ⟨_, rfl⟩
  obtain ⟨hd, hhd⟩ : ∃ hd, h1 ++ [34, 125] = hd := ⟨_, rfl⟩
  have hl1 : h1.length ≤ 38 := by rw [← hh1]; have := (unhide HB).1; simp; omega
  have hld : hd.length ≤ 40 := by rw [← hhd]; simp; omega
  have c1 := cat_str [123, 34, 97, 108, 103, 34, 58, 34, 72, 83, 50, 53, 54, 34, 44, 34, 107, 105, 100, 34, 58, 34] kn h1 hh1 (by omega)
  have c2 := cat_str h1 [34, 125] hd hhd (by omega)
  have HHD : Hid (headL ++ kn ++ [34, 125] = hd) := by unfold Hid headL; rw [hh1, hhd]
  have HLD := hide hld
  clear hh1 hhd hl1 hld
  go_wp2_with fail
  refine (packP_any hd wA (by have := unhide HLD; omega)).mono ?_
  rintro e wB ⟨rfl, hbB⟩
  have hsB := hbB.size
  have hRB := hRA.below hbB (by omega)
  have hbwB := hbA.trans (hbB.mono (by omega))
  obtain ⟨pd, hpd⟩ : ∃ pd, packL hd = pd := ⟨_, rfl⟩
  have hlp : pd.length ≤ 64 := by rw [← hpd, packL_length]; have := unhide HLD; omega
  obtain ⟨pe, hpe⟩ : ∃ pe, pd ++ [46] = pe := ⟨_, rfl⟩
  have hle : pe.length ≤ 65 := by rw [← hpe]; simp; omega
  have c3 := cat_str pd [46] pe hpe (by omega)
  rw [hpd]
  have HPD := hide hpd
  have HPE := hide hpe
  have HLE := hide hle
  clear f0 c1 c2 hbB hRA hbA hpd hlp hpe hle
  go_wp2_with fail
  refine (packP_any T wB (by have := (unhide HB).2.2; omega)).mono ?_
  rintro e wC ⟨rfl, hbC⟩
  have hsC := hbC.size
  have hRC := hRB.below hbC (by omega)
  have hbwC := hbwB.trans (hbC.mono (by omega))
  obtain ⟨pt, hpt⟩ : ∃ pt, packL T = pt := ⟨_, rfl⟩
  have hlt : pt.length ≤ 90000 := by rw [← hpt, packL_length]; have := (unhide HB).2.2; omega
  obtain ⟨sg, hsg⟩ : ∃ sg, pe ++ pt = sg := ⟨_, rfl⟩
  have hls : sg.length ≤ 91000 := by rw [← hsg, List.length_append]; have := unhide HLE; omega
  have c4 := cat_str pe pt sg hsg (by omega)
  have f1 : wC.cell? ⟨w.heap.size, 1, none⟩ = some (.string ⟨kz.toArray⟩) := hRC.cell (j := 1) (by decide)
  rw [hpt]
  have HPT := hide hpt
  have HSG := hide hsg
  have HLS := hide hls
  have hKC : KT wC := hK.below h2 hbwC
  clear c3 hbC hRB hRC hbwB hpt hlt hsg hls hK
  go_wp2_with fail
  refine (mac_any kz sg wC (by have := (unhide HB).2.1; omega) (by have := unhide HLS; omega) (by omega) hKC).mono ?_
  rintro e wD ⟨rfl, hbD⟩
  have hsD := hbD.size
  have hbwD := hbwC.trans (hbD.mono (by omega))
  generalize hF : shaF K0 H0 (tk (keyL K0 H0 kz) 92 ++ shaL K0 H0 (tk (keyL K0 H0 kz) 54 ++ sg)) = F
  have HF : Hid (macL K0 H0 kz sg = bs 32 F) := by unfold Hid macL; rw [show ∀ x, shaL K0 H0 x = bs 32 (shaF K0 H0 x) from fun _ => rfl, ← hF]
  clear hF c4 f1 hKC hbD hbwC
  obtain ⟨sd, hsd⟩ : ∃ sd, sg ++ [46] = sd := ⟨_, rfl⟩
  have hlsd : sd.length ≤ 91001 := by rw [← hsd]; simp; have := unhide HLS; omega
  have c5 := cat_str sg [46] sd hsd (by omega)
  have HSD := hide hsd
  have HLSD := hide hlsd
  clear hsd hlsd
  go_wp2_with (refine stRow rfl 105 _ _ rfl rfl rfl (Row.new wD 105 (Array.replicate 32 (.int .u8 0)) (fun _ => .int .u8 0) 32 (by simp) (fun j hj => by simp [hj])) sz105 (fun _ _ => rfl) ?_; intro wE hM hg3; have hcv := conv8 (w := wE) wD.heap.size 0 32 32 F (fun i hi => by rw [Nat.zero_add]; exact hM.cell hi))
  have hsE := hg3.size
  simp at hsE
  have hbwE : Below w.heap.size w wE := (hbwD.alloc (by omega) _).grown hg3 (by simp; omega) (fun k hk => by cases hk; omega)
  clear hM hg3 hcv hbwD
  refine (packP_any (bs 32 F) wE (by rw [bs_length]; omega)).mono ?_
  rintro e wG ⟨rfl, hbG⟩
  have hbwG := hbwE.trans (hbG.mono (by omega))
  obtain ⟨pm, hpm⟩ : ∃ pm, packL (bs 32 F) = pm := ⟨_, rfl⟩
  have hlpm : pm.length ≤ 43 := by rw [← hpm, packL_length, bs_length]; omega
  obtain ⟨tk1, htk⟩ : ∃ tk1, sd ++ pm = tk1 := ⟨_, rfl⟩
  have c6 := cat_str sd pm tk1 htk (by rw [← htk, List.length_append]; have := unhide HLSD; omega)
  rw [hpm]
  have HFin : Hid (tokS ky T = tk1) := by
    unfold Hid tokS signS
    obtain ⟨e1, e2⟩ := unhide HKY
    rw [e1, e2, unhide HHD, unhide HPD, unhide HPT, unhide HPE, unhide HSG, unhide HSD, unhide HF, hpm, htk]
  clear c5 hbwE hbG hpm hlpm htk
  go_wp2_with fail
  go_ret
  exact ⟨by rw [unhide HFin]; rfl, hbwG⟩
end Go.Proofs.YtkmkkmdpjliifaaGreatDoor
