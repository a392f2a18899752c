import Derived.Test.YtkmkkmdpjliifaaGreatDoorTxZ
namespace Go.Proofs.YtkmkkmdpjliifaaGreatDoor
open Go.ChangeShapes Go.WideShapes Go.ChangeAt Go.RowKit

/-- the first p characters, as numbers -/
def pN_ (l : List UInt8) (p : Nat) : List Nat := (List.range p).map (fun p => al (cv l p))
theorem pN_length_ (l : List UInt8) (p : Nat) : (pN_ l p).length = p := by simp [pN_]
theorem pN_succ_ (l : List UInt8) (p : Nat) : pN_ l p ++ [al (cv l p)] = pN_ l (p + 1) := by simp [pN_, List.range_succ]
theorem ownB_made (w : World) (c : Nat) (hc : c ≤ 16777216) : OwnB (w.alloc (.cells (zc .u8 c) 5)) w.heap.size (.slice (some ⟨w.heap.size, 0, none⟩) 0 c) [] :=
  ⟨by simp, Or.inr ⟨w.heap.size, c, zc .u8 c, rfl, Nat.le_refl _, heap_alloc_new w _, Nat.zero_le _, by unfold maxLen; omega, by rw [zc_size, Nat.mul_one], by simp⟩⟩

theorem held8 (h b : Nat) (_hh : h < 4294967296) (hb : b < 256) : bits .or .u32 ((h : Int) * 256 % 4294967296) ((b : Int) % 4294967296) = (((256 * h + b) % 4294967296 : Nat) : Int) := by
  rw [show (h : Int) * 256 % 4294967296 = ((2 ^ 8 * (h % 16777216) : Nat) : Int) by omega, show (b : Int) % 4294967296 = (b : Int) by omega, orN32 _ _ (by omega) (by omega), or_add _ 8 _ (by omega)]
  omega

theorem conv_own {w : World} {base : Nat} {v : Value} {L : List Nat} (h : OwnB w base v L) : (convert 110 9 v).run Tryz.prog w = .ok (.string ⟨(L.map UInt8.ofNat).toArray⟩) w := by
  rcases OwnB.shape h with ⟨rfl, rfl⟩ | ⟨g, cap, rfl, _, _, h4⟩
  · exact run_convert_bytes_nil w 110 5 Tryz.underlying110 Tryz.underlying5 0 0 9 Tryz.underlying9
  · rw [conv8 (w := w) g 0 L.length cap (fun j => L.getD j 0) (fun i hi => h4.cell hi)]
    have e : bs L.length (fun j => L.getD j 0) = L.map UInt8.ofNat := by
      unfold bs
      apply List.ext_getElem?
      intro i
      rw [List.getElem?_map, List.getElem?_map]
      rcases Nat.lt_or_ge i L.length with hi | hi
      · rw [List.getElem?_range hi, List.getElem?_eq_getElem hi]
        simp [List.getD_eq_getElem?_getD, List.getElem?_eq_getElem hi]
      · rw [List.getElem?_eq_none (by simpa using hi), List.getElem?_eq_none hi]; rfl
    rw [e]
theorem pN_pT (l : List UInt8) (p : Nat) : (pN_ l p).map UInt8.ofNat = pT l p := by
  unfold pN_ pT
  rw [List.map_map]
  apply List.map_congr_left
  intro j _
  show UInt8.ofNat (aL.getD (cv l j) 0).toNat = ac (cv l j)
  unfold ac
  exact UInt8.ofNat_toNat
theorem and63 (x : Nat) (hx : x < 4294967296) : bits .and .u32 (x : Int) 63 = ((x % 64 : Nat) : Int) := by
  have h63 : (63 : Int) = wi (BitVec.ofNat 32 63) := by decide
  rw [← wi_ofNat x hx, h63, and32]
  unfold wi
  rw [BitVec.toNat_and, BitVec.toNat_ofNat, BitVec.toNat_ofNat, Nat.mod_eq_of_lt (show x < 2 ^ 32 by omega)]
  have := Nat.and_two_pow_sub_one_eq_mod x 6
  exact congrArg _ this
theorem mod_shift (N e : Nat) (he : e ≤ 7) : N % 4294967296 / 2 ^ e % 64 = N / 2 ^ e % 64 := by
  rcases (show e = 0 ∨ e = 1 ∨ e = 2 ∨ e = 3 ∨ e = 4 ∨ e = 5 ∨ e = 6 ∨ e = 7 by omega) with rfl | rfl | rfl | rfl | rfl | rfl | rfl | rfl <;> omega
theorem emitL (H N e : Nat) (hH : N % 4294967296 = H) (he : e ≤ 6) : bits .and .u32 ((H : Int) * 2 ^ e % 4294967296) 63 = ((N * 2 ^ e % 64 : Nat) : Int) := by
  have h1 : (H : Int) * 2 ^ e % 4294967296 = ((H * 2 ^ e % 4294967296 : Nat) : Int) := by rw [Int.natCast_emod, Int.natCast_mul, Int.natCast_pow]; rfl
  rw [h1, and63 _ (by omega), ← hH]
  congr 1
  rcases (show e = 0 ∨ e = 1 ∨ e = 2 ∨ e = 3 ∨ e = 4 ∨ e = 5 ∨ e = 6 by omega) with rfl | rfl | rfl | rfl | rfl | rfl | rfl <;> omega
theorem emit6 (H N e : Nat) (hH : N % 4294967296 = H) (he : e ≤ 7) : bits .and .u32 ((H : Int) / 2 ^ e) 63 = ((N / 2 ^ e % 64 : Nat) : Int) := by
  have h1 : (H : Int) / 2 ^ e = ((H / 2 ^ e : Nat) : Int) := by rw [Int.natCast_ediv, Int.natCast_pow]; rfl
  have h2 : H / 2 ^ e ≤ H := Nat.div_le_self _ _
  rw [h1, and63 _ (by omega), ← mod_shift N e he, hH]

set_option maxRecDepth 20000 in
set_option maxHeartbeats 1000000 in
theorem packP_any (l : List UInt8) (w : World) (hl : l.length ≤ 1048576) :
    Calls Tryz.prog 59 #[.string ⟨l.toArray⟩] w fun e w' => e = .returned (.string ⟨(packL l).toArray⟩) ∧ Below w.heap.size w w' := by
  have hmk : ∀ u : World, (Instr.makeSlice 110 (.int .i64 0) (.int .i64 ((l.length : Int) / 3 * 4 + 4))).run Tryz.prog u = .ok (.slice (some ⟨u.heap.size, 0, none⟩) 0 (l.length / 3 * 4 + 4)) (u.alloc (.cells (zc .u8 (l.length / 3 * 4 + 4)) 5)) := fun u => by
    rw [make8 _ _ (by omega) (by omega) (by omega), show ((l.length : Int) / 3 * 4 + 4).toNat = l.length / 3 * 4 + 4 by omega]; rfl
  have hO0 := ownB_made w (l.length / 3 * 4 + 4) (by omega)
  go_enter Tryz.func59, Tryz.ntmps59
  go_wp2
  go_loopg [3, 4, 5, 15] l.length (fun q v h c i wr => ∃ k p : Nat, k + q = l.length ∧ i = .int .i64 k ∧ 6 * p ≤ 8 * k ∧ 8 * k < 6 * p + 6 ∧ c = .int .i64 ((8 * k - 6 * p : Nat) : Int) ∧ h = .int .u32 ((nbu 8 (by_ l) k % 4294967296 : Nat) : Int) ∧ OwnB wr w.heap.size v (pN_ l p) ∧ Below w.heap.size w wr)
  case atStart => exact ⟨0, 0, by omega, rfl, by omega, by omega, rfl, rfl, hO0, (Below.refl _ _).alloc (Nat.le_refl _) _⟩
  case round =>
    clear hO0 hmk
    obtain ⟨k, p, hk, rfl, hp1, hp2, rfl, rfl, hO, hB⟩ := hrel
    generalize hc : 8 * k - 6 * p = c
    have hc6 : c < 6 := by omega
    have HC := hide hc
    clear hc
    generalize hh : nbu 8 (by_ l) k % 4294967296 = h
    have HH := hide hh
    have hhl : h < 4294967296 := by omega
    have HHL := hide hhl
    clear hh hhl
    by_cases hlt : k < l.length
    · have hlk : k < (ByteArray.mk l.toArray).size := by simpa [ByteArray.size] using hlt
      go_wp2
      rw [by_get ⟨l.toArray⟩ k hlk, show (ByteArray.mk l.toArray).data.toList = l from rfl, held8 h _ (unhide HHL) (by_lt l k)]
      generalize hH : (256 * h + by_ l k) % 4294967296 = H
      have HH2 : Hid (nbu 8 (by_ l) (k + 1) % 4294967296 = H ∧ H < 4294967296) := by
        have := unhide HH
        exact ⟨by rw [nbu, ← hH, ← this]; omega, by omega⟩
      clear hH
      go_loopg [3, 5] ((c + 8) / 6) (fun q v i wq => ∃ p c : Nat, c + 6 * p = 8 * (k + 1) ∧ q = c / 6 ∧ c ≤ 13 ∧ i = .int .i64 c ∧ OwnB wq w.heap.size v (pN_ l p) ∧ Below w.heap.size w wq)
      case atStart => exact ⟨p, c + 8, by have := unhide HC; omega, rfl, by omega, rfl, hO, hB⟩
      case round =>
        clear hO hB
        obtain ⟨p, c, hcp, hq, hc13, rfl, hO, hB⟩ := hrel
        have hsz := hB.size
        by_cases hge : 6 ≤ c
        · have hem := emit6 H (nbu 8 (by_ l) (k + 1)) (c - 6) HH2.out.1 (by omega)
          rw [show c - 6 = 8 * (k + 1) - 6 * p - 6 by omega, ← cv_full l p (k + 1) (by omega) (by omega), show 8 * (k + 1) - 6 * p - 6 = c - 6 by omega] at hem
          have hix := indexAlK .u32 (cv l p) (cv_lt l p)
          have hal := al_lt (cv l p) (cv_lt l p)
          have hps := pN_succ_ l p
          generalize cv l p = cc at hem hix hal hps
          generalize al cc = aa at hix hal hps
          have HPS := hide hps
          clear hps
          go_wp2_with (at_builtin; refine app110 rfl _ _ rfl w.heap.size _ _ aa rfl (hO.alloc _) _ rfl (cell_new _ _ _) (by rw [pN_length_]; omega) (by simp; omega) ?_; intro v' w1 hO1 hg1)
          go_roundg ((c - 6) / 6)
          case measure => omega
          case rel =>
            rw [unhide HPS] at hO1
            exact ⟨p + 1, c - 6, by omega, rfl, by omega, by go_num, hO1, below_grown (hB.alloc hsz _) hg1 (by simp; omega) (fun k hk => by have := OwnB.lt hO k hk; simp; omega) (Nat.le_refl _)⟩
        · have hge' : ¬ (6 : Int) ≤ c := by omega
          go_wp2
          go_roundg (l.length - (k + 1))
          case measure => omega
          case rel => exact ⟨k + 1, p, by omega, by go_num, by omega, by omega, congrArg (Value.int .i64) (by omega), by rw [HH2.out.1], hO, hB⟩
    · obtain rfl : k = l.length := by omega
      have hsz := hB.size
      by_cases hc0 : c = 0
      · subst hc0
        have hcv := conv_own hO
        rw [pN_pT] at hcv
        go_wp2
        go_ret
        refine ⟨?_, hB⟩
        have hm : mOf l.length = p := by have := unhide HC; unfold mOf; omega
        unfold packL
        rw [hm]; rfl
      · have hcpos : (0 : Int) < c := by omega
        have hem := emitL h (nbu 8 (by_ l) l.length) (6 - c) (unhide HH) (by omega)
        have hcl := cv_last l p (by have := unhide HC; omega) (by omega)
        rw [unhide HC] at hcl
        rw [← hcl] at hem
        have hix := indexAlK .u32 (cv l p) (cv_lt l p)
        have hal := al_lt (cv l p) (cv_lt l p)
        have hps := pN_succ_ l p
        generalize cv l p = cc at hem hix hal hps
        generalize al cc = aa at hix hal hps
        have HPS := hide hps
        clear hps hcl
        go_wp2_with (at_builtin; refine app110 rfl _ _ rfl w.heap.size _ _ aa rfl (hO.alloc _) _ rfl (cell_new _ _ _) (by rw [pN_length_]; omega) (by simp; omega) ?_; intro v' w1 hO1 hg1; rw [unhide HPS] at hO1; have hcv := conv_own hO1; rw [pN_pT] at hcv)
        go_ret
        refine ⟨?_, below_grown (hB.alloc hsz _) hg1 (by simp; omega) (fun k hk => by have := OwnB.lt hO k hk; simp; omega) (Nat.le_refl _)⟩
        have hm : mOf l.length = p + 1 := by have := unhide HC; unfold mOf; omega
        unfold packL
        rw [hm]; rfl
end Go.Proofs.YtkmkkmdpjliifaaGreatDoor
namespace Go.Proofs.YtkmkkmdpjliifaaGreatDoor
open Go.RowKit

/-- what the characters stand for -/
def fs (s : List UInt8) (j : Nat) : Nat := sgv (by_ s j)
theorem fs_lt (s : List UInt8) (j : Nat) : fs s j < 2 ^ 6 := by
  have := sgn_lo (by_ s j); unfold fs sgv; omega
/-- the byte at j that they come to -/
def uv (s : List UInt8) (j : Nat) : Nat := nbu 6 (fs s) s.length / 2 ^ (6 * s.length - 8 * j - 8) % 256
theorem uv_lt (s : List UInt8) (j : Nat) : uv s j < 256 := Nat.mod_lt _ (by decide)
theorem uv_full (s : List UInt8) (j i : Nat) (hi : i ≤ s.length) (hj : 8 * j + 8 ≤ 6 * i) : uv s j = nbu 6 (fs s) i / 2 ^ (6 * i - 8 * j - 8) % 256 := by
  have hpre := nb_pre 6 (fs s) i (s.length - i) (fun j _ => fs_lt s j)
  rw [show i + (s.length - i) = s.length by omega] at hpre
  unfold uv
  rw [show 6 * s.length - 8 * j - 8 = 6 * (s.length - i) + (6 * i - 8 * j - 8) by omega, Nat.pow_add, ← Nat.div_div_eq_div_mul, hpre]
def uN (s : List UInt8) (q : Nat) : List Nat := (List.range q).map (uv s)
theorem uN_length (s : List UInt8) (q : Nat) : (uN s q).length = q := by simp [uN]
theorem uN_succ (s : List UInt8) (q : Nat) : uN s q ++ [uv s q] = uN s (q + 1) := by simp [uN, List.range_succ]
def outL (s : List UInt8) : List UInt8 := (uN s (6 * s.length / 8)).map UInt8.ofNat
theorem outL_length (s : List UInt8) : (outL s).length = 6 * s.length / 8 := by unfold outL; rw [List.length_map, uN_length]
theorem by_outL (s : List UInt8) (j : Nat) (hj : j < 6 * s.length / 8) : by_ (outL s) j = uv s j := by
  unfold by_ outL uN
  rw [List.getD_eq_getElem?_getD, List.getElem?_map, List.getElem?_map, List.getElem?_range hj]
  show (UInt8.ofNat (uv s j)).toNat = _
  rw [UInt8.toNat_ofNat']
  exact Nat.mod_eq_of_lt (uv_lt s j)
theorem nb_outL (s : List UInt8) : ∀ j, j ≤ 6 * s.length / 8 → nbu 8 (by_ (outL s)) j = nbu 6 (fs s) s.length / 2 ^ (6 * s.length - 8 * j)
  | 0, _ => by
    have := nb_lt 6 (fs s) s.length (fun j _ => fs_lt s j)
    rw [nbu, Nat.mul_zero, Nat.sub_zero, Nat.div_eq_of_lt this]
  | j + 1, h => by
    rw [nbu, nb_outL s j (by omega), by_outL s j (by omega)]
    unfold uv
    rw [show 6 * s.length - 8 * j = (6 * s.length - 8 * j - 8) + 8 by omega, Nat.pow_add, ← Nat.div_div_eq_div_mul, show 6 * s.length - 8 * (j + 1) = 6 * s.length - 8 * j - 8 by omega, Nat.add_sub_cancel]
    omega
/-- are they Base64 of some bytes? -/
def okN (s : List UInt8) : Bool := decide (s.length % 4 ≠ 1 ∧ nbu 6 (fs s) s.length % 2 ^ (6 * s.length % 8) = 0)
def allS (s : List UInt8) (k : Nat) : Prop := ∀ j, j < k → sgo (by_ s j) = true
theorem digit (s : List UInt8) (p : Nat) (hp : p < s.length) : nbu 6 (fs s) s.length / 2 ^ (6 * (s.length - 1 - p)) % 64 = fs s p := by
  have hpre := nb_pre 6 (fs s) (p + 1) (s.length - 1 - p) (fun j _ => fs_lt s j)
  rw [show p + 1 + (s.length - 1 - p) = s.length by omega] at hpre
  have := fs_lt s p
  rw [hpre, nbu]; omega
theorem al_fs (s : List UInt8) (p : Nat) (h : sgo (by_ s p) = true) : al (fs s p) = by_ s p := by
  have h1 : 0 ≤ sgn (by_ s p) := of_decide_eq_true h
  exact (al_sgn (by_ s p) (by_lt s p) h1).1
theorem ac_by (x : Nat) (s : List UInt8) (p : Nat) (hp : p < s.length) (h : al x = by_ s p) : s[p]? = some (ac x) := by
  rw [List.getElem?_eq_getElem hp]
  congr 1
  apply UInt8.toNat_inj.1
  have h2 : by_ s p = (s[p]).toNat := by unfold by_; rw [List.getD_eq_getElem?_getD, List.getElem?_eq_getElem hp]; rfl
  rw [← h2, ← h]; rfl
theorem mOf_back (L : Nat) (h : L % 4 ≠ 1) : mOf (6 * L / 8) = L := by
  unfold mOf
  rcases (show L % 4 = 0 ∨ L % 4 = 2 ∨ L % 4 = 3 by omega) with e | e | e
  · rw [show 6 * L / 8 = 3 * (L / 4) by omega]; omega
  · rw [show 6 * L / 8 = 3 * (L / 4) + 1 by omega]; omega
  · rw [show 6 * L / 8 = 3 * (L / 4) + 2 by omega]; omega
theorem mOf_one (L : Nat) (h : L % 4 = 1) : mOf (6 * L / 8) ≠ L := by
  unfold mOf
  rw [show 6 * L / 8 = 3 * (L / 4) by omega]; omega
theorem round_trip (s : List UInt8) (hv : allS s s.length) : decide (packL (outL s) = s) = okN s := by
  unfold okN
  rw [decide_eq_decide]
  have hol := outL_length s
  have hnb := nb_outL s (6 * s.length / 8) (Nat.le_refl _)
  have hr : 6 * s.length - 8 * (6 * s.length / 8) = 6 * s.length % 8 := by omega
  rw [hr] at hnb
  have hm : s.length % 4 ≠ 1 → mOf (outL s).length = s.length := by intro h; rw [hol]; exact mOf_back _ h
  have hcv : s.length % 4 ≠ 1 → ∀ p, cv (outL s) p = nbu 6 (fs s) s.length / 2 ^ (6 * s.length % 8) * 2 ^ (6 * s.length % 8) / 2 ^ (6 * (s.length - 1 - p)) % 64 := by
    intro h p
    unfold cv
    rw [hm h, hol, hnb, show 6 * s.length - 8 * (6 * s.length / 8) = 6 * s.length % 8 by omega]
  constructor
  · intro h
    have h4 : s.length % 4 ≠ 1 := by
      intro h1
      have := congrArg List.length h
      unfold packL at this
      rw [pT_length, hol] at this
      exact mOf_one _ h1 this
    refine ⟨h4, ?_⟩
    rcases Nat.eq_zero_or_pos s.length with h0 | h0
    · rw [h0]; rfl
    · have hp : s.length - 1 < s.length := by omega
      have h5 : (packL (outL s))[s.length - 1]? = s[s.length - 1]? := by rw [h]
      unfold packL pT at h5
      rw [hm h4, List.getElem?_map, List.getElem?_range hp, List.getElem?_eq_getElem hp] at h5
      have h6 : ac (cv (outL s) (s.length - 1)) = s[s.length - 1] := Option.some.inj h5
      have h7 : al (cv (outL s) (s.length - 1)) = by_ s (s.length - 1) := by
        unfold by_
        rw [List.getD_eq_getElem?_getD, List.getElem?_eq_getElem hp]
        show (ac (cv (outL s) (s.length - 1))).toNat = _
        rw [h6]; rfl
      have h8 := sgn_al (cv (outL s) (s.length - 1)) (cv_lt _ _)
      have h9 : fs s (s.length - 1) = cv (outL s) (s.length - 1) := by unfold fs sgv; rw [← h7, h8]; rfl
      have h10 := digit s (s.length - 1) hp
      rw [h9, hcv h4] at h10
      rw [show s.length - 1 - (s.length - 1) = 0 by omega, Nat.mul_zero, Nat.pow_zero, Nat.div_one, Nat.div_one] at h10
      generalize nbu 6 (fs s) s.length = Y at h10 ⊢
      rcases (show 6 * s.length % 8 = 0 ∨ 6 * s.length % 8 = 2 ∨ 6 * s.length % 8 = 4 by omega) with e | e | e <;> rw [e] at h10 ⊢ <;> omega
  · rintro ⟨h4, h0⟩
    have hY : nbu 6 (fs s) s.length / 2 ^ (6 * s.length % 8) * 2 ^ (6 * s.length % 8) = nbu 6 (fs s) s.length := Nat.div_mul_cancel (Nat.dvd_of_mod_eq_zero h0)
    apply List.ext_getElem?
    intro p
    unfold packL pT
    rw [hm h4, List.getElem?_map]
    rcases Nat.lt_or_ge p s.length with hp | hp
    · rw [List.getElem?_range hp]
      show some (ac (cv (outL s) p)) = _
      rw [hcv h4, hY, digit s p hp, ac_by (fs s p) s p hp (al_fs s p (hv p hp))]
    · rw [List.getElem?_eq_none (by simpa using hp), List.getElem?_eq_none hp]; rfl
end Go.Proofs.YtkmkkmdpjliifaaGreatDoor
namespace Go.Proofs.YtkmkkmdpjliifaaGreatDoor
open Go.ChangeShapes Go.WideShapes Go.ChangeAt Go.RowKit

def allB (s : List UInt8) : Bool := (List.range s.length).all (fun j => sgo (by_ s j))
theorem allB_yes (s : List UInt8) (h : allS s s.length) : allB s = true := by
  unfold allB; rw [List.all_eq_true]; intro j hj; exact h j (List.mem_range.1 hj)
theorem allB_no (s : List UInt8) (j : Nat) (hj : j < s.length) (h : sgo (by_ s j) = false) : allB s = false := by
  unfold allB; rw [List.all_eq_false]; exact ⟨j, List.mem_range.2 hj, by simp [h]⟩
/-- what Unpack answers -/
def uO (s : List UInt8) : List UInt8 := if allB s && okN s then outL s else []
def uE (s : List UInt8) : Int := if allB s && okN s then 0 else 2
theorem ret_tup {x y : ByteArray} {a b : Int} (h1 : x = y) (h2 : a = b) : Ending.returned (.tuple #[.string x, .int .i64 a]) = .returned (.tuple #[.string y, .int .i64 b]) := by rw [h1, h2]
theorem uE_no (s : List UInt8) (h : (allB s && okN s) = false) : uE s = 2 := by unfold uE; rw [h]; rfl
theorem uO_no (s : List UInt8) (h : (allB s && okN s) = false) : uO s = [] := by unfold uO; rw [h]; rfl
theorem uE_yes (s : List UInt8) (h : (allB s && okN s) = true) : uE s = 0 := by unfold uE; rw [h]; rfl
theorem uO_yes (s : List UInt8) (h : (allB s && okN s) = true) : uO s = outL s := by unfold uO; rw [h]; rfl
theorem held6 (h b : Nat) (_hh : h < 4294967296) (hb : b < 64) : bits .or .u32 ((h : Int) * 64 % 4294967296) (b : Int) = (((64 * h + b) % 4294967296 : Nat) : Int) := by
  rw [show (h : Int) * 64 % 4294967296 = ((2 ^ 6 * (h % 67108864) : Nat) : Int) by omega, orN32 _ _ (by omega) (by omega), or_add _ 6 _ (by omega)]
  omega
theorem emit8 (H N e : Nat) (hH : N % 4294967296 = H) (he : e ≤ 7) : (H : Int) / 2 ^ e % 256 = ((N / 2 ^ e % 256 : Nat) : Int) := by
  have h1 : (H : Int) / 2 ^ e = ((H / 2 ^ e : Nat) : Int) := by rw [Int.natCast_ediv, Int.natCast_pow]; rfl
  have h3 : N % 4294967296 / 2 ^ e % 256 = N / 2 ^ e % 256 := by
    rcases (show e = 0 ∨ e = 1 ∨ e = 2 ∨ e = 3 ∨ e = 4 ∨ e = 5 ∨ e = 6 ∨ e = 7 by omega) with rfl | rfl | rfl | rfl | rfl | rfl | rfl | rfl <;> omega
  rw [h1, ← h3, hH]; omega
theorem maskC (h c : Nat) (hh : h < 4294967296) (hc : c < 8) : bits .and .u32 (h : Int) ((2 ^ c - 1) % 4294967296) = ((h % 2 ^ c : Nat) : Int) := by
  have h1 : (((2 : Int) ^ c - 1) % 4294967296) = ((2 ^ c - 1 : Nat) : Int) := by
    rcases (show c = 0 ∨ c = 1 ∨ c = 2 ∨ c = 3 ∨ c = 4 ∨ c = 5 ∨ c = 6 ∨ c = 7 by omega) with rfl | rfl | rfl | rfl | rfl | rfl | rfl | rfl <;> decide
  have h2 : 2 ^ c - 1 < 4294967296 := by
    have : 2 ^ c ≤ 2 ^ 8 := Nat.pow_le_pow_right (by decide) (by omega)
    omega
  rw [h1, ← wi_ofNat h hh, ← wi_ofNat _ h2, and32]
  unfold wi
  rw [BitVec.toNat_and, BitVec.toNat_ofNat, BitVec.toNat_ofNat, Nat.mod_eq_of_lt (show h < 2 ^ 32 by omega), Nat.mod_eq_of_lt (show 2 ^ c - 1 < 2 ^ 32 by omega), Nat.and_two_pow_sub_one_eq_mod]
theorem mod_low (Y c : Nat) (hc : c < 8) : Y % 4294967296 % 2 ^ c = Y % 2 ^ c := by
  rcases (show c = 0 ∨ c = 1 ∨ c = 2 ∨ c = 3 ∨ c = 4 ∨ c = 5 ∨ c = 6 ∨ c = 7 by omega) with rfl | rfl | rfl | rfl | rfl | rfl | rfl | rfl <;> omega
theorem okN_one (s : List UInt8) (h : s.length % 4 = 1) : okN s = false := by unfold okN; rw [decide_eq_false]; intro h2; exact h2.1 h

set_option maxRecDepth 20000 in
set_option maxHeartbeats 1000000 in
theorem unpackP_any (s : List UInt8) (w : World) (hl : s.length ≤ 1048576) :
    Calls Tryz.prog 60 #[.string ⟨s.toArray⟩] w fun e w' => e = .returned (.tuple #[.string ⟨(uO s).toArray⟩, .int .i64 (uE s)]) ∧ Below w.heap.size w w' := by
  have hmk : ∀ u : World, (Instr.makeSlice 110 (.int .i64 0) (.int .i64 ((s.length : Int) / 4 * 3 + 3))).run Tryz.prog u = .ok (.slice (some ⟨u.heap.size, 0, none⟩) 0 (s.length / 4 * 3 + 3)) (u.alloc (.cells (zc .u8 (s.length / 4 * 3 + 3)) 5)) := fun u => by
    rw [make8 _ _ (by omega) (by omega) (by omega), show ((s.length : Int) / 4 * 3 + 3).toNat = s.length / 4 * 3 + 3 by omega]; rfl
  have hO0 := ownB_made w (s.length / 4 * 3 + 3) (by omega)
  go_enter Tryz.func60, Tryz.ntmps60
  by_cases h1 : s.length % 4 = 1
  · have h1' : (((s.length : Int) % 4) == 1) = true := by rw [beq_iff_eq]; omega
    have hno : (allB s && okN s) = false := by rw [okN_one s h1, Bool.and_false]
    have HNO := hide hno
    clear hno h1
    go_wp2
    go_ret2
    exact ⟨ret_tup (by rw [uO_no s (unhide HNO)]) (uE_no s (unhide HNO)).symm, Below.refl _ _⟩
  · have h1' : (((s.length : Int) % 4) == 1) = false := by rw [beq_eq_false_iff_ne]; omega
    have H1 := hide h1
    clear h1
    go_wp2
    go_loopg [4, 5, 6, 22] s.length (fun q v h c i wr => ∃ k p : Nat, k + q = s.length ∧ i = .int .i64 k ∧ 8 * p ≤ 6 * k ∧ 6 * k < 8 * p + 8 ∧ c = .int .i64 ((6 * k - 8 * p : Nat) : Int) ∧ h = .int .u32 ((nbu 6 (fs s) k % 4294967296 : Nat) : Int) ∧ OwnB wr w.heap.size v (uN s p) ∧ allS s k ∧ Below w.heap.size w wr)
    case atStart => exact ⟨0, 0, by omega, rfl, by omega, by omega, rfl, rfl, hO0, fun j hj => by omega, (Below.refl _ _).alloc (Nat.le_refl _) _⟩
    case round =>
      clear hO0 hmk
      obtain ⟨k, p, hk, rfl, hp1, hp2, rfl, rfl, hO, hA, hB⟩ := hrel
      generalize hc : 6 * k - 8 * p = c
      have hc6 : c < 8 := by omega
      have HC := hide hc
      clear hc
      generalize hh : nbu 6 (fs s) k % 4294967296 = h
      have HH := hide hh
      have hhl : h < 4294967296 := by omega
      have HHL := hide hhl
      have HA := hide hA
      clear hh hhl hA
      have hsz := hB.size
      by_cases hlt : k < s.length
      · have hlk : k < (ByteArray.mk s.toArray).size := by simpa [ByteArray.size] using hlt
        have hbl := by_lt s k
        cases hok : sgo (by_ s k)
        · have HOK := hide hok
          clear hok
          go_wp2_with fail
          rw [by_get ⟨s.toArray⟩ k hlk, show (ByteArray.mk s.toArray).data.toList = s from rfl]
          refine (six_any (by_ s k) _ hbl).mono ?_
          rintro e w' ⟨rfl, rfl⟩
          rw [unhide HOK]
          go_wp2
          go_ret2
          have hno : (allB s && okN s) = false := by rw [allB_no s k hlt (unhide HOK), Bool.false_and]
          exact ⟨ret_tup (by rw [uO_no s hno]) (uE_no s hno).symm, hB⟩
        · have HOK := hide hok
          clear hok
          go_wp2_with fail
          rw [by_get ⟨s.toArray⟩ k hlk, show (ByteArray.mk s.toArray).data.toList = s from rfl]
          refine (six_any (by_ s k) _ hbl).mono ?_
          rintro e w' ⟨rfl, rfl⟩
          rw [unhide HOK]
          have hsg : sgv (by_ s k) < 64 := fs_lt s k
          have hH := held6 h (sgv (by_ s k)) (unhide HHL) hsg
          have hN : nbu 6 (fs s) (k + 1) % 4294967296 = (64 * h + sgv (by_ s k)) % 4294967296 := by
            have := unhide HH
            rw [nbu, ← this]; show (2 ^ 6 * nbu 6 (fs s) k + sgv (by_ s k)) % 4294967296 = _; omega
          generalize (64 * h + sgv (by_ s k)) % 4294967296 = H at hH hN
          have HN := hide hN
          clear hN
          by_cases h8 : 2 ≤ c
          · have hem := emit8 H (nbu 6 (fs s) (k + 1)) (c - 2) (unhide HN) (by omega)
            have hcc := unhide HC
            rw [show c - 2 = 6 * (k + 1) - 8 * p - 8 by omega, ← uv_full s p (k + 1) (by omega) (by omega), show 6 * (k + 1) - 8 * p - 8 = c - 2 by omega] at hem
            have HEM := hide hem
            clear hem hcc
            go_wp2_with (at_builtin; refine app110 rfl _ _ rfl w.heap.size _ _ (uv s p) rfl (hO.alloc _) _ rfl (by rw [← unhide HEM]; exact cell_new _ _ _) (by rw [uN_length]; omega) (by simp; omega) ?_; intro v' w1 hO1 hg1)
            go_roundg (gk - 1)
            case measure => omega
            case rel =>
              rw [uN_succ] at hO1
              have hcc := unhide HC
              refine ⟨k + 1, p + 1, by omega, by go_num, by omega, by omega, congrArg (Value.int .i64) (by omega), by rw [unhide HN], hO1, fun j hj => ?_, below_grown (hB.alloc hsz _) hg1 (by simp; omega) (fun k hk => by have := OwnB.lt hO k hk; simp; omega) (Nat.le_refl _)⟩
              by_cases e : j = k
              · subst e; exact unhide HOK
              · exact unhide HA j (by omega)
          · have h8' : ¬ (8 : Int) ≤ (c : Int) + 6 := by omega
            go_wp2
            go_roundg (gk - 1)
            case measure => omega
            case rel =>
              have hcc := unhide HC
              refine ⟨k + 1, p, by omega, by go_num, by omega, by omega, congrArg (Value.int .i64) (by omega), by rw [unhide HN], hO, fun j hj => ?_, hB⟩
              by_cases e : j = k
              · subst e; exact unhide HOK
              · exact unhide HA j (by omega)
      · obtain rfl : k = s.length := by omega
        have hcv := conv_own hO
        have hcc := unhide HC
        have hcr : 6 * s.length % 8 = c := by omega
        have hpq : 6 * s.length / 8 = p := by omega
        have hmk := maskC h c (unhide HHL) hc6
        have hml := mod_low (nbu 6 (fs s) s.length) c hc6
        rw [unhide HH] at hml
        have hall := allB_yes s (unhide HA)
        have hok : okN s = decide (h % 2 ^ c = 0) := by
          unfold okN
          rw [hcr, ← hml, decide_eq_decide]
          exact ⟨fun h => h.2, fun h => ⟨unhide H1, h⟩⟩
        have HFIN : Hid (okN s = decide (h % 2 ^ c = 0) ∧ allB s = true ∧ outL s = (uN s p).map UInt8.ofNat) := ⟨hok, hall, by unfold outL; rw [hpq]⟩
        clear hcc hcr hpq hml hall hok
        generalize h % 2 ^ c = m at hmk HFIN
        by_cases hm : m = 0
        · have hm' : ((m : Int) != 0) = false := by rw [hm]; rfl
          have HM := hide hm
          clear hm
          go_wp2
          go_ret2
          have hyes : (allB s && okN s) = true := by rw [HFIN.out.2.1, HFIN.out.1, unhide HM]; rfl
          exact ⟨ret_tup (by rw [uO_yes s hyes, HFIN.out.2.2]) (uE_yes s hyes).symm, hB⟩
        · have hm' : ((m : Int) != 0) = true := by rw [bne_iff_ne]; omega
          have HM := hide hm
          clear hm
          go_wp2
          go_ret2
          have hno : (allB s && okN s) = false := by rw [HFIN.out.2.1, HFIN.out.1, decide_eq_false (unhide HM)]; rfl
          exact ⟨ret_tup (by rw [uO_no s hno]) (uE_no s hno).symm, hB⟩
end Go.Proofs.YtkmkkmdpjliifaaGreatDoor
namespace Go.Proofs.YtkmkkmdpjliifaaGreatDoor
open Go.ChangeShapes Go.WideShapes Go.ChangeAt Go.RowKit

/-- a bit of what the characters stand for -/
def cx (s : List UInt8) (t : Nat) : Nat := fs s (t / 6) / 2 ^ (5 - t % 6) % 2
theorem cx_lt (s : List UInt8) (t : Nat) : cx s t < 2 := Nat.mod_lt _ (by decide)
def cL (s : List UInt8) (t : Nat) : List Nat := (List.range t).map (cx s)
theorem cL_length (s : List UInt8) (t : Nat) : (cL s t).length = t := by simp [cL]
theorem cL_succ (s : List UInt8) (t : Nat) : cL s t ++ [cx s t] = cL s (t + 1) := by simp [cL, List.range_succ]
theorem cL_getD (s : List UInt8) (t j : Nat) (h : j < t) : (cL s t).getD j 0 = cx s j := by
  unfold cL; rw [List.getD_eq_getElem?_getD, List.getElem?_map, List.getElem?_range h]; rfl
theorem gb_uv (s : List UInt8) (p : Nat) (hp : 8 * p + 8 ≤ 6 * s.length) : gb (cx s) (8 * p) 8 = uv s p := by
  rw [gb_eq (nbu 6 (fs s) s.length) (6 * s.length) (8 * p) (cx s) 8 (by omega) (fun j hj => ?_)]
  · rfl
  · unfold cx
    rw [← nb_bit 6 (fs s) s.length (8 * p + j) (by decide) (fun j _ => fs_lt s j) (by omega)]
theorem bit_val6 (b d j : Nat) (hb : b < 64) (hd : 32 / 2 ^ j = d) (hj : j < 6) : (wrap64 ((b : Int).tdiv (d : Int))).tmod 2 = ((b / 2 ^ (5 - j) % 2 : Nat) : Int) := by
  have e : d = 2 ^ (5 - j) := by
    rw [← hd]
    rcases (show j = 0 ∨ j = 1 ∨ j = 2 ∨ j = 3 ∨ j = 4 ∨ j = 5 by omega) with rfl | rfl | rfl | rfl | rfl | rfl <;> decide
  have h1 : (b : Int).tdiv (d : Int) = ((b / d : Nat) : Int) := by
    rw [Int.tdiv_eq_ediv_of_nonneg (Int.natCast_nonneg _)]; exact (Int.natCast_ediv b d).symm
  have h2 : b / d ≤ b := Nat.div_le_self _ _
  rw [h1, ← e]
  generalize b / d = y at h2
  rw [w64 _ (by omega) (by omega), Int.tmod_eq_emod_of_nonneg (Int.natCast_nonneg _)]
  omega
theorem sgn_fs (s : List UInt8) (k : Nat) (h : sgo (by_ s k) = true) : sgn (by_ s k) = (fs s k : Nat) := by
  have h1 : 0 ≤ sgn (by_ s k) := of_decide_eq_true h
  unfold fs sgv; omega
theorem sgn_neg (s : List UInt8) (k : Nat) (h : sgo (by_ s k) = false) : sgn (by_ s k) < 0 := by
  have h1 := of_decide_eq_false h; omega

set_option maxRecDepth 20000 in
set_option maxHeartbeats 1000000 in
theorem unpackR_any (s : List UInt8) (w : World) (hl : s.length ≤ 1048576) :
    Calls Tryz.prog 124 #[.string ⟨s.toArray⟩] w fun e w' => e = .returned (.tuple #[.string ⟨(uO s).toArray⟩, .int .i64 (uE s)]) ∧ Below w.heap.size w w' := by
  go_enter Tryz.func124, Tryz.ntmps124
  go_wp2
  go_loopg [4, 5] s.length (fun q v i wr => ∃ (k : Nat), k + q = s.length ∧ i = .int .i64 k ∧ OwnN wr w.heap.size v (cL s (6 * k)) ∧ allS s k ∧ Below w.heap.size w wr)
  case atStart => exact ⟨0, by omega, rfl, Own.nil _ _, fun j hj => by omega, Below.refl _ _⟩
  case round =>
    obtain ⟨k, hk, rfl, hO, hA, hB⟩ := hrel
    have HA := hide hA
    clear hA
    by_cases hlt : k < s.length
    · have hlk : k < (ByteArray.mk s.toArray).size := by simpa [ByteArray.size] using hlt
      have hbl := by_lt s k
      cases hok : sgo (by_ s k)
      · have HOK := hide hok
        clear hok
        have hneg := sgn_neg s k (unhide HOK)
        go_wp2_with fail
        rw [by_get ⟨s.toArray⟩ k hlk, show (ByteArray.mk s.toArray).data.toList = s from rfl]
        refine (sign_any (by_ s k) _ hbl).mono ?_
        rintro e w' ⟨rfl, rfl⟩
        go_wp2
        go_ret2
        have hno : (allB s && okN s) = false := by rw [allB_no s k hlt (unhide HOK), Bool.false_and]
        exact ⟨ret_tup (by rw [uO_no s hno]) (uE_no s hno).symm, hB⟩
      · have HOK := hide hok
        clear hok
        go_wp2_with fail
        rw [by_get ⟨s.toArray⟩ k hlk, show (ByteArray.mk s.toArray).data.toList = s from rfl]
        refine (sign_any (by_ s k) _ hbl).mono ?_
        rintro e w' ⟨rfl, rfl⟩
        rw [sgn_fs s k (unhide HOK)]
        have hbl := fs_lt s k
        generalize hbb : fs s k = b at hbl ⊢
        have HBB := hide hbb
        clear hbb
        go_wp2
        go_loopg [4, 7] 6 (fun q v i wq => ∃ (j : Nat), j + q = 6 ∧ i = .int .i64 ((32 / 2 ^ j : Nat) : Int) ∧ OwnN wq w.heap.size v (cL s (6 * k + j)) ∧ Below w.heap.size w wq)
        case atStart => exact ⟨0, rfl, rfl, hO, hB⟩
        case round =>
          clear hO hB
          obtain ⟨j, hj, rfl, hO, hB⟩ := hrel
          have hsz := hB.size
          by_cases hlj : j < 6
          · have hpos : 0 < 32 / 2 ^ j := by
              rcases (show j = 0 ∨ j = 1 ∨ j = 2 ∨ j = 3 ∨ j = 4 ∨ j = 5 by omega) with rfl | rfl | rfl | rfl | rfl | rfl <;> decide
            have hnext : 32 / 2 ^ (j + 1) = 32 / 2 ^ j / 2 := by rw [Nat.pow_succ, Nat.div_div_eq_div_mul]
            generalize hd : 32 / 2 ^ j = d at hpos hnext ⊢
            have HD := hide hd
            have HNX := hide hnext
            clear hd hnext
            go_wp2_with (at_builtin; refine app25 rfl _ _ rfl w.heap.size _ _ _ rfl (hO.alloc _) _ rfl (cell_new _ _ _) (by rw [List.length_map, cL_length]; omega) (by simp; omega) ?_; intro v' w1 hO1 hg1)
            go_roundg (gk - 1)
            case measure => omega
            case rel =>
              have h128 : 32 / 2 ^ j ≤ 32 := Nat.div_le_self _ _
              rw [unhide HD] at h128
              refine ⟨j + 1, by omega, congrArg (Value.int .i64) ?_, ?_, ?_⟩
              · rw [unhide HNX]
                first
                  | omega
                  | (rw [w64 _ (by omega) (by omega)]; omega)
              · have e : cx s (6 * k + j) = b / 2 ^ (5 - j) % 2 := by
                  unfold cx
                  rw [show (6 * k + j) / 6 = k by omega, show (6 * k + j) % 6 = j by omega, unhide HBB]
                rw [← Nat.add_assoc, ← cL_succ, e]
                refine OwnN.snoc ?_
                rw [← bit_val6 b d j (by omega) (unhide HD) hlj]
                exact hO1
              · exact below_grown (hB.alloc hsz _) hg1 (by simp; omega) (fun k hk => by have := Own.lt hO k hk; simp; omega) (Nat.le_refl _)
          · obtain rfl : j = 6 := by omega
            go_wp2
            go_roundg (s.length - (k + 1))
            case measure => omega
            case rel =>
              refine ⟨k + 1, by omega, congrArg (Value.int .i64) (by first | omega | (rw [w64 _ (by omega) (by omega)]; omega)), by rw [show 6 * (k + 1) = 6 * k + 6 by omega]; exact hO, fun j hj => ?_, hB⟩
              by_cases e : j = k
              · subst e; exact unhide HOK
              · exact unhide HA j (by omega)
    · obtain rfl : k = s.length := by omega
      obtain ⟨ao, cap, e⟩ := hO.form
      rw [cL_length] at e
      subst e
      have hc : ∀ j, j < 6 * s.length → ∃ g, ao = some ⟨g, 0, none⟩ ∧ g < wr.heap.size ∧ wr.cell? ⟨g, j, none⟩ = some (.int .i64 (cx s j : Nat)) := fun j hj => by
        rcases OwnN.shape hO with ⟨_, h2⟩ | ⟨g, cap2, h1, _, h3, h4⟩
        · have := congrArg List.length h2; rw [cL_length] at this; simp at this; omega
        · rw [cL_length] at h1 h4
          cases h1
          refine ⟨g, rfl, h3, ?_⟩
          rw [h4.cell0 hj, cL_getD s _ j hj]
      have HC := hide hc
      clear hc hlt hO
      obtain ⟨bz, hbz⟩ : ∃ bz, bz = wr.heap.size := ⟨_, rfl⟩
      have hB0 := Below.refl bz wr
      have hbw : w.heap.size ≤ bz := by rw [hbz]; exact hB.size
      go_wp2
      go_loopg [8, 9] (6 * s.length / 8) (fun q v i wq => ∃ p : Nat, p + q = 6 * s.length / 8 ∧ i = .int .i64 ((8 * p : Nat) : Int) ∧ OwnB wq bz v (uN s p) ∧ Below bz wr wq)
      case atStart => exact ⟨0, by omega, rfl, OwnB.nil _ _, hB0⟩
      case round =>
        clear hB0
        obtain ⟨p, hp, rfl, hO, hB2⟩ := hrel
        have hs2 := hB2.size
        by_cases hlt : 8 * p + 8 ≤ 6 * s.length
        · obtain ⟨g, hao, hgl, _⟩ := unhide HC 0 (by omega)
          subst hao
          have hgb : g < bz := by omega
          go_wp2
          go_loopg [10, 11] 8 (fun q n k wq => ∃ t : Nat, t + q = 8 ∧ k = .int .i64 t ∧ n = .int .i64 (gb (cx s) (8 * p) t : Nat) ∧ wq = wr)
          case atStart => exact ⟨0, rfl, rfl, rfl, rfl⟩
          case round =>
            obtain ⟨t, ht, rfl, rfl, rfl⟩ := hrel
            by_cases hlt2 : t < 8
            · have hct : wr.cell? ⟨g, 8 * p + t, none⟩ = some (.int .i64 (cx s (8 * p + t) : Nat)) := by
                obtain ⟨g', e1, e2, e3⟩ := unhide HC (8 * p + t) (by omega)
                cases e1
                rw [hB2.cell (p := ⟨g, 8 * p + t, none⟩) hgb]; exact e3
              have hgl2 := gb_lt (cx s) (8 * p) (cx_lt s) t
              have h64 : (2:Nat) ^ t ≤ 128 := Nat.le_trans (Nat.pow_le_pow_right (n := 2) (j := 7) (by decide) (by omega)) (by decide)
              have hb2 := cx_lt s (8 * p + t)
              have hg2 : gb (cx s) (8 * p) t < 128 := Nat.lt_of_lt_of_le hgl2 h64
              clear hgl2 h64
              generalize hgv : gb (cx s) (8 * p) t = gv at hg2 ⊢
              have HGV := hide hgv
              generalize hbv : cx s (8 * p + t) = bv at hb2 hct
              have HBV := hide hbv
              clear hgv hbv
              go_wp2
              go_roundg (gk - 1)
              case measure => omega
              case rel =>
                refine ⟨t + 1, by omega, by go_num, congrArg (Value.int .i64) ?_, rfl⟩
                rw [gb, unhide HGV, unhide HBV]; omega
            · obtain rfl : t = 8 := by omega
              rw [gb_uv s p hlt]
              have hxl := uv_lt s p
              have hus := uN_succ s p
              generalize uv s p = x at hxl hus ⊢
              have HUS := hide hus
              have hxm : (x : Int) % 256 = x := by omega
              clear hus hlt2
              go_wp2_with (at_builtin; refine app110 rfl _ _ rfl bz _ _ x rfl (hO.alloc _) _ rfl (by simp) (by rw [uN_length]; omega) (by simp; omega) ?_; intro v' w1 hO1 hg1)
              go_roundg (6 * s.length / 8 - (p + 1))
              case measure => omega
              case rel =>
                rw [unhide HUS] at hO1
                exact ⟨p + 1, by omega, congrArg (Value.int .i64) (by omega), hO1, below_grown (hB2.alloc (by omega) _) hg1 (by simp; omega) (fun k hk => by have := OwnB.lt hO k hk; simp; omega) (Nat.le_refl _)⟩
        · obtain rfl : p = 6 * s.length / 8 := by omega
          have hcv := conv_own hO
          have hol : (uN s (6 * s.length / 8)).map UInt8.ofNat = outL s := rfl
          rw [hol] at hcv
          have hlt' : ¬ (8 * ((6 * s.length / 8 : Nat) : Int) + 8 ≤ 6 * (s.length : Int)) := by omega
          have hrt := round_trip s (unhide HA)
          have hall := allB_yes s (unhide HA)
          have hol2 := outL_length s
          have hoL : (outL s).length ≤ 1048576 := by rw [hol2]; omega
          clear hol hlt hol2
          generalize hP : outL s = O at hcv hrt hoL
          have HP : Hid (outL s = O ∧ decide (packL O = s) = okN s ∧ allB s = true) := ⟨hP, hrt, hall⟩
          clear hP hrt hall
          go_wp2_with fail
          refine (packR_any O _ hoL).mono ?_
          rintro e w3 ⟨rfl, hb3⟩
          have hBf : Below w.heap.size w w3 := (hB.trans (hB2.mono hbw)).trans (hb3.mono (by omega))
          have hcv3 := conv_own (hO.below hb3)
          rw [show (uN s (6 * s.length / 8)).map UInt8.ofNat = outL s from rfl, HP.out.1] at hcv3
          clear hcv
          by_cases he : packL O = s
          · have he' : (packL O == s) = true := by rw [beq_iff_eq]; exact he
            have HE := hide he
            clear he
            go_wp2
            go_ret2
            have hyes : (allB s && okN s) = true := by rw [HP.out.2.2, ← HP.out.2.1, decide_eq_true (unhide HE)]; rfl
            exact ⟨ret_tup (by rw [uO_yes s hyes, HP.out.1]) (uE_yes s hyes).symm, hBf⟩
          · have he' : (packL O == s) = false := by rw [beq_eq_false_iff_ne]; exact he
            have HE := hide he
            clear he
            go_wp2
            go_ret2
            have hno : (allB s && okN s) = false := by rw [HP.out.2.2, ← HP.out.2.1, decide_eq_false (unhide HE)]; rfl
            exact ⟨ret_tup (by rw [uO_no s hno]) (uE_no s hno).symm, hBf⟩
end Go.Proofs.YtkmkkmdpjliifaaGreatDoor
namespace Go.Proofs.YtkmkkmdpjliifaaGreatDoor
open Go.ChangeShapes Go.WideShapes Go.ChangeAt Go.RowKit

theorem Pack_any (l : List UInt8) (w : World) (hl : l.length ≤ 1048576) :
    Calls Tryz.prog 16 #[.string ⟨l.toArray⟩] w fun e w' => e = .returned (.string ⟨(packL l).toArray⟩) ∧ Below w.heap.size w w' := by
  go_enter Tryz.func16, Tryz.ntmps16
  go_wp2_with fail
  refine (packP_any l _ hl).mono ?_
  rintro e w1 ⟨rfl, hb1⟩
  go_wp2
  go_ret
  exact ⟨rfl, hb1⟩
theorem Unpack_any (s : List UInt8) (w : World) (hl : s.length ≤ 1048576) :
    Calls Tryz.prog 17 #[.string ⟨s.toArray⟩] w fun e w' => e = .returned (.tuple #[.string ⟨(uO s).toArray⟩, .int .i64 (uE s)]) ∧ Below w.heap.size w w' := by
  go_enter Tryz.func17, Tryz.ntmps17
  go_wp2_with fail
  refine (unpackP_any s _ hl).mono ?_
  rintro e w1 ⟨rfl, hb1⟩
  go_wp2
  go_ret2
  exact ⟨rfl, hb1⟩

end Go.Proofs.YtkmkkmdpjliifaaGreatDoor
