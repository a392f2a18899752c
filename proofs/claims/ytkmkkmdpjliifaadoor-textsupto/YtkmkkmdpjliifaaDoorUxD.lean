import Derived.Test.YtkmkkmdpjliifaaDoorUxC
namespace Go.Proofs.YtkmkkmdpjliifaaDoor
open Go.ChangeShapes Go.WideShapes Go.ChangeAt Go.RowKit

/-- the first p characters, as numbers -/
def pN_ (l : List UInt8) (p : Nat) : List Nat := (List.range p).map (fun p => al (cv l p))
theorem pN_length_ (l : List UInt8) (p : Nat) : (pN_ l p).length = p := by simp [pN_]
theorem pN_succ_ (l : List UInt8) (p : Nat) : pN_ l p ++ [al (cv l p)] = pN_ l (p + 1) := by simp [pN_, List.range_succ]
theorem ownB_made (w : World) (c : Nat) (hc : c ≤ 16777216) : OwnB (w.alloc (.cells (zc .u8 c) 5)) w.heap.size (.slice (some ⟨w.heap.size, 0, none⟩) 0 c) [] :=
  ⟨by simp, Or.inr ⟨w.heap.size, c, zc .u8 c, rfl, Nat.le_refl _, heap_alloc_new w _, Nat.zero_le _, by unfold maxLen; omega, by rw [zc_size, Nat.mul_one], by simp⟩⟩

theorem held8 (h b : Nat) (_hh : h < 4294967296) (hb : b < 256) : bits .or .u32 ((h : Int) * 256 % 4294967296) ((b : Int) % 4294967296) = (((256 * h + b) % 4294967296 : Nat) : Int) := by
  rw [show (h : Int) * 256 % 4294967296 = ((2 ^ 8 * (h % 16777216) : Nat) : Int) by omega, show (b : Int) % 4294967296 = (b : Int) by omega, orN32 _ _ (by omega) (by omega), or_add _ 8 _ (by omega)]
  omega

theorem conv_own {w : World} {base : Nat} {v : Value} {L : List Nat} (h : OwnB w base v L) : (convert 33 9 v).run Tryd.prog w = .ok (.string ⟨(L.map UInt8.ofNat).toArray⟩) w := by
  rcases OwnB.shape h with ⟨rfl, rfl⟩ | ⟨g, cap, rfl, _, _, h4⟩
  · exact run_convert_bytes_nil w 33 5 Tryd.underlying33 Tryd.underlying5 0 0 9 Tryd.underlying9
  · rw [conv8 (w := w) g 0 L.length cap (fun j => L.getD j 0) (fun i hi => h4.cell hi)]
    have e : bs L.length (fun j => L.getD j 0) = L.map UInt8.ofNat := by
      unfold bs
      apply List.ext_getElem?
      intro i
      rw [List.getElem?_map, List.getElem?_map]
      rcases Nat.lt_or_ge i L.length with hi | hi
      · rw [List.getElem?_range hi, List.getElem?_eq_getElem hi]
        simp [List.getD_eq_getElem?_getD, List.getElem?_eq_getElem hi]
      · rw [List.getElem?_eq_none (by simpa using hi), List.getElem?_eq_none hi]; rfl
    rw [e]
theorem pN_pT (l : List UInt8) (p : Nat) : (pN_ l p).map UInt8.ofNat = pT l p := by
  unfold pN_ pT
  rw [List.map_map]
  apply List.map_congr_left
  intro j _
  show UInt8.ofNat (aL.getD (cv l j) 0).toNat = ac (cv l j)
  unfold ac
  exact UInt8.ofNat_toNat
theorem and63 (x : Nat) (hx : x < 4294967296) : bits .and .u32 (x : Int) 63 = ((x % 64 : Nat) : Int) := by
  have h63 : (63 : Int) = wi (BitVec.ofNat 32 63) := by decide
  rw [← wi_ofNat x hx, h63, and32]
  unfold wi
  rw [BitVec.toNat_and, BitVec.toNat_ofNat, BitVec.toNat_ofNat, Nat.mod_eq_of_lt (show x < 2 ^ 32 by omega)]
  have := Nat.and_two_pow_sub_one_eq_mod x 6
  exact congrArg _ this
theorem mod_shift (N e : Nat) (he : e ≤ 7) : N % 4294967296 / 2 ^ e % 64 = N / 2 ^ e % 64 := by
  rcases (show e = 0 ∨ e = 1 ∨ e = 2 ∨ e = 3 ∨ e = 4 ∨ e = 5 ∨ e = 6 ∨ e = 7 by omega) with rfl | rfl | rfl | rfl | rfl | rfl | rfl | rfl <;> omega
theorem emitL (H N e : Nat) (hH : N % 4294967296 = H) (he : e ≤ 6) : bits .and .u32 ((H : Int) * 2 ^ e % 4294967296) 63 = ((N * 2 ^ e % 64 : Nat) : Int) := by
  have h1 : (H : Int) * 2 ^ e % 4294967296 = ((H * 2 ^ e % 4294967296 : Nat) : Int) := by rw [Int.natCast_emod, Int.natCast_mul, Int.natCast_pow]; rfl
  rw [h1, and63 _ (by omega), ← hH]
  congr 1
  rcases (show e = 0 ∨ e = 1 ∨ e = 2 ∨ e = 3 ∨ e = 4 ∨ e = 5 ∨ e = 6 by omega) with rfl | rfl | rfl | rfl | rfl | rfl | rfl <;> omega
theorem emit6 (H N e : Nat) (hH : N % 4294967296 = H) (he : e ≤ 7) : bits .and .u32 ((H : Int) / 2 ^ e) 63 = ((N / 2 ^ e % 64 : Nat) : Int) := by
  have h1 : (H : Int) / 2 ^ e = ((H / 2 ^ e : Nat) : Int) := by rw [Int.natCast_ediv, Int.natCast_pow]; rfl
  have h2 : H / 2 ^ e ≤ H := Nat.div_le_self _ _
  rw [h1, and63 _ (by omega), ← mod_shift N e he, hH]

set_option maxRecDepth 20000 in
set_option maxHeartbeats 1000000 in
theorem packP_any (l : List UInt8) (w : World) (hl : l.length ≤ 1048576) :
    Calls Tryd.prog 30 #[.string ⟨l.toArray⟩] w fun e w' => e = .returned (.string ⟨(packL l).toArray⟩) ∧ Below w.heap.size w w' := by
  have hmk : ∀ u : World, (Instr.makeSlice 33 (.int .i64 0) (.int .i64 ((l.length : Int) / 3 * 4 + 4))).run Tryd.prog u = .ok (.slice (some ⟨u.heap.size, 0, none⟩) 0 (l.length / 3 * 4 + 4)) (u.alloc (.cells (zc .u8 (l.length / 3 * 4 + 4)) 5)) := fun u => by
    rw [make8 _ _ (by omega) (by omega) (by omega), show ((l.length : Int) / 3 * 4 + 4).toNat = l.length / 3 * 4 + 4 by omega]; rfl
  have hO0 := ownB_made w (l.length / 3 * 4 + 4) (by omega)
  go_enter Tryd.func30, Tryd.ntmps30
  go_wp2
  go_loopg [3, 4, 5, 15] l.length (fun q v h c i wr => ∃ k p : Nat, k + q = l.length ∧ i = .int .i64 k ∧ 6 * p ≤ 8 * k ∧ 8 * k < 6 * p + 6 ∧ c = .int .i64 ((8 * k - 6 * p : Nat) : Int) ∧ h = .int .u32 ((nb 8 (by_ l) k % 4294967296 : Nat) : Int) ∧ OwnB wr w.heap.size v (pN_ l p) ∧ Below w.heap.size w wr)
  case atStart => exact ⟨0, 0, by omega, rfl, by omega, by omega, rfl, rfl, hO0, (Below.refl _ _).alloc (Nat.le_refl _) _⟩
  case round =>
    clear hO0 hmk
    obtain ⟨k, p, hk, rfl, hp1, hp2, rfl, rfl, hO, hB⟩ := hrel
    generalize hc : 8 * k - 6 * p = c
    have hc6 : c < 6 := by omega
    have HC := hide hc
    clear hc
    generalize hh : nb 8 (by_ l) k % 4294967296 = h
    have HH := hide hh
    have hhl : h < 4294967296 := by omega
    have HHL := hide hhl
    clear hh hhl
    by_cases hlt : k < l.length
    · have hlk : k < (ByteArray.mk l.toArray).size := by simpa [ByteArray.size] using hlt
      go_wp2
      rw [by_get ⟨l.toArray⟩ k hlk, show (ByteArray.mk l.toArray).data.toList = l from rfl, held8 h _ (unhide HHL) (by_lt l k)]
      generalize hH : (256 * h + by_ l k) % 4294967296 = H
      have HH2 : Hid (nb 8 (by_ l) (k + 1) % 4294967296 = H ∧ H < 4294967296) := by
        have := unhide HH
        exact ⟨by rw [nb, ← hH, ← this]; omega, by omega⟩
      clear hH
      go_loopg [3, 5] ((c + 8) / 6) (fun q v i wq => ∃ p c : Nat, c + 6 * p = 8 * (k + 1) ∧ q = c / 6 ∧ c ≤ 13 ∧ i = .int .i64 c ∧ OwnB wq w.heap.size v (pN_ l p) ∧ Below w.heap.size w wq)
      case atStart => exact ⟨p, c + 8, by have := unhide HC; omega, rfl, by omega, rfl, hO, hB⟩
      case round =>
        clear hO hB
        obtain ⟨p, c, hcp, hq, hc13, rfl, hO, hB⟩ := hrel
        have hsz := hB.size
        by_cases hge : 6 ≤ c
        · have hem := emit6 H (nb 8 (by_ l) (k + 1)) (c - 6) HH2.out.1 (by omega)
          rw [show c - 6 = 8 * (k + 1) - 6 * p - 6 by omega, ← cv_full l p (k + 1) (by omega) (by omega), show 8 * (k + 1) - 6 * p - 6 = c - 6 by omega] at hem
          have hix := indexAlK .u32 (cv l p) (cv_lt l p)
          have hal := al_lt (cv l p) (cv_lt l p)
          have hps := pN_succ_ l p
          generalize cv l p = cc at hem hix hal hps
          generalize al cc = aa at hix hal hps
          have HPS := hide hps
          clear hps
          go_wp2_with (at_builtin; refine app33 rfl _ _ rfl w.heap.size _ _ aa rfl (hO.alloc _) _ rfl (cell_new _ _ _) (by rw [pN_length_]; omega) (by simp; omega) ?_; intro v' w1 hO1 hg1)
          go_roundg ((c - 6) / 6)
          case measure => omega
          case rel =>
            rw [unhide HPS] at hO1
            exact ⟨p + 1, c - 6, by omega, rfl, by omega, by go_num, hO1, below_grown (hB.alloc hsz _) hg1 (by simp; omega) (fun k hk => by have := OwnB.lt hO k hk; simp; omega) (Nat.le_refl _)⟩
        · have hge' : ¬ (6 : Int) ≤ c := by omega
          go_wp2
          go_roundg (l.length - (k + 1))
          case measure => omega
          case rel => exact ⟨k + 1, p, by omega, by go_num, by omega, by omega, congrArg (Value.int .i64) (by omega), by rw [HH2.out.1], hO, hB⟩
    · obtain rfl : k = l.length := by omega
      have hsz := hB.size
      by_cases hc0 : c = 0
      · subst hc0
        have hcv := conv_own hO
        rw [pN_pT] at hcv
        go_wp2
        go_ret
        refine ⟨?_, hB⟩
        have hm : mOf l.length = p := by have := unhide HC; unfold mOf; omega
        unfold packL
        rw [hm]; rfl
      · have hcpos : (0 : Int) < c := by omega
        have hem := emitL h (nb 8 (by_ l) l.length) (6 - c) (unhide HH) (by omega)
        have hcl := cv_last l p (by have := unhide HC; omega) (by omega)
        rw [unhide HC] at hcl
        rw [← hcl] at hem
        have hix := indexAlK .u32 (cv l p) (cv_lt l p)
        have hal := al_lt (cv l p) (cv_lt l p)
        have hps := pN_succ_ l p
        generalize cv l p = cc at hem hix hal hps
        generalize al cc = aa at hix hal hps
        have HPS := hide hps
        clear hps hcl
        go_wp2_with (at_builtin; refine app33 rfl _ _ rfl w.heap.size _ _ aa rfl (hO.alloc _) _ rfl (cell_new _ _ _) (by rw [pN_length_]; omega) (by simp; omega) ?_; intro v' w1 hO1 hg1; rw [unhide HPS] at hO1; have hcv := conv_own hO1; rw [pN_pT] at hcv)
        go_ret
        refine ⟨?_, below_grown (hB.alloc hsz _) hg1 (by simp; omega) (fun k hk => by have := OwnB.lt hO k hk; simp; omega) (Nat.le_refl _)⟩
        have hm : mOf l.length = p + 1 := by have := unhide HC; unfold mOf; omega
        unfold packL
        rw [hm]; rfl
end Go.Proofs.YtkmkkmdpjliifaaDoor
