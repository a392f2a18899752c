import Derived.Test.YtkmkkmdpjliifaaGreatDoorJyBF
import Derived.Test.YtkmkkmdpjliifaaGreatDoorExG
import Derived.Test.YtkmkkmdpjliifaaGreatDoorKnB
namespace Go.Proofs.YtkmkkmdpjliifaaGreatDoor
open Go.ChangeShapes Go.WideShapes Go.ChangeAt Go.RowKit

theorem app110L {w : World} {ops : Array Oper} {rest : List Oper} {o : Oper} {a : Act} {Q : Exit → Act → World → Prop} (hgd : o.guard = none) (s x : Operand)
    (ho : o.op = .call { callee := .builtin .append, args := #[s, x], argTypes := #[110, 110] })
    (base : Nat) (v : Value) (l : List Nat) (y : Nat) (hs : a.eval s = v) (hown : OwnB w base v l)
    (ad : Addr) (hx : a.eval x = .slice (some ad) 1 1) (hc : w.cell? ad = some (.int .u8 (y : Int))) (hn : l.length ≤ 140737488355327) (hbase : base ≤ w.heap.size)
    (h : ∀ v' w', OwnB w' base v' (l ++ [y]) → w.grownBy w' v.ownBlock → wpList Tryz.prog ops Q rest (a.put o.dst v') w') : wpList Tryz.prog ops Q (o :: rest) a w := by
  obtain ⟨i0, hi, hz0, hz1, hz2⟩ := info_parts info5
  refine wpList_append_own w hgd s x 110 ho base 5 i0 (.int .u8 0) 1 1 Tryz.underlying110 hi hz0 hz1 hz2 rfl (by decide) v l.length _ hs hown ad 1 1 [.int .u8 (y : Int)] hx rfl ?_ ?_ ?_ ?_ hbase ?_
  · intro j u hj
    match j, hj with
    | 0, hj => simp at hj; subst hj; simpa [Addr.add] using hc
  · intro u hu; simp at hu; subst hu; rfl
  · unfold maxLen; omega
  · omega
  · intro v' w' h1 h2 _
    refine h v' w' ?_ h2
    unfold OwnB
    simpa using h1
theorem ownB_madeL (w : World) (c : Nat) (hc : c ≤ 281474976710656) : OwnB (w.alloc (.cells (zc .u8 c) 5)) w.heap.size (.slice (some ⟨w.heap.size, 0, none⟩) 0 c) [] :=
  ⟨by simp, Or.inr ⟨w.heap.size, c, zc .u8 c, rfl, Nat.le_refl _, heap_alloc_new w _, Nat.zero_le _, by unfold maxLen; omega, by rw [zc_size, Nat.mul_one], by simp⟩⟩
/-- bytes of the call's own in a row of so much room -/
def OwnF (w : World) (base : Nat) (v : Value) (l : List Nat) (cap : Nat) : Prop := OwnB w base v l ∧ ∃ g, v = .slice (some ⟨g, 0, none⟩) l.length cap
theorem OwnF.alloc {w : World} {base : Nat} {v : Value} {l : List Nat} {cap : Nat} (h : OwnF w base v l cap) (o : Obj) : OwnF (w.alloc o) base v l cap := ⟨h.1.alloc o, h.2⟩
theorem app110F {w : World} {ops : Array Oper} {rest : List Oper} {o : Oper} {a : Act} {Q : Exit → Act → World → Prop} (hgd : o.guard = none) (s x : Operand)
    (ho : o.op = .call { callee := .builtin .append, args := #[s, x], argTypes := #[110, 110] })
    (base : Nat) (v : Value) (l : List Nat) (y cap : Nat) (hs : a.eval s = v) (hown : OwnF w base v l cap)
    (ad : Addr) (hx : a.eval x = .slice (some ad) 1 1) (hc : w.cell? ad = some (.int .u8 (y : Int))) (hn : l.length + 1 ≤ cap)
    (h : ∀ v' w', OwnF w' base v' (l ++ [y]) cap → w.grownBy w' v.ownBlock → wpList Tryz.prog ops Q rest (a.put o.dst v') w') : wpList Tryz.prog ops Q (o :: rest) a w := by
  obtain ⟨i0, hi, hz0, hz1, hz2⟩ := info_parts info5
  obtain ⟨hb, g, rfl⟩ := hown
  refine wpList_append_fits w hgd s x 110 ho base 5 i0 1 Tryz.underlying110 hi hz1 g l.length cap _ hs hb ad 1 1 [.int .u8 (y : Int)] hx rfl ?_ ?_ hn ?_
  · intro j u hj
    match j, hj with
    | 0, hj => simp at hj; subst hj; simpa [Addr.add] using hc
  · intro u hu; simp at hu; subst hu; rfl
  · intro w' h1 h2
    refine h _ w' ⟨?_, g, by rw [List.length_append]; rfl⟩ h2
    unfold OwnB
    simpa using h1
set_option maxRecDepth 20000 in
set_option maxHeartbeats 1000000 in
theorem packP3_any (l : List UInt8) (w : World) (hl : l.length ≤ 140737488355328) :
    Calls Tryz.prog 59 #[.string ⟨l.toArray⟩] w fun e w' => e = .returned (.string ⟨(packL l).toArray⟩) ∧ Below w.heap.size w w' := by
  have hmk : ∀ u : World, (Instr.makeSlice 110 (.int .i64 0) (.int .i64 ((l.length : Int) / 3 * 4 + 4))).run Tryz.prog u = .ok (.slice (some ⟨u.heap.size, 0, none⟩) 0 (l.length / 3 * 4 + 4)) (u.alloc (.cells (zc .u8 (l.length / 3 * 4 + 4)) 5)) := fun u => by
    rw [make8 _ _ (by omega) (by omega) (by omega), show ((l.length : Int) / 3 * 4 + 4).toNat = l.length / 3 * 4 + 4 by omega]; rfl
  have hO0 := ownB_madeL w (l.length / 3 * 4 + 4) (by omega)
  go_enter Tryz.func59, Tryz.ntmps59
  go_wp2
  go_loopg [3, 4, 5, 15] l.length (fun q v h c i wr => ∃ k p : Nat, k + q = l.length ∧ i = .int .i64 k ∧ 6 * p ≤ 8 * k ∧ 8 * k < 6 * p + 6 ∧ c = .int .i64 ((8 * k - 6 * p : Nat) : Int) ∧ h = .int .u32 ((nbu 8 (by_ l) k % 4294967296 : Nat) : Int) ∧ OwnF wr w.heap.size v (pN_ l p) (l.length / 3 * 4 + 4) ∧ Below w.heap.size w wr)
  case atStart => exact ⟨0, 0, by omega, rfl, by omega, by omega, rfl, rfl, ⟨hO0, _, rfl⟩, (Below.refl _ _).alloc (Nat.le_refl _) _⟩
  case round =>
    clear hO0 hmk
    obtain ⟨k, p, hk, rfl, hp1, hp2, rfl, rfl, hO, hB⟩ := hrel
    generalize hc : 8 * k - 6 * p = c
    have hc6 : c < 6 := by omega
    have HC := hide hc
    clear hc
    generalize hh : nbu 8 (by_ l) k % 4294967296 = h
    have HH := hide hh
    have hhl : h < 4294967296 := by omega
    have HHL := hide hhl
    clear hh hhl
    by_cases hlt : k < l.length
    · have hlk : k < (ByteArray.mk l.toArray).size := by simpa [ByteArray.size] using hlt
      go_wp2
      rw [by_get ⟨l.toArray⟩ k hlk, show (ByteArray.mk l.toArray).data.toList = l from rfl, held8 h _ (unhide HHL) (by_lt l k)]
      generalize hH : (256 * h + by_ l k) % 4294967296 = H
      have HH2 : Hid (nbu 8 (by_ l) (k + 1) % 4294967296 = H ∧ H < 4294967296) := by
        have := unhide HH
        exact ⟨by rw [nbu, ← hH, ← this]; omega, by omega⟩
      clear hH
      go_loopg [3, 5] ((c + 8) / 6) (fun q v i wq => ∃ p c : Nat, c + 6 * p = 8 * (k + 1) ∧ q = c / 6 ∧ c ≤ 13 ∧ i = .int .i64 c ∧ OwnF wq w.heap.size v (pN_ l p) (l.length / 3 * 4 + 4) ∧ Below w.heap.size w wq)
      case atStart => exact ⟨p, c + 8, by have := unhide HC; omega, rfl, by omega, rfl, hO, hB⟩
      case round =>
        clear hO hB
        obtain ⟨p, c, hcp, hq, hc13, rfl, hO, hB⟩ := hrel
        have hsz := hB.size
        by_cases hge : 6 ≤ c
        · have hem := emit6 H (nbu 8 (by_ l) (k + 1)) (c - 6) HH2.out.1 (by omega)
          rw [show c - 6 = 8 * (k + 1) - 6 * p - 6 by omega, ← cv_full l p (k + 1) (by omega) (by omega), show 8 * (k + 1) - 6 * p - 6 = c - 6 by omega] at hem
          have hix := indexAlK .u32 (cv l p) (cv_lt l p)
          have hal := al_lt (cv l p) (cv_lt l p)
          have hps := pN_succ_ l p
          generalize cv l p = cc at hem hix hal hps
          generalize al cc = aa at hix hal hps
          have HPS := hide hps
          clear hps
          go_wp2_with (at_builtin; refine app110F rfl _ _ rfl w.heap.size _ _ aa (l.length / 3 * 4 + 4) rfl (hO.alloc _) _ rfl (cell_new _ _ _) (by rw [pN_length_]; omega) ?_; intro v' w1 hO1 hg1)
          go_roundg ((c - 6) / 6)
          case measure => omega
          case rel =>
            rw [unhide HPS] at hO1
            exact ⟨p + 1, c - 6, by omega, rfl, by omega, by go_num, hO1, below_grown (hB.alloc hsz _) hg1 (by simp; omega) (fun k hk => by have := OwnB.lt hO.1 k hk; simp; omega) (Nat.le_refl _)⟩
        · have hge' : ¬ (6 : Int) ≤ c := by omega
          go_wp2
          go_roundg (l.length - (k + 1))
          case measure => omega
          case rel => exact ⟨k + 1, p, by omega, by go_num, by omega, by omega, congrArg (Value.int .i64) (by omega), by rw [HH2.out.1], hO, hB⟩
    · obtain rfl : k = l.length := by omega
      have hsz := hB.size
      by_cases hc0 : c = 0
      · subst hc0
        have hcv := conv_own hO.1
        rw [pN_pT] at hcv
        go_wp2
        go_ret
        refine ⟨?_, hB⟩
        have hm : mOf l.length = p := by have := unhide HC; unfold mOf; omega
        unfold packL
        rw [hm]; rfl
      · have hcpos : (0 : Int) < c := by omega
        have hem := emitL h (nbu 8 (by_ l) l.length) (6 - c) (unhide HH) (by omega)
        have hcl := cv_last l p (by have := unhide HC; omega) (by omega)
        rw [unhide HC] at hcl
        rw [← hcl] at hem
        have hix := indexAlK .u32 (cv l p) (cv_lt l p)
        have hal := al_lt (cv l p) (cv_lt l p)
        have hps := pN_succ_ l p
        generalize cv l p = cc at hem hix hal hps
        generalize al cc = aa at hix hal hps
        have HPS := hide hps
        clear hps hcl
        go_wp2_with (at_builtin; refine app110F rfl _ _ rfl w.heap.size _ _ aa (l.length / 3 * 4 + 4) rfl (hO.alloc _) _ rfl (cell_new _ _ _) (by rw [pN_length_]; omega) ?_; intro v' w1 hO1 hg1; rw [unhide HPS] at hO1; have hcv := conv_own hO1.1; rw [pN_pT] at hcv)
        go_ret
        refine ⟨?_, below_grown (hB.alloc hsz _) hg1 (by simp; omega) (fun k hk => by have := OwnB.lt hO.1 k hk; simp; omega) (Nat.le_refl _)⟩
        have hm : mOf l.length = p + 1 := by have := unhide HC; unfold mOf; omega
        unfold packL
        rw [hm]; rfl
theorem Pack3_any (l : List UInt8) (w : World) (hl : l.length ≤ 140737488355328) :
    Calls Tryz.prog 16 #[.string ⟨l.toArray⟩] w fun e w' => e = .returned (.string ⟨(packL l).toArray⟩) ∧ Below w.heap.size w w' := by
  go_enter Tryz.func16, Tryz.ntmps16
  go_wp2_with fail
  refine (packP3_any l _ hl).mono ?_
  rintro e w1 ⟨rfl, hb1⟩
  go_wp2
  go_ret
  exact ⟨rfl, hb1⟩
set_option maxRecDepth 20000 in
set_option maxHeartbeats 1000000 in
theorem unpackP3_any (s : List UInt8) (w : World) (hl : s.length ≤ 187649984468310) :
    Calls Tryz.prog 60 #[.string ⟨s.toArray⟩] w fun e w' => e = .returned (.tuple #[.string ⟨(uO s).toArray⟩, .int .i64 (uE s)]) ∧ Below w.heap.size w w' := by
  have hmk : ∀ u : World, (Instr.makeSlice 110 (.int .i64 0) (.int .i64 ((s.length : Int) / 4 * 3 + 3))).run Tryz.prog u = .ok (.slice (some ⟨u.heap.size, 0, none⟩) 0 (s.length / 4 * 3 + 3)) (u.alloc (.cells (zc .u8 (s.length / 4 * 3 + 3)) 5)) := fun u => by
    rw [make8 _ _ (by omega) (by omega) (by omega), show ((s.length : Int) / 4 * 3 + 3).toNat = s.length / 4 * 3 + 3 by omega]; rfl
  have hO0 := ownB_madeL w (s.length / 4 * 3 + 3) (by omega)
  go_enter Tryz.func60, Tryz.ntmps60
  by_cases h1 : s.length % 4 = 1
  · have h1' : (((s.length : Int) % 4) == 1) = true := by rw [beq_iff_eq]; omega
    have hno : (allB s && okN s) = false := by rw [okN_one s h1, Bool.and_false]
    have HNO := hide hno
    clear hno h1
    go_wp2
    go_ret2
    exact ⟨ret_tup (by rw [uO_no s (unhide HNO)]) (uE_no s (unhide HNO)).symm, Below.refl _ _⟩
  · have h1' : (((s.length : Int) % 4) == 1) = false := by rw [beq_eq_false_iff_ne]; omega
    have H1 := hide h1
    clear h1
    go_wp2
    go_loopg [4, 5, 6, 22] s.length (fun q v h c i wr => ∃ k p : Nat, k + q = s.length ∧ i = .int .i64 k ∧ 8 * p ≤ 6 * k ∧ 6 * k < 8 * p + 8 ∧ c = .int .i64 ((6 * k - 8 * p : Nat) : Int) ∧ h = .int .u32 ((nbu 6 (fs s) k % 4294967296 : Nat) : Int) ∧ OwnB wr w.heap.size v (uN s p) ∧ allS s k ∧ Below w.heap.size w wr)
    case atStart => exact ⟨0, 0, by omega, rfl, by omega, by omega, rfl, rfl, hO0, fun j hj => by omega, (Below.refl _ _).alloc (Nat.le_refl _) _⟩
    case round =>
      clear hO0 hmk
      obtain ⟨k, p, hk, rfl, hp1, hp2, rfl, rfl, hO, hA, hB⟩ := hrel
      generalize hc : 6 * k - 8 * p = c
      have hc6 : c < 8 := by omega
      have HC := hide hc
      clear hc
      generalize hh : nbu 6 (fs s) k % 4294967296 = h
      have HH := hide hh
      have hhl : h < 4294967296 := by omega
      have HHL := hide hhl
      have HA := hide hA
      clear hh hhl hA
      have hsz := hB.size
      by_cases hlt : k < s.length
      · have hlk : k < (ByteArray.mk s.toArray).size := by simpa [ByteArray.size] using hlt
        have hbl := by_lt s k
        cases hok : sgo (by_ s k)
        · have HOK := hide hok
          clear hok
          go_wp2_with fail
          rw [by_get ⟨s.toArray⟩ k hlk, show (ByteArray.mk s.toArray).data.toList = s from rfl]
          refine (six_any (by_ s k) _ hbl).mono ?_
          rintro e w' ⟨rfl, rfl⟩
          rw [unhide HOK]
          go_wp2
          go_ret2
          have hno : (allB s && okN s) = false := by rw [allB_no s k hlt (unhide HOK), Bool.false_and]
          exact ⟨ret_tup (by rw [uO_no s hno]) (uE_no s hno).symm, hB⟩
        · have HOK := hide hok
          clear hok
          go_wp2_with fail
          rw [by_get ⟨s.toArray⟩ k hlk, show (ByteArray.mk s.toArray).data.toList = s from rfl]
          refine (six_any (by_ s k) _ hbl).mono ?_
          rintro e w' ⟨rfl, rfl⟩
          rw [unhide HOK]
          have hsg : sgv (by_ s k) < 64 := fs_lt s k
          have hH := held6 h (sgv (by_ s k)) (unhide HHL) hsg
          have hN : nbu 6 (fs s) (k + 1) % 4294967296 = (64 * h + sgv (by_ s k)) % 4294967296 := by
            have := unhide HH
            rw [nbu, ← this]; show (2 ^ 6 * nbu 6 (fs s) k + sgv (by_ s k)) % 4294967296 = _; omega
          generalize (64 * h + sgv (by_ s k)) % 4294967296 = H at hH hN
          have HN := hide hN
          clear hN
          by_cases h8 : 2 ≤ c
          · have hem := emit8 H (nbu 6 (fs s) (k + 1)) (c - 2) (unhide HN) (by omega)
            have hcc := unhide HC
            rw [show c - 2 = 6 * (k + 1) - 8 * p - 8 by omega, ← uv_full s p (k + 1) (by omega) (by omega), show 6 * (k + 1) - 8 * p - 8 = c - 2 by omega] at hem
            have HEM := hide hem
            clear hem hcc
            go_wp2_with (at_builtin; refine app110L rfl _ _ rfl w.heap.size _ _ (uv s p) rfl (hO.alloc _) _ rfl (by rw [← unhide HEM]; exact cell_new _ _ _) (by rw [uN_length]; omega) (by simp; omega) ?_; intro v' w1 hO1 hg1)
            go_roundg (gk - 1)
            case measure => omega
            case rel =>
              rw [uN_succ] at hO1
              have hcc := unhide HC
              refine ⟨k + 1, p + 1, by omega, by go_num, by omega, by omega, congrArg (Value.int .i64) (by omega), by rw [unhide HN], hO1, fun j hj => ?_, below_grown (hB.alloc hsz _) hg1 (by simp; omega) (fun k hk => by have := OwnB.lt hO k hk; simp; omega) (Nat.le_refl _)⟩
              by_cases e : j = k
              · subst e; exact unhide HOK
              · exact unhide HA j (by omega)
          · have h8' : ¬ (8 : Int) ≤ (c : Int) + 6 := by omega
            go_wp2
            go_roundg (gk - 1)
            case measure => omega
            case rel =>
              have hcc := unhide HC
              refine ⟨k + 1, p, by omega, by go_num, by omega, by omega, congrArg (Value.int .i64) (by omega), by rw [unhide HN], hO, fun j hj => ?_, hB⟩
              by_cases e : j = k
              · subst e; exact unhide HOK
              · exact unhide HA j (by omega)
      · obtain rfl : k = s.length := by omega
        have hcv := conv_own hO
        have hcc := unhide HC
        have hcr : 6 * s.length % 8 = c := by omega
        have hpq : 6 * s.length / 8 = p := by omega
        have hmk := maskC h c (unhide HHL) hc6
        have hml := mod_low (nbu 6 (fs s) s.length) c hc6
        rw [unhide HH] at hml
        have hall := allB_yes s (unhide HA)
        have hok : okN s = decide (h % 2 ^ c = 0) := by
          unfold okN
          rw [hcr, ← hml, decide_eq_decide]
          exact ⟨fun h => h.2, fun h => ⟨unhide H1, h⟩⟩
        have HFIN : Hid (okN s = decide (h % 2 ^ c = 0) ∧ allB s = true ∧ outL s = (uN s p).map UInt8.ofNat) := ⟨hok, hall, by unfold outL; rw [hpq]⟩
        clear hcc hcr hpq hml hall hok
        generalize h % 2 ^ c = m at hmk HFIN
        by_cases hm : m = 0
        · have hm' : ((m : Int) != 0) = false := by rw [hm]; rfl
          have HM := hide hm
          clear hm
          go_wp2
          go_ret2
          have hyes : (allB s && okN s) = true := by rw [HFIN.out.2.1, HFIN.out.1, unhide HM]; rfl
          exact ⟨ret_tup (by rw [uO_yes s hyes, HFIN.out.2.2]) (uE_yes s hyes).symm, hB⟩
        · have hm' : ((m : Int) != 0) = true := by rw [bne_iff_ne]; omega
          have HM := hide hm
          clear hm
          go_wp2
          go_ret2
          have hno : (allB s && okN s) = false := by rw [HFIN.out.2.1, HFIN.out.1, decide_eq_false (unhide HM)]; rfl
          exact ⟨ret_tup (by rw [uO_no s hno]) (uE_no s hno).symm, hB⟩
theorem Unpack3_any (s : List UInt8) (w : World) (hl : s.length ≤ 187649984468310) :
    Calls Tryz.prog 17 #[.string ⟨s.toArray⟩] w fun e w' => e = .returned (.tuple #[.string ⟨(uO s).toArray⟩, .int .i64 (uE s)]) ∧ Below w.heap.size w w' := by
  go_enter Tryz.func17, Tryz.ntmps17
  go_wp2_with fail
  refine (unpackP3_any s _ hl).mono ?_
  rintro e w1 ⟨rfl, hb1⟩
  go_wp2
  go_ret2
  exact ⟨rfl, hb1⟩
end Go.Proofs.YtkmkkmdpjliifaaGreatDoor
namespace Go.Proofs.YtkmkkmdpjliifaaGreatDoor
open Go.ChangeShapes Go.WideShapes Go.ChangeAt Go.RowKit

set_option maxRecDepth 20000 in
set_option maxHeartbeats 4000000 in
theorem Mirrors3_any (bytes text : List UInt8) (id subject : Int) (v2 v3 v4 : Value) (l2 l3 l4 : List Int) (expiry : Int) (w : World) (hT : TT w.heap.size w) (hy : bytes.length ≤ 140737488351232) (ht : text.length ≤ 140737488351232) (hi : -9223372036854775808 ≤ id ∧ id ≤ 9223372036854775807) (hsj : -9223372036854775808 ≤ subject ∧ subject ≤ 9223372036854775807) (he : -9223372036854775808 ≤ expiry ∧ expiry ≤ 9223372036854775807)
    (n2 : l2.length ≤ 17592186044416) (n3 : l3.length ≤ 17592186044416) (n4 : l4.length ≤ 17592186044416) (k2 : LsI w w.heap.size v2 l2) (k3 : LsI w w.heap.size v3 l3) (k4 : LsI w w.heap.size v4 l4) :
    Calls Tryz.prog 4 #[.string ⟨bytes.toArray⟩, .string ⟨text.toArray⟩, .int .i64 id, .int .i64 subject, v2, v3, v4, .int .i64 expiry] w fun e w' => e = .returned (.bool true) ∧ Below w.heap.size w w' := by
  have HT := hide hT
  have HCl := hide (fun (u : World) (hu : Below w.heap.size w u) => claimsK_any id subject v2 v3 v4 l2 l3 l4 expiry u w.heap.size hu.size hi hsj he n2 n3 n4 (k2.below hu) (k3.below hu) (k4.below hu))
  obtain ⟨a2, c2, rfl, x2⟩ := k2
  obtain ⟨a3, c3, rfl, x3⟩ := k3
  obtain ⟨a4, c4, rfl, x4⟩ := k4
  have HY := hide (And.intro hy ht)
  have HRt := hide (rawC_right id subject l2 l3 l4 expiry)
  clear hT x2 x3 x4 n2 n3 n4 hi hsj he hy ht
  generalize rawC id subject l2 l3 l4 expiry = cr at *
  go_enter Tryz.func4, Tryz.ntmps4
  go_wp2_with fail
  refine (known_any w (unhide HT)).mono ?_
  rintro e w1 ⟨rfl, hb1⟩
  have hs1 := hb1.size
  go_wp2_with fail
  refine (Pack3_any bytes w1 (Nat.le_trans (unhide HY).1 (by decide))).mono ?_
  rintro e w2 ⟨rfl, hb2⟩
  have hs2 := hb2.size
  have hpl : (packL bytes).length ≤ 187649984468310 := by rw [packL_length]; have := (unhide HY).1; omega
  have HUp := hide (Unpack3_any (packL bytes) w2 hpl)
  rw [uO_pack, uE_pack] at HUp
  generalize packL bytes = pb at *
  clear hpl
  go_wp2_with fail
  refine (unhide HUp).mono ?_
  rintro e w3 ⟨rfl, hb3⟩
  have hs3 := hb3.size
  go_wp2_with fail
  refine (Unpack3_any text w3 (Nat.le_trans (unhide HY).2 (by decide))).mono ?_
  rintro e w4 ⟨rfl, hb4⟩
  have hs4 := hb4.size
  have hB4 := ((hb1.trans (hb2.mono hs1)).trans (hb3.mono (by omega))).trans (hb4.mono (by omega))
  have HB4 := hide hB4
  clear hb1 hb2 hb3 hb4 hB4 HUp
  have hbb : (bytes == bytes) = true := by simp
  have htt : (text == text) = true := by simp
  rcases uE_cases text with h0 | ⟨h2, hO2⟩
  · have HPk := hide (Pack3_any (uO text) w4 (by have := (unhide HY).2; have := uO_len text; omega))
    rw [pack_uO h0] at HPk
    rw [h0]
    clear h0
    generalize uO text = ut at *
    go_wp2_with (go_at_call 16; refine (unhide HPk).mono ?_; rintro e w5 ⟨rfl, hb5⟩)
    have HBW := hide ((unhide HB4).trans (hb5.mono (by have := (unhide HB4).size; omega)))
    clear hb5 HPk
    refine (unhide HCl w5 (unhide HBW)).mono ?_
    rintro e x1 ⟨p1, rfl, hN1, hc1⟩
    have hsx1 := hc1.size
    have hsW := (unhide HBW).size
    have hB1 := (unhide HBW).trans (hc1.mono hsW)
    obtain ⟨x2, hx2⟩ : ∃ x2, x2 = x1.alloc (.cells #[.int .i64 cr.z.id, .string ⟨cr.z.sub.toArray⟩, .slice p1.a2 cr.z.scp.length p1.c2, .slice p1.a3 cr.z.aud.length p1.c3, .slice p1.a4 cr.z.act.length p1.c4, .int .i64 cr.z.exp] 60) := ⟨_, rfl⟩
    have hb12 : Below x1.heap.size x1 x2 := by rw [hx2]; exact (Below.refl _ _).alloc (Nat.le_refl _) _
    have hs2x : x2.heap.size = x1.heap.size + 1 := by rw [hx2]; simp
    have hR2 : Row x2 x1.heap.size 60 6 (czF cr.z p1) := by rw [hx2]; exact Row.new x1 60 _ _ 6 rfl (six rfl rfl rfl rfl rfl rfl)
    have hL1 : CzL x1 x1.heap.size cr.z p1 := hN1.l (fun k hk => hk.2)
    have hL2 := hL1.below hb12
    have hB2 := hB1.trans (hb12.mono (by omega))
    have hPr := PrintM_any cr.z p1 x2 x1.heap.size (by omega) (right_czs (unhide HRt)) hL2 ((unhide HT).below hB2).ut (PT.up ((unhide HT).below hB2).pt (by omega))
    unfold czA at hPr
    have HPr := hide hPr
    have HX2 := hide hx2
    have HR2 := hide hR2
    have HL2 := hide hL2
    have HB2 := hide hB2
    have r0 : x2.cell? ⟨x1.heap.size, 0, none⟩ = some (.int .i64 cr.z.id) := hR2.cell (by decide)
    have r1 : x2.cell? ⟨x1.heap.size, 1, none⟩ = some (.string ⟨cr.z.sub.toArray⟩) := hR2.cell (by decide)
    have r2 : x2.cell? ⟨x1.heap.size, 2, none⟩ = some (.slice p1.a2 cr.z.scp.length p1.c2) := hR2.cell (by decide)
    have r3 : x2.cell? ⟨x1.heap.size, 3, none⟩ = some (.slice p1.a3 cr.z.aud.length p1.c3) := hR2.cell (by decide)
    have r4 : x2.cell? ⟨x1.heap.size, 4, none⟩ = some (.slice p1.a4 cr.z.act.length p1.c4) := hR2.cell (by decide)
    have r5 : x2.cell? ⟨x1.heap.size, 5, none⟩ = some (.int .i64 cr.z.exp) := hR2.cell (by decide)
    clear hPr hx2 hR2 hL2 hL1 hN1 hc1 hb12 hB1 hB2 HCl
    unfold czA
    go_wp2_with fail
    rw [← unhide HX2]
    refine (unhide HPr).mono ?_
    rintro e x3 ⟨hp3, hb3⟩
    obtain rfl := hp3.right (unhide HRt)
    have hs3x := hb3.size
    have hB3 := (unhide HB2).trans (hb3.mono (by omega))
    have HPs := hide (parse_plain (unhide HRt))
    generalize plainS cr = T at *
    have HR3 := hide ((unhide HR2).below hb3 (by omega))
    have HL3 := hide ((unhide HL2).below (hb3.mono (by omega)))
    have HPa := hide (ParseM_any T x3 ((unhide HT).below hB3).ut)
    have HB3 := hide hB3
    clear HPr HX2 HR2 HL2 HB2 hp3 hb3 hB3 r0 r1 r2 r3 r4 r5
    go_wp2_with fail
    refine (unhide HPa).mono ?_
    rintro e x4 ⟨c, p, k, rfl, h3, hcs, hb4, hres⟩
    rw [unhide HPs] at hres
    have hkc : k = 0 ∧ c = cr := by
      rcases hres with ⟨h1, h2⟩ | ⟨_, h2, _⟩
      · exact ⟨h1, (Option.some.inj h2).symm⟩
      · cases h2
    obtain ⟨rfl, rfl⟩ := hkc
    have hs4x := hb4.size
    have hB4 := (unhide HB3).trans (hb4.mono (by omega))
    obtain ⟨x5, hx5⟩ : ∃ x5, x5 = x4.alloc (.cells #[.int .i64 c.z.id, .string ⟨c.z.sub.toArray⟩, .slice p.a2 c.z.scp.length p.c2, .slice p.a3 c.z.aud.length p.c3, .slice p.a4 c.z.act.length p.c4, .int .i64 c.z.exp] 60) := ⟨_, rfl⟩
    have hb45 : Below x4.heap.size x4 x5 := by rw [hx5]; exact (Below.refl _ _).alloc (Nat.le_refl _) _
    have hs5x : x5.heap.size = x4.heap.size + 1 := by rw [hx5]; simp
    have hR5 : Row x5 x4.heap.size 60 6 (czF c.z p) := by rw [hx5]; exact Row.new x4 60 _ _ 6 rfl (six rfl rfl rfl rfl rfl rfl)
    have hR34 := (unhide HR3).below hb4 (by omega)
    have hLa : CzL x5 x4.heap.size c.z p1 := ((((unhide HL3).below (hb4.mono (by omega))).below (hb45.mono (by omega))).up (by omega))
    have hLb : CzL x5 x4.heap.size c.z p := (h3.czl).below hb45
    have hAl := alike_any c.z c.z p1 p x5 x4.heap.size (by omega) hcs hLa hLb
    rw [(sameZ_iff _ _).2 rfl] at hAl
    unfold czA at hAl
    have HAl := hide hAl
    have HX5 := hide hx5
    have HB5 := hide (hB4.trans (hb45.mono (by omega)))
    have s0 : ∀ o, (x4.alloc o).cell? ⟨x1.heap.size, 0, none⟩ = some (.int .i64 c.z.id) := fun o => (hR34.alloc o).cell (by decide)
    have s1 : ∀ o, (x4.alloc o).cell? ⟨x1.heap.size, 1, none⟩ = some (.string ⟨c.z.sub.toArray⟩) := fun o => (hR34.alloc o).cell (by decide)
    have s2 : ∀ o, (x4.alloc o).cell? ⟨x1.heap.size, 2, none⟩ = some (.slice p1.a2 c.z.scp.length p1.c2) := fun o => (hR34.alloc o).cell (by decide)
    have s3 : ∀ o, (x4.alloc o).cell? ⟨x1.heap.size, 3, none⟩ = some (.slice p1.a3 c.z.aud.length p1.c3) := fun o => (hR34.alloc o).cell (by decide)
    have s4 : ∀ o, (x4.alloc o).cell? ⟨x1.heap.size, 4, none⟩ = some (.slice p1.a4 c.z.act.length p1.c4) := fun o => (hR34.alloc o).cell (by decide)
    have s5 : ∀ o, (x4.alloc o).cell? ⟨x1.heap.size, 5, none⟩ = some (.int .i64 c.z.exp) := fun o => (hR34.alloc o).cell (by decide)
    clear hAl hx5 hb45 hR5 hR34 hLa hLb hB4 hb4 h3 hcs hres HR3 HL3 HB3 HPa
    unfold czA
    go_wp2_with fail
    rw [← unhide HX5]
    refine (unhide HAl).mono ?_
    rintro e x6 ⟨rfl, hb6⟩
    have HB6 := hide ((unhide HB5).trans (hb6.mono (by omega)))
    clear hb6 HAl HX5 HB5
    go_wp2_with fail
    go_ret
    exact ⟨rfl, unhide HB6⟩
  · rw [h2, hO2]
    clear h2 hO2
    go_wp2_with fail
    have HBW := hide (unhide HB4)
    refine (unhide HCl w4 (unhide HBW)).mono ?_
    rintro e x1 ⟨p1, rfl, hN1, hc1⟩
    have hsx1 := hc1.size
    have hsW := (unhide HBW).size
    have hB1 := (unhide HBW).trans (hc1.mono hsW)
    obtain ⟨x2, hx2⟩ : ∃ x2, x2 = x1.alloc (.cells #[.int .i64 cr.z.id, .string ⟨cr.z.sub.toArray⟩, .slice p1.a2 cr.z.scp.length p1.c2, .slice p1.a3 cr.z.aud.length p1.c3, .slice p1.a4 cr.z.act.length p1.c4, .int .i64 cr.z.exp] 60) := ⟨_, rfl⟩
    have hb12 : Below x1.heap.size x1 x2 := by rw [hx2]; exact (Below.refl _ _).alloc (Nat.le_refl _) _
    have hs2x : x2.heap.size = x1.heap.size + 1 := by rw [hx2]; simp
    have hR2 : Row x2 x1.heap.size 60 6 (czF cr.z p1) := by rw [hx2]; exact Row.new x1 60 _ _ 6 rfl (six rfl rfl rfl rfl rfl rfl)
    have hL1 : CzL x1 x1.heap.size cr.z p1 := hN1.l (fun k hk => hk.2)
    have hL2 := hL1.below hb12
    have hB2 := hB1.trans (hb12.mono (by omega))
    have hPr := PrintM_any cr.z p1 x2 x1.heap.size (by omega) (right_czs (unhide HRt)) hL2 ((unhide HT).below hB2).ut (PT.up ((unhide HT).below hB2).pt (by omega))
    unfold czA at hPr
    have HPr := hide hPr
    have HX2 := hide hx2
    have HR2 := hide hR2
    have HL2 := hide hL2
    have HB2 := hide hB2
    have r0 : x2.cell? ⟨x1.heap.size, 0, none⟩ = some (.int .i64 cr.z.id) := hR2.cell (by decide)
    have r1 : x2.cell? ⟨x1.heap.size, 1, none⟩ = some (.string ⟨cr.z.sub.toArray⟩) := hR2.cell (by decide)
    have r2 : x2.cell? ⟨x1.heap.size, 2, none⟩ = some (.slice p1.a2 cr.z.scp.length p1.c2) := hR2.cell (by decide)
    have r3 : x2.cell? ⟨x1.heap.size, 3, none⟩ = some (.slice p1.a3 cr.z.aud.length p1.c3) := hR2.cell (by decide)
    have r4 : x2.cell? ⟨x1.heap.size, 4, none⟩ = some (.slice p1.a4 cr.z.act.length p1.c4) := hR2.cell (by decide)
    have r5 : x2.cell? ⟨x1.heap.size, 5, none⟩ = some (.int .i64 cr.z.exp) := hR2.cell (by decide)
    clear hPr hx2 hR2 hL2 hL1 hN1 hc1 hb12 hB1 hB2 HCl
    unfold czA
    go_wp2_with fail
    rw [← unhide HX2]
    refine (unhide HPr).mono ?_
    rintro e x3 ⟨hp3, hb3⟩
    obtain rfl := hp3.right (unhide HRt)
    have hs3x := hb3.size
    have hB3 := (unhide HB2).trans (hb3.mono (by omega))
    have HPs := hide (parse_plain (unhide HRt))
    generalize plainS cr = T at *
    have HR3 := hide ((unhide HR2).below hb3 (by omega))
    have HL3 := hide ((unhide HL2).below (hb3.mono (by omega)))
    have HPa := hide (ParseM_any T x3 ((unhide HT).below hB3).ut)
    have HB3 := hide hB3
    clear HPr HX2 HR2 HL2 HB2 hp3 hb3 hB3 r0 r1 r2 r3 r4 r5
    go_wp2_with fail
    refine (unhide HPa).mono ?_
    rintro e x4 ⟨c, p, k, rfl, h3, hcs, hb4, hres⟩
    rw [unhide HPs] at hres
    have hkc : k = 0 ∧ c = cr := by
      rcases hres with ⟨h1, h2⟩ | ⟨_, h2, _⟩
      · exact ⟨h1, (Option.some.inj h2).symm⟩
      · cases h2
    obtain ⟨rfl, rfl⟩ := hkc
    have hs4x := hb4.size
    have hB4 := (unhide HB3).trans (hb4.mono (by omega))
    obtain ⟨x5, hx5⟩ : ∃ x5, x5 = x4.alloc (.cells #[.int .i64 c.z.id, .string ⟨c.z.sub.toArray⟩, .slice p.a2 c.z.scp.length p.c2, .slice p.a3 c.z.aud.length p.c3, .slice p.a4 c.z.act.length p.c4, .int .i64 c.z.exp] 60) := ⟨_, rfl⟩
    have hb45 : Below x4.heap.size x4 x5 := by rw [hx5]; exact (Below.refl _ _).alloc (Nat.le_refl _) _
    have hs5x : x5.heap.size = x4.heap.size + 1 := by rw [hx5]; simp
    have hR5 : Row x5 x4.heap.size 60 6 (czF c.z p) := by rw [hx5]; exact Row.new x4 60 _ _ 6 rfl (six rfl rfl rfl rfl rfl rfl)
    have hR34 := (unhide HR3).below hb4 (by omega)
    have hLa : CzL x5 x4.heap.size c.z p1 := ((((unhide HL3).below (hb4.mono (by omega))).below (hb45.mono (by omega))).up (by omega))
    have hLb : CzL x5 x4.heap.size c.z p := (h3.czl).below hb45
    have hAl := alike_any c.z c.z p1 p x5 x4.heap.size (by omega) hcs hLa hLb
    rw [(sameZ_iff _ _).2 rfl] at hAl
    unfold czA at hAl
    have HAl := hide hAl
    have HX5 := hide hx5
    have HB5 := hide (hB4.trans (hb45.mono (by omega)))
    have s0 : ∀ o, (x4.alloc o).cell? ⟨x1.heap.size, 0, none⟩ = some (.int .i64 c.z.id) := fun o => (hR34.alloc o).cell (by decide)
    have s1 : ∀ o, (x4.alloc o).cell? ⟨x1.heap.size, 1, none⟩ = some (.string ⟨c.z.sub.toArray⟩) := fun o => (hR34.alloc o).cell (by decide)
    have s2 : ∀ o, (x4.alloc o).cell? ⟨x1.heap.size, 2, none⟩ = some (.slice p1.a2 c.z.scp.length p1.c2) := fun o => (hR34.alloc o).cell (by decide)
    have s3 : ∀ o, (x4.alloc o).cell? ⟨x1.heap.size, 3, none⟩ = some (.slice p1.a3 c.z.aud.length p1.c3) := fun o => (hR34.alloc o).cell (by decide)
    have s4 : ∀ o, (x4.alloc o).cell? ⟨x1.heap.size, 4, none⟩ = some (.slice p1.a4 c.z.act.length p1.c4) := fun o => (hR34.alloc o).cell (by decide)
    have s5 : ∀ o, (x4.alloc o).cell? ⟨x1.heap.size, 5, none⟩ = some (.int .i64 c.z.exp) := fun o => (hR34.alloc o).cell (by decide)
    clear hAl hx5 hb45 hR5 hR34 hLa hLb hB4 hb4 h3 hcs hres HR3 HL3 HB3 HPa
    unfold czA
    go_wp2_with fail
    rw [← unhide HX5]
    refine (unhide HAl).mono ?_
    rintro e x6 ⟨rfl, hb6⟩
    have HB6 := hide ((unhide HB5).trans (hb6.mono (by omega)))
    clear hb6 HAl HX5 HB5
    go_wp2_with fail
    go_ret
    exact ⟨rfl, unhide HB6⟩
end Go.Proofs.YtkmkkmdpjliifaaGreatDoor
