import Derived.Test.YtkmkkmdpjliifaaGreatDoorJzD
import Derived.Test.YtkmkkmdpjliifaaGreatDoorSw
import Derived.Test.YtkmkkmdpjliifaaGreatDoorSvD
import Derived.Test.YtkmkkmdpjliifaaGreatDoorNxE
namespace Go.Proofs.YtkmkkmdpjliifaaGreatDoor
open Go.ChangeShapes Go.WideShapes Go.ChangeAt Go.RowKit

/-- what the reading of a code point comes to -/
def RunR (g : Nat) (T : List UInt8) (o : Option (Nat × List UInt8)) (w : World) (e : Ending) (w' : World) : Prop :=
  ∃ (x : Nat) (ok : Bool) (b : Nat), e = .returned (.tuple #[.int .i32 (x : Nat), .bool ok]) ∧ x < 1114112 ∧ b ≤ T.length ∧ Sc w' g T b ∧ But g w w' ∧ ((ok = true ∧ o = some (x, T.drop b)) ∨ (ok = false ∧ o = none))
theorem hexG_short : ∀ (n a : Nat) (l : List UInt8), l.length < n → hexG n a l = none := by
  intro n a l h
  cases hh : hexG n a l with
  | none => rfl
  | some r => have := (hexG_len (p := r.1) (t := r.2) hh).1; omega

theorem or4 (p x : Nat) (hp : p < 4096) (hx : x < 16) : bits .or .i32 ((p : Int) * 16) (x : Int) = ((16 * p + x : Nat) : Int) := by
  rw [bits_join .i32 31 (by decide) wraps_i32 4 ((p : Int) * 16) (x : Int) (by omega) (by omega) (by omega) (by omega) (by omega) (by omega)]
  omega
theorem hexp {p x e : Nat} (h : p < e) (hx : x < 16) : 16 * p + x < e * 16 := by omega
set_option maxRecDepth 20000 in
set_option maxHeartbeats 1000000 in
theorem four_any (g : Nat) (T : List UInt8) (a : Nat) (w : World) (hT : T.length ≤ 1048576) (ha : a ≤ T.length) (hR : Sc w g T a) :
    Calls Tryz.prog 248 #[.pointer (some ⟨g, 0, none⟩)] w (RunR g T (hex4 (T.drop a)) w) := by
  have HT := hide hT
  clear hT
  have hc0 := hR.c0
  have hc1 := hR.c1
  have hw0 : wrap64 ((T.length : Int) - (a : Int)) = (T.length : Int) - (a : Int) := w64 _ (by omega) (by have := unhide HT; omega)
  by_cases h4 : T.length - a < 4
  · have d1 : decide ((T.length : Int) - (a : Int) < 4) = true := decide_eq_true (by omega)
    have HN : Hid (hex4 (T.drop a) = none) := hide (hexG_short 4 0 _ (by rw [List.length_drop]; omega))
    clear h4
    go_enter Tryz.func248, Tryz.ntmps248
    go_wp2_with fail
    go_quiet (fail)
    go_wp2_with fail
    go_ret2
    exact ⟨0, false, a, rfl, by decide, ha, hR.drewN _, (But.refl _ _).drewN _, Or.inr ⟨rfl, unhide HN⟩⟩
  · have d1 : decide ((T.length : Int) - (a : Int) < 4) = false := decide_eq_false (by omega)
    have ha4 : a + 4 ≤ T.length := by omega
    clear h4
    go_enter Tryz.func248, Tryz.ntmps248
    go_wp2_with fail
    go_quiet (fail)
    go_wp2_with fail
    clear hc0 hc1 d1 hw0
    go_loopg [4, 18] 4 (fun q r i wr => ∃ (k p b : Nat), k + q = 4 ∧ b = a + k ∧ i = .int .i64 (k : Nat) ∧ r = .int .i32 (p : Nat) ∧ p < 16 ^ k ∧ Sc wr g T b ∧ hexG 4 0 (T.drop a) = hexG q p (T.drop b) ∧ But g w wr)
    case atStart => exact ⟨0, 0, a, rfl, rfl, rfl, rfl, by decide, hR.drewN _, rfl, (But.refl _ _).drewN _⟩
    case round =>
      clear hR
      obtain ⟨k, p, b, hk, hbk, rfl, rfl, hp, hR, hI, hB⟩ := hrel
      have HI := hide hI
      have HPK := hide hp
      clear hI hp
      by_cases hlt : k < 4
      · have hp16 : p < 4096 := Nat.lt_of_lt_of_le (unhide HPK) (Nat.le_trans (Nat.pow_le_pow_right (n := 16) (j := 3) (by decide) (Nat.le_of_lt_succ hlt)) (by decide))
        have hal : b < T.length := by omega
        have hc0 := hR.c0
        have hc1 := hR.c1
        have hf := hR.frozen 1
        have hix := ix_any T b hal
        have hbl : ((b : Nat) : Int) < (T.length : Int) := by omega
        have hby : by_ T b = (T.getD b 0).toNat := rfl
        rw [hby] at hix
        have hdc := drop_cons hal
        generalize T.getD b 0 = c at *
        have hw : wrap64 (((b : Nat) : Int) + 1) = ((b : Nat) : Int) + 1 := w64 _ (by omega) (by have := unhide HT; omega)
        have hwk : wrap64 ((k : Int) + 1) = (k : Int) + 1 := w64 _ (by omega) (by omega)
        have HC := hide (fun w => hexValue_any c w)
        have HD := hide hdc
        obtain ⟨m, rfl⟩ : ∃ m, gk = m + 1 := ⟨gk - 1, by omega⟩
        have HBK := hide hbk
        clear hdc hbk
        cases hb : hexN c with
        | none =>
          rw [hb] at HC
          have HN : Hid (hex4 (T.drop a) = none) := by unfold hex4 Hid; rw [unhide HI, unhide HD, hexG, hb]
          clear hb
          go_wp2_with fail
          go_quiet (first | (go_at_call 256; exact Calls.quiet_of_same (unhide HC _)))
          go_wp2_with fail
          go_ret2
          exact ⟨0, false, b, rfl, by decide, by omega, hR.drewN _, hB.drewN _, Or.inr ⟨rfl, unhide HN⟩⟩
        | some x =>
          have hx := hexN_lt hb
          rw [hb] at HC
          simp only [Option.getD, Option.isSome] at HC
          have HN : Hid (hexG 4 0 (T.drop a) = hexG m (16 * p + x) (T.drop (b + 1))) := by unfold Hid; rw [unhide HI, unhide HD, hexG, hb]
          clear hb
          go_wp2_with fail
          go_quiet (first | (go_at_call 256; exact Calls.quiet_of_same (unhide HC _)))
          go_wp2_with fail
          go_roundg m
          case measure => omega
          case rel =>
            refine ⟨k + 1, 16 * p + x, b + 1, by omega, by have := unhide HBK; omega, by first | exact num1 hwk | rfl, ?_, by rw [Nat.pow_succ]; exact hexp (unhide HPK) hx, (hR.drewN _).set1 (b + 1) _ (by first | exact hw | (rw [hw]; omega) | rfl), unhide HN, (hB.drewN _).setCell _ _⟩
            exact congrArg (Value.int .i32) (or4 p x hp16 hx)
      · have h0 : gk = 0 := by omega
        subst h0
        have hk4 : k = 4 := by omega
        subst hk4
        go_wp2_with fail
        go_ret2
        exact ⟨p, true, b, rfl, Nat.lt_trans (unhide HPK) (by decide), by omega, hR, hB, Or.inl ⟨rfl, unhide HI⟩⟩

theorem RunR.drewN {g : Nat} {T : List UInt8} {o : Option (Nat × List UInt8)} {w : World} {n : Nat} {e : Ending} {w' : World} (h : RunR g T o (w.drewN n) e w') : RunR g T o w e w' := by
  obtain ⟨x, ok, b, h1, h2, h3, h4, h5, h6⟩ := h
  exact ⟨x, ok, b, h1, h2, h3, h4, ⟨h5.os, h5.tape, h5.output, h5.size, h5.block⟩, h6⟩
theorem halfS_some {p q : Nat} {l t : List UInt8} (h : l.take 2 = [92, 117]) (h5 : hex4 (l.drop 2) = some (q, t)) : halfS p l = if 56320 ≤ q ∧ q < 57344 then some (65536 + (p - 55296) * 1024 + (q - 56320), t) else none := by
  unfold halfS
  rw [if_pos h, h5]
theorem halfS_none {p : Nat} {l : List UInt8} (h : l.take 2 = [92, 117]) (h5 : hex4 (l.drop 2) = none) : halfS p l = none := by
  unfold halfS
  rw [if_pos h, h5]
theorem prefix_u (l : List UInt8) : Lib.hasPrefix l [92, 117] = decide (l.take 2 = [92, 117]) := by
  unfold Lib.hasPrefix
  rw [Bool.eq_iff_iff, List.isPrefixOf_iff_prefix, decide_eq_true_iff, List.prefix_iff_eq_take]
  exact eq_comm

set_option maxRecDepth 20000 in
set_option maxHeartbeats 1000000 in
theorem point_any (g : Nat) (T : List UInt8) (a : Nat) (w : World) (hT : T.length ≤ 1048576) (ha : a ≤ T.length) (hR : Sc w g T a) :
    Calls Tryz.prog 243 #[.pointer (some ⟨g, 0, none⟩)] w (RunR g T (pointS (T.drop a)) w) := by
  have HT := hide hT
  have HF := hide (four_any g T a w hT ha hR)
  clear hT hR
  go_enter Tryz.func243, Tryz.ntmps243
  go_wp2_with fail
  refine (unhide HF).mono ?_
  rintro e w1 ⟨p, ok, b, rfl, hp, hb, hR1, hB1, hO⟩
  rcases hO with ⟨rfl, h4⟩ | ⟨rfl, h4⟩
  · have hp2 := (hex4_len h4).2
    have HPS : Hid (pointS (T.drop a) = if p < 55296 ∨ 57344 ≤ p then some (p, T.drop b) else if 56320 ≤ p then none else halfS p (T.drop b)) := by unfold pointS Hid; rw [h4]
    clear h4
    by_cases c1 : 56320 ≤ p ∧ p < 57344
    · have hS := isSecond_any p w1
      rw [decide_eq_true c1] at hS
      have HSd := hide hS
      clear hS
      go_wp2_with (go_at_call 249; refine (unhide HSd).mono ?_; rintro e w2 ⟨rfl, rfl⟩)
      go_ret2
      exact ⟨0, false, b, rfl, by decide, hb, hR1, hB1, Or.inr ⟨rfl, by rw [unhide HPS, if_neg (by omega), if_pos c1.1]⟩⟩
    · have hS := isSecond_any p w1
      rw [decide_eq_false c1] at hS
      have HSd := hide hS
      clear hS
      by_cases c2 : 55296 ≤ p ∧ p < 56320
      · have hS := isFirst_any p w1
        rw [decide_eq_true c2] at hS
        have HFd := hide hS
        have HPS2 : Hid (pointS (T.drop a) = halfS p (T.drop b)) := by unfold Hid; rw [unhide HPS, if_neg (by omega), if_neg (by omega)]
        have hc0 := hR1.c0
        have hc1 := hR1.c1
        have hdr := drop_any T b hb
        have hf := hR1.frozen 1
        have HX := hide (fun w => Tryz.hasPrefix ⟨(T.drop b).toArray⟩ ⟨#[92, 117]⟩ w)
        have hpf := prefix_u (T.drop b)
        have HC2 := hide c2
        clear hS HPS c1 c2
        rw [show Lib.hasPrefix (ByteArray.mk (T.drop b).toArray).data.toList (ByteArray.mk #[92, 117]).data.toList = decide ((T.drop b).take 2 = [92, 117]) from hpf] at HX
        clear hpf
        by_cases c3 : (T.drop b).take 2 = [92, 117]
        · rw [decide_eq_true c3] at HX
          have hb2 : b + 2 ≤ T.length := by
            have := congrArg List.length c3
            rw [List.length_take, List.length_drop] at this
            simp at this
            omega
          have hw : wrap64 ((b : Int) + 2) = (b : Int) + 2 := w64 _ (by omega) (by have := unhide HT; omega)
          have HC3 := hide c3
          clear c3
          generalize hdb : (T.drop b).toArray = DB at *
          go_wp2_with (first | (go_at_call 249; refine (unhide HSd).mono ?_; rintro e w2 ⟨rfl, rfl⟩) | (go_at_call 250; refine (unhide HFd).mono ?_; rintro e w2 ⟨rfl, rfl⟩))
          go_quiet (first | (go_at_call 251; exact Calls.quiet_of_same (unhide HX _)))
          go_wp2_with fail
          refine (four_any g T (b + 2) _ (unhide HT) hb2 ((hR1.drewN _).set1 (b + 2) _ (by first | exact hw | rfl))).mono ?_
          rintro e w3 ⟨q, ok, d, rfl, hq, hd, hR3, hB3, hO3⟩
          have hB4 := ((hB1.drewN _).setCell 1 _).trans hB3
          rcases hO3 with ⟨rfl, h5⟩ | ⟨rfl, h5⟩
          · have hq2 := (hex4_len h5).2
            have HH := hide (halfS_some (p := p) (unhide HC3) (by rw [List.drop_drop]; exact h5))
            clear h5
            by_cases c4 : 56320 ≤ q ∧ q < 57344
            · have hS4 := isSecond_any q w3
              rw [decide_eq_true c4] at hS4
              have HS4 := hide hS4
              clear hS4
              go_wp2_with (go_at_call 249; refine (unhide HS4).mono ?_; rintro e w5 ⟨rfl, rfl⟩)
              go_ret2
              have h2 := unhide HC2
              refine ⟨65536 + (p - 55296) * 1024 + (q - 56320), true, d, ?_, by omega, hd, hR3, hB4, Or.inl ⟨rfl, by rw [unhide HPS2, unhide HH, if_pos c4]⟩⟩
              refine congrArg (fun x : Int => Ending.returned (Value.tuple #[.int .i32 x, .bool true])) ?_
              omega
            · have hS4 := isSecond_any q w3
              rw [decide_eq_false c4] at hS4
              have HS4 := hide hS4
              have HC4 := hide c4
              clear hS4 c4
              go_wp2_with (go_at_call 249; refine (unhide HS4).mono ?_; rintro e w5 ⟨rfl, rfl⟩)
              go_ret2
              exact ⟨0, false, d, rfl, by decide, hd, hR3, hB4, Or.inr ⟨rfl, by rw [unhide HPS2, unhide HH, if_neg (unhide HC4)]⟩⟩
          · have HH := hide (halfS_none (p := p) (unhide HC3) (by rw [List.drop_drop]; exact h5))
            clear h5
            go_wp2_with fail
            go_ret2
            exact ⟨0, false, d, rfl, by decide, hd, hR3, hB4, Or.inr ⟨rfl, by rw [unhide HPS2, unhide HH]⟩⟩
        · rw [decide_eq_false c3] at HX
          have HH : Hid (halfS p (T.drop b) = none) := by unfold halfS Hid; rw [if_neg c3]
          clear c3
          generalize hdb : (T.drop b).toArray = DB at *
          go_wp2_with (first | (go_at_call 249; refine (unhide HSd).mono ?_; rintro e w2 ⟨rfl, rfl⟩) | (go_at_call 250; refine (unhide HFd).mono ?_; rintro e w2 ⟨rfl, rfl⟩))
          go_quiet (first | (go_at_call 251; exact Calls.quiet_of_same (unhide HX _)))
          go_wp2_with fail
          go_ret2
          exact ⟨0, false, b, rfl, by decide, hb, hR1.drewN _, hB1.drewN _, Or.inr ⟨rfl, by rw [unhide HPS2, unhide HH]⟩⟩
      · have hS := isFirst_any p w1
        rw [decide_eq_false c2] at hS
        have HFd := hide hS
        have HPS2 : Hid (pointS (T.drop a) = some (p, T.drop b)) := by unfold Hid; rw [unhide HPS, if_pos (by omega)]
        clear hS HPS c1 c2
        go_wp2_with (first | (go_at_call 249; refine (unhide HSd).mono ?_; rintro e w2 ⟨rfl, rfl⟩) | (go_at_call 250; refine (unhide HFd).mono ?_; rintro e w2 ⟨rfl, rfl⟩))
        go_ret2
        exact ⟨p, true, b, rfl, hp, hb, hR1, hB1, Or.inl ⟨rfl, unhide HPS2⟩⟩
  · have HPS : Hid (pointS (T.drop a) = none) := by unfold pointS Hid; rw [h4]
    clear h4
    go_wp2_with fail
    go_ret2
    exact ⟨0, false, b, rfl, by decide, hb, hR1, hB1, Or.inr ⟨rfl, unhide HPS⟩⟩
end Go.Proofs.YtkmkkmdpjliifaaGreatDoor
namespace Go.Proofs.YtkmkkmdpjliifaaGreatDoor
open Go.ChangeShapes Go.WideShapes Go.ChangeAt Go.RowKit

theorem escS_other {c : UInt8} {t : List UInt8} (h1 : ¬ c = 34) (h2 : ¬ c = 92) (h3 : ¬ c = 47) (h4 : ¬ c = 98) (h5 : ¬ c = 102) (h6 : ¬ c = 110) (h7 : ¬ c = 114) (h8 : ¬ c = 116) (h9 : ¬ c = 117) : escS (c :: t) = none := by
  rw [escS, if_neg (by simp [h1, h2, h3]), if_neg h4, if_neg h5, if_neg h6, if_neg h7, if_neg h8, if_neg h9]
theorem nb {c : UInt8} {n : Nat} (hn : n < 256) (h : ¬ c = UInt8.ofNat n) : (((c.toNat : Nat) : Int) == (n : Int)) = false := u8_bne (n := n) (fun e => h ((u8_eq hn).2 e))

set_option maxRecDepth 20000 in
set_option maxHeartbeats 2000000 in
theorem escape_any (g : Nat) (T : List UInt8) (a : Nat) (w : World) (hT : T.length ≤ 1048576) (ha : a < T.length) (hR : Sc w g T a) :
    Calls Tryz.prog 235 #[.pointer (some ⟨g, 0, none⟩)] w (RunR g T (escS (T.drop (a + 1))) w) := by
  have HT := hide hT
  have hw : wrap64 ((a : Int) + 1) = (a : Int) + 1 := w64 _ (by omega) (by omega)
  have hc0 := hR.c0
  have hc1 := hR.c1
  have hf := hR.frozen 1
  obtain ⟨w1, hw1⟩ : ∃ w1, w1 = w.setCell ⟨g, 1, none⟩ (.int .i64 ((a : Int) + 1)) := ⟨_, rfl⟩
  have hR1 : Sc w1 g T (a + 1) := by rw [hw1]; exact hR.set1 (a + 1) _ rfl
  have hB1 : But g w w1 := by rw [hw1]; exact (But.refl _ _).setCell _ _
  have HW1 := hide hw1
  have hb : a + 1 ≤ T.length := ha
  clear hw1 hT hR
  go_enter Tryz.func235, Tryz.ntmps235
  go_wp2_with fail
  rw [← unhide HW1]
  clear HW1 hc0 hc1 hf hw ha
  generalize a + 1 = b at *
  have hc0 := hR1.c0
  have hc1 := hR1.c1
  by_cases hend : b = T.length
  · have hbe : (((b : Nat) : Int) == ((T.length : Nat) : Int)) = true := by simp [hend]
    have HN : Hid (escS (T.drop b) = none) := by unfold Hid; rw [List.drop_eq_nil_of_le (by omega)]; rfl
    clear hend
    go_quiet (fail)
    go_wp2_with fail
    go_ret2
    exact ⟨0, false, b, rfl, by decide, hb, hR1.drewN _, hB1.drewN _, Or.inr ⟨rfl, unhide HN⟩⟩
  · have hlt : b < T.length := by omega
    have hbe : (((b : Nat) : Int) == ((T.length : Nat) : Int)) = false := by simp only [beq_eq_false_iff_ne, ne_eq]; omega
    have hix := ix_any T b hlt
    have hbl : ((b : Nat) : Int) < (T.length : Int) := by omega
    have hby : by_ T b = (T.getD b 0).toNat := rfl
    rw [hby] at hix
    have hdc := drop_cons hlt
    generalize T.getD b 0 = c at *
    have hcl := c.toNat_lt
    have hw2 : wrap64 ((b : Int) + 1) = (b : Int) + 1 := w64 _ (by omega) (by have := unhide HT; omega)
    have hf := hR1.frozen 1
    have HD := hide hdc
    have hlt2 : b + 1 ≤ T.length := hlt
    clear hdc hend
    go_quiet (fail)
    go_wp2_with fail
    go_quiet (fail)
    by_cases e1 : c = 34
    · subst e1
      go_wp2_with fail
      go_ret2
      exact ⟨34, true, b + 1, rfl, by decide, hlt2, (hR1.drewN _).set1 (b + 1) _ rfl, (hB1.drewN _).setCell _ _, Or.inl ⟨rfl, by rw [unhide HD]; rfl⟩⟩
    have m1 : (((c.toNat : Nat) : Int) == 34) = false := nb (n := 34) (by decide) e1
    by_cases e2 : c = 92
    · subst e2
      go_wp2_with fail
      go_ret2
      exact ⟨92, true, b + 1, rfl, by decide, hlt2, (hR1.drewN _).set1 (b + 1) _ rfl, (hB1.drewN _).setCell _ _, Or.inl ⟨rfl, by rw [unhide HD]; rfl⟩⟩
    have m2 : (((c.toNat : Nat) : Int) == 92) = false := nb (n := 92) (by decide) e2
    by_cases e3 : c = 47
    · subst e3
      go_wp2_with fail
      go_ret2
      exact ⟨47, true, b + 1, rfl, by decide, hlt2, (hR1.drewN _).set1 (b + 1) _ rfl, (hB1.drewN _).setCell _ _, Or.inl ⟨rfl, by rw [unhide HD]; rfl⟩⟩
    have m3 : (((c.toNat : Nat) : Int) == 47) = false := nb (n := 47) (by decide) e3
    by_cases e4 : c = 98
    · subst e4
      go_wp2_with fail
      go_ret2
      exact ⟨8, true, b + 1, rfl, by decide, hlt2, (hR1.drewN _).set1 (b + 1) _ rfl, (hB1.drewN _).setCell _ _, Or.inl ⟨rfl, by rw [unhide HD]; rfl⟩⟩
    have m4 : (((c.toNat : Nat) : Int) == 98) = false := nb (n := 98) (by decide) e4
    by_cases e5 : c = 102
    · subst e5
      go_wp2_with fail
      go_ret2
      exact ⟨12, true, b + 1, rfl, by decide, hlt2, (hR1.drewN _).set1 (b + 1) _ rfl, (hB1.drewN _).setCell _ _, Or.inl ⟨rfl, by rw [unhide HD]; rfl⟩⟩
    have m5 : (((c.toNat : Nat) : Int) == 102) = false := nb (n := 102) (by decide) e5
    by_cases e6 : c = 110
    · subst e6
      go_wp2_with fail
      go_ret2
      exact ⟨10, true, b + 1, rfl, by decide, hlt2, (hR1.drewN _).set1 (b + 1) _ rfl, (hB1.drewN _).setCell _ _, Or.inl ⟨rfl, by rw [unhide HD]; rfl⟩⟩
    have m6 : (((c.toNat : Nat) : Int) == 110) = false := nb (n := 110) (by decide) e6
    by_cases e7 : c = 114
    · subst e7
      go_wp2_with fail
      go_ret2
      exact ⟨13, true, b + 1, rfl, by decide, hlt2, (hR1.drewN _).set1 (b + 1) _ rfl, (hB1.drewN _).setCell _ _, Or.inl ⟨rfl, by rw [unhide HD]; rfl⟩⟩
    have m7 : (((c.toNat : Nat) : Int) == 114) = false := nb (n := 114) (by decide) e7
    by_cases e8 : c = 116
    · subst e8
      go_wp2_with fail
      go_ret2
      exact ⟨9, true, b + 1, rfl, by decide, hlt2, (hR1.drewN _).set1 (b + 1) _ rfl, (hB1.drewN _).setCell _ _, Or.inl ⟨rfl, by rw [unhide HD]; rfl⟩⟩
    have m8 : (((c.toNat : Nat) : Int) == 116) = false := nb (n := 116) (by decide) e8
    by_cases e9 : c = 117
    · subst e9
      go_wp2_with fail
      refine (point_any g T (b + 1) _ (unhide HT) hlt2 ((hR1.drewN _).set1 (b + 1) _ rfl)).mono ?_
      rintro e w3 ⟨x, ok, d, rfl, hx, hd, hR3, hB3, hO3⟩
      have HO : Hid ((ok = true ∧ escS (T.drop b) = some (x, T.drop d)) ∨ (ok = false ∧ escS (T.drop b) = none)) := by
        unfold Hid
        rw [unhide HD]
        exact hO3
      clear hO3
      go_wp2_with fail
      go_ret2
      exact ⟨x, ok, d, rfl, hx, hd, hR3, ((hB1.drewN _).setCell _ _).trans hB3, unhide HO⟩
    have m9 : (((c.toNat : Nat) : Int) == 117) = false := nb (n := 117) (by decide) e9
    have HN : Hid (escS (T.drop b) = none) := by unfold Hid; rw [unhide HD]; exact escS_other e1 e2 e3 e4 e5 e6 e7 e8 e9
    clear e1 e2 e3 e4 e5 e6 e7 e8 e9
    go_wp2_with fail
    go_ret2
    exact ⟨0, false, b + 1, rfl, by decide, hlt2, (hR1.drewN _).set1 (b + 1) _ rfl, (hB1.drewN _).setCell _ _, Or.inr ⟨rfl, unhide HN⟩⟩

end Go.Proofs.YtkmkkmdpjliifaaGreatDoor
namespace Go.Proofs.YtkmkkmdpjliifaaGreatDoor
open Go.ChangeShapes Go.WideShapes Go.ChangeAt Go.RowKit

/-- Block g may have turned, new ones may have come. -/
structure Gr (g : Nat) (w w' : World) : Prop where
  os : w'.os = w.os
  tape : w'.tape = w.tape
  output : w'.output = w.output
  size : w.heap.size ≤ w'.heap.size
  block : ∀ k, k ≠ g → k < w.heap.size → w'.heap[k]? = w.heap[k]?
theorem Gr.refl (g : Nat) (w : World) : Gr g w w := ⟨rfl, rfl, rfl, Nat.le_refl _, fun _ _ _ => rfl⟩
theorem Gr.trans {g : Nat} {a b c : World} (h : Gr g a b) (k : Gr g b c) : Gr g a c :=
  ⟨k.os.trans h.os, k.tape.trans h.tape, k.output.trans h.output, Nat.le_trans h.size k.size, fun i hi hl => (k.block i hi (Nat.lt_of_lt_of_le hl h.size)).trans (h.block i hi hl)⟩
theorem Gr.ofBut {g : Nat} {w w' : World} (h : But g w w') : Gr g w w' := ⟨h.os, h.tape, h.output, by rw [h.size]; exact Nat.le_refl _, fun k hk _ => h.block k hk⟩
theorem Gr.ofBelow (g : Nat) {w w' : World} (h : Below w.heap.size w w') : Gr g w w' := ⟨h.os, h.tape, h.output, h.size, fun k _ hl => h.block k hl⟩
theorem Gr.drewN {g : Nat} {a w : World} (h : Gr g a w) (n : Nat) : Gr g a (w.drewN n) := ⟨h.os, h.tape, h.output, h.size, h.block⟩
theorem Gr.setCell {g : Nat} {a w : World} (h : Gr g a w) (o : Nat) (v : Value) : Gr g a (w.setCell ⟨g, o, none⟩ v) := h.trans (Gr.ofBut ((But.refl g w).setCell o v))
theorem Gr.alloc {g : Nat} {a w : World} (h : Gr g a w) (o : Obj) : Gr g a (w.alloc o) := h.trans (Gr.ofBelow g ((Below.refl _ _).alloc (Nat.le_refl _) o))
theorem Gr.below {g B : Nat} {w w' : World} (h : Gr g w w') (hg : B ≤ g) (hB : B ≤ w.heap.size) : Below B w w' := ⟨h.os, h.tape, h.output, h.size, fun k hk => h.block k (by omega) (by omega)⟩
theorem Row.keep {w w' : World} {g n : Nat} {t : TypeId} {f : Nat → Value} (h : Row w g t n f) (hb : w'.heap[g]? = w.heap[g]?) : Row w' g t n f := by
  obtain ⟨cs, h1, h2, h3⟩ := h
  exact ⟨cs, by rw [hb]; exact h1, h2, h3⟩
theorem Rd.lt {w : World} {g : Nat} {t : List UInt8} {b : Bool} (h : Rd w g t b) : g < w.heap.size := by
  obtain ⟨cs, h1, _⟩ := h
  rcases Nat.lt_or_ge g w.heap.size with h' | h'
  · exact h'
  · rw [Array.getElem?_eq_none h'] at h1; cases h1
theorem Rd.below {w w' : World} {g : Nat} {t : List UInt8} {b : Bool} (h : Rd w g t b) (hb : Below w.heap.size w w') : Rd w' g t b := Row.keep h (hb.block g h.lt)
theorem Rd.alloc {w : World} {g : Nat} {t : List UInt8} {b : Bool} (h : Rd w g t b) (o : Obj) : Rd (w.alloc o) g t b := h.below ((Below.refl _ _).alloc (Nat.le_refl _) o)

/-- string([]byte{..}) -/
theorem lit1 (u : World) (x : Int) : (convert 110 9 (.slice (some ⟨u.heap.size, 0, none⟩) 1 1)).run Tryz.prog (u.alloc (.cells #[.int .u8 x] 5)) = .ok (.string ⟨[UInt8.ofNat x.toNat].toArray⟩) (u.alloc (.cells #[.int .u8 x] 5)) :=
  run_convert_bytes_arg (P := Tryz.prog) _ 110 5 Tryz.underlying110 Tryz.underlying5 u.heap.size 0 1 1 [x] rfl (fun i hi => by
    obtain rfl : i = 0 := by omega
    rw [cell_of_row _ _ _ _ 5 _ (heap_alloc_new u _)]; rfl) 9 Tryz.underlying9
theorem lit2 (u : World) (x y : Int) : (convert 110 9 (.slice (some ⟨u.heap.size, 0, none⟩) 2 2)).run Tryz.prog (u.alloc (.cells #[.int .u8 x, .int .u8 y] 5)) = .ok (.string ⟨[UInt8.ofNat x.toNat, UInt8.ofNat y.toNat].toArray⟩) (u.alloc (.cells #[.int .u8 x, .int .u8 y] 5)) :=
  run_convert_bytes_arg (P := Tryz.prog) _ 110 5 Tryz.underlying110 Tryz.underlying5 u.heap.size 0 2 2 [x, y] rfl (fun i hi => by
    rcases (show i = 0 ∨ i = 1 by omega) with rfl | rfl <;> (rw [cell_of_row _ _ _ _ 5 _ (heap_alloc_new u _)]; rfl)) 9 Tryz.underlying9
theorem lit3 (u : World) (x y z : Int) : (convert 110 9 (.slice (some ⟨u.heap.size, 0, none⟩) 3 3)).run Tryz.prog (u.alloc (.cells #[.int .u8 x, .int .u8 y, .int .u8 z] 5)) = .ok (.string ⟨[UInt8.ofNat x.toNat, UInt8.ofNat y.toNat, UInt8.ofNat z.toNat].toArray⟩) (u.alloc (.cells #[.int .u8 x, .int .u8 y, .int .u8 z] 5)) :=
  run_convert_bytes_arg (P := Tryz.prog) _ 110 5 Tryz.underlying110 Tryz.underlying5 u.heap.size 0 3 3 [x, y, z] rfl (fun i hi => by
    rcases (show i = 0 ∨ i = 1 ∨ i = 2 by omega) with rfl | rfl | rfl <;> (rw [cell_of_row _ _ _ _ 5 _ (heap_alloc_new u _)]; rfl)) 9 Tryz.underlying9
theorem lit4 (u : World) (x y z q : Int) : (convert 110 9 (.slice (some ⟨u.heap.size, 0, none⟩) 4 4)).run Tryz.prog (u.alloc (.cells #[.int .u8 x, .int .u8 y, .int .u8 z, .int .u8 q] 5)) = .ok (.string ⟨[UInt8.ofNat x.toNat, UInt8.ofNat y.toNat, UInt8.ofNat z.toNat, UInt8.ofNat q.toNat].toArray⟩) (u.alloc (.cells #[.int .u8 x, .int .u8 y, .int .u8 z, .int .u8 q] 5)) :=
  run_convert_bytes_arg (P := Tryz.prog) _ 110 5 Tryz.underlying110 Tryz.underlying5 u.heap.size 0 4 4 [x, y, z, q] rfl (fun i hi => by
    rcases (show i = 0 ∨ i = 1 ∨ i = 2 ∨ i = 3 by omega) with rfl | rfl | rfl | rfl <;> (rw [cell_of_row _ _ _ _ 5 _ (heap_alloc_new u _)]; rfl)) 9 Tryz.underlying9
theorem ofNat_mod (n : Nat) (x : Int) (h : x = ((n : Int) % 256)) : UInt8.ofNat x.toNat = UInt8.ofNat n := by
  subst h
  have : ((n : Int) % 256).toNat = n % 256 := by omega
  rw [this]
  exact UInt8.toNat_inj.1 (by simp)

set_option maxRecDepth 20000 in
set_option maxHeartbeats 1000000 in
theorem bytes_1 (p : Nat) (w : World) (hp : p < 128) :
    Calls Tryz.prog 216 #[.int .i64 (p : Nat)] w fun e w' => e = .returned (.string ⟨[UInt8.ofNat p].toArray⟩) ∧ Below w.heap.size w w' := by
  have l1 := lit1
  have f1 : (p : Int) < 128 := by omega
  go_enter Tryz.func216, Tryz.ntmps216
  go_wp2
  go_ret
  refine ⟨?_, (Below.refl _ _).alloc (Nat.le_refl _) _⟩
  rfl
set_option maxRecDepth 20000 in
set_option maxHeartbeats 1000000 in
theorem bytes_2 (p : Nat) (w : World) (hp : 128 ≤ p) (hp2 : p < 2048) :
    Calls Tryz.prog 216 #[.int .i64 (p : Nat)] w fun e w' => e = .returned (.string ⟨[UInt8.ofNat (192 + p / 64), UInt8.ofNat (128 + p % 64)].toArray⟩) ∧ Below w.heap.size w w' := by
  have l1 := lit2
  have f1 : ¬ (p : Int) < 128 := by omega
  have f2 : (p : Int) < 2048 := by omega
  go_enter Tryz.func216, Tryz.ntmps216
  go_wp2
  go_ret
  refine ⟨?_, (Below.refl _ _).alloc (Nat.le_refl _) _⟩
  refine congrArg (fun s => Ending.returned (Value.string s)) (congrArg ByteArray.mk (congrArg List.toArray ?_))
  rfl
set_option maxRecDepth 20000 in
set_option maxHeartbeats 1000000 in
theorem bytes_3 (p : Nat) (w : World) (hp : 2048 ≤ p) (hp2 : p < 65536) :
    Calls Tryz.prog 216 #[.int .i64 (p : Nat)] w fun e w' => e = .returned (.string ⟨[UInt8.ofNat (224 + p / 4096), UInt8.ofNat (128 + p / 64 % 64), UInt8.ofNat (128 + p % 64)].toArray⟩) ∧ Below w.heap.size w w' := by
  have l1 := lit3
  have f1 : ¬ (p : Int) < 128 := by omega
  have f2 : ¬ (p : Int) < 2048 := by omega
  have f3 : (p : Int) < 65536 := by omega
  go_enter Tryz.func216, Tryz.ntmps216
  go_wp2
  go_ret
  refine ⟨?_, (Below.refl _ _).alloc (Nat.le_refl _) _⟩
  refine congrArg (fun s => Ending.returned (Value.string s)) (congrArg ByteArray.mk (congrArg List.toArray ?_))
  rfl
set_option maxRecDepth 20000 in
set_option maxHeartbeats 1000000 in
theorem bytes_4 (p : Nat) (w : World) (hp : 65536 ≤ p) (hp2 : p < 16777216) :
    Calls Tryz.prog 216 #[.int .i64 (p : Nat)] w fun e w' => e = .returned (.string ⟨[UInt8.ofNat (240 + p / 262144), UInt8.ofNat (128 + p / 4096 % 64), UInt8.ofNat (128 + p / 64 % 64), UInt8.ofNat (128 + p % 64)].toArray⟩) ∧ Below w.heap.size w w' := by
  have l1 := lit4
  have f1 : ¬ (p : Int) < 128 := by omega
  have f2 : ¬ (p : Int) < 2048 := by omega
  have f3 : ¬ (p : Int) < 65536 := by omega
  have HP := hide hp2
  clear hp hp2
  go_enter Tryz.func216, Tryz.ntmps216
  go_wp2
  go_ret
  refine ⟨?_, (Below.refl _ _).alloc (Nat.le_refl _) _⟩
  refine congrArg (fun s => Ending.returned (Value.string s)) (congrArg ByteArray.mk (congrArg List.toArray ?_))
  have h := unhide HP
  have e1 : wrap64 ((p : Int) / 262144) = (p : Int) / 262144 := w64 _ (by omega) (by omega)
  have e2 : wrap64 ((p : Int) / 4096) = (p : Int) / 4096 := w64 _ (by omega) (by omega)
  have e3 : wrap64 ((p : Int) / 64) = (p : Int) / 64 := w64 _ (by omega) (by omega)
  rw [e1, e2, e3, Int.tmod_eq_emod_of_nonneg (by omega), Int.tmod_eq_emod_of_nonneg (by omega), w64 (240 + (p : Int) / 262144) (by omega) (by omega), w64 (128 + (p : Int) / 4096 % 64) (by omega) (by omega), w64 (128 + (p : Int) / 64 % 64) (by omega) (by omega)]
  rw [ofNat_mod (240 + p / 262144) _ (by omega), ofNat_mod (128 + p / 4096 % 64) _ (by omega), ofNat_mod (128 + p / 64 % 64) _ (by omega)]
  simp
theorem bytes_any (p : Nat) (w : World) (hp : p < 16777216) :
    Calls Tryz.prog 216 #[.int .i64 (p : Nat)] w fun e w' => e = .returned (.string ⟨(encB p).toArray⟩) ∧ Below w.heap.size w w' := by
  unfold encB
  by_cases c1 : p < 128
  · rw [if_pos c1]; exact bytes_1 p w c1
  rw [if_neg c1]
  by_cases c2 : p < 2048
  · rw [if_pos c2]; exact bytes_2 p w (by omega) c2
  rw [if_neg c2]
  by_cases c3 : p < 65536
  · rw [if_pos c3]; exact bytes_3 p w (by omega) c3
  rw [if_neg c3]
  exact bytes_4 p w (by omega) hp

/-- what a reading comes to: a text that was wrong stays so; one that was not is read, or is wrong now -/
def Out {α : Type} (b : Bool) (o : Option (α × List UInt8)) (v : α) (t : List UInt8) (b' : Bool) : Prop :=
  (b = true → b' = true) ∧ (b = false → (o = some (v, t) ∧ b' = false) ∨ (o = none ∧ b' = true))

theorem Out.good {α : Type} {o : Option (α × List UInt8)} {v : α} {t : List UInt8} (h : o = some (v, t)) : Out false o v t false := ⟨fun e => absurd e (by decide), fun _ => Or.inl ⟨h, rfl⟩⟩
theorem Out.wrong {α : Type} {o : Option (α × List UInt8)} {v : α} {t : List UInt8} (h : o = none) : Out false o v t true := ⟨fun _ => rfl, fun _ => Or.inr ⟨h, rfl⟩⟩
theorem Out.still {α : Type} {o : Option (α × List UInt8)} {v : α} {t : List UInt8} : Out true o v t true := ⟨fun _ => rfl, fun e => absurd e (by decide)⟩
theorem hex_step {n a m : Nat} {l u : List UInt8} {c : UInt8} {x : Nat} (h : hexG 4 0 l = hexG (m + 1) a (c :: u)) (hx : hexN c = some x) (hn : n = m) : hexG 4 0 l = hexG n (16 * a + x) u := by
  subst hn
  rw [h, hexG, hx]
theorem hex_none {a m : Nat} {l u : List UInt8} {c : UInt8} (h : hexG 4 0 l = hexG (m + 1) a (c :: u)) (hx : hexN c = none) : hexG 4 0 l = none := by
  rw [h, hexG, hx]

set_option maxRecDepth 20000 in
set_option maxHeartbeats 1000000 in
theorem hex_any (g : Nat) (t : List UInt8) (w : World) (hR : Rd w g t false) :
    Calls Tryz.prog 215 #[.pointer (some ⟨g, 0, none⟩)] w fun e w' => ∃ (n : Nat) (u : List UInt8) (b : Bool), e = .returned (.int .i64 (n : Nat)) ∧ n < 4194304 ∧ Rd w' g u b ∧ u.length ≤ t.length ∧ Out false (hex4 t) n u b ∧ But g w w' := by
  go_enter Tryz.func215, Tryz.ntmps215
  go_wp2_with fail
  go_loopg [3, 4] 4 (fun q n i wr => ∃ (k a : Nat) (u : List UInt8) (b : Bool), k + q = 4 ∧ i = .int .i64 (k : Nat) ∧ n = .int .i64 (a : Nat) ∧ a + 17 ≤ 17 * 16 ^ k ∧ Rd wr g u b ∧ u.length ≤ t.length ∧ ((b = false ∧ hexG 4 0 t = hexG q a u) ∨ (b = true ∧ hexG 4 0 t = none)) ∧ But g w wr)
  case atStart => exact ⟨0, 0, t, false, rfl, rfl, rfl, by decide, hR, Nat.le_refl _, Or.inl ⟨rfl, rfl⟩, But.refl _ _⟩
  case round =>
    clear hR
    obtain ⟨k, a, u, b, hk, rfl, rfl, ha, hR, hu, hI, hB⟩ := hrel
    have hp16 : 16 ^ k ≤ 65536 := Nat.le_trans (Nat.pow_le_pow_right (n := 16) (j := 4) (by decide) (by omega)) (by decide)
    have ha2 : a < 1114112 := by omega
    have HA : Hid (a + 17 ≤ 17 * 16 ^ k ∧ a < 1114112) := ⟨ha, ha2⟩
    have HI := hide hI
    clear ha ha2 hp16 hI
    by_cases hlt : k < 4
    · have hc0 := hR.c0
      have hf0 := hR.frozen 0
      have hf1 := hR.frozen 1
      have hc1 := hR.c1
      cases u with
      | nil =>
        go_wp2
        go_ret
        have hh := unhide HI
        refine ⟨0, [], true, rfl, by decide, hR.set1 true, Nat.zero_le _, Out.wrong ?_, hB.setCell _ _⟩
        rcases hh with ⟨_, h⟩ | ⟨_, h⟩
        · unfold hex4
          rw [h]
          obtain ⟨m, rfl⟩ : ∃ m, gk = m + 1 := ⟨gk - 1, by omega⟩
          rfl
        · exact h
      | cons c u =>
        have hix := head_any c u
        have htl := tail_any c u
        have hcl := c.toNat_lt
        have hw : wrap64 (c.toNat : Int) = (c.toNat : Int) := w64 _ (by omega) (by omega)
        have hw1 : wrap64 ((k : Int) + 1) = (k : Int) + 1 := w64 _ (by omega) (by omega)
        have hul : u.length ≤ t.length := by simp at hu; omega
        obtain ⟨m, rfl⟩ : ∃ m, gk = m + 1 := ⟨gk - 1, by omega⟩
        have hw2 : wrap64 (16 * (a : Int)) = 16 * (a : Int) := w64 _ (by have := unhide HA; omega) (by have := unhide HA; omega)
        have hnum : ∀ (x : Nat) (y : Int), x < 256 → y = (x : Int) → wrap64 (16 * (a : Int) + y) = ((16 * a + x : Nat) : Int) ∧ (16 * a + x) + 17 ≤ 17 * 16 ^ (k + 1) := fun x y hx hy => by
          subst hy
          have := unhide HA
          rw [Nat.pow_succ]
          exact ⟨by rw [w64 _ (by omega) (by omega)]; omega, by omega⟩
        have HN := hide hnum
        clear hu hnum
        by_cases c1 : 48 ≤ c.toNat ∧ c.toNat ≤ 57
        · have f1 : (48 : Int) ≤ c.toNat := by omega
          have f2 : (c.toNat : Int) ≤ 57 := by omega
          have e1 : wrap64 ((c.toNat : Int) - 48) = ((c.toNat : Int) - 48) := w64 _ (by omega) (by omega)
          have hx : hexN c = some (c.toNat - 48) := by unfold hexN; rw [if_pos c1]
          clear hcl
          go_wp2
          go_roundg m
          case measure => omega
          case rel =>
            have h2 : ∀ y : Int, y = ((c.toNat - 48 : Nat) : Int) → _ := fun y hy => unhide HN (c.toNat - 48) y (by have := c.toNat_lt; omega) hy
            refine ⟨k + 1, 16 * a + (c.toNat - 48), u, b, by omega, congrArg (Value.int .i64) (by omega), congrArg (Value.int .i64) (h2 _ (by omega)).1, (h2 _ rfl).2, hR.set0 u, hul, ?_, hB.setCell _ _⟩
            rcases unhide HI with ⟨h1, h2⟩ | ⟨h1, h2⟩
            · exact Or.inl ⟨h1, hex_step h2 hx rfl⟩
            · exact Or.inr ⟨h1, h2⟩
        by_cases c2 : 97 ≤ c.toNat ∧ c.toNat ≤ 102
        · have f1 : (48 : Int) ≤ c.toNat := by omega
          have f2 : ¬ (c.toNat : Int) ≤ 57 := by omega
          have f3 : (97 : Int) ≤ c.toNat := by omega
          have f4 : (c.toNat : Int) ≤ 102 := by omega
          have e1 : wrap64 ((c.toNat : Int) - 97) = ((c.toNat : Int) - 97) := w64 _ (by omega) (by omega)
          have e2 : wrap64 ((c.toNat : Int) - 97 + 10) = ((c.toNat : Int) - 97 + 10) := w64 _ (by omega) (by omega)
          have hx : hexN c = some (c.toNat - 87) := by unfold hexN; rw [if_neg c1, if_pos c2]
          clear hcl
          go_wp2
          go_roundg m
          case measure => omega
          case rel =>
            have h2 : ∀ y : Int, y = ((c.toNat - 87 : Nat) : Int) → _ := fun y hy => unhide HN (c.toNat - 87) y (by have := c.toNat_lt; omega) hy
            refine ⟨k + 1, 16 * a + (c.toNat - 87), u, b, by omega, congrArg (Value.int .i64) (by omega), congrArg (Value.int .i64) (h2 _ (by omega)).1, (h2 _ rfl).2, hR.set0 u, hul, ?_, hB.setCell _ _⟩
            rcases unhide HI with ⟨h1, h2⟩ | ⟨h1, h2⟩
            · exact Or.inl ⟨h1, hex_step h2 hx rfl⟩
            · exact Or.inr ⟨h1, h2⟩
        by_cases c3 : 65 ≤ c.toNat ∧ c.toNat ≤ 70
        · have f1 : (48 : Int) ≤ c.toNat := by omega
          have f2 : ¬ (c.toNat : Int) ≤ 57 := by omega
          have f3 : ¬ (97 : Int) ≤ c.toNat := by omega
          have f4 : (65 : Int) ≤ c.toNat := by omega
          have f5 : (c.toNat : Int) ≤ 70 := by omega
          have e1 : wrap64 ((c.toNat : Int) - 65) = ((c.toNat : Int) - 65) := w64 _ (by omega) (by omega)
          have e2 : wrap64 ((c.toNat : Int) - 65 + 10) = ((c.toNat : Int) - 65 + 10) := w64 _ (by omega) (by omega)
          have hx : hexN c = some (c.toNat - 55) := by unfold hexN; rw [if_neg c1, if_neg c2, if_pos c3]
          clear hcl
          go_wp2
          go_roundg m
          case measure => omega
          case rel =>
            have h2 : ∀ y : Int, y = ((c.toNat - 55 : Nat) : Int) → _ := fun y hy => unhide HN (c.toNat - 55) y (by have := c.toNat_lt; omega) hy
            refine ⟨k + 1, 16 * a + (c.toNat - 55), u, b, by omega, congrArg (Value.int .i64) (by omega), congrArg (Value.int .i64) (h2 _ (by omega)).1, (h2 _ rfl).2, hR.set0 u, hul, ?_, hB.setCell _ _⟩
            rcases unhide HI with ⟨h1, h2⟩ | ⟨h1, h2⟩
            · exact Or.inl ⟨h1, hex_step h2 hx rfl⟩
            · exact Or.inr ⟨h1, h2⟩
        · have d1 : (decide ((48 : Int) ≤ c.toNat) && decide ((c.toNat : Int) ≤ 57)) = false := by simp; omega
          have d2 : (decide ((97 : Int) ≤ c.toNat) && decide ((c.toNat : Int) ≤ 102)) = false := by simp; omega
          have d3 : (decide ((65 : Int) ≤ c.toNat) && decide ((c.toNat : Int) ≤ 70)) = false := by simp; omega
          have hx : hexN c = none := by unfold hexN; rw [if_neg c1, if_neg c2, if_neg c3]
          clear hcl
          go_wp2
          all_goals
            go_roundg m
            case measure => omega
            case rel =>
              have h2 : ∀ y : Int, y = ((c.toNat : Nat) : Int) → _ := fun y hy => unhide HN (c.toNat) y (by have := c.toNat_lt; omega) hy
              refine ⟨k + 1, 16 * a + (c.toNat), u, true, by omega, congrArg (Value.int .i64) (by omega), congrArg (Value.int .i64) (h2 _ (by omega)).1, (h2 _ rfl).2, (hR.set0 u).set1 true, hul, Or.inr ⟨rfl, ?_⟩, (hB.setCell _ _).setCell _ _⟩
              rcases unhide HI with ⟨h1, h2⟩ | ⟨h1, h2⟩
              · exact hex_none h2 hx
              · exact h2
    · have : gk = 0 := by omega
      subst this
      go_wp2
      go_ret
      have hh := unhide HA
      refine ⟨a, u, b, rfl, by omega, hR, hu, ?_, hB⟩
      rcases unhide HI with ⟨h1, h2⟩ | ⟨h1, h2⟩
      · subst h1; exact Out.good h2
      · subst h1; exact Out.wrong h2
end Go.Proofs.YtkmkkmdpjliifaaGreatDoor
