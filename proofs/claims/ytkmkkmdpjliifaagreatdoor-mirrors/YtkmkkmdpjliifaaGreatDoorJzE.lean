import Derived.Test.YtkmkkmdpjliifaaGreatDoorJzD
import Derived.Test.YtkmkkmdpjliifaaGreatDoorSw
import Derived.Test.YtkmkkmdpjliifaaGreatDoorSvE
import Derived.Test.YtkmkkmdpjliifaaGreatDoorNxE
import Derived.Lib.MapLaws
import Derived.Lib.TrimU
import Derived.Deep.RegionHeld3
namespace Go.Proofs.YtkmkkmdpjliifaaGreatDoor
open Go.ChangeShapes Go.WideShapes Go.ChangeAt Go.RowKit

/-- what the reading of a code point comes to -/
def RunR (g : Nat) (T : List UInt8) (o : Option (Nat × List UInt8)) (w : World) (e : Ending) (w' : World) : Prop :=
  ∃ (x : Nat) (ok : Bool) (b : Nat), e = .returned (.tuple #[.int .i32 (x : Nat), .bool ok]) ∧ x < 1114112 ∧ b ≤ T.length ∧ Sc w' g T b ∧ But g w w' ∧ ((ok = true ∧ o = some (x, T.drop b)) ∨ (ok = false ∧ o = none))
theorem hexG_short : ∀ (n a : Nat) (l : List UInt8), l.length < n → hexG n a l = none := by
  intro n a l h
  cases hh : hexG n a l with
  | none => rfl
  | some r => have := (hexG_len (p := r.1) (t := r.2) hh).1; omega

theorem or4 (p x : Nat) (hp : p < 4096) (hx : x < 16) : bits .or .i32 ((p : Int) * 16) (x : Int) = ((16 * p + x : Nat) : Int) := by
  rw [bits_join .i32 31 (by decide) wraps_i32 4 ((p : Int) * 16) (x : Int) (by omega) (by omega) (by omega) (by omega) (by omega) (by omega)]
  omega
theorem hexp {p x e : Nat} (h : p < e) (hx : x < 16) : 16 * p + x < e * 16 := by omega
set_option maxRecDepth 20000 in
set_option maxHeartbeats 1000000 in
theorem four_any (g : Nat) (T : List UInt8) (a : Nat) (w : World) (hT : T.length ≤ 1048576) (ha : a ≤ T.length) (hR : Sc w g T a) :
    Calls Tryz.prog 248 #[.pointer (some ⟨g, 0, none⟩)] w (RunR g T (hex4 (T.drop a)) w) := by
  have HT := hide hT
  clear hT
  have hc0 := hR.c0
  have hc1 := hR.c1
  have hw0 : wrap64 ((T.length : Int) - (a : Int)) = (T.length : Int) - (a : Int) := w64 _ (by omega) (by have := unhide HT; omega)
  by_cases h4 : T.length - a < 4
  · have d1 : decide ((T.length : Int) - (a : Int) < 4) = true := decide_eq_true (by omega)
    have HN : Hid (hex4 (T.drop a) = none) := hide (hexG_short 4 0 _ (by rw [List.length_drop]; omega))
    clear h4
    go_enter Tryz.func248, Tryz.ntmps248
    go_wp2_with fail
    go_quiet (fail)
    go_wp2_with fail
    go_ret2
    exact ⟨0, false, a, rfl, by decide, ha, hR.drewN _, (But.refl _ _).drewN _, Or.inr ⟨rfl, unhide HN⟩⟩
  · have d1 : decide ((T.length : Int) - (a : Int) < 4) = false := decide_eq_false (by omega)
    have ha4 : a + 4 ≤ T.length := by omega
    clear h4
    go_enter Tryz.func248, Tryz.ntmps248
    go_wp2_with fail
    go_quiet (fail)
    go_wp2_with fail
    clear hc0 hc1 d1 hw0
    go_loopg [4, 18] 4 (fun q r i wr => ∃ (k p b : Nat), k + q = 4 ∧ b = a + k ∧ i = .int .i64 (k : Nat) ∧ r = .int .i32 (p : Nat) ∧ p < 16 ^ k ∧ Sc wr g T b ∧ hexG 4 0 (T.drop a) = hexG q p (T.drop b) ∧ But g w wr)
    case atStart => exact ⟨0, 0, a, rfl, rfl, rfl, rfl, by decide, hR.drewN _, rfl, (But.refl _ _).drewN _⟩
    case round =>
      clear hR
      obtain ⟨k, p, b, hk, hbk, rfl, rfl, hp, hR, hI, hB⟩ := hrel
      have HI := hide hI
      have HPK := hide hp
      clear hI hp
      by_cases hlt : k < 4
      · have hp16 : p < 4096 := Nat.lt_of_lt_of_le (unhide HPK) (Nat.le_trans (Nat.pow_le_pow_right (n := 16) (j := 3) (by decide) (Nat.le_of_lt_succ hlt)) (by decide))
        have hal : b < T.length := by omega
        have hc0 := hR.c0
        have hc1 := hR.c1
        have hf := hR.frozen 1
        have hix := ix_any T b hal
        have hbl : ((b : Nat) : Int) < (T.length : Int) := by omega
        have hby : by_ T b = (T.getD b 0).toNat := rfl
        rw [hby] at hix
        have hdc := drop_cons hal
        generalize T.getD b 0 = c at *
        have hw : wrap64 (((b : Nat) : Int) + 1) = ((b : Nat) : Int) + 1 := w64 _ (by omega) (by have := unhide HT; omega)
        have hwk : wrap64 ((k : Int) + 1) = (k : Int) + 1 := w64 _ (by omega) (by omega)
        have HC := hide (fun w => hexValue_any c w)
        have HD := hide hdc
        obtain ⟨m, rfl⟩ : ∃ m, gk = m + 1 := ⟨gk - 1, by omega⟩
        have HBK := hide hbk
        clear hdc hbk
        cases hb : hexN c with
        | none =>
          rw [hb] at HC
          have HN : Hid (hex4 (T.drop a) = none) := by unfold hex4 Hid; rw [unhide HI, unhide HD, hexG, hb]
          clear hb
          go_wp2_with fail
          go_quiet (first | (go_at_call 256; exact Calls.quiet_of_same (unhide HC _)))
          go_wp2_with fail
          go_ret2
          exact ⟨0, false, b, rfl, by decide, by omega, hR.drewN _, hB.drewN _, Or.inr ⟨rfl, unhide HN⟩⟩
        | some x =>
          have hx := hexN_lt hb
          rw [hb] at HC
          simp only [Option.getD, Option.isSome] at HC
          have HN : Hid (hexG 4 0 (T.drop a) = hexG m (16 * p + x) (T.drop (b + 1))) := by unfold Hid; rw [unhide HI, unhide HD, hexG, hb]
          clear hb
          go_wp2_with fail
          go_quiet (first | (go_at_call 256; exact Calls.quiet_of_same (unhide HC _)))
          go_wp2_with fail
          go_roundg m
          case measure => omega
          case rel =>
            refine ⟨k + 1, 16 * p + x, b + 1, by omega, by have := unhide HBK; omega, by first | exact num1 hwk | rfl, ?_, by rw [Nat.pow_succ]; exact hexp (unhide HPK) hx, (hR.drewN _).set1 (b + 1) _ (by first | exact hw | (rw [hw]; omega) | rfl), unhide HN, (hB.drewN _).setCell _ _⟩
            exact congrArg (Value.int .i32) (or4 p x hp16 hx)
      · have h0 : gk = 0 := by omega
        subst h0
        have hk4 : k = 4 := by omega
        subst hk4
        go_wp2_with fail
        go_ret2
        exact ⟨p, true, b, rfl, Nat.lt_trans (unhide HPK) (by decide), by omega, hR, hB, Or.inl ⟨rfl, unhide HI⟩⟩

theorem halfS_some {p q : Nat} {l t : List UInt8} (h : l.take 2 = [92, 117]) (h5 : hex4 (l.drop 2) = some (q, t)) : halfS p l = if 56320 ≤ q ∧ q < 57344 then some (65536 + (p - 55296) * 1024 + (q - 56320), t) else none := by
  unfold halfS
  rw [if_pos h, h5]
theorem halfS_none {p : Nat} {l : List UInt8} (h : l.take 2 = [92, 117]) (h5 : hex4 (l.drop 2) = none) : halfS p l = none := by
  unfold halfS
  rw [if_pos h, h5]
theorem prefix_u (l : List UInt8) : Lib.hasPrefix l [92, 117] = decide (l.take 2 = [92, 117]) := by
  unfold Lib.hasPrefix
  rw [Bool.eq_iff_iff, List.isPrefixOf_iff_prefix, decide_eq_true_iff, List.prefix_iff_eq_take]
  exact eq_comm

set_option maxRecDepth 20000 in
set_option maxHeartbeats 1000000 in
theorem point_any (g : Nat) (T : List UInt8) (a : Nat) (w : World) (hT : T.length ≤ 1048576) (ha : a ≤ T.length) (hR : Sc w g T a) :
    Calls Tryz.prog 243 #[.pointer (some ⟨g, 0, none⟩)] w (RunR g T (pointS (T.drop a)) w) := by
  have HT := hide hT
  have HF := hide (four_any g T a w hT ha hR)
  clear hT hR
  go_enter Tryz.func243, Tryz.ntmps243
  go_wp2_with fail
  refine (unhide HF).mono ?_
  rintro e w1 ⟨p, ok, b, rfl, hp, hb, hR1, hB1, hO⟩
  rcases hO with ⟨rfl, h4⟩ | ⟨rfl, h4⟩
  · have hp2 := (hex4_len h4).2
    have HPS : Hid (pointS (T.drop a) = if p < 55296 ∨ 57344 ≤ p then some (p, T.drop b) else if 56320 ≤ p then none else halfS p (T.drop b)) := by unfold pointS Hid; rw [h4]
    clear h4
    by_cases c1 : 56320 ≤ p ∧ p < 57344
    · have hS := isSecond_any p w1
      rw [decide_eq_true c1] at hS
      have HSd := hide hS
      clear hS
      go_wp2_with (go_at_call 249; refine (unhide HSd).mono ?_; rintro e w2 ⟨rfl, rfl⟩)
      go_ret2
      exact ⟨0, false, b, rfl, by decide, hb, hR1, hB1, Or.inr ⟨rfl, by rw [unhide HPS, if_neg (by omega), if_pos c1.1]⟩⟩
    · have hS := isSecond_any p w1
      rw [decide_eq_false c1] at hS
      have HSd := hide hS
      clear hS
      by_cases c2 : 55296 ≤ p ∧ p < 56320
      · have hS := isFirst_any p w1
        rw [decide_eq_true c2] at hS
        have HFd := hide hS
        have HPS2 : Hid (pointS (T.drop a) = halfS p (T.drop b)) := by unfold Hid; rw [unhide HPS, if_neg (by omega), if_neg (by omega)]
        have hc0 := hR1.c0
        have hc1 := hR1.c1
        have hdr := drop_any T b hb
        have hf := hR1.frozen 1
        have HX := hide (fun w => Tryz.hasPrefix ⟨(T.drop b).toArray⟩ ⟨#[92, 117]⟩ w)
        have hpf := prefix_u (T.drop b)
        have HC2 := hide c2
        clear hS HPS c1 c2
        rw [show Lib.hasPrefix (ByteArray.mk (T.drop b).toArray).data.toList (ByteArray.mk #[92, 117]).data.toList = decide ((T.drop b).take 2 = [92, 117]) from hpf] at HX
        clear hpf
        by_cases c3 : (T.drop b).take 2 = [92, 117]
        · rw [decide_eq_true c3] at HX
          have hb2 : b + 2 ≤ T.length := by
            have := congrArg List.length c3
            rw [List.length_take, List.length_drop] at this
            simp at this
            omega
          have hw : wrap64 ((b : Int) + 2) = (b : Int) + 2 := w64 _ (by omega) (by have := unhide HT; omega)
          have HC3 := hide c3
          clear c3
          generalize hdb : (T.drop b).toArray = DB at *
          go_wp2_with (first | (go_at_call 249; refine (unhide HSd).mono ?_; rintro e w2 ⟨rfl, rfl⟩) | (go_at_call 250; refine (unhide HFd).mono ?_; rintro e w2 ⟨rfl, rfl⟩))
          go_quiet (first | (go_at_call 251; exact Calls.quiet_of_same (unhide HX _)))
          go_wp2_with fail
          refine (four_any g T (b + 2) _ (unhide HT) hb2 ((hR1.drewN _).set1 (b + 2) _ (by first | exact hw | rfl))).mono ?_
          rintro e w3 ⟨q, ok, d, rfl, hq, hd, hR3, hB3, hO3⟩
          have hB4 := ((hB1.drewN _).setCell 1 _).trans hB3
          rcases hO3 with ⟨rfl, h5⟩ | ⟨rfl, h5⟩
          · have hq2 := (hex4_len h5).2
            have HH := hide (halfS_some (p := p) (unhide HC3) (by rw [List.drop_drop]; exact h5))
            clear h5
            by_cases c4 : 56320 ≤ q ∧ q < 57344
            · have hS4 := isSecond_any q w3
              rw [decide_eq_true c4] at hS4
              have HS4 := hide hS4
              clear hS4
              go_wp2_with (go_at_call 249; refine (unhide HS4).mono ?_; rintro e w5 ⟨rfl, rfl⟩)
              go_ret2
              have h2 := unhide HC2
              refine ⟨65536 + (p - 55296) * 1024 + (q - 56320), true, d, ?_, by omega, hd, hR3, hB4, Or.inl ⟨rfl, by rw [unhide HPS2, unhide HH, if_pos c4]⟩⟩
              refine congrArg (fun x : Int => Ending.returned (Value.tuple #[.int .i32 x, .bool true])) ?_
              omega
            · have hS4 := isSecond_any q w3
              rw [decide_eq_false c4] at hS4
              have HS4 := hide hS4
              have HC4 := hide c4
              clear hS4 c4
              go_wp2_with (go_at_call 249; refine (unhide HS4).mono ?_; rintro e w5 ⟨rfl, rfl⟩)
              go_ret2
              exact ⟨0, false, d, rfl, by decide, hd, hR3, hB4, Or.inr ⟨rfl, by rw [unhide HPS2, unhide HH, if_neg (unhide HC4)]⟩⟩
          · have HH := hide (halfS_none (p := p) (unhide HC3) (by rw [List.drop_drop]; exact h5))
            clear h5
            go_wp2_with fail
            go_ret2
            exact ⟨0, false, d, rfl, by decide, hd, hR3, hB4, Or.inr ⟨rfl, by rw [unhide HPS2, unhide HH]⟩⟩
        · rw [decide_eq_false c3] at HX
          have HH : Hid (halfS p (T.drop b) = none) := by unfold halfS Hid; rw [if_neg c3]
          clear c3
          generalize hdb : (T.drop b).toArray = DB at *
          go_wp2_with (first | (go_at_call 249; refine (unhide HSd).mono ?_; rintro e w2 ⟨rfl, rfl⟩) | (go_at_call 250; refine (unhide HFd).mono ?_; rintro e w2 ⟨rfl, rfl⟩))
          go_quiet (first | (go_at_call 251; exact Calls.quiet_of_same (unhide HX _)))
          go_wp2_with fail
          go_ret2
          exact ⟨0, false, b, rfl, by decide, hb, hR1.drewN _, hB1.drewN _, Or.inr ⟨rfl, by rw [unhide HPS2, unhide HH]⟩⟩
      · have hS := isFirst_any p w1
        rw [decide_eq_false c2] at hS
        have HFd := hide hS
        have HPS2 : Hid (pointS (T.drop a) = some (p, T.drop b)) := by unfold Hid; rw [unhide HPS, if_pos (by omega)]
        clear hS HPS c1 c2
        go_wp2_with (first | (go_at_call 249; refine (unhide HSd).mono ?_; rintro e w2 ⟨rfl, rfl⟩) | (go_at_call 250; refine (unhide HFd).mono ?_; rintro e w2 ⟨rfl, rfl⟩))
        go_ret2
        exact ⟨p, true, b, rfl, hp, hb, hR1, hB1, Or.inl ⟨rfl, unhide HPS2⟩⟩
  · have HPS : Hid (pointS (T.drop a) = none) := by unfold pointS Hid; rw [h4]
    clear h4
    go_wp2_with fail
    go_ret2
    exact ⟨0, false, b, rfl, by decide, hb, hR1, hB1, Or.inr ⟨rfl, unhide HPS⟩⟩
end Go.Proofs.YtkmkkmdpjliifaaGreatDoor
namespace Go.Proofs.YtkmkkmdpjliifaaGreatDoor
open Go.ChangeShapes Go.WideShapes Go.ChangeAt Go.RowKit

theorem escS_other {c : UInt8} {t : List UInt8} (h1 : ¬ c = 34) (h2 : ¬ c = 92) (h3 : ¬ c = 47) (h4 : ¬ c = 98) (h5 : ¬ c = 102) (h6 : ¬ c = 110) (h7 : ¬ c = 114) (h8 : ¬ c = 116) (h9 : ¬ c = 117) : escS (c :: t) = none := by
  rw [escS, if_neg (by simp [h1, h2, h3]), if_neg h4, if_neg h5, if_neg h6, if_neg h7, if_neg h8, if_neg h9]
theorem nb {c : UInt8} {n : Nat} (hn : n < 256) (h : ¬ c = UInt8.ofNat n) : (((c.toNat : Nat) : Int) == (n : Int)) = false := u8_bne (n := n) (fun e => h ((u8_eq hn).2 e))

set_option maxRecDepth 20000 in
set_option maxHeartbeats 2000000 in
theorem escape_any (g : Nat) (T : List UInt8) (a : Nat) (w : World) (hT : T.length ≤ 1048576) (ha : a < T.length) (hR : Sc w g T a) :
    Calls Tryz.prog 235 #[.pointer (some ⟨g, 0, none⟩)] w (RunR g T (escS (T.drop (a + 1))) w) := by
  have HT := hide hT
  have hw : wrap64 ((a : Int) + 1) = (a : Int) + 1 := w64 _ (by omega) (by omega)
  have hc0 := hR.c0
  have hc1 := hR.c1
  have hf := hR.frozen 1
  obtain ⟨w1, hw1⟩ : ∃ w1, w1 = w.setCell ⟨g, 1, none⟩ (.int .i64 ((a : Int) + 1)) := ⟨_, rfl⟩
  have hR1 : Sc w1 g T (a + 1) := by rw [hw1]; exact hR.set1 (a + 1) _ rfl
  have hB1 : But g w w1 := by rw [hw1]; exact (But.refl _ _).setCell _ _
  have HW1 := hide hw1
  have hb : a + 1 ≤ T.length := ha
  clear hw1 hT hR
  go_enter Tryz.func235, Tryz.ntmps235
  go_wp2_with fail
  rw [← unhide HW1]
  clear HW1 hc0 hc1 hf hw ha
  generalize a + 1 = b at *
  have hc0 := hR1.c0
  have hc1 := hR1.c1
  by_cases hend : b = T.length
  · have hbe : (((b : Nat) : Int) == ((T.length : Nat) : Int)) = true := by simp [hend]
    have HN : Hid (escS (T.drop b) = none) := by unfold Hid; rw [List.drop_eq_nil_of_le (by omega)]; rfl
    clear hend
    go_quiet (fail)
    go_wp2_with fail
    go_ret2
    exact ⟨0, false, b, rfl, by decide, hb, hR1.drewN _, hB1.drewN _, Or.inr ⟨rfl, unhide HN⟩⟩
  · have hlt : b < T.length := by omega
    have hbe : (((b : Nat) : Int) == ((T.length : Nat) : Int)) = false := by simp only [beq_eq_false_iff_ne, ne_eq]; omega
    have hix := ix_any T b hlt
    have hbl : ((b : Nat) : Int) < (T.length : Int) := by omega
    have hby : by_ T b = (T.getD b 0).toNat := rfl
    rw [hby] at hix
    have hdc := drop_cons hlt
    generalize T.getD b 0 = c at *
    have hcl := c.toNat_lt
    have hw2 : wrap64 ((b : Int) + 1) = (b : Int) + 1 := w64 _ (by omega) (by have := unhide HT; omega)
    have hf := hR1.frozen 1
    have HD := hide hdc
    have hlt2 : b + 1 ≤ T.length := hlt
    clear hdc hend
    go_quiet (fail)
    go_wp2_with fail
    go_quiet (fail)
    by_cases e1 : c = 34
    · subst e1
      go_wp2_with fail
      go_ret2
      exact ⟨34, true, b + 1, rfl, by decide, hlt2, (hR1.drewN _).set1 (b + 1) _ rfl, (hB1.drewN _).setCell _ _, Or.inl ⟨rfl, by rw [unhide HD]; rfl⟩⟩
    have m1 : (((c.toNat : Nat) : Int) == 34) = false := nb (n := 34) (by decide) e1
    by_cases e2 : c = 92
    · subst e2
      go_wp2_with fail
      go_ret2
      exact ⟨92, true, b + 1, rfl, by decide, hlt2, (hR1.drewN _).set1 (b + 1) _ rfl, (hB1.drewN _).setCell _ _, Or.inl ⟨rfl, by rw [unhide HD]; rfl⟩⟩
    have m2 : (((c.toNat : Nat) : Int) == 92) = false := nb (n := 92) (by decide) e2
    by_cases e3 : c = 47
    · subst e3
      go_wp2_with fail
      go_ret2
      exact ⟨47, true, b + 1, rfl, by decide, hlt2, (hR1.drewN _).set1 (b + 1) _ rfl, (hB1.drewN _).setCell _ _, Or.inl ⟨rfl, by rw [unhide HD]; rfl⟩⟩
    have m3 : (((c.toNat : Nat) : Int) == 47) = false := nb (n := 47) (by decide) e3
    by_cases e4 : c = 98
    · subst e4
      go_wp2_with fail
      go_ret2
      exact ⟨8, true, b + 1, rfl, by decide, hlt2, (hR1.drewN _).set1 (b + 1) _ rfl, (hB1.drewN _).setCell _ _, Or.inl ⟨rfl, by rw [unhide HD]; rfl⟩⟩
    have m4 : (((c.toNat : Nat) : Int) == 98) = false := nb (n := 98) (by decide) e4
    by_cases e5 : c = 102
    · subst e5
      go_wp2_with fail
      go_ret2
      exact ⟨12, true, b + 1, rfl, by decide, hlt2, (hR1.drewN _).set1 (b + 1) _ rfl, (hB1.drewN _).setCell _ _, Or.inl ⟨rfl, by rw [unhide HD]; rfl⟩⟩
    have m5 : (((c.toNat : Nat) : Int) == 102) = false := nb (n := 102) (by decide) e5
    by_cases e6 : c = 110
    · subst e6
      go_wp2_with fail
      go_ret2
      exact ⟨10, true, b + 1, rfl, by decide, hlt2, (hR1.drewN _).set1 (b + 1) _ rfl, (hB1.drewN _).setCell _ _, Or.inl ⟨rfl, by rw [unhide HD]; rfl⟩⟩
    have m6 : (((c.toNat : Nat) : Int) == 110) = false := nb (n := 110) (by decide) e6
    by_cases e7 : c = 114
    · subst e7
      go_wp2_with fail
      go_ret2
      exact ⟨13, true, b + 1, rfl, by decide, hlt2, (hR1.drewN _).set1 (b + 1) _ rfl, (hB1.drewN _).setCell _ _, Or.inl ⟨rfl, by rw [unhide HD]; rfl⟩⟩
    have m7 : (((c.toNat : Nat) : Int) == 114) = false := nb (n := 114) (by decide) e7
    by_cases e8 : c = 116
    · subst e8
      go_wp2_with fail
      go_ret2
      exact ⟨9, true, b + 1, rfl, by decide, hlt2, (hR1.drewN _).set1 (b + 1) _ rfl, (hB1.drewN _).setCell _ _, Or.inl ⟨rfl, by rw [unhide HD]; rfl⟩⟩
    have m8 : (((c.toNat : Nat) : Int) == 116) = false := nb (n := 116) (by decide) e8
    by_cases e9 : c = 117
    · subst e9
      go_wp2_with fail
      refine (point_any g T (b + 1) _ (unhide HT) hlt2 ((hR1.drewN _).set1 (b + 1) _ rfl)).mono ?_
      rintro e w3 ⟨x, ok, d, rfl, hx, hd, hR3, hB3, hO3⟩
      have HO : Hid ((ok = true ∧ escS (T.drop b) = some (x, T.drop d)) ∨ (ok = false ∧ escS (T.drop b) = none)) := by
        unfold Hid
        rw [unhide HD]
        exact hO3
      clear hO3
      go_wp2_with fail
      go_ret2
      exact ⟨x, ok, d, rfl, hx, hd, hR3, ((hB1.drewN _).setCell _ _).trans hB3, unhide HO⟩
    have m9 : (((c.toNat : Nat) : Int) == 117) = false := nb (n := 117) (by decide) e9
    have HN : Hid (escS (T.drop b) = none) := by unfold Hid; rw [unhide HD]; exact escS_other e1 e2 e3 e4 e5 e6 e7 e8 e9
    clear e1 e2 e3 e4 e5 e6 e7 e8 e9
    go_wp2_with fail
    go_ret2
    exact ⟨0, false, b + 1, rfl, by decide, hlt2, (hR1.drewN _).set1 (b + 1) _ rfl, (hB1.drewN _).setCell _ _, Or.inr ⟨rfl, unhide HN⟩⟩

end Go.Proofs.YtkmkkmdpjliifaaGreatDoor
namespace Go.Proofs.YtkmkkmdpjliifaaGreatDoor
open Go.ChangeShapes Go.WideShapes Go.ChangeAt Go.RowKit

/-- Block g may have turned, new ones may have come. -/
structure Gr (g : Nat) (w w' : World) : Prop where
  os : w'.os = w.os
  tape : w'.tape = w.tape
  output : w'.output = w.output
  size : w.heap.size ≤ w'.heap.size
  block : ∀ k, k ≠ g → k < w.heap.size → w'.heap[k]? = w.heap[k]?
theorem Gr.refl (g : Nat) (w : World) : Gr g w w := ⟨rfl, rfl, rfl, Nat.le_refl _, fun _ _ _ => rfl⟩
theorem Gr.trans {g : Nat} {a b c : World} (h : Gr g a b) (k : Gr g b c) : Gr g a c :=
  ⟨k.os.trans h.os, k.tape.trans h.tape, k.output.trans h.output, Nat.le_trans h.size k.size, fun i hi hl => (k.block i hi (Nat.lt_of_lt_of_le hl h.size)).trans (h.block i hi hl)⟩
theorem Gr.ofBut {g : Nat} {w w' : World} (h : But g w w') : Gr g w w' := ⟨h.os, h.tape, h.output, by rw [h.size]; exact Nat.le_refl _, fun k hk _ => h.block k hk⟩
theorem Gr.ofBelow (g : Nat) {w w' : World} (h : Below w.heap.size w w') : Gr g w w' := ⟨h.os, h.tape, h.output, h.size, fun k _ hl => h.block k hl⟩
theorem Gr.drewN {g : Nat} {a w : World} (h : Gr g a w) (n : Nat) : Gr g a (w.drewN n) := ⟨h.os, h.tape, h.output, h.size, h.block⟩
theorem Gr.setCell {g : Nat} {a w : World} (h : Gr g a w) (o : Nat) (v : Value) : Gr g a (w.setCell ⟨g, o, none⟩ v) := h.trans (Gr.ofBut ((But.refl g w).setCell o v))
theorem Gr.alloc {g : Nat} {a w : World} (h : Gr g a w) (o : Obj) : Gr g a (w.alloc o) := h.trans (Gr.ofBelow g ((Below.refl _ _).alloc (Nat.le_refl _) o))
theorem Gr.below {g B : Nat} {w w' : World} (h : Gr g w w') (hg : B ≤ g) (hB : B ≤ w.heap.size) : Below B w w' := ⟨h.os, h.tape, h.output, h.size, fun k hk => h.block k (by omega) (by omega)⟩
theorem Row.keep {w w' : World} {g n : Nat} {t : TypeId} {f : Nat → Value} (h : Row w g t n f) (hb : w'.heap[g]? = w.heap[g]?) : Row w' g t n f := by
  obtain ⟨cs, h1, h2, h3⟩ := h
  exact ⟨cs, by rw [hb]; exact h1, h2, h3⟩
end Go.Proofs.YtkmkkmdpjliifaaGreatDoor
namespace Go.Proofs.YtkmkkmdpjliifaaGreatDoor
open Go.ChangeShapes Go.WideShapes Go.ChangeAt Go.RowKit

theorem encB_rune {x : Nat} (h : x < 1114112) (hs : x < 55296 ∨ 57344 ≤ x) : Lib.encodeRune (x : Int) = encB x := by
  unfold Lib.encodeRune encB
  by_cases h1 : x < 128
  · rw [if_pos h1, Lib.encodeRuneZ_one (by omega) (by omega)]
    simp
  rw [if_neg h1]
  by_cases h2 : x < 2048
  · rw [if_pos h2, Lib.encodeRuneZ_two (by omega) (by omega)]
    simp only [List.map_cons, List.map_nil]
    rw [show (192 + (x : Int) / 64).toNat = 192 + x / 64 by omega, show (128 + (x : Int) % 64).toNat = 128 + x % 64 by omega]
  rw [if_neg h2]
  by_cases h3 : x < 65536
  · rw [if_pos h3, Lib.encodeRuneZ_three (by omega)]
    simp only [List.map_cons, List.map_nil]
    rw [show (224 + (x : Int) / 4096).toNat = 224 + x / 4096 by omega, show (128 + (x : Int) / 64 % 64).toNat = 128 + x / 64 % 64 by omega, show (128 + (x : Int) % 64).toNat = 128 + x % 64 by omega]
  rw [if_neg h3, Lib.encodeRuneZ_four (by omega) (by omega)]
  simp only [List.map_cons, List.map_nil]
  rw [show (240 + (x : Int) / 262144).toNat = 240 + x / 262144 by omega, show (128 + (x : Int) / 4096 % 64).toNat = 128 + x / 4096 % 64 by omega, show (128 + (x : Int) / 64 % 64).toNat = 128 + x / 64 % 64 by omega, show (128 + (x : Int) % 64).toNat = 128 + x % 64 by omega]
theorem pieceS_plain {c : UInt8} {t : List UInt8} (h : ¬ c = 92) : pieceS (c :: t) = if c.toNat < 32 then none else if fN (c :: t) = 0 then none else some ((c :: t).take (fN (c :: t)), (c :: t).drop (fN (c :: t))) := by
  rw [pieceS]
  by_cases h1 : c.toNat < 32
  · rw [if_pos h1, if_pos h1]
  · rw [if_neg h1, if_neg h1, if_neg h]
/-- what the reading of a piece of a string comes to -/
def PieR (g : Nat) (T : List UInt8) (o : Option (List UInt8 × List UInt8)) (w : World) (e : Ending) (w' : World) : Prop :=
  ∃ (x : Nat) (ok : Bool) (b : Nat), e = .returned (.tuple #[.int .i32 (x : Nat), .bool ok]) ∧ x < 1114112 ∧ b ≤ T.length ∧ Sc w' g T b ∧ Gr g w w' ∧ ((ok = true ∧ o = some (Lib.encodeRune (x : Int), T.drop b)) ∨ (ok = false ∧ o = none))
theorem Sc.lt {w : World} {g : Nat} {T : List UInt8} {a : Nat} (h : Sc w g T a) : g < w.heap.size := Row.lt h
theorem Sc.below {w w' : World} {g : Nat} {T : List UInt8} {a : Nat} (h : Sc w g T a) (hb : Below w.heap.size w w') : Sc w' g T a := Row.keep h (hb.block g h.lt)

set_option maxRecDepth 20000 in
set_option maxHeartbeats 2000000 in
theorem rune_any (g : Nat) (T : List UInt8) (a : Nat) (w : World) (hT : T.length ≤ 1048576) (ha : a < T.length) (hR : Sc w g T a) (hU : UT w) :
    Calls Tryz.prog 226 #[.pointer (some ⟨g, 0, none⟩)] w (PieR g T (pieceS (T.drop a)) w) := by
  have HT := hide hT
  have HU := hide hU
  have hc0 := hR.c0
  have hc1 := hR.c1
  have hix := ix_any T a ha
  have hbl : ((a : Nat) : Int) < (T.length : Int) := by omega
  have hby : by_ T a = (T.getD a 0).toNat := rfl
  rw [hby] at hix
  have hdc := drop_cons ha
  generalize T.getD a 0 = c at *
  have hcl := c.toNat_lt
  clear hT hU
  by_cases e1 : c = 92
  · subst e1
    have HPS : Hid (pieceS (T.drop a) = (escS (T.drop (a + 1))).map (fun r => (encB r.1, r.2))) := by unfold Hid; rw [hdc]; rfl
    clear hdc
    go_enter Tryz.func226, Tryz.ntmps226
    go_wp2_with fail
    go_quiet (fail)
    go_wp2_with fail
    refine (escape_any g T a _ (unhide HT) ha (hR.drewN _)).mono ?_
    rintro e w1 ⟨x, ok, b, rfl, hx, hb, hR1, hB1, hO⟩
    have HO : Hid ((ok = true ∧ pieceS (T.drop a) = some (Lib.encodeRune (x : Int), T.drop b)) ∨ (ok = false ∧ pieceS (T.drop a) = none)) := by
      unfold Hid
      rw [unhide HPS]
      rcases hO with ⟨h1, h2⟩ | ⟨h1, h2⟩
      · refine Or.inl ⟨h1, ?_⟩
        have h3 := escS_len h2
        rw [h2, encB_rune hx h3.2.2]
        rfl
      · exact Or.inr ⟨h1, by rw [h2]; rfl⟩
    clear hO
    go_wp2_with fail
    go_ret2
    exact ⟨x, ok, b, rfl, hx, hb, hR1, (Gr.refl g w).trans (Gr.ofBut ⟨hB1.os, hB1.tape, hB1.output, hB1.size, hB1.block⟩), unhide HO⟩
  · have m1 : (((c.toNat : Nat) : Int) == 92) = false := nb (n := 92) (by decide) e1
    have hdr := drop_any T a (Nat.le_of_lt ha)
    have hne : T.drop a ≠ [] := by rw [hdc]; simp
    have hsz : (ByteArray.mk (T.drop a).toArray).size ≠ 0 := by
      have : (ByteArray.mk (T.drop a).toArray).size = (T.drop a).length := by simp [ByteArray.size]
      rw [this, List.length_drop]
      omega
    have hdec : Lib.decodeGo ⟨(T.drop a).toArray⟩ = Lib.decodeL (T.drop a) := by unfold Lib.decodeGo Lib.decodeL; rw [if_neg hsz]
    have HX := hide (fun w (hU : UT w) => Tryz.decodeRune ⟨(T.drop a).toArray⟩ w hU.1)
    rw [hdec] at HX
    have hr1 := Lib.decodeL_rune (T.drop a)
    have hr2 := Lib.decodeL_le (T.drop a) hne
    have hr3 := Lib.decodeL_width (T.drop a)
    have hfn := fN_decode (T.drop a) (by rw [List.length_drop]; omega)
    have hed := Lib.encode_decode (T.drop a) hne
    have HPS : Hid (pieceS (T.drop a) = if c.toNat < 32 then none else if (Lib.decodeL (T.drop a)).1 = 65533 ∧ (Lib.decodeL (T.drop a)).2 = 1 then none else some (Lib.encodeRune ((Lib.decodeL (T.drop a)).1 : Int), T.drop (a + (Lib.decodeL (T.drop a)).2))) := by
      unfold Hid
      rw [show pieceS (T.drop a) = if c.toNat < 32 then none else if fN (T.drop a) = 0 then none else some ((T.drop a).take (fN (T.drop a)), (T.drop a).drop (fN (T.drop a))) by rw [hdc]; exact pieceS_plain e1]
      rw [hfn]
      by_cases hbad : (Lib.decodeL (T.drop a)).1 = 65533 ∧ (Lib.decodeL (T.drop a)).2 = 1
      · rw [if_pos hbad, if_pos hbad, if_pos rfl]
      · rw [if_neg hbad, if_neg hbad, if_neg (Nat.ne_of_gt hr3), hed hbad, List.drop_drop]
    rw [List.length_drop] at hr2
    clear hdec hne hsz hfn hed hdc
    generalize Lib.decodeL (T.drop a) = rs at *
    obtain ⟨r, n⟩ := rs
    simp only at HX HPS hr1 hr2 hr3
    have hw : wrap64 ((a : Int) + (n : Int)) = (a : Int) + (n : Int) := w64 _ (by omega) (by have := unhide HT; omega)
    generalize hdb : (T.drop a).toArray = DB at *
    have HDB := hide hdb
    have hgl := hR.lt
    clear hdb e1
    go_enter Tryz.func226, Tryz.ntmps226
    go_wp2_with fail
    go_quiet (fail)
    go_wp2_with fail
    go_region_held3 (fun w' => w'.cell? ⟨g, 0, none⟩ = some (.string ⟨T.toArray⟩) ∧ w'.cell? ⟨g, 1, none⟩ = some (.int .i64 (a : Nat))) (go_keep)
      (first | (go_at_call 236; refine (unhide HX _ (by exact (unhide HU))).mono ?_; rintro e w2 ⟨rfl, hb2⟩; have k0 := (hb2.cell (p := ⟨g, 0, none⟩) (by exact hgl)).trans hc0; have k1 := (hb2.cell (p := ⟨g, 1, none⟩) (by exact hgl)).trans hc1))
    have hR2 := (hR.drewN (nq + 1)).below hb2
    have hf2 := hR2.frozen 1
    have hG2 : Gr g w w2 := (Gr.refl g w).trans (Gr.ofBelow g (w := w) ⟨hb2.os, hb2.tape, hb2.output, hb2.size, hb2.block⟩)
    have hb : a + n ≤ T.length := by omega
    have hxx : r < 1114112 := by omega
    have hR3 : Sc (w2.setCell ⟨g, 1, none⟩ (.int .i64 ((a : Int) + (n : Int)))) g T (a + n) := hR2.set1 (a + n) _ rfl
    have hG3 := hG2.setCell 1 (.int .i64 ((a : Int) + (n : Int)))
    have hcs : (((r : Int) == 65533) = false ∧ ¬ (r = 65533 ∧ n = 1)) ∨ (((r : Int) == 65533) = true ∧ ((n : Int) == 1) = false ∧ ¬ (r = 65533 ∧ n = 1)) ∨ (((r : Int) == 65533) = true ∧ ((n : Int) == 1) = true ∧ (r = 65533 ∧ n = 1)) := by
      by_cases h1 : r = 65533
      · have h1' : ((r : Int) == 65533) = true := by simp [h1]
        by_cases h2 : n = 1
        · exact Or.inr (Or.inr ⟨h1', by simp [h2], h1, h2⟩)
        · exact Or.inr (Or.inl ⟨h1', by simp only [beq_eq_false_iff_ne, ne_eq]; omega, fun h => h2 h.2⟩)
      · exact Or.inl ⟨by simp only [beq_eq_false_iff_ne, ne_eq]; omega, fun h => h1 h.1⟩
    clear hb2 hc0 hc1 hr1 hr2 hr3 hR hix hdr
    by_cases c32 : c.toNat < 32
    · have d1 : decide ((32 : Int) ≤ ((c.toNat : Nat) : Int)) = false := decide_eq_false (by omega)
      have HN : Hid (pieceS (T.drop a) = none) := by unfold Hid; rw [unhide HPS, if_pos c32]
      clear c32
      rcases hcs with ⟨b1, -⟩ | ⟨b1, b2, -⟩ | ⟨b1, b2, -⟩
      all_goals
        go_wp2_with fail
        go_ret2
        exact ⟨r, false, a + n, rfl, hxx, hb, hR3, hG3, Or.inr ⟨rfl, unhide HN⟩⟩
    · have d1 : decide ((32 : Int) ≤ ((c.toNat : Nat) : Int)) = true := decide_eq_true (by omega)
      rcases hcs with ⟨b1, b3⟩ | ⟨b1, b2, b3⟩ | ⟨b1, b2, b3⟩
      · have HN : Hid (pieceS (T.drop a) = some (Lib.encodeRune (r : Int), T.drop (a + n))) := by unfold Hid; rw [unhide HPS, if_neg c32, if_neg b3]
        clear c32 b3
        go_wp2_with fail
        go_ret2
        exact ⟨r, true, a + n, rfl, hxx, hb, hR3, hG3, Or.inl ⟨rfl, unhide HN⟩⟩
      · have HN : Hid (pieceS (T.drop a) = some (Lib.encodeRune (r : Int), T.drop (a + n))) := by unfold Hid; rw [unhide HPS, if_neg c32, if_neg b3]
        clear c32 b3
        go_wp2_with fail
        go_ret2
        exact ⟨r, true, a + n, rfl, hxx, hb, hR3, hG3, Or.inl ⟨rfl, unhide HN⟩⟩
      · have HN : Hid (pieceS (T.drop a) = none) := by unfold Hid; rw [unhide HPS, if_neg c32, if_pos b3]
        clear c32 b3
        go_wp2_with fail
        go_ret2
        exact ⟨r, false, a + n, rfl, hxx, hb, hR3, hG3, Or.inr ⟨rfl, unhide HN⟩⟩
end Go.Proofs.YtkmkkmdpjliifaaGreatDoor
namespace Go.Proofs.YtkmkkmdpjliifaaGreatDoor
open Go.ChangeShapes Go.WideShapes Go.ChangeAt Go.RowKit

end Go.Proofs.YtkmkkmdpjliifaaGreatDoor
namespace Go.Proofs.YtkmkkmdpjliifaaGreatDoor
open Go.ChangeShapes Go.WideShapes Go.ChangeAt Go.RowKit

theorem txt_more {s1 out u v u2 : List UInt8} (h : txtS s1 = (txtS u).map (fun r => (out ++ r.1, r.2))) (hu : txtS u = (txtS u2).map (fun r => (v ++ r.1, r.2))) : txtS s1 = (txtS u2).map (fun r => ((out ++ v) ++ r.1, r.2)) := by
  rw [h, hu, Option.map_map]
  congr 1
  funext r
  simp
theorem txtS_bad {c : UInt8} {r : List UInt8} (hc : c ≠ 34) (h : pieceS (c :: r) = none) : txtS (c :: r) = none := by rw [txtS_cons, if_neg hc, h]
theorem txtS_good {c : UInt8} {r b u : List UInt8} (hc : c ≠ 34) (h : pieceS (c :: r) = some (b, u)) : txtS (c :: r) = (txtS u).map (fun r => (b ++ r.1, r.2)) := by rw [txtS_cons, if_neg hc, h]

end Go.Proofs.YtkmkkmdpjliifaaGreatDoor
namespace Go.Proofs.YtkmkkmdpjliifaaGreatDoor
open Go.ChangeShapes Go.WideShapes Go.ChangeAt Go.RowKit

end Go.Proofs.YtkmkkmdpjliifaaGreatDoor
namespace Go.Proofs.YtkmkkmdpjliifaaGreatDoor
open Go.ChangeShapes Go.WideShapes Go.ChangeAt Go.RowKit

/-- a slice of strings that the call made itself, and what it holds -/
def OwnS (w : World) (base : Nat) (v : Value) (l : List (List UInt8)) : Prop := w.ownsRow base 9 1 v l.length (svs l)
theorem OwnS.nil (w : World) (base : Nat) : OwnS w base (.slice none 0 0) [] := World.ownsRow_nil _ _ _ _
theorem OwnS.below {w w' : World} {base : Nat} {v : Value} {l : List (List UInt8)} (h : OwnS w base v l) (hb : Below w.heap.size w w') : OwnS w' base v l := ownsRow_below h hb (Nat.le_refl _)
theorem OwnS.lt {w : World} {base : Nat} {v : Value} {l : List (List UInt8)} (h : OwnS w base v l) : ∀ k, v.ownBlock = some k → base ≤ k ∧ k < w.heap.size := World.ownsRow.lt h
theorem OwnS.keep {w w' : World} {base : Nat} {v : Value} {l : List (List UInt8)} (h : OwnS w base v l) (hb : ∀ k, base ≤ k → k < w.heap.size → w'.heap[k]? = w.heap[k]?) : OwnS w' base v l := by
  have hlt := h.lt
  obtain ⟨h1, h2⟩ := h
  refine ⟨h1, ?_⟩
  rcases h2 with h2 | ⟨g, cap, cur, hv, hg, hh, r⟩
  · exact Or.inl h2
  · have hl := (hlt g (by subst hv; rfl)).2
    exact Or.inr ⟨g, cap, cur, hv, hg, by rw [hb g hg hl]; exact hh, r⟩
theorem OwnS.gr {w w' : World} {base g : Nat} {v : Value} {l : List (List UInt8)} (h : OwnS w base v l) (hb : Gr g w w') (hg : g < base) : OwnS w' base v l := h.keep (fun k hk hl => hb.block k (by omega) hl)
theorem OwnS.down {w : World} {base b2 : Nat} {v : Value} {l : List (List UInt8)} (h : OwnS w base v l) (hb : b2 ≤ base) : OwnS w b2 v l := by
  obtain ⟨h1, h2⟩ := h
  refine ⟨h1, ?_⟩
  rcases h2 with h2 | ⟨g, cap, cur, hv, hg, r⟩
  · exact Or.inl h2
  · exact Or.inr ⟨g, cap, cur, hv, Nat.le_trans hb hg, r⟩
theorem OwnS.ls {w : World} {base : Nat} {v : Value} {l : List (List UInt8)} (h : OwnS w base v l) : Ls w w.heap.size v l := owns_Ls h
end Go.Proofs.YtkmkkmdpjliifaaGreatDoor
