import Derived.Test.YtkmkkmdpjliifaaGreatDoorSvE
import Derived.Test.YtkmkkmdpjliifaaGreatDoorNxE
namespace Go.Proofs.YtkmkkmdpjliifaaGreatDoor
open Go.ChangeShapes Go.WideShapes Go.ChangeAt Go.RowKit

theorem isBlank_any (c : UInt8) (w : World) : Calls Tryz.prog 225 #[.int .u8 (c.toNat : Nat)] w fun e w' => e = .returned (.bool (blankN c)) ∧ w' = w := by
  by_cases h1 : c = 32
  · subst h1
    go_enter Tryz.func225, Tryz.ntmps225
    go_wp2_with fail
    go_ret
    exact ⟨rfl, rfl⟩
  have m1 : (((c.toNat : Nat) : Int) == 32) = false := u8_bne (n := 32) (fun h => h1 ((u8_eq (by decide)).2 h))
  by_cases h2 : c = 9
  · subst h2
    go_enter Tryz.func225, Tryz.ntmps225
    go_wp2_with fail
    go_ret
    exact ⟨rfl, rfl⟩
  have m2 : (((c.toNat : Nat) : Int) == 9) = false := u8_bne (n := 9) (fun h => h2 ((u8_eq (by decide)).2 h))
  by_cases h3 : c = 10
  · subst h3
    go_enter Tryz.func225, Tryz.ntmps225
    go_wp2_with fail
    go_ret
    exact ⟨rfl, rfl⟩
  have m3 : (((c.toNat : Nat) : Int) == 10) = false := u8_bne (n := 10) (fun h => h3 ((u8_eq (by decide)).2 h))
  by_cases h4 : c = 13
  · subst h4
    go_enter Tryz.func225, Tryz.ntmps225
    go_wp2_with fail
    go_ret
    exact ⟨rfl, rfl⟩
  have m4 : (((c.toNat : Nat) : Int) == 13) = false := u8_bne (n := 13) (fun h => h4 ((u8_eq (by decide)).2 h))
  have hb : blankN c = false := by unfold blankN; simp [h1, h2, h3, h4]
  rw [hb]
  go_enter Tryz.func225, Tryz.ntmps225
  go_wp2_with fail
  go_ret
  exact ⟨rfl, rfl⟩
/-- the kind of a sign of one byte -/
def markN (c : UInt8) : Nat := if c = 123 then 2 else if c = 125 then 3 else if c = 91 then 4 else if c = 93 then 5 else if c = 58 then 6 else if c = 44 then 7 else 0
theorem markKind_any (c : UInt8) (w : World) : Calls Tryz.prog 206 #[.int .u8 (c.toNat : Nat)] w fun e w' => e = .returned (.int .i64 (markN c : Nat)) ∧ w' = w := by
  by_cases h1 : c = 123
  · subst h1
    go_enter Tryz.func206, Tryz.ntmps206
    go_wp2_with fail
    go_ret
    exact ⟨rfl, rfl⟩
  have m1 : (((c.toNat : Nat) : Int) == 123) = false := u8_bne (n := 123) (fun h => h1 ((u8_eq (by decide)).2 h))
  by_cases h2 : c = 125
  · subst h2
    go_enter Tryz.func206, Tryz.ntmps206
    go_wp2_with fail
    go_ret
    exact ⟨rfl, rfl⟩
  have m2 : (((c.toNat : Nat) : Int) == 125) = false := u8_bne (n := 125) (fun h => h2 ((u8_eq (by decide)).2 h))
  by_cases h3 : c = 91
  · subst h3
    go_enter Tryz.func206, Tryz.ntmps206
    go_wp2_with fail
    go_ret
    exact ⟨rfl, rfl⟩
  have m3 : (((c.toNat : Nat) : Int) == 91) = false := u8_bne (n := 91) (fun h => h3 ((u8_eq (by decide)).2 h))
  by_cases h4 : c = 93
  · subst h4
    go_enter Tryz.func206, Tryz.ntmps206
    go_wp2_with fail
    go_ret
    exact ⟨rfl, rfl⟩
  have m4 : (((c.toNat : Nat) : Int) == 93) = false := u8_bne (n := 93) (fun h => h4 ((u8_eq (by decide)).2 h))
  by_cases h5 : c = 58
  · subst h5
    go_enter Tryz.func206, Tryz.ntmps206
    go_wp2_with fail
    go_ret
    exact ⟨rfl, rfl⟩
  have m5 : (((c.toNat : Nat) : Int) == 58) = false := u8_bne (n := 58) (fun h => h5 ((u8_eq (by decide)).2 h))
  by_cases h6 : c = 44
  · subst h6
    go_enter Tryz.func206, Tryz.ntmps206
    go_wp2_with fail
    go_ret
    exact ⟨rfl, rfl⟩
  have m6 : (((c.toNat : Nat) : Int) == 44) = false := u8_bne (n := 44) (fun h => h6 ((u8_eq (by decide)).2 h))
  have hb : markN c = 0 := by unfold markN; simp [h1, h2, h3, h4, h5, h6]
  rw [hb]
  go_enter Tryz.func206, Tryz.ntmps206
  go_wp2_with fail
  go_ret
  exact ⟨rfl, rfl⟩
theorem isSecond_any (r : Nat) (w : World) : Calls Tryz.prog 249 #[.int .i32 (r : Nat)] w fun e w' => e = .returned (.bool (decide (56320 ≤ r ∧ r < 57344))) ∧ w' = w := by
  by_cases h1 : 56320 ≤ r
  · have d1 : decide ((56320 : Int) ≤ ((r : Nat) : Int)) = true := decide_eq_true (by omega)
    by_cases h2 : r < 57344
    · have d2 : decide (((r : Nat) : Int) ≤ 57343) = true := decide_eq_true (by omega)
      rw [decide_eq_true (p := 56320 ≤ r ∧ r < 57344) ⟨h1, h2⟩]
      clear h1 h2
      go_enter Tryz.func249, Tryz.ntmps249
      go_wp2_with fail
      go_ret
      exact ⟨rfl, rfl⟩
    · have d2 : decide (((r : Nat) : Int) ≤ 57343) = false := decide_eq_false (by omega)
      rw [decide_eq_false (p := 56320 ≤ r ∧ r < 57344) (fun h => h2 h.2)]
      clear h1 h2
      go_enter Tryz.func249, Tryz.ntmps249
      go_wp2_with fail
      go_ret
      exact ⟨rfl, rfl⟩
  · have d1 : decide ((56320 : Int) ≤ ((r : Nat) : Int)) = false := decide_eq_false (by omega)
    rw [decide_eq_false (p := 56320 ≤ r ∧ r < 57344) (fun h => h1 h.1)]
    clear h1
    go_enter Tryz.func249, Tryz.ntmps249
    go_wp2_with fail
    go_ret
    exact ⟨rfl, rfl⟩
theorem isFirst_any (r : Nat) (w : World) : Calls Tryz.prog 250 #[.int .i32 (r : Nat)] w fun e w' => e = .returned (.bool (decide (55296 ≤ r ∧ r < 56320))) ∧ w' = w := by
  by_cases h1 : 55296 ≤ r
  · have d1 : decide ((55296 : Int) ≤ ((r : Nat) : Int)) = true := decide_eq_true (by omega)
    by_cases h2 : r < 56320
    · have d2 : decide (((r : Nat) : Int) ≤ 56319) = true := decide_eq_true (by omega)
      rw [decide_eq_true (p := 55296 ≤ r ∧ r < 56320) ⟨h1, h2⟩]
      clear h1 h2
      go_enter Tryz.func250, Tryz.ntmps250
      go_wp2_with fail
      go_ret
      exact ⟨rfl, rfl⟩
    · have d2 : decide (((r : Nat) : Int) ≤ 56319) = false := decide_eq_false (by omega)
      rw [decide_eq_false (p := 55296 ≤ r ∧ r < 56320) (fun h => h2 h.2)]
      clear h1 h2
      go_enter Tryz.func250, Tryz.ntmps250
      go_wp2_with fail
      go_ret
      exact ⟨rfl, rfl⟩
  · have d1 : decide ((55296 : Int) ≤ ((r : Nat) : Int)) = false := decide_eq_false (by omega)
    rw [decide_eq_false (p := 55296 ≤ r ∧ r < 56320) (fun h => h1 h.1)]
    clear h1
    go_enter Tryz.func250, Tryz.ntmps250
    go_wp2_with fail
    go_ret
    exact ⟨rfl, rfl⟩

set_option maxRecDepth 20000 in
set_option maxHeartbeats 1000000 in
theorem hexValue_any (c : UInt8) (w : World) : Calls Tryz.prog 256 #[.int .u8 (c.toNat : Nat)] w fun e w' => e = .returned (.tuple #[.int .i32 ((hexN c).getD 0 : Nat), .bool (hexN c).isSome]) ∧ w' = w := by
  have hcl := c.toNat_lt
  by_cases c1 : 48 ≤ c.toNat ∧ c.toNat ≤ 57
  · have hd : (decide (48 ≤ c.toNat) && decide (c.toNat ≤ 57)) = true := by simp [c1.1, c1.2]
    have hx : hexN c = some (c.toNat - 48) := by unfold hexN; rw [if_pos c1]
    have e1 : ((c.toNat : Int) - 48) % 256 = ((c.toNat - 48 : Nat) : Int) := by omega
    rw [hx]
    simp only [Option.getD, Option.isSome]
    have hz : c.toNat - 48 < 10 := by omega
    generalize c.toNat - 48 = z at *
    have HC := hide (isDigit_any c.toNat w)
    rw [hd] at HC
    clear hd c1 hx hcl
    go_enter Tryz.func256, Tryz.ntmps256
    go_wp2_with (go_at_call 149; refine (unhide HC).mono ?_; rintro e w1 ⟨rfl, rfl⟩)
    go_ret2
    exact ⟨rfl, rfl⟩
  have hd : (decide (48 ≤ c.toNat) && decide (c.toNat ≤ 57)) = false := by simp; omega
  have HC := hide (isDigit_any c.toNat w)
  rw [hd] at HC
  clear hd
  by_cases c2 : 97 ≤ c.toNat ∧ c.toNat ≤ 102
  · have hx : hexN c = some (c.toNat - 87) := by unfold hexN; rw [if_neg c1, if_pos c2]
    have d1 : decide ((97 : Int) ≤ (c.toNat : Int)) = true := decide_eq_true (by omega)
    have d2 : decide ((c.toNat : Int) ≤ 102) = true := decide_eq_true (by omega)
    have e1 : ((c.toNat : Int) - 97) % 256 = ((c.toNat - 97 : Nat) : Int) := by omega
    have e2 : ((c.toNat - 87 : Nat) : Int) = ((c.toNat - 97 : Nat) : Int) + 10 := by omega
    rw [hx]
    simp only [Option.getD, Option.isSome]
    rw [e2]
    have hz : c.toNat - 97 < 6 := by omega
    generalize c.toNat - 97 = z at *
    clear c1 c2 hx hcl e2
    go_enter Tryz.func256, Tryz.ntmps256
    go_wp2_with (go_at_call 149; refine (unhide HC).mono ?_; rintro e w1 ⟨rfl, rfl⟩)
    go_ret2
    exact ⟨rfl, rfl⟩
  by_cases c3 : 65 ≤ c.toNat ∧ c.toNat ≤ 70
  · have hx : hexN c = some (c.toNat - 55) := by unfold hexN; rw [if_neg c1, if_neg c2, if_pos c3]
    have d1 : decide ((97 : Int) ≤ (c.toNat : Int)) = false := decide_eq_false (by omega)
    have d2 : decide ((65 : Int) ≤ (c.toNat : Int)) = true := decide_eq_true (by omega)
    have d3 : decide ((c.toNat : Int) ≤ 70) = true := decide_eq_true (by omega)
    have e1 : ((c.toNat : Int) - 65) % 256 = ((c.toNat - 65 : Nat) : Int) := by omega
    have e2 : ((c.toNat - 55 : Nat) : Int) = ((c.toNat - 65 : Nat) : Int) + 10 := by omega
    rw [hx]
    simp only [Option.getD, Option.isSome]
    rw [e2]
    have hz : c.toNat - 65 < 6 := by omega
    generalize c.toNat - 65 = z at *
    clear c1 c2 c3 hx hcl e2
    go_enter Tryz.func256, Tryz.ntmps256
    go_wp2_with (go_at_call 149; refine (unhide HC).mono ?_; rintro e w1 ⟨rfl, rfl⟩)
    go_ret2
    exact ⟨rfl, rfl⟩
  · have hx : hexN c = none := by unfold hexN; rw [if_neg c1, if_neg c2, if_neg c3]
    rw [hx]
    simp only [Option.getD, Option.isSome]
    have k2 : decide ((97 : Int) ≤ (c.toNat : Int)) = false ∨ (decide ((97 : Int) ≤ (c.toNat : Int)) = true ∧ decide ((c.toNat : Int) ≤ 102) = false) := by simp; omega
    have k3 : decide ((65 : Int) ≤ (c.toNat : Int)) = false ∨ (decide ((65 : Int) ≤ (c.toNat : Int)) = true ∧ decide ((c.toNat : Int) ≤ 70) = false) := by simp; omega
    clear c1 c2 c3 hx hcl
    rcases k2 with a1 | ⟨a1, a2⟩ <;> rcases k3 with b1 | ⟨b1, b2⟩
    all_goals
      go_enter Tryz.func256, Tryz.ntmps256
      go_wp2_with (go_at_call 149; refine (unhide HC).mono ?_; rintro e w1 ⟨rfl, rfl⟩)
      go_ret2
      exact ⟨rfl, rfl⟩
/-- a scanner: its text, the place of the first byte that is not read yet -/
def scF (T : List UInt8) (a j : Nat) : Value := if j = 0 then sv T else .int .i64 (a : Nat)
def Sc (w : World) (g : Nat) (T : List UInt8) (a : Nat) : Prop := Row w g 227 2 (scF T a)
theorem Sc.c0 {w : World} {g : Nat} {T : List UInt8} {a : Nat} (h : Sc w g T a) : w.cell? ⟨g, 0, none⟩ = some (.string ⟨T.toArray⟩) := h.cell (by decide)
theorem Sc.c1 {w : World} {g : Nat} {T : List UInt8} {a : Nat} (h : Sc w g T a) : w.cell? ⟨g, 1, none⟩ = some (.int .i64 (a : Nat)) := h.cell (by decide)
theorem Sc.drewN {w : World} {g : Nat} {T : List UInt8} {a : Nat} (h : Sc w g T a) (n : Nat) : Sc (w.drewN n) g T a := Row.drewN h n
theorem Sc.set1 {w : World} {g : Nat} {T : List UInt8} {a : Nat} (h : Sc w g T a) (b : Nat) (x : Int) (hx : x = (b : Nat)) : Sc (w.setCell ⟨g, 1, none⟩ (.int .i64 x)) g T b :=
  (Row.set h 1 _).congr (fun j hj => by
    subst hx
    by_cases e : j = 1
    · subst e; rfl
    · have : j = 0 := by omega
      subst this; rfl)
theorem drop_cons {T : List UInt8} {a : Nat} (h : a < T.length) : T.drop a = T.getD a 0 :: T.drop (a + 1) := by
  rw [List.drop_eq_getElem_cons h]
  simp [List.getD, List.getElem?_eq_getElem h]

set_option maxRecDepth 20000 in
set_option maxHeartbeats 1000000 in
theorem skipBlanks_any (g : Nat) (T : List UInt8) (a : Nat) (w : World) (hT : T.length ≤ 1048576) (ha : a ≤ T.length) (hR : Sc w g T a) :
    Calls Tryz.prog 203 #[.pointer (some ⟨g, 0, none⟩)] w fun e w' => (∃ v, e = .returned v) ∧ (∃ b, b ≤ T.length ∧ a ≤ b ∧ T.drop b = skipB (T.drop a) ∧ Sc w' g T b) ∧ But g w w' := by
  have HT := hide hT
  clear hT
  go_enter Tryz.func203, Tryz.ntmps203
  go_wp2_with fail
  go_loopg [] (T.length - a) (fun q wr => ∃ b : Nat, b + q = T.length ∧ a ≤ b ∧ skipB (T.drop a) = skipB (T.drop b) ∧ Sc wr g T b ∧ But g w wr)
  case atStart => exact ⟨a, by omega, Nat.le_refl _, rfl, hR, But.refl _ _⟩
  case round =>
    clear hR
    obtain ⟨b, hq, hab, hs, hR, hB⟩ := hrel
    have hc0 := hR.c0
    have hc1 := hR.c1
    have hf := hR.frozen 1
    by_cases hlt : b < T.length
    · have hix := ix_any T b hlt
      have hbl : (b : Int) < (T.length : Int) := by omega
      have hby : by_ T b = (T.getD b 0).toNat := rfl
      rw [hby] at hix
      have hdc := drop_cons hlt
      generalize T.getD b 0 = c at *
      have hw : wrap64 ((b : Int) + 1) = (b : Int) + 1 := w64 _ (by omega) (by have := unhide HT; omega)
      have HC := hide (fun w => isBlank_any c w)
      have HD := hide hdc
      clear hdc
      cases hb : blankN c with
      | true =>
        rw [hb] at HC
        have HB := hide hb
        clear hb
        go_wp2_with fail
        go_quiet (first | (go_at_call 225; exact Calls.quiet_of_same (unhide HC _)))
        go_wp2_with fail
        go_roundg (gk - 1)
        case measure => omega
        case rel => exact ⟨b + 1, by omega, by omega, by rw [hs, unhide HD, skipB, if_pos (unhide HB)], (hR.drewN _).set1 (b + 1) _ (by first | exact hw | rfl), (hB.drewN _).setCell _ _⟩
      | false =>
        rw [hb] at HC
        have HB := hide hb
        clear hb
        go_wp2_with fail
        go_quiet (first | (go_at_call 225; exact Calls.quiet_of_same (unhide HC _)))
        go_wp2_with fail
        go_end0
        exact ⟨⟨_, rfl⟩, ⟨b, by omega, hab, by rw [hs, unhide HD, skipB, if_neg (by rw [unhide HB]; decide)], hR.drewN _⟩, hB.drewN _⟩
    · have d1 : decide ((b : Int) < (T.length : Int)) = false := decide_eq_false (by omega)
      have hbe : T.drop b = [] := List.drop_eq_nil_of_le (by omega)
      go_wp2_with fail
      go_quiet (first | (go_at_call 225; fail))
      go_wp2_with fail
      go_end0
      exact ⟨⟨_, rfl⟩, ⟨b, by omega, hab, by rw [hs, hbe]; rfl, hR.drewN _⟩, hB.drewN _⟩
end Go.Proofs.YtkmkkmdpjliifaaGreatDoor
