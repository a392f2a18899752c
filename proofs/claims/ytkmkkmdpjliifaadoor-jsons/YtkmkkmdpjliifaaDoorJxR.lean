import Derived.Test.YtkmkkmdpjliifaaDoorJxS
import Derived.Test.YtkmkkmdpjliifaaDoorNxB
import Derived.Deep.QuietTactic
import Derived.BigQuiet
namespace Go.Proofs.YtkmkkmdpjliifaaDoor
open Go.ChangeShapes Go.WideShapes Go.ChangeAt Go.RowKit

/-- one text behind another -/
theorem cat_str (a b c : List UInt8) (hc : a ++ b = c) (hl : c.length ≤ 16777216) (u : World) : (Op.stringOp .add ⟨a.toArray⟩ ⟨b.toArray⟩).run Tryd.prog u = .ok (.string ⟨c.toArray⟩) u := by
  subst hc
  have h1 : (ByteArray.mk a.toArray).size = a.length := by simp [ByteArray.size]
  have h2 : (ByteArray.mk b.toArray).size = b.length := by simp [ByteArray.size]
  rw [List.length_append] at hl
  rw [run_string_add_sum (w := u) _ _ (by omega), ByteArray.mk_append_mk]
/-- a reader: what is left of its text; was anything wrong? -/
def rdF (t : List UInt8) (b : Bool) (j : Nat) : Value := if j = 0 then sv t else .bool b
def Rd (w : World) (g : Nat) (t : List UInt8) (b : Bool) : Prop := Row w g 71 2 (rdF t b)
theorem Rd.c0 {w : World} {g : Nat} {t : List UInt8} {b : Bool} (h : Rd w g t b) : w.cell? ⟨g, 0, none⟩ = some (.string ⟨t.toArray⟩) := h.cell (by decide)
theorem Rd.c1 {w : World} {g : Nat} {t : List UInt8} {b : Bool} (h : Rd w g t b) : w.cell? ⟨g, 1, none⟩ = some (.bool b) := h.cell (by decide)
theorem Rd.drewN {w : World} {g : Nat} {t : List UInt8} {b : Bool} (h : Rd w g t b) (n : Nat) : Rd (w.drewN n) g t b := Row.drewN h n
theorem Rd.set0 {w : World} {g : Nat} {t : List UInt8} {b : Bool} (h : Rd w g t b) (u : List UInt8) : Rd (w.setCell ⟨g, 0, none⟩ (.string ⟨u.toArray⟩)) g u b :=
  (Row.set h 0 _).congr (fun j hj => by
    by_cases e : j = 0
    · subst e; rfl
    · rw [if_neg e]; unfold rdF; rw [if_neg e, if_neg e])
theorem Rd.set1 {w : World} {g : Nat} {t : List UInt8} {b : Bool} (h : Rd w g t b) (c : Bool) : Rd (w.setCell ⟨g, 1, none⟩ (.bool c)) g t c :=
  (Row.set h 1 _).congr (fun j hj => by
    by_cases e : j = 1
    · subst e; rfl
    · have : j = 0 := by omega
      subst this; rfl)
theorem head_any (c : UInt8) (t : List UInt8) (u : World) : (Instr.index 9 (.string ⟨(c :: t).toArray⟩) (.int .i64 0)).run Tryd.prog u = .ok (.int .u8 (c.toNat : Nat)) u := ix_any (c :: t) 0 (by simp) u
theorem tail_any (c : UInt8) (t : List UInt8) (u : World) : (Instr.slice 9 (.string ⟨(c :: t).toArray⟩) (some (.int .i64 1)) none none).run Tryd.prog u = .ok (.string ⟨t.toArray⟩) u := drop_any (c :: t) 1 (by simp) u
theorem u8_eq {c : UInt8} {n : Nat} (hn : n < 256) : c = UInt8.ofNat n ↔ c.toNat = n := by
  rw [← UInt8.toNat_inj, UInt8.toNat_ofNat', Nat.mod_eq_of_lt hn]
theorem u8_beq {c : UInt8} {n : Nat} (h : c.toNat = n) : (((c.toNat : Nat) : Int) == (n : Int)) = true := by simp [h]
theorem u8_bne {c : UInt8} {n : Nat} (h : ¬ c.toNat = n) : (((c.toNat : Nat) : Int) == (n : Int)) = false := by
  simp only [beq_eq_false_iff_ne, ne_eq]; omega

set_option maxRecDepth 20000 in
set_option maxHeartbeats 1000000 in
theorem blank_any (g : Nat) (t : List UInt8) (b : Bool) (w : World) (hR : Rd w g t b) :
    Calls Tryd.prog 44 #[.pointer (some ⟨g, 0, none⟩)] w fun e w' => (∃ v, e = .returned v) ∧ Rd w' g (skipB t) b ∧ But g w w' := by
  go_enter Tryd.func44, Tryd.ntmps44
  go_wp2_with fail
  go_loopg [] t.length (fun q wr => ∃ u : List UInt8, Rd wr g u b ∧ u.length ≤ q ∧ skipB u = skipB t ∧ But g w wr)
  case atStart => exact ⟨t, hR, Nat.le_refl _, rfl, But.refl _ _⟩
  case round =>
    clear hR
    obtain ⟨u, hR, hq, hs, hB⟩ := hrel
    have hc0 := hR.c0
    have hf := hR.frozen 0
    cases u with
    | nil =>
      go_wp2
      go_end0
      exact ⟨⟨_, rfl⟩, by rw [← hs]; exact hR, hB⟩
    | cons c u =>
      have hix := head_any c u
      have htl := tail_any c u
      have hie : ((c :: u).isEmpty) = false := rfl
      by_cases hb : blankN c = true
      · have hs2 : skipB (c :: u) = skipB u := by rw [skipB, if_pos hb]
        have hcc : c = 32 ∨ c = 9 ∨ c = 10 ∨ c = 13 := by
          unfold blankN at hb
          simpa [or_assoc] using hb
        rcases hcc with rfl | rfl | rfl | rfl
        all_goals
          go_wp2
          go_roundg (gk - 1)
          case measure => simp at hq; omega
          case rel => exact ⟨u, hR.set0 u, by simp at hq; omega, by rw [← hs, hs2], hB.setCell _ _⟩
      · have hs2 : skipB (c :: u) = c :: u := by rw [skipB, if_neg hb]
        unfold blankN at hb
        simp at hb
        obtain ⟨⟨⟨n1, n2⟩, n3⟩, n4⟩ := hb
        have m1 : (((c.toNat : Nat) : Int) == 32) = false := u8_bne (n := 32) (fun h => n1 ((u8_eq (by decide)).2 h))
        have m2 : (((c.toNat : Nat) : Int) == 9) = false := u8_bne (n := 9) (fun h => n2 ((u8_eq (by decide)).2 h))
        have m3 : (((c.toNat : Nat) : Int) == 10) = false := u8_bne (n := 10) (fun h => n3 ((u8_eq (by decide)).2 h))
        have m4 : (((c.toNat : Nat) : Int) == 13) = false := u8_bne (n := 13) (fun h => n4 ((u8_eq (by decide)).2 h))
        go_wp2
        go_end0
        exact ⟨⟨_, rfl⟩, by rw [← hs, hs2]; exact hR, hB⟩

set_option maxRecDepth 20000 in
set_option maxHeartbeats 1000000 in
theorem sees_any (g : Nat) (c : UInt8) (t : List UInt8) (b : Bool) (w : World) (hR : Rd w g t b) :
    Calls Tryd.prog 71 #[.pointer (some ⟨g, 0, none⟩), .int .u8 (c.toNat : Nat)] w fun e w' => e = .returned (.bool (seesS c t).isSome) ∧ Rd w' g ((seesS c t).getD (skipB t)) b ∧ But g w w' := by
  unfold seesS
  have hbl := blank_any g t b w hR
  have HB := hide hbl
  clear hR hbl
  cases hs : skipB t with
  | nil =>
    rw [hs] at HB
    go_enter Tryd.func71, Tryd.ntmps71
    go_wp2_with (go_at_call 44; refine (unhide HB).mono ?_; rintro e w1 ⟨⟨v, rfl⟩, hR1, hB1⟩; have hc0 := hR1.c0; have hf := hR1.frozen 0)
    go_ret
    exact ⟨rfl, hR1, hB1⟩
  | cons d u =>
    rw [hs] at HB
    have hix := head_any d u
    have htl := tail_any d u
    by_cases h : d = c
    · subst h
      have m1 := u8_beq (c := d) rfl
      go_enter Tryd.func71, Tryd.ntmps71
      go_wp2_with (go_at_call 44; refine (unhide HB).mono ?_; rintro e w1 ⟨⟨v, rfl⟩, hR1, hB1⟩; have hc0 := hR1.c0; have hf := hR1.frozen 0)
      go_ret
      simp only
      exact ⟨rfl, hR1.set0 u, hB1.setCell _ _⟩
    · have m1 : (((d.toNat : Nat) : Int) == ((c.toNat : Nat) : Int)) = false := u8_bne (fun e => h (UInt8.toNat_inj.1 e))
      go_enter Tryd.func71, Tryd.ntmps71
      go_wp2_with (go_at_call 44; refine (unhide HB).mono ?_; rintro e w1 ⟨⟨v, rfl⟩, hR1, hB1⟩; have hc0 := hR1.c0; have hf := hR1.frozen 0)
      go_ret
      simp only
      exact ⟨rfl, hR1, hB1⟩

theorem must_any (g : Nat) (c : UInt8) (t : List UInt8) (b : Bool) (w : World) (hR : Rd w g t b) :
    Calls Tryd.prog 40 #[.pointer (some ⟨g, 0, none⟩), .int .u8 (c.toNat : Nat)] w fun e w' => (∃ v, e = .returned v) ∧ Rd w' g ((seesS c t).getD (skipB t)) (b || (seesS c t).isNone) ∧ But g w w' := by
  have hbl := sees_any g c t b w hR
  have HB := hide hbl
  clear hR hbl
  cases hs : seesS c t with
  | none =>
    rw [hs] at HB
    simp only [Option.isSome] at HB
    go_enter Tryd.func40, Tryd.ntmps40
    go_wp2_with (go_at_call 71; refine (unhide HB).mono ?_; rintro e w1 ⟨rfl, hR1, hB1⟩; have hc1 := hR1.c1; have hf := hR1.frozen 1)
    go_end0
    exact ⟨⟨_, rfl⟩, by simpa using hR1.set1 true, hB1.setCell _ _⟩
  | some u =>
    rw [hs] at HB
    simp only [Option.isSome] at HB
    go_enter Tryd.func40, Tryd.ntmps40
    go_wp2_with (go_at_call 71; refine (unhide HB).mono ?_; rintro e w1 ⟨rfl, hR1, hB1⟩)
    go_end0
    exact ⟨⟨_, rfl⟩, by simpa using hR1, hB1⟩
end Go.Proofs.YtkmkkmdpjliifaaDoor
