import Derived.Test.YtkmkkmdpjliifaaGreatDoorTxC
import Derived.Test.YtkmkkmdpjliifaaGreatDoorTxM
import Derived.Lib.ValidU
namespace Go.Proofs.YtkmkkmdpjliifaaGreatDoor
open Go.ChangeShapes Go.WideShapes Go.ChangeAt Go.RowKit

/-- Block g alone may have turned. -/
structure But (g : Nat) (w w' : World) : Prop where
  os : w'.os = w.os
  tape : w'.tape = w.tape
  output : w'.output = w.output
  size : w'.heap.size = w.heap.size
  block : ∀ k, k ≠ g → w'.heap[k]? = w.heap[k]?
theorem But.refl (g : Nat) (w : World) : But g w w := ⟨rfl, rfl, rfl, rfl, fun _ _ => rfl⟩
theorem But.trans {g : Nat} {a b c : World} (h : But g a b) (k : But g b c) : But g a c := ⟨k.os.trans h.os, k.tape.trans h.tape, k.output.trans h.output, k.size.trans h.size, fun i hi => (k.block i hi).trans (h.block i hi)⟩
theorem But.drewN {g : Nat} {a w : World} (h : But g a w) (n : Nat) : But g a (w.drewN n) := ⟨h.os, h.tape, h.output, h.size, h.block⟩
theorem But.drew {g : Nat} {a w : World} (h : But g a w) : But g a w.drew := ⟨h.os, h.tape, h.output, h.size, h.block⟩
theorem But.setCell {g : Nat} {a w : World} (h : But g a w) (o : Nat) (v : Value) : But g a (w.setCell ⟨g, o, none⟩ v) :=
  h.trans ⟨rfl, rfl, rfl, by simp [World.setCell], fun k hk => Below.heap_setCell _ _ _ _ hk⟩
theorem But.below {g B : Nat} {w w' : World} (h : But g w w') (hB : B ≤ g) : Below B w w' := ⟨h.os, h.tape, h.output, by rw [h.size]; exact Nat.le_refl _, fun k hk => h.block k (by omega)⟩
theorem Row.but {w w' : World} {g g' n : Nat} {t : TypeId} {f : Nat → Value} (h : Row w g t n f) (hb : But g' w w') (hne : g ≠ g') : Row w' g t n f := by
  obtain ⟨cs, h1, h2, h3⟩ := h
  exact ⟨cs, by rw [hb.block g hne]; exact h1, h2, h3⟩

set_option maxRecDepth 20000 in
set_option maxHeartbeats 1000000 in
theorem stays_any (v : Value) (l : List (List UInt8)) (w : World) (B g : Nat) (hB : B ≤ g) (hl : l.length ≤ 8796093022208) (hv : Ls w B v l) (hR : Row w g 9 (l.length + 4) (lentF l)) :
    Calls Tryz.prog 81 #[.slice (some ⟨g, 0, none⟩) l.length (l.length + 4), v] w fun e w' => e = .returned (.bool true) ∧ Row w' g 9 (l.length + 4) (fun _ => sv spoiltL) ∧ But g w w' := by
  obtain ⟨a, c, rfl, hle, hv⟩ := hv
  clear hle
  have HL := hide hl
  have hadd : wrap64 ((l.length : Int) + 4) = (l.length : Int) + 4 := w64 _ (by omega) (by omega)
  clear hl
  go_enter Tryz.func81, Tryz.ntmps81
  go_wp2
  go_loopg [6, 7] (l.length + 4) (fun q b i wr => ∃ k : Nat, k + q = l.length + 4 ∧ b = .bool true ∧ i = .int .i64 (k : Nat) ∧ Row wr g 9 (l.length + 4) (fun j => if j < k then sv spoiltL else lentF l j) ∧ But g w wr)
  case atStart => exact ⟨0, Nat.zero_add _, rfl, rfl, hR.congr (fun j hj => by rw [if_neg (Nat.not_lt_zero j)]), But.refl _ _⟩
  case round =>
    clear hR
    obtain ⟨k, hk, rfl, rfl, hR, hb⟩ := hrel
    have hw : wrap64 ((k : Int) + 1) = (k : Int) + 1 := w64 _ (by omega) (by have := unhide HL; omega)
    by_cases hlt : k < l.length + 4
    · have hc := hR.cell hlt
      rw [if_neg (Nat.lt_irrefl k)] at hc
      have hfz := hR.frozen k
      unfold lentF at hc
      by_cases h1 : k < l.length
      · obtain ⟨g2, o2, rfl, hg2, hv2⟩ := hv (by omega)
        have hc2 := hv2 k h1
        rw [← World.cell?_of_block (a := ⟨g2, o2 + k, none⟩) (hb.block g2 (by omega))] at hc2
        rw [if_pos h1] at hc
        generalize l.getD k [] = s at hc hc2
        rw [sv_def] at hc hc2
        have d1 : decide (k < l.length) = true := decide_eq_true h1
        have d2 : decide (l.length ≤ k) = false := decide_eq_false (by omega)
        go_wp2
        go_quiet (fail)
        go_wp2
        go_roundg (gk - 1)
        case measure => omega
        case rel =>
          refine ⟨k + 1, by omega, rfl, by go_num, ((hR.drewN _).set k _).congr (fun j hj => ?_), (hb.drewN _).setCell _ _⟩
          by_cases e1 : j = k
          · subst e1
            rw [if_pos rfl, if_pos (by omega)]; rfl
          · have e2 : (j < k + 1) ↔ j < k := by omega
            simp only [e1, e2, if_false]
      · rw [if_neg h1] at hc
        have d1 : decide (k < l.length) = false := decide_eq_false h1
        have d2 : decide (l.length ≤ k) = true := decide_eq_true (by omega)
        rw [sv_def] at hc
        unfold beyondL at hc
        go_wp2
        go_quiet (fail)
        go_wp2
        go_roundg (gk - 1)
        case measure => omega
        case rel =>
          refine ⟨k + 1, by omega, rfl, by go_num, ((hR.drewN _).set k _).congr (fun j hj => ?_), (hb.drewN _).setCell _ _⟩
          by_cases e1 : j = k
          · subst e1
            rw [if_pos rfl, if_pos (by omega)]; rfl
          · have e2 : (j < k + 1) ↔ j < k := by omega
            simp only [e1, e2, if_false]
    · go_wp2
      go_ret
      exact ⟨rfl, hR.congr (fun j hj => by rw [if_pos (by omega)]), hb⟩
end Go.Proofs.YtkmkkmdpjliifaaGreatDoor
namespace Go.Proofs.YtkmkkmdpjliifaaGreatDoor
open Go.ChangeShapes Go.WideShapes Go.ChangeAt Go.RowKit

/-- which of n things a raw number speaks of -/
def pickZ (c : Int) (n : Int) : Int := if c < 0 then -((c + 1).tmod n) else c % n
theorem pick_any (c n : Int) (w : World) (hc : -9223372036854775808 ≤ c ∧ c ≤ 9223372036854775807) (hn : 0 < n ∧ n ≤ 100) :
    Calls Tryz.prog 43 #[.int .i64 c, .int .i64 n] w fun e w' => e = .returned (.int .i64 (pickZ c n)) ∧ Below w.heap.size w w' := by
  go_enter Tryz.func43, Tryz.ntmps43
  go_wp2
  all_goals go_ret
  all_goals refine ⟨?_, by first | exact Below.refl _ _ | exact (Below.refl _ _).drew | exact (Below.refl _ _).drew.drew⟩
  all_goals unfold pickZ
  · rw [if_pos (by assumption)]; rfl
  · rw [if_neg (by omega)]; rfl
theorem pickZ_range (c n : Int) (hn : 0 < n) : 0 ≤ pickZ c n ∧ pickZ c n < n := by
  unfold pickZ
  split
  · rename_i h
    have e : (c + 1).tmod n = -((-(c + 1)) % n) := by
      rw [show c + 1 = -(-(c + 1)) by omega, Int.neg_tmod, Int.tmod_eq_emod_of_nonneg (by omega)]
      simp
    have h1 := Int.emod_nonneg (-(c + 1)) (show n ≠ 0 by omega)
    have h2 := Int.emod_lt_of_pos (-(c + 1)) hn
    omega
  · exact ⟨Int.emod_nonneg _ (by omega), Int.emod_lt_of_pos _ hn⟩

/-- what follows of a code point behind its first byte -/
def ptN (l : List UInt8) (p0 : Nat) : Nat → Nat
  | 0 => p0
  | k + 1 => ptN l p0 k * 64 + by_ l (k + 1) % 64
def goodN (l : List UInt8) : Nat → Bool
  | 0 => true
  | k + 1 => goodN l k && decide (by_ l (k + 1) / 64 = 2)
def tailN (l : List UInt8) (n low p : Nat) : Nat :=
  if l.length < n then 0 else if goodN l (n - 1) = false then 0 else
  if ptN l p (n - 1) < low ∨ 1114111 < ptN l p (n - 1) ∨ (55296 ≤ ptN l p (n - 1) ∧ ptN l p (n - 1) < 57344) then 0 else n
def fN (l : List UInt8) : Nat :=
  if by_ l 0 < 128 then 1 else if 192 ≤ by_ l 0 ∧ by_ l 0 < 224 then tailN l 2 128 (by_ l 0 % 32)
  else if 224 ≤ by_ l 0 ∧ by_ l 0 < 240 then tailN l 3 2048 (by_ l 0 % 16)
  else if 240 ≤ by_ l 0 ∧ by_ l 0 < 248 then tailN l 4 65536 (by_ l 0 % 8) else 0

theorem ix_any (l : List UInt8) (p : Nat) (h : p < l.length) (u : World) : (Instr.index 9 (.string ⟨l.toArray⟩) (.int .i64 (p : Int))).run Tryz.prog u = .ok (.int .u8 (by_ l p)) u := by
  have h3 : p < (ByteArray.mk l.toArray).size := by simpa [ByteArray.size] using h
  have h2 := by_get ⟨l.toArray⟩ p h3
  have h4 : (ByteArray.mk l.toArray)[p]? = some ((ByteArray.mk l.toArray)[p]'h3) := ByteArray.getElem?_lt' _ p h3
  unfold Instr.index
  simp only [asIntOf, Sem.run_bind, Sem.run_pure, run_underlying Tryz.underlying9, Result.andThen_ok]
  rw [if_pos (by omega), Int.toNat_natCast, h4]
  simp [h2]

theorem goodN_bad (l : List UInt8) (k : Nat) (h : ¬ by_ l (k + 1) / 64 = 2) : ∀ n, k < n → goodN l n = false
  | 0, hk => by omega
  | n + 1, hk => by
    rw [goodN]
    by_cases e : k = n
    · subst e
      rw [decide_eq_false h, Bool.and_false]
    · rw [goodN_bad l k h n (by omega), Bool.false_and]

set_option maxRecDepth 20000 in
set_option maxHeartbeats 1000000 in
theorem first_2 (l : List UInt8) (w : World) (h0 : 0 < l.length) (hl : l.length ≤ 9223372036854775807) (h1 : 192 ≤ by_ l 0) (h2 : by_ l 0 < 224) :
    Calls Tryz.prog 187 #[.string ⟨l.toArray⟩] w fun e w' => e = .returned (.int .i64 (tailN l 2 128 (by_ l 0 % 32))) ∧ Below w.heap.size w w' := by
  have HL := hide hl
  clear hl
  have hix : ∀ u, (Instr.index 9 (.string ⟨l.toArray⟩) (.int .i64 0)).run Tryz.prog u = .ok (.int .u8 (by_ l 0)) u := fun u => ix_any l 0 h0 u
  have hw : wrap64 (by_ l 0 : Int) = (by_ l 0 : Int) := w64 _ (by omega) (by omega)
  generalize hc : by_ l 0 = c at *
  have HC := hide hc
  clear hc
  have f1 : ¬ (c : Int) < 128 := by omega
  have f2 : (192 : Int) ≤ c := by omega
  have f3 : (c : Int) < 224 := by omega
  go_enter Tryz.func187, Tryz.ntmps187
  go_wp2
  · have : l.length < 2 := by omega
    go_ret
    refine ⟨?_, Below.refl _ _⟩
    unfold tailN
    rw [if_pos this]; rfl
  · have h2l : 2 ≤ l.length := by omega
    have hnl : ¬ l.length < 2 := by omega
    go_loopg [6, 7] 1 (fun q p i wr => ∃ k : Nat, k + q = 1 ∧ i = .int .i64 ((k : Int) + 1) ∧ p = .int .i64 (ptN l (c % 32) k : Nat) ∧ goodN l k = true ∧ ptN l (c % 32) k < 32 * 64 ^ k ∧ Below w.heap.size w wr)
    case atStart => exact ⟨0, rfl, rfl, rfl, rfl, by unfold ptN; omega, Below.refl _ _⟩
    case round =>
      obtain ⟨k, hk, rfl, rfl, hg, hp, hB⟩ := hrel
      have HG := hide hg
      have HP := hide hp
      clear hg hp
      by_cases hlt : k < 1
      · have hbl := by_lt l (k + 1)
        have hix2 : ∀ u, (Instr.index 9 (.string ⟨l.toArray⟩) (.int .i64 ((k : Int) + 1))).run Tryz.prog u = .ok (.int .u8 (by_ l (k + 1))) u := fun u => ix_any l (k + 1) (by omega) u
        generalize hb : by_ l (k + 1) = b at hbl hix2
        generalize hpt : ptN l (c % 32) k = pt at *
        have HB := hide hb
        have HPT := hide hpt
        clear hb hpt
        have hw2 : wrap64 (b : Int) = (b : Int) := w64 _ (by omega) (by omega)
        go_wp2
        · rename_i hne
          go_ret
          refine ⟨?_, hB⟩
          have hbad : ¬ by_ l (k + 1) / 64 = 2 := by
            rw [unhide HB]
            simp only [bne_iff_ne, ne_eq] at hne
            omega
          unfold tailN
          rw [if_neg hnl, if_pos (goodN_bad l k hbad 1 hlt)]; rfl
        · rename_i hne
          have hok : b / 64 = 2 := by
            simp only [bne_eq_false_iff_eq] at hne
            omega
          go_roundg (gk - 1)
          case measure => omega
          case rel =>
            have hpt2 : pt < 524288 := by
              have h := unhide HP
              rcases (show k = 0 by omega) with rfl <;> simp at h <;> omega
            have e : ptN l (c % 32) (k + 1) = pt * 64 + b % 64 := by rw [ptN, unhide HPT, unhide HB]
            refine ⟨k + 1, by omega, congrArg (Value.int .i64) ?_, congrArg (Value.int .i64) ?_, ?_, ?_, hB⟩
            · first | omega | (rw [w64 _ (by omega) (by omega)]; omega) | (push_cast; omega)
            · rw [e, w64 ((pt : Int) * 64) (by omega) (by omega), w64 _ (by omega) (by omega)]
              omega
            · rw [goodN, unhide HG, unhide HB, hok]; rfl
            · rw [e, Nat.pow_succ]
              have h := unhide HP
              have h64 : b % 64 < 64 := Nat.mod_lt _ (by omega)
              calc pt * 64 + b % 64 < (pt + 1) * 64 := by omega
                _ ≤ (32 * 64 ^ k) * 64 := Nat.mul_le_mul_right _ h
                _ = 32 * (64 ^ k * 64) := by rw [Nat.mul_assoc]
      · have hkk : k = 1 := by omega
        have hfin : ∀ r : Nat, (if ptN l (c % 32) k < 128 ∨ 1114111 < ptN l (c % 32) k ∨ (55296 ≤ ptN l (c % 32) k ∧ ptN l (c % 32) k < 57344) then 0 else 2) = r → tailN l 2 128 (c % 32) = r := by
          intro r hr
          unfold tailN
          rw [if_neg hnl, if_neg (by rw [show 2 - 1 = k by omega, unhide HG]; decide), show 2 - 1 = k by omega]
          exact hr
        have HFIN := hide hfin
        clear hfin
        generalize hpt : ptN l (c % 32) k = pt at *
        go_wp2
        all_goals go_ret
        all_goals refine ⟨?_, hB⟩
        all_goals rw [unhide HFIN _ rfl]
        all_goals first
          | (rw [if_pos (by omega)]; rfl)
          | (rw [if_neg (by omega)]; rfl)

set_option maxRecDepth 20000 in
set_option maxHeartbeats 1000000 in
theorem first_3 (l : List UInt8) (w : World) (h0 : 0 < l.length) (hl : l.length ≤ 9223372036854775807) (h1 : 224 ≤ by_ l 0) (h2 : by_ l 0 < 240) :
    Calls Tryz.prog 187 #[.string ⟨l.toArray⟩] w fun e w' => e = .returned (.int .i64 (tailN l 3 2048 (by_ l 0 % 16))) ∧ Below w.heap.size w w' := by
  have HL := hide hl
  clear hl
  have hix : ∀ u, (Instr.index 9 (.string ⟨l.toArray⟩) (.int .i64 0)).run Tryz.prog u = .ok (.int .u8 (by_ l 0)) u := fun u => ix_any l 0 h0 u
  have hw : wrap64 (by_ l 0 : Int) = (by_ l 0 : Int) := w64 _ (by omega) (by omega)
  generalize hc : by_ l 0 = c at *
  have HC := hide hc
  clear hc
  have f1 : ¬ (c : Int) < 128 := by omega
  have f2 : (192 : Int) ≤ c := by omega
  have f3 : ¬ (c : Int) < 224 := by omega
  have f4 : (224 : Int) ≤ c := by omega
  have f5 : (c : Int) < 240 := by omega
  go_enter Tryz.func187, Tryz.ntmps187
  go_wp2
  · have : l.length < 3 := by omega
    go_ret
    refine ⟨?_, Below.refl _ _⟩
    unfold tailN
    rw [if_pos this]; rfl
  · have h2l : 3 ≤ l.length := by omega
    have hnl : ¬ l.length < 3 := by omega
    go_loopg [6, 7] 2 (fun q p i wr => ∃ k : Nat, k + q = 2 ∧ i = .int .i64 ((k : Int) + 1) ∧ p = .int .i64 (ptN l (c % 16) k : Nat) ∧ goodN l k = true ∧ ptN l (c % 16) k < 16 * 64 ^ k ∧ Below w.heap.size w wr)
    case atStart => exact ⟨0, rfl, rfl, rfl, rfl, by unfold ptN; omega, Below.refl _ _⟩
    case round =>
      obtain ⟨k, hk, rfl, rfl, hg, hp, hB⟩ := hrel
      have HG := hide hg
      have HP := hide hp
      clear hg hp
      by_cases hlt : k < 2
      · have hbl := by_lt l (k + 1)
        have hix2 : ∀ u, (Instr.index 9 (.string ⟨l.toArray⟩) (.int .i64 ((k : Int) + 1))).run Tryz.prog u = .ok (.int .u8 (by_ l (k + 1))) u := fun u => ix_any l (k + 1) (by omega) u
        generalize hb : by_ l (k + 1) = b at hbl hix2
        generalize hpt : ptN l (c % 16) k = pt at *
        have HB := hide hb
        have HPT := hide hpt
        clear hb hpt
        have hw2 : wrap64 (b : Int) = (b : Int) := w64 _ (by omega) (by omega)
        go_wp2
        · rename_i hne
          go_ret
          refine ⟨?_, hB⟩
          have hbad : ¬ by_ l (k + 1) / 64 = 2 := by
            rw [unhide HB]
            simp only [bne_iff_ne, ne_eq] at hne
            omega
          unfold tailN
          rw [if_neg hnl, if_pos (goodN_bad l k hbad 2 hlt)]; rfl
        · rename_i hne
          have hok : b / 64 = 2 := by
            simp only [bne_eq_false_iff_eq] at hne
            omega
          go_roundg (gk - 1)
          case measure => omega
          case rel =>
            have hpt2 : pt < 524288 := by
              have h := unhide HP
              rcases (show k = 0 ∨ k = 1 by omega) with rfl | rfl <;> simp at h <;> omega
            have e : ptN l (c % 16) (k + 1) = pt * 64 + b % 64 := by rw [ptN, unhide HPT, unhide HB]
            refine ⟨k + 1, by omega, congrArg (Value.int .i64) ?_, congrArg (Value.int .i64) ?_, ?_, ?_, hB⟩
            · first | omega | (rw [w64 _ (by omega) (by omega)]; omega) | (push_cast; omega)
            · rw [e, w64 ((pt : Int) * 64) (by omega) (by omega), w64 _ (by omega) (by omega)]
              omega
            · rw [goodN, unhide HG, unhide HB, hok]; rfl
            · rw [e, Nat.pow_succ]
              have h := unhide HP
              have h64 : b % 64 < 64 := Nat.mod_lt _ (by omega)
              calc pt * 64 + b % 64 < (pt + 1) * 64 := by omega
                _ ≤ (16 * 64 ^ k) * 64 := Nat.mul_le_mul_right _ h
                _ = 16 * (64 ^ k * 64) := by rw [Nat.mul_assoc]
      · have hkk : k = 2 := by omega
        have hfin : ∀ r : Nat, (if ptN l (c % 16) k < 2048 ∨ 1114111 < ptN l (c % 16) k ∨ (55296 ≤ ptN l (c % 16) k ∧ ptN l (c % 16) k < 57344) then 0 else 3) = r → tailN l 3 2048 (c % 16) = r := by
          intro r hr
          unfold tailN
          rw [if_neg hnl, if_neg (by rw [show 3 - 1 = k by omega, unhide HG]; decide), show 3 - 1 = k by omega]
          exact hr
        have HFIN := hide hfin
        clear hfin
        generalize hpt : ptN l (c % 16) k = pt at *
        go_wp2
        all_goals go_ret
        all_goals refine ⟨?_, hB⟩
        all_goals rw [unhide HFIN _ rfl]
        all_goals first
          | (rw [if_pos (by omega)]; rfl)
          | (rw [if_neg (by omega)]; rfl)

set_option maxRecDepth 20000 in
set_option maxHeartbeats 1000000 in
theorem first_4 (l : List UInt8) (w : World) (h0 : 0 < l.length) (hl : l.length ≤ 9223372036854775807) (h1 : 240 ≤ by_ l 0) (h2 : by_ l 0 < 248) :
    Calls Tryz.prog 187 #[.string ⟨l.toArray⟩] w fun e w' => e = .returned (.int .i64 (tailN l 4 65536 (by_ l 0 % 8))) ∧ Below w.heap.size w w' := by
  have HL := hide hl
  clear hl
  have hix : ∀ u, (Instr.index 9 (.string ⟨l.toArray⟩) (.int .i64 0)).run Tryz.prog u = .ok (.int .u8 (by_ l 0)) u := fun u => ix_any l 0 h0 u
  have hw : wrap64 (by_ l 0 : Int) = (by_ l 0 : Int) := w64 _ (by omega) (by omega)
  generalize hc : by_ l 0 = c at *
  have HC := hide hc
  clear hc
  have f1 : ¬ (c : Int) < 128 := by omega
  have f2 : (192 : Int) ≤ c := by omega
  have f3 : ¬ (c : Int) < 224 := by omega
  have f4 : (224 : Int) ≤ c := by omega
  have f5 : ¬ (c : Int) < 240 := by omega
  have f6 : (240 : Int) ≤ c := by omega
  have f7 : (c : Int) < 248 := by omega
  go_enter Tryz.func187, Tryz.ntmps187
  go_wp2
  · have : l.length < 4 := by omega
    go_ret
    refine ⟨?_, Below.refl _ _⟩
    unfold tailN
    rw [if_pos this]; rfl
  · have h2l : 4 ≤ l.length := by omega
    have hnl : ¬ l.length < 4 := by omega
    go_loopg [6, 7] 3 (fun q p i wr => ∃ k : Nat, k + q = 3 ∧ i = .int .i64 ((k : Int) + 1) ∧ p = .int .i64 (ptN l (c % 8) k : Nat) ∧ goodN l k = true ∧ ptN l (c % 8) k < 8 * 64 ^ k ∧ Below w.heap.size w wr)
    case atStart => exact ⟨0, rfl, rfl, rfl, rfl, by unfold ptN; omega, Below.refl _ _⟩
    case round =>
      obtain ⟨k, hk, rfl, rfl, hg, hp, hB⟩ := hrel
      have HG := hide hg
      have HP := hide hp
      clear hg hp
      by_cases hlt : k < 3
      · have hbl := by_lt l (k + 1)
        have hix2 : ∀ u, (Instr.index 9 (.string ⟨l.toArray⟩) (.int .i64 ((k : Int) + 1))).run Tryz.prog u = .ok (.int .u8 (by_ l (k + 1))) u := fun u => ix_any l (k + 1) (by omega) u
        generalize hb : by_ l (k + 1) = b at hbl hix2
        generalize hpt : ptN l (c % 8) k = pt at *
        have HB := hide hb
        have HPT := hide hpt
        clear hb hpt
        have hw2 : wrap64 (b : Int) = (b : Int) := w64 _ (by omega) (by omega)
        go_wp2
        · rename_i hne
          go_ret
          refine ⟨?_, hB⟩
          have hbad : ¬ by_ l (k + 1) / 64 = 2 := by
            rw [unhide HB]
            simp only [bne_iff_ne, ne_eq] at hne
            omega
          unfold tailN
          rw [if_neg hnl, if_pos (goodN_bad l k hbad 3 hlt)]; rfl
        · rename_i hne
          have hok : b / 64 = 2 := by
            simp only [bne_eq_false_iff_eq] at hne
            omega
          go_roundg (gk - 1)
          case measure => omega
          case rel =>
            have hpt2 : pt < 524288 := by
              have h := unhide HP
              rcases (show k = 0 ∨ k = 1 ∨ k = 2 by omega) with rfl | rfl | rfl <;> simp at h <;> omega
            have e : ptN l (c % 8) (k + 1) = pt * 64 + b % 64 := by rw [ptN, unhide HPT, unhide HB]
            refine ⟨k + 1, by omega, congrArg (Value.int .i64) ?_, congrArg (Value.int .i64) ?_, ?_, ?_, hB⟩
            · first | omega | (rw [w64 _ (by omega) (by omega)]; omega) | (push_cast; omega)
            · rw [e, w64 ((pt : Int) * 64) (by omega) (by omega), w64 _ (by omega) (by omega)]
              omega
            · rw [goodN, unhide HG, unhide HB, hok]; rfl
            · rw [e, Nat.pow_succ]
              have h := unhide HP
              have h64 : b % 64 < 64 := Nat.mod_lt _ (by omega)
              calc pt * 64 + b % 64 < (pt + 1) * 64 := by omega
                _ ≤ (8 * 64 ^ k) * 64 := Nat.mul_le_mul_right _ h
                _ = 8 * (64 ^ k * 64) := by rw [Nat.mul_assoc]
      · have hkk : k = 3 := by omega
        have hfin : ∀ r : Nat, (if ptN l (c % 8) k < 65536 ∨ 1114111 < ptN l (c % 8) k ∨ (55296 ≤ ptN l (c % 8) k ∧ ptN l (c % 8) k < 57344) then 0 else 4) = r → tailN l 4 65536 (c % 8) = r := by
          intro r hr
          unfold tailN
          rw [if_neg hnl, if_neg (by rw [show 4 - 1 = k by omega, unhide HG]; decide), show 4 - 1 = k by omega]
          exact hr
        have HFIN := hide hfin
        clear hfin
        generalize hpt : ptN l (c % 8) k = pt at *
        go_wp2
        all_goals go_ret
        all_goals refine ⟨?_, hB⟩
        all_goals rw [unhide HFIN _ rfl]
        all_goals first
          | (rw [if_pos (by omega)]; rfl)
          | (rw [if_neg (by omega)]; rfl)

set_option maxRecDepth 20000 in
set_option maxHeartbeats 1000000 in
theorem first_1 (l : List UInt8) (w : World) (h0 : 0 < l.length) (h1 : by_ l 0 < 128) :
    Calls Tryz.prog 187 #[.string ⟨l.toArray⟩] w fun e w' => e = .returned (.int .i64 1) ∧ Below w.heap.size w w' := by
  have hix : ∀ u, (Instr.index 9 (.string ⟨l.toArray⟩) (.int .i64 0)).run Tryz.prog u = .ok (.int .u8 (by_ l 0)) u := fun u => ix_any l 0 h0 u
  have hw : wrap64 (by_ l 0 : Int) = (by_ l 0 : Int) := w64 _ (by omega) (by omega)
  have f1 : (by_ l 0 : Int) < 128 := by omega
  go_enter Tryz.func187, Tryz.ntmps187
  go_wp2
  go_ret
  exact ⟨rfl, Below.refl _ _⟩
set_option maxRecDepth 20000 in
set_option maxHeartbeats 1000000 in
theorem first_0 (l : List UInt8) (w : World) (h0 : 0 < l.length) (h1 : 128 ≤ by_ l 0 ∧ by_ l 0 < 192 ∨ 248 ≤ by_ l 0) :
    Calls Tryz.prog 187 #[.string ⟨l.toArray⟩] w fun e w' => e = .returned (.int .i64 0) ∧ Below w.heap.size w w' := by
  have hix : ∀ u, (Instr.index 9 (.string ⟨l.toArray⟩) (.int .i64 0)).run Tryz.prog u = .ok (.int .u8 (by_ l 0)) u := fun u => ix_any l 0 h0 u
  have hw : wrap64 (by_ l 0 : Int) = (by_ l 0 : Int) := w64 _ (by have := by_lt l 0; omega) (by have := by_lt l 0; omega)
  have f1 : ¬ (by_ l 0 : Int) < 128 := by omega
  rcases h1 with h1 | h1
  · have f2 : ¬ (192 : Int) ≤ by_ l 0 := by omega
    have f3 : ¬ (224 : Int) ≤ by_ l 0 := by omega
    have f4 : ¬ (240 : Int) ≤ by_ l 0 := by omega
    go_enter Tryz.func187, Tryz.ntmps187
    go_wp2
    go_ret
    exact ⟨rfl, Below.refl _ _⟩
  · have f2 : (192 : Int) ≤ by_ l 0 := by omega
    have f3 : (224 : Int) ≤ by_ l 0 := by omega
    have f4 : (240 : Int) ≤ by_ l 0 := by omega
    have g2 : ¬ (by_ l 0 : Int) < 224 := by omega
    have g3 : ¬ (by_ l 0 : Int) < 240 := by omega
    have g4 : ¬ (by_ l 0 : Int) < 248 := by omega
    go_enter Tryz.func187, Tryz.ntmps187
    go_wp2
    go_ret
    exact ⟨rfl, Below.refl _ _⟩

/-- the reference's first: how many bytes the first code point has; 0: none -/
theorem first_any (l : List UInt8) (w : World) (h0 : 0 < l.length) (hl : l.length ≤ 9223372036854775807) :
    Calls Tryz.prog 187 #[.string ⟨l.toArray⟩] w fun e w' => e = .returned (.int .i64 (fN l)) ∧ Below w.heap.size w w' := by
  unfold fN
  by_cases c1 : by_ l 0 < 128
  · rw [if_pos c1]; exact first_1 l w h0 c1
  rw [if_neg c1]
  by_cases c2 : 192 ≤ by_ l 0 ∧ by_ l 0 < 224
  · rw [if_pos c2]; exact first_2 l w h0 hl c2.1 c2.2
  rw [if_neg c2]
  by_cases c3 : 224 ≤ by_ l 0 ∧ by_ l 0 < 240
  · rw [if_pos c3]; exact first_3 l w h0 hl c3.1 c3.2
  rw [if_neg c3]
  by_cases c4 : 240 ≤ by_ l 0 ∧ by_ l 0 < 248
  · rw [if_pos c4]; exact first_4 l w h0 hl c4.1 c4.2
  rw [if_neg c4]
  exact first_0 l w h0 (by omega)
end Go.Proofs.YtkmkkmdpjliifaaGreatDoor
namespace Go.Proofs.YtkmkkmdpjliifaaGreatDoor
open Go.ChangeShapes Go.WideShapes Go.ChangeAt Go.RowKit

theorem tailN_le (l : List UInt8) (n low p : Nat) : tailN l n low p ≤ l.length := by
  unfold tailN
  repeat' split
  all_goals omega
theorem fN_le (l : List UInt8) (h : 0 < l.length) : fN l ≤ l.length := by
  unfold fN
  repeat' split
  all_goals first | omega | exact tailN_le _ _ _ _
/-- is a text UTF-8? (as often as fuel is there) -/
def vG : Nat → List UInt8 → Bool
  | 0, l => l.isEmpty
  | f + 1, l => if l.isEmpty then true else if fN l = 0 then false else vG f (l.drop (fN l))
def vN (l : List UInt8) : Bool := vG l.length l
theorem vG_more : ∀ (f : Nat) (l : List UInt8), l.length ≤ f → vG f l = vN l := by
  intro f
  induction f using Nat.strongRecOn with
  | ind f ih =>
    intro l hl
    cases f with
    | zero =>
      have : l = [] := List.length_eq_zero_iff.1 (by omega)
      subst this; rfl
    | succ f =>
      unfold vN
      cases hL : l.length with
      | zero =>
        have : l = [] := List.length_eq_zero_iff.1 hL
        subst this; rfl
      | succ m =>
        rw [vG, vG]
        have he : l.isEmpty = false := by cases l; simp at hL; rfl
        rw [he]
        by_cases hf : fN l = 0
        · rw [if_pos hf, if_pos hf]
        · rw [if_neg hf, if_neg hf]
          have hd : (l.drop (fN l)).length ≤ f := by rw [List.length_drop]; omega
          have hd2 : (l.drop (fN l)).length ≤ m := by rw [List.length_drop]; omega
          rw [ih f (by omega) _ hd]
          by_cases hm : m < f + 1
          · rw [ih m hm _ hd2]
          · have : m = f := by omega
            omega
theorem vN_nil : vN [] = true := rfl
theorem vN_step (l : List UInt8) (h : 0 < l.length) : vN l = if fN l = 0 then false else vN (l.drop (fN l)) := by
  have he : l.isEmpty = false := by cases l; simp at h; rfl
  obtain ⟨m, hm⟩ : ∃ m, l.length = m + 1 := ⟨l.length - 1, by omega⟩
  rw [show vN l = vG (m + 1) l by unfold vN; rw [hm], vG, he]
  by_cases hf : fN l = 0
  · rw [if_pos hf]; simp [hf]
  · rw [if_neg hf, if_neg hf, vG_more m _ (by rw [List.length_drop]; omega)]; rfl

theorem drop_any (l : List UInt8) (n : Nat) (h : n ≤ l.length) (u : World) : (Instr.slice 9 (.string ⟨l.toArray⟩) (some (.int .i64 (n : Int))) none none).run Tryz.prog u = .ok (.string ⟨(l.drop n).toArray⟩) u := by
  have h3 : (ByteArray.mk l.toArray).size = l.length := by simp [ByteArray.size]
  rw [run_slice_string_from_if (w := u) 9 _ .i64 _ Tryz.underlying9, if_pos (by omega), ByteArray.extract_mk]
  rw [h3, Int.toNat_natCast, List.take_of_length_le (by rw [List.length_drop]; omega)]

set_option maxRecDepth 20000 in
set_option maxHeartbeats 1000000 in
theorem utf8_any (l : List UInt8) (w : World) (hl : l.length ≤ 9223372036854775807) :
    Calls Tryz.prog 148 #[.string ⟨l.toArray⟩] w fun e w' => e = .returned (.bool (vN l)) ∧ Below w.heap.size w w' := by
  have HL := hide hl
  clear hl
  go_enter Tryz.func148, Tryz.ntmps148
  go_wp2_with fail
  go_loopg [0] l.length (fun q s wr => ∃ t : List UInt8, s = .string ⟨t.toArray⟩ ∧ t.length ≤ q ∧ t.length ≤ l.length ∧ vN t = vN l ∧ Below w.heap.size w wr)
  case atStart => exact ⟨l, rfl, Nat.le_refl _, Nat.le_refl _, rfl, Below.refl _ _⟩
  case round =>
    obtain ⟨t, rfl, hq, htl, hv, hB⟩ := hrel
    have HV := hide hv
    clear hv
    have hsz := hB.size
    by_cases h0 : 0 < t.length
    · have hie : t.isEmpty = false := by cases t; simp at h0; rfl
      have hf := fN_le t h0
      have hdr : ∀ u, _ := drop_any t (fN t) hf
      generalize hn : fN t = n at *
      have HN := hide hn
      clear hn
      go_wp2_with (go_at_call 187; refine (first_any t _ h0 (by have := unhide HL; omega)).mono ?_; rintro e w1 ⟨rfl, hb1⟩; rw [unhide HN])
      · rename_i hz
        go_ret
        refine ⟨?_, hB.trans (hb1.mono hsz)⟩
        have hn0 : fN t = 0 := by
          rw [unhide HN]
          simp only [beq_iff_eq] at hz
          omega
        rw [← unhide HV, vN_step t h0, if_pos hn0]; rfl
      · rename_i hz
        have hn0 : ¬ fN t = 0 := by
          rw [unhide HN]
          simp only [beq_eq_false_iff_ne, ne_eq] at hz
          omega
        have hn1 : ¬ n = 0 := by rw [unhide HN] at hn0; exact hn0
        go_roundg (gk - 1)
        case measure => omega
        case rel =>
          refine ⟨t.drop n, rfl, by rw [List.length_drop]; omega, by rw [List.length_drop]; omega, ?_, hB.trans (hb1.mono hsz)⟩
          rw [← unhide HV, vN_step t h0, if_neg hn0, unhide HN]
    · have : t = [] := List.length_eq_zero_iff.1 (by omega)
      subst this
      go_wp2_with fail
      go_ret
      refine ⟨?_, hB⟩
      rw [← unhide HV, vN_nil]; rfl

/-- is a text a name? -/
def nameN (l : List UInt8) : Bool := vN l && decide (1 ≤ l.length) && decide (l.length ≤ 16)
theorem Name_any (l : List UInt8) (w : World) (hl : l.length ≤ 9223372036854775807) :
    Calls Tryz.prog 111 #[.string ⟨l.toArray⟩] w fun e w' => e = .returned (.bool (nameN l)) ∧ Below w.heap.size w w' := by
  have HL := hide hl
  clear hl
  go_enter Tryz.func111, Tryz.ntmps111
  go_wp2_with (go_at_call 148; refine (utf8_any l _ (unhide HL)).mono ?_; rintro e w1 ⟨rfl, hb1⟩; generalize hv : vN l = v; have HV := hide hv; clear hv)
  all_goals go_ret
  all_goals refine ⟨?_, hb1⟩
  all_goals unfold nameN
  all_goals rw [unhide HV]
  · rename_i h1 h2
    rw [h1, decide_eq_true (p := 1 ≤ l.length) (by omega)]
    refine congrArg (fun b => Ending.returned (Value.bool b)) ?_
    simp
    omega
  · rename_i h1 h2
    rw [decide_eq_false (p := 1 ≤ l.length) (by omega)]
    refine congrArg (fun b => Ending.returned (Value.bool b)) ?_
    simp
  · rename_i h1
    refine congrArg (fun b => Ending.returned (Value.bool b)) ?_
    simp [h1]

theorem get_by (l : List UInt8) (k : Nat) : ((ByteArray.mk l.toArray).get! k).toNat = by_ l k := by
  unfold by_
  simp [ByteArray.get!, List.getD]
  rfl
theorem dec_1 (n b0 b1 b2 b3 : Nat) (h : b0 < 128) : Lib.decodeN n b0 b1 b2 b3 = (b0, 1) := by unfold Lib.decodeN; rw [if_pos h]
/-- the size that the decoder tells, 0 where it tells none -/
def dsz (d : Nat × Nat) : Nat := if d.1 = 65533 ∧ d.2 = 1 then 0 else d.2
set_option maxRecDepth 100000 in
set_option maxHeartbeats 4000000 in
theorem dsz_eq (l : List UInt8) (h : 0 < l.length) : fN l = dsz (Lib.decodeN l.length (by_ l 0) (by_ l 1) (by_ l 2) (by_ l 3)) := by
  have h0 := by_lt l 0
  have h1 := by_lt l 1
  have h2 := by_lt l 2
  have h3 := by_lt l 3
  unfold fN tailN
  simp only [goodN, ptN, Bool.true_and, Bool.and_eq_false_iff, decide_eq_false_iff_not, show 2 - 1 = 1 from rfl, show 3 - 1 = 2 from rfl, show 4 - 1 = 3 from rfl, Nat.zero_add]
  generalize by_ l 0 = b0 at *
  generalize by_ l 1 = b1 at *
  generalize by_ l 2 = b2 at *
  generalize by_ l 3 = b3 at *
  generalize l.length = n at *
  unfold dsz Lib.decodeN
  by_cases c1 : b0 < 128
  · simp only [if_pos c1]; rw [if_neg (by omega)]
  simp only [if_neg c1]
  by_cases c2 : 192 ≤ b0 ∧ b0 < 224
  · rw [if_pos c2]
    repeat' split
    all_goals omega
  rw [if_neg c2]
  by_cases c3 : 224 ≤ b0 ∧ b0 < 240
  · rw [if_pos c3]
    repeat' split
    all_goals omega
  rw [if_neg c3]
  by_cases c4 : 240 ≤ b0 ∧ b0 < 248
  · rw [if_pos c4]
    repeat' split
    all_goals omega
  rw [if_neg c4]
  repeat' split
  all_goals omega
theorem fN_decode (l : List UInt8) (h : 0 < l.length) : fN l = if (Lib.decodeL l).1 = 65533 ∧ (Lib.decodeL l).2 = 1 then 0 else (Lib.decodeL l).2 := by
  rw [dsz_eq l h]
  unfold Lib.decodeL
  rw [Lib.decode_at, get_by, get_by, get_by, get_by, show (ByteArray.mk l.toArray).size - 0 = l.length by simp [ByteArray.size]]
  rfl
theorem vG_valid : ∀ (f : Nat) (l : List UInt8), l.length ≤ f → vG f l = Lib.validGoD f l
  | 0, l, h => by
    have : l = [] := List.length_eq_zero_iff.1 (by omega)
    subst this; rfl
  | f + 1, l, h => by
    rw [vG, Lib.validGoD]
    by_cases he : l = []
    · subst he; rfl
    · have h0 : 0 < l.length := List.length_pos_iff.2 he
      have hie : l.isEmpty = false := by cases l; simp at h0; rfl
      have hd := fN_decode l h0
      rw [hie, if_neg he]
      by_cases hb : (Lib.decodeL l).1 = 65533 ∧ (Lib.decodeL l).2 = 1
      · rw [if_pos hb] at hd
        rw [if_pos hb, if_pos hd]; rfl
      · rw [if_neg hb] at hd
        rw [if_neg hb]
        by_cases hz : fN l = 0
        · have hs : (Lib.decodeL l).2 = 0 := by omega
          exfalso
          revert hs hb
          unfold Lib.decodeL
          rw [Lib.decode_at]
          unfold Lib.decodeN
          repeat' split
          all_goals simp
        · rw [if_neg hz, ← hd, ← vG_valid f (l.drop (fN l)) (by rw [List.length_drop]; omega)]; rfl
/-- the reference's UTF-8 is the library's -/
theorem vN_valid (l : List UInt8) : vN l = Lib.validD l := vG_valid _ _ (Nat.le_refl _)
end Go.Proofs.YtkmkkmdpjliifaaGreatDoor
