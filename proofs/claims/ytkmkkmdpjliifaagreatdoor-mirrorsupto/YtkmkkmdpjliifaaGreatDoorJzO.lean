import Derived.Test.YtkmkkmdpjliifaaGreatDoorJzK
import Derived.Test.YtkmkkmdpjliifaaGreatDoorJyD
namespace Go.Proofs.YtkmkkmdpjliifaaGreatDoor
open Go.ChangeShapes Go.WideShapes Go.ChangeAt Go.RowKit

theorem SignK.lt {l : List UInt8} {k : Nat} {t : List UInt8} {n : Nat} {u : List UInt8} (h : SignK l k t n u) (h0 : k ≠ 0) (h1 : k ≠ 1) : u.length < l.length := by
  by_cases h8 : k = 8
  · have := h.text
    rw [if_pos h8] at this
    exact (textS_lt this).1
  by_cases h9 : k = 9
  · have := h.num
    rw [if_pos h9] at this
    exact (numS_lt this).1
  have hs := skipB_le l
  unfold SignK at h
  cases hk : skipB l with
  | nil => rw [hk] at h; exact absurd h h1
  | cons c r =>
    rw [hk] at h hs
    simp only at h
    split at h
    · rcases h with ⟨h, _⟩ | ⟨h, _⟩
      · exact absurd h h8
      · exact absurd h h0
    · split at h
      · rcases h with ⟨h, _⟩ | ⟨h, _⟩
        · exact absurd h h9
        · exact absurd h h0
      · rw [h.2]
        simp at hs
        omega
/-- what is left of a reading, by the machine's state -/
def Rst (want f : Nat) (m : Nat → Bool) (c : Cm) (l : List UInt8) : Option Cm :=
  if want = 0 then objS l else if want = 1 then R1 m c l else if want = 2 then R2 f m c l else if want = 3 then R3 f m c l else if want = 4 then R4 f m c l else if want = 5 then R5 f m c l
  else if want = 6 then R6 f m c l else if want = 7 then R7 m c l else R8 m c l
/-- nothing is too great -/
structure JB (T : List UInt8) (a : Nat) (c : Cm) : Prop where
  len : c.scp.length + c.aud.length + c.act.length ≤ a
  sub : c.sub.length ≤ 4 * T.length
  i2 : ∀ s ∈ c.scp, s.length ≤ 4 * T.length
  i3 : ∀ s ∈ c.aud, s.length ≤ 4 * T.length
  i4 : ∀ s ∈ c.act, s.length ≤ 4 * T.length
/-- the machine's state -/
structure JM (w0 wr : World) (T : List UInt8) (want cur : Nat) (m : Nat → Bool) (c : Cm) (p : Pl) (a : Nat) : Prop where
  sc : Sc wr (w0.heap.size + 1) T a
  la : a ≤ T.length
  dr : Dr wr (w0.heap.size + 2) c.z p cur m
  l3 : L3 wr (w0.heap.size + 3) c p
  res : Row wr w0.heap.size 60 6 (czF cz0 pl0)
  ut : UT wr
  bel : Below w0.heap.size w0 wr
  sz : w0.heap.size + 3 ≤ wr.heap.size
  jb : JB T a c
  em : ∀ f, (f = 2 ∨ f = 3 ∨ f = 4) → m f = false → getL f c = []
  ec : want = 2 ∨ want = 3 → (cur = 2 ∨ cur = 3 ∨ cur = 4) → getL cur c = []
  mc : 2 ≤ want → want ≤ 6 → m cur = true
  cl : want = 4 ∨ want = 5 ∨ want = 6 → cur = 2 ∨ cur = 3 ∨ cur = 4
  c6 : want = 2 ∨ want = 3 → cur < 6
  z0 : want = 0 → m = (fun _ => false) ∧ c = cm0
  rest : objS T = Rst want cur m c (T.drop a)
/-- what readObject answers -/
def ObjR (T : List UInt8) (w : World) (e : Ending) (w' : World) : Prop :=
  ∃ (c : Cm) (p : Pl) (ok : Bool), e = .returned (.tuple #[.agg (czA c.z p), .bool ok]) ∧ L3 w' w.heap.size c p ∧ JB T T.length c ∧ Below w.heap.size w w' ∧ ((ok = true ∧ objS T = some c) ∨ (ok = false ∧ objS T = none ∧ c = cm0 ∧ p = pl0))
theorem L3.down {w : World} {b b' : Nat} {c : Cm} {p : Pl} (h : L3 w b c p) (hb : b' ≤ b) : L3 w b' c p := ⟨h.o2.down hb, h.o3.down hb, h.o4.down hb, h.d23, h.d24, h.d34⟩
theorem L3.none (w : World) (b : Nat) : L3 w b cm0 pl0 := ⟨OwnS.nil _ _, OwnS.nil _ _, OwnS.nil _ _, (fun _ _ h => by cases h), (fun _ _ h => by cases h), (fun _ _ h => by cases h)⟩
theorem JB.up {T : List UInt8} {a b : Nat} {c : Cm} (h : JB T a c) (hb : a ≤ b) : JB T b c := ⟨Nat.le_trans h.len hb, h.sub, h.i2, h.i3, h.i4⟩
theorem JB.none (T : List UInt8) (a : Nat) : JB T a cm0 := ⟨Nat.zero_le _, Nat.zero_le _, fun s h => absurd h (by simp [cm0]), fun s h => absurd h (by simp [cm0]), fun s h => absurd h (by simp [cm0])⟩
theorem JB.setN {T : List UInt8} {a : Nat} {c : Cm} (h : JB T a c) (f n : Nat) : JB T a (c.setN f n) := by
  unfold Cm.setN
  split <;> exact ⟨h.len, h.sub, h.i2, h.i3, h.i4⟩
theorem JB.setT {T : List UInt8} {a : Nat} {c : Cm} (h : JB T a c) {t : List UInt8} (ht : t.length ≤ 4 * T.length) : JB T a (c.setT t) := ⟨h.len, ht, h.i2, h.i3, h.i4⟩
theorem mem_more {l : List (List UInt8)} {t : List UInt8} {n : Nat} (h : ∀ s ∈ l, s.length ≤ n) (ht : t.length ≤ n) : ∀ s ∈ l ++ [t], s.length ≤ n := fun s hs => by
  rcases List.mem_append.1 hs with hs | hs
  · exact h s hs
  · simp at hs; subst hs; exact ht
theorem JB.add {T : List UInt8} {a b : Nat} {c : Cm} (h : JB T a c) (hab : a < b) (f : Nat) {t : List UInt8} (ht : t.length ≤ 4 * T.length) : JB T b (c.add f t) := by
  have hl := h.len
  unfold Cm.add
  split
  · exact ⟨by simp only [List.length_append, List.length_singleton]; omega, h.sub, mem_more h.i2 ht, h.i3, h.i4⟩
  · split
    · exact ⟨by simp only [List.length_append, List.length_singleton]; omega, h.sub, h.i2, mem_more h.i3 ht, h.i4⟩
    · exact ⟨by simp only [List.length_append, List.length_singleton]; omega, h.sub, h.i2, h.i3, mem_more h.i4 ht⟩
theorem getL_setN {c : Cm} (f g n : Nat) : getL f (c.setN g n) = getL f c := by
  unfold Cm.setN
  split <;> rfl
theorem getL_setT {c : Cm} (f : Nat) (t : List UInt8) : getL f (c.setT t) = getL f c := rfl
theorem getL_add {c : Cm} {f g : Nat} (t : List UInt8) (hf : f = 2 ∨ f = 3 ∨ f = 4) (hg : g = 2 ∨ g = 3 ∨ g = 4) (hne : f ≠ g) : getL f (c.add g t) = getL f c := by
  rcases hf with rfl | rfl | rfl <;> rcases hg with rfl | rfl | rfl <;> first | exact absurd rfl hne | rfl
end Go.Proofs.YtkmkkmdpjliifaaGreatDoor
