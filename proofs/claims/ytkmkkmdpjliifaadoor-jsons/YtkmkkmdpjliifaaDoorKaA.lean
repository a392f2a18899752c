import Derived.Test.YtkmkkmdpjliifaaDoorJzZ
import Derived.Test.YtkmkkmdpjliifaaDoorJzQ
import Derived.Test.YtkmkkmdpjliifaaDoorJyG
import Derived.Deep.RegionHeld3
namespace Go.Proofs.YtkmkkmdpjliifaaDoor
open Go.ChangeShapes Go.WideShapes Go.ChangeAt Go.RowKit

/-- Print's answers: one for each claims -/
theorem Cm.z_inj {a b : Cm} (h : a.z = b.z) : a = b := by
  cases a; cases b
  simp [Cm.z] at h
  obtain ⟨h1, h2, h3, h4, h5, h6⟩ := h
  simp [h2, h3, h4, h5]
  exact ⟨by omega, by omega⟩
theorem PrnR.one {c : Cz} {e : Ending} (h : PrnR c e) : ∃ (x : ByteArray) (k : Int), e = .returned (.tuple #[.string x, .int .i64 k]) ∧ ∀ e', PrnR c e' → e' = e := by
  rcases h with ⟨h1, rfl⟩ | ⟨m, h1, h2, rfl⟩
  · refine ⟨_, _, rfl, fun e' h' => ?_⟩
    rcases h' with ⟨_, rfl⟩ | ⟨m', _, h3, _⟩
    · rfl
    · rw [h1] at h3; cases h3
  · refine ⟨_, _, rfl, fun e' h' => ?_⟩
    rcases h' with ⟨h3, _⟩ | ⟨m', h3, _, rfl⟩
    · rw [h2] at h3; cases h3
    · rw [Cm.z_inj (h3.trans h1.symm)]
theorem parseS_right {T : List UInt8} {c : Cm} (h : parseS T = some c) : rightB c.z = true := by
  unfold parseS at h
  split at h
  · cases h
  · obtain ⟨d, _, h2⟩ := Option.bind_eq_some_iff.1 h
    split at h2
    · rename_i h3; cases h2; exact h3
    · cases h2
/-- what both Parses answer is one -/
theorem parse_both {T : List UInt8} {c : Cm} {k : Int} {p : Pl} (h : (k = 0 ∧ parseS T = some c) ∨ (k = 2 ∧ parseS T = none ∧ c = cm0 ∧ p = pl0)) {c2 : Cz} {k2 : Int} (h2 : (parseS T = none ∧ c2 = cz0 ∧ k2 = 2) ∨ ∃ cm, parseS T = some cm ∧ c2 = cm.z ∧ k2 = 0) : c2 = c.z ∧ k2 = k := by
  rcases h with ⟨rfl, h⟩ | ⟨rfl, h, rfl, rfl⟩
  · rcases h2 with ⟨h2, _⟩ | ⟨cm, h2, rfl, rfl⟩
    · rw [h] at h2; cases h2
    · rw [h] at h2; cases h2; exact ⟨rfl, rfl⟩
  · rcases h2 with ⟨_, rfl, rfl⟩ | ⟨cm, h2, _⟩
    · exact ⟨rfl, rfl⟩
    · rw [h] at h2; cases h2
theorem parse_small {T : List UInt8} {c : Cm} {k : Int} {p : Pl} (h : (k = 0 ∧ parseS T = some c) ∨ (k = 2 ∧ parseS T = none ∧ c = cm0 ∧ p = pl0)) : c.scp.length ≤ 65536 ∧ c.aud.length ≤ 65536 ∧ c.act.length ≤ 65536 := by
  rcases h with ⟨rfl, h⟩ | ⟨rfl, h, rfl, rfl⟩
  · obtain ⟨m, h1, _, _, _, h2, h3, h4⟩ := right_nums (parseS_right h)
    obtain rfl := Cm.z_inj h1
    exact ⟨Nat.le_trans h2.1 (by decide), Nat.le_trans h3.1 (by decide), Nat.le_trans h4.1 (by decide)⟩
  · exact ⟨by decide, by decide, by decide⟩
/-- what lent made, read -/
theorem lent_Ls {w : World} {g : Nat} {l : List (List UInt8)} (h : Row w g 9 (l.length + 4) (lentF l)) : Ls w w.heap.size (.slice (some ⟨g, 0, none⟩) l.length (l.length + 4)) l :=
  ⟨_, _, rfl, by omega, fun _ => ⟨g, 0, rfl, h.lt, fun j hj => by
    rw [Nat.zero_add, h.cell (by omega)]
    unfold lentF
    rw [if_pos hj]⟩⟩
/-- an empty book -/
theorem Bo.start (w : World) : Bo (w.alloc (.cells #[.slice none 0 0] 41)) w.heap.size w.heap.size (.slice none 0 0) [] :=
  ⟨Row.new w 41 _ _ 1 rfl (fun j hj => by obtain rfl : j = 0 := (by omega); rfl), World.ownsRow_nil _ _ _ _, Nat.le_refl _, fun h => (by cases h), fun i hi => absurd hi (by simp), fun i hi => absurd hi (by simp), fun i hi => absurd hi (by simp), fun i hi => absurd hi (by simp), fun i hi => absurd hi (by simp)⟩
theorem numRd (k N : Nat) (hk : k < N) (hN : N ≤ 21) : wrap64 ((k : Int) + 1) = (k : Int) + 1 := w64 _ (by omega) (by omega)
end Go.Proofs.YtkmkkmdpjliifaaDoor
