import Derived.Test.YtkmkkmdpjliifaaDoorNxI
namespace Go.Proofs.YtkmkkmdpjliifaaDoor
open Go.ChangeShapes Go.WideShapes Go.ChangeAt Go.RowKit

theorem find1_any (y s x : List UInt8) (p : Nat) (w : World) (hp : w.cell? ⟨p, 0, none⟩ = some (.string ⟨x.toArray⟩)) (hl : p < w.heap.size) :
    Calls Tryd.prog 116 #[.agg #[.string ⟨y.toArray⟩, .string ⟨s.toArray⟩], .pointer (some ⟨p, 0, none⟩)] w fun e w' => e = .returned (.bool (y == x)) ∧ Below w.heap.size w w' := by
  have hp2 : ∀ o, (w.alloc o).cell? ⟨p, 0, none⟩ = some (.string ⟨x.toArray⟩) := fun o => (((Below.refl w.heap.size w).alloc (Nat.le_refl _) o).cell (p := ⟨p, 0, none⟩) hl).trans hp
  go_enter Tryd.func116, Tryd.ntmps116
  go_wp2
  go_ret
  exact ⟨rfl, (Below.refl _ _).alloc (Nat.le_refl _) _⟩

/-- what a search for a name tells -/
def Found (ks : List Ky) (x : List UInt8) (r : Int) : Prop :=
  (r = -1 ∧ ∀ j, j < ks.length → (kyName ks j != x) = true) ∨ ∃ k : Nat, r = k ∧ k < ks.length ∧ (kyName ks k == x) = true ∧ ∀ j, j < k → (kyName ks j != x) = true

set_option maxRecDepth 20000 in
set_option maxHeartbeats 1000000 in
theorem IndexFunc_any (v : Value) (ks : List Ky) (x : List UInt8) (p : Nat) (w : World) (B : Nat) (hB : B ≤ w.heap.size) (hl : ks.length ≤ 8796093022208) (hv : Ks w B v ks) (hp : w.cell? ⟨p, 0, none⟩ = some (.string ⟨x.toArray⟩)) (hpl : p < w.heap.size) :
    Calls Tryd.prog 115 #[v, .func (.func 116) #[] #[.pointer (some ⟨p, 0, none⟩)]] w fun e w' => (∃ r, e = .returned (.int .i64 r) ∧ Found ks x r) ∧ Below w.heap.size w w' := by
  obtain ⟨a, c, rfl, hv⟩ := hv
  have HL := hide hl
  have HV := hide hv
  clear hl hv
  go_enter Tryd.func115, Tryd.ntmps115
  go_wp2
  go_loopg [8] ks.length (fun q i wr => ∃ k : Nat, k + q = ks.length ∧ i = .int .i64 (k : Nat) ∧ (∀ j, j < k → (kyName ks j != x) = true) ∧ Below w.heap.size w wr)
  case atStart => exact ⟨0, Nat.zero_add _, rfl, fun j hj => absurd hj (Nat.not_lt_zero _), Below.refl _ _⟩
  case round =>
    obtain ⟨k, hk, rfl, hA, hb⟩ := hrel
    have HA := hide hA
    clear hA
    by_cases hlt : k < ks.length
    · have hw : wrap64 ((k : Int) + 1) = (k : Int) + 1 := w64 _ (by omega) (by have := unhide HL; omega)
      obtain ⟨g, o, rfl, hg, hC⟩ := unhide HV (by omega)
      have hx := (hC k hlt).below (hb.mono hB) hg
      have hc := hx.1
      have hc' := hx.2
      clear hC hx
      have hyy : kyName ks k = (ks.getD k default).name := rfl
      generalize (ks.getD k default).name = y at hc hyy
      generalize (ks.getD k default).secret = s at hc'
      have HY := hide hyy
      clear hyy
      rw [sv_def] at hc hc'
      have hsz := hb.size
      have hp' := (hb.cell (p := ⟨p, 0, none⟩) hpl).trans hp
      generalize hq : (y == x) = b
      have HQ := hide hq
      clear hq
      go_wp2_with (go_at_call 116; refine (find1_any y s x p _ hp' (by omega)).mono ?_; rintro e w1 ⟨rfl, hb1⟩; rw [unhide HQ])
      · rename_i h1
        go_ret
        refine ⟨⟨_, rfl, Or.inr ⟨k, rfl, hlt, ?_, unhide HA⟩⟩, hb.trans (hb1.mono hsz)⟩
        rw [unhide HY, unhide HQ, h1]
      · rename_i h1
        go_roundg (gk - 1)
        case measure => omega
        case rel => exact ⟨k + 1, by omega, by first | exact num1 hw | rfl, nest_more (unhide HA) (unhide HY) ((unhide HQ).trans (by simpa using h1)), hb.trans (hb1.mono hsz)⟩
    · go_wp2
      go_ret
      exact ⟨⟨_, rfl, Or.inl ⟨rfl, fun j hj => unhide HA j (by omega)⟩⟩, hb⟩

theorem find_any (v : Value) (ks : List Ky) (x : List UInt8) (R : Nat) (w : World) (B : Nat) (hB : B ≤ w.heap.size) (hl : ks.length ≤ 8796093022208) (hv : Ks w B v ks) (hR : w.cell? ⟨R, 0, none⟩ = some v) (hRl : R < w.heap.size) :
    Calls Tryd.prog 95 #[.pointer (some ⟨R, 0, none⟩), .string ⟨x.toArray⟩] w fun e w' => (∃ r, e = .returned (.int .i64 r) ∧ Found ks x r) ∧ Below w.heap.size w w' := by
  have hI := IndexFunc_any v ks x w.heap.size (w.alloc (.cells #[.string ⟨x.toArray⟩] 9)) B (by simp; omega) hl (hv.below (((Below.refl w.heap.size w).alloc (Nat.le_refl _) _).mono hB)) (by simp) (by simp)
  obtain ⟨a, c, rfl, _⟩ := hv
  have HI := hide hI
  have hR2 : ∀ o, (w.alloc o).cell? ⟨R, 0, none⟩ = some (.slice a ks.length c) := fun o => (((Below.refl w.heap.size w).alloc (Nat.le_refl _) o).cell (p := ⟨R, 0, none⟩) hRl).trans hR
  clear hI hl
  have hmf : ∀ (fn : Fn) (first cap : Array Value) (w : World), (Instr.makeFunc fn first cap).run Tryd.prog w = .ok (.func fn first cap) w := fun _ _ _ _ => rfl
  go_enter Tryd.func95, Tryd.ntmps95
  go_wp2_with (go_at_call 115; refine (unhide HI).mono ?_; rintro e w1 ⟨⟨r, rfl, hr⟩, hb1⟩)
  go_ret
  exact ⟨⟨_, rfl, hr⟩, ((Below.refl _ _).alloc (Nat.le_refl _) _).trans (hb1.mono (by simp))⟩
end Go.Proofs.YtkmkkmdpjliifaaDoor
