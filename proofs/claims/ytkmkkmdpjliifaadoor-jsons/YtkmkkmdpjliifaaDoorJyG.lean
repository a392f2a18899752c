import Derived.Test.YtkmkkmdpjliifaaDoorJyA
namespace Go.Proofs.YtkmkkmdpjliifaaDoor
open Go.ChangeShapes Go.WideShapes Go.ChangeAt Go.RowKit

set_option maxRecDepth 20000 in
set_option maxHeartbeats 1000000 in
/-- two lists that are one -/
theorem same_any (v v2 : Value) (l : List (List UInt8)) (w : World) (B : Nat) (hl : l.length ≤ 8796093022208) (hv : Ls w B v l) (hv2 : Ls w B v2 l) :
    Calls Tryd.prog 45 #[v, v2] w fun e w' => e = .returned (.bool true) ∧ ∃ n, w' = w.drewN n := by
  obtain ⟨a, c, rfl, hle, hv⟩ := hv
  obtain ⟨a2, c2, rfl, hle2, hv2⟩ := hv2
  clear hle hle2
  have HV := hide hv
  have HV2 := hide hv2
  have HL := hide hl
  have hbeq : (((l.length : Nat) : Int) == ((l.length : Nat) : Int)) = true := by simp
  clear hv hv2 hl
  go_enter Tryd.func45, Tryd.ntmps45
  go_wp2_with fail
  go_loopg [5] l.length (fun q i wr => ∃ (k n : Nat), k + q = l.length ∧ i = .int .i64 (k : Nat) ∧ wr = w.drewN n)
  case atStart => exact ⟨0, 0, Nat.zero_add _, rfl, rfl⟩
  case round =>
    obtain ⟨k, n, hk, rfl, rfl⟩ := hrel
    by_cases hlt : k < l.length
    · have hw : wrap64 ((k : Int) + 1) = (k : Int) + 1 := w64 _ (by omega) (by have := unhide HL; omega)
      have hkl : (k : Int) < l.length := by omega
      obtain ⟨g, o, rfl, hg, hC⟩ := unhide HV (by omega)
      obtain ⟨g2, o2, rfl, hg2, hC2⟩ := unhide HV2 (by omega)
      have hc := hC k hlt
      have hc2 := hC2 k hlt
      clear hC hC2
      generalize l.getD k [] = y at hc hc2
      rw [sv_def] at hc hc2
      go_wp2_with fail
      go_quiet (fail)
      go_wp2_with fail
      go_roundg (gk - 1)
      case measure => omega
      case rel => exact ⟨k + 1, _, by omega, by first | exact num1 hw | rfl, rfl⟩
    · go_wp2_with fail
      go_ret
      exact ⟨rfl, n, rfl⟩

theorem Ls.drewN {w : World} {B : Nat} {v : Value} {l : List (List UInt8)} (h : Ls w B v l) (n : Nat) : Ls (w.drewN n) B v l := h

set_option maxRecDepth 20000 in
set_option maxHeartbeats 2000000 in
/-- claims that are the same, wherever they lie -/
theorem Alike_any (c : Cz) (p q : Pl) (w : World) (B : Nat) (hB : B ≤ w.heap.size) (hS : CzS c) (hL : CzL w B c p) (hL2 : CzL w B c q) :
    Calls Tryd.prog 20 #[.agg (czA c p), .agg (czA c q)] w fun e w' => e = .returned (.bool true) ∧ Below w.heap.size w w' := by
  unfold czA
  have HS := hide hS
  obtain ⟨wa, hwa⟩ : ∃ wa, wa = (w.alloc (.cells #[.int .i64 c.id, .string ⟨c.sub.toArray⟩, .slice p.a2 c.scp.length p.c2, .slice p.a3 c.aud.length p.c3, .slice p.a4 c.act.length p.c4, .int .i64 c.exp] 37)).alloc (.cells #[.int .i64 c.id, .string ⟨c.sub.toArray⟩, .slice q.a2 c.scp.length q.c2, .slice q.a3 c.aud.length q.c3, .slice q.a4 c.act.length q.c4, .int .i64 c.exp] 37) := ⟨_, rfl⟩
  have hba : Below w.heap.size w wa := by rw [hwa]; exact ((Below.refl _ _).alloc (Nat.le_refl _) _).alloc (by simp) _
  have HLa := hide (hL.below (hba.mono hB))
  have HLb := hide (hL2.below (hba.mono hB))
  have g : ∀ j v, j < 6 → (#[.int .i64 c.id, .string ⟨c.sub.toArray⟩, .slice p.a2 c.scp.length p.c2, .slice p.a3 c.aud.length p.c3, .slice p.a4 c.act.length p.c4, .int .i64 c.exp] : Array Value)[j]? = some v → wa.cell? ⟨w.heap.size, j, none⟩ = some v := fun j v _ hv => by
    rw [hwa, cell_of_row _ _ _ _ 37 _ ((_root_.Go.heap_alloc_old (w.alloc _) _ (by simp)).trans (heap_alloc_new w _))]; exact hv
  have h : ∀ j v, j < 6 → (#[.int .i64 c.id, .string ⟨c.sub.toArray⟩, .slice q.a2 c.scp.length q.c2, .slice q.a3 c.aud.length q.c3, .slice q.a4 c.act.length q.c4, .int .i64 c.exp] : Array Value)[j]? = some v → wa.cell? ⟨w.heap.size + 1, j, none⟩ = some v := fun j v _ hv => by
    rw [hwa, cell_of_row _ _ _ _ 37 _ (heap_alloc2_new w _ _)]; exact hv
  have g0 := g 0 _ (by decide) rfl
  have g1 := g 1 _ (by decide) rfl
  have g2 := g 2 _ (by decide) rfl
  have g3 := g 3 _ (by decide) rfl
  have g4 := g 4 _ (by decide) rfl
  have g5 := g 5 _ (by decide) rfl
  have h0 := h 0 _ (by decide) rfl
  have h1 := h 1 _ (by decide) rfl
  have h2 := h 2 _ (by decide) rfl
  have h3 := h 3 _ (by decide) rfl
  have h4 := h 4 _ (by decide) rfl
  have h5 := h 5 _ (by decide) rfl
  have HWA := hide hwa
  have b0 : (c.id == c.id) = true := by simp
  have b5 : (c.exp == c.exp) = true := by simp
  have b1 : (c.sub == c.sub) = true := by simp
  clear hS hL hL2 hwa g h
  go_enter Tryd.func20, Tryd.ntmps20
  go_wp2_with fail
  rw [← unhide HWA]
  clear HWA
  refine (same_any _ _ c.scp _ B (unhide HS).l2 (unhide HLa).k2 (unhide HLb).k2).mono ?_
  rintro e w1 ⟨rfl, n1, rfl⟩
  go_wp2_with fail
  refine (same_any _ _ c.aud _ B (unhide HS).l3 ((unhide HLa).k3.drewN n1) ((unhide HLb).k3.drewN n1)).mono ?_
  rintro e w2 ⟨rfl, n2, rfl⟩
  go_wp2_with fail
  refine (same_any _ _ c.act _ B (unhide HS).l4 ((unhide HLa).k4.drewN (n1 + n2)) ((unhide HLb).k4.drewN (n1 + n2))).mono ?_
  rintro e w3 ⟨rfl, n3, rfl⟩
  go_wp2_with fail
  go_ret
  exact ⟨rfl, below_drewN' hba _⟩
end Go.Proofs.YtkmkkmdpjliifaaDoor
