import Derived.Test.YtkmkkmdpjliifaaGreatDoorNxI
namespace Go.Proofs.YtkmkkmdpjliifaaGreatDoor
open Go.ChangeShapes Go.WideShapes Go.ChangeAt Go.RowKit

set_option maxRecDepth 20000 in
set_option maxHeartbeats 1000000 in
theorem isAmong_any (v : Value) (l : List (List UInt8)) (w : World) (B : Nat) (hB : B ≤ w.heap.size) (hl : l.length ≤ 8796093022208) (hv : Ls w B v l) :
    Calls Tryz.prog 153 #[v] w fun e w' => ∃ p, e = .returned (.func (.func 188) #[] #[.pointer (some ⟨p, 0, none⟩)]) ∧ w.heap.size ≤ p ∧ p < w'.heap.size ∧ LsAt w' w'.heap.size p 0 l ∧ Below w.heap.size w w' := by
  have hC := Clone_any v l w B hB hl hv
  have HC := hide hC
  clear hC hl
  obtain ⟨a, c, rfl, _⟩ := hv
  have hmf : ∀ (fn : Fn) (first cap : Array Value) (w : World), (Instr.makeFunc fn first cap).run Tryz.prog w = .ok (.func fn first cap) w := fun _ _ _ _ => rfl
  go_enter Tryz.func153, Tryz.ntmps153
  go_wp2_with (go_at_call 145; refine (unhide HC).mono ?_; rintro e w1 ⟨a1, c1, rfl, hL, hb1⟩; have HL := hide hL; clear hL)
  go_ret
  have hs := hb1.size
  refine ⟨w1.heap.size, rfl, hs, by simp, ⟨a1, c1, by simp, ?_⟩, hb1.alloc (by omega) _⟩
  exact ((unhide HL).below ((Below.refl w1.heap.size w1).alloc (Nat.le_refl _) _)).up (by simp)

theorem ret_bool {b c : Bool} (h : b = c) : Ending.returned (.bool b) = .returned (.bool c) := by rw [h]
set_option maxRecDepth 20000 in
set_option maxHeartbeats 2000000 in
theorem isClient_any (x : Cl) (a2 a3 a4 : Option Addr) (c2 c3 c4 : Nat) (w : World) (B : Nat) (hB : B ≤ w.heap.size) (hS : Small x) (hF : ClFits x) (k2 : Ls w B (.slice a2 x.sc.length c2) x.sc) (k3 : Ls w B (.slice a3 x.tg.length c3) x.tg) (k4 : Ls w B (.slice a4 x.ac.length c4) x.ac) (hT : UT w) :
    Calls Tryz.prog 114 #[.agg #[.string ⟨x.name.toArray⟩, .string ⟨x.secret.toArray⟩, .slice a2 x.sc.length c2, .slice a3 x.tg.length c3, .slice a4 x.ac.length c4]] w fun e w' => e = .returned (.bool (clGood x)) ∧ Below w.heap.size w w' := by
  have HS := hide hS
  have HF := hide hF
  obtain ⟨wa, hwa⟩ : ∃ wa, wa = w.alloc (.cells #[.string ⟨x.name.toArray⟩, .string ⟨x.secret.toArray⟩, .slice a2 x.sc.length c2, .slice a3 x.tg.length c3, .slice a4 x.ac.length c4] 37) := ⟨_, rfl⟩
  have hba : Below w.heap.size w wa := by rw [hwa]; exact (Below.refl _ _).alloc (Nat.le_refl _) _
  have hTa := hT.belowS hba
  have k2a := k2.below (hba.mono hB)
  have k3a := k3.below (hba.mono hB)
  have k4a := k4.below (hba.mono hB)
  have hsa : wa.heap.size = w.heap.size + 1 := by rw [hwa]; simp
  have g0 : wa.cell? ⟨w.heap.size, 0, none⟩ = some (.string ⟨x.name.toArray⟩) := by rw [hwa]; simp
  have g1 : wa.cell? ⟨w.heap.size, 1, none⟩ = some (.string ⟨x.secret.toArray⟩) := by rw [hwa]; simp
  have g2 : wa.cell? ⟨w.heap.size, 2, none⟩ = some (.slice a2 x.sc.length c2) := by rw [hwa]; simp
  have g3 : wa.cell? ⟨w.heap.size, 3, none⟩ = some (.slice a3 x.tg.length c3) := by rw [hwa]; simp
  have g4 : wa.cell? ⟨w.heap.size, 4, none⟩ = some (.slice a4 x.ac.length c4) := by rw [hwa]; simp
  have hGd : clGood x = (plainB x.name && decide (x.secret.length ≤ 64) && listB x.sc && listB x.tg && listB x.ac) := rfl
  have HG := hide hGd
  have HTa := hide hTa
  have HWA := hide hwa
  clear hS hF hT k2 k3 k4 hGd hTa hwa
  generalize hn0 : plainB x.name = b0
  generalize hn2 : listB x.sc = b2
  generalize hn3 : listB x.tg = b3
  generalize hn4 : listB x.ac = b4
  have HN0 := hide hn0
  have HN2 := hide hn2
  have HN3 := hide hn3
  have HN4 := hide hn4
  clear hn0 hn2 hn3 hn4
  go_enter Tryz.func114, Tryz.ntmps114
  go_wp2_with (go_at_call 112; rw [← unhide HWA])
  clear HWA
  refine (IsPlain_any x.name _ (unhide HF).1).mono ?_
  rintro e w0 ⟨rfl, rfl⟩
  rw [unhide HN0]
  have hGG : clGood x = (b0 && decide (x.secret.length ≤ 64) && b2 && b3 && b4) := by rw [unhide HG, unhide HN0, unhide HN2, unhide HN3, unhide HN4]
  have HGG := hide hGG
  clear hGG HG
  cases b0 with
  | false =>
    go_wp2
    go_ret
    exact ⟨ret_bool (by rw [unhide HGG]; rfl), hba⟩
  | true =>
  by_cases hsec : x.secret.length ≤ 64
  · have p64 : (x.secret.length : Int) ≤ 64 := by omega
    go_wp2_with fail
    refine (IsList_any _ x.sc _ B (by omega) (unhide HS).1 (unhide HF).2.2.1 k2a (unhide HTa)).mono ?_
    rintro e w1 ⟨rfl, hb1⟩
    rw [unhide HN2]
    have hs1 := hb1.size
    have t1 := hb1.mono (show B ≤ w0.heap.size by omega)
    have u3 := (hb1.cell (p := ⟨w.heap.size, 3, none⟩) (by show w.heap.size < _; omega)).trans g3
    have u4 := (hb1.cell (p := ⟨w.heap.size, 4, none⟩) (by show w.heap.size < _; omega)).trans g4
    have k3b := k3a.below t1
    have k4b := k4a.below t1
    have HT1 := hide ((unhide HTa).belowS hb1)
    clear g0 g1 g2 g3 g4 k2a k3a k4a
    have hbb1 := hba.trans (hb1.mono (by omega))
    cases b2 with
    | false =>
      go_wp2
      go_ret
      exact ⟨ret_bool (by rw [unhide HGG]; simp), hbb1⟩
    | true =>
    go_wp2_with fail
    refine (IsList_any _ x.tg _ B (by omega) (unhide HS).2.1 (unhide HF).2.2.2.1 k3b (unhide HT1)).mono ?_
    rintro e w2 ⟨rfl, hb2⟩
    rw [unhide HN3]
    have hs2 := hb2.size
    have t2 := hb2.mono (show B ≤ w1.heap.size by omega)
    have g4 := (hb2.cell (p := ⟨w.heap.size, 4, none⟩) (by show w.heap.size < _; omega)).trans u4
    have k4c := k4b.below t2
    have HT2 := hide ((unhide HT1).belowS hb2)
    clear u3 u4 k3b k4b
    have hbb2 := hbb1.trans (hb2.mono (by omega))
    cases b3 with
    | false =>
      go_wp2
      go_ret
      exact ⟨ret_bool (by rw [unhide HGG]; simp), hbb2⟩
    | true =>
    go_wp2_with fail
    refine (IsList_any _ x.ac _ B (by omega) (unhide HS).2.2 (unhide HF).2.2.2.2 k4c (unhide HT2)).mono ?_
    rintro e w3 ⟨rfl, hb3⟩
    rw [unhide HN4]
    have hbb3 := hbb2.trans (hb3.mono (by omega))
    go_wp2
    go_ret
    exact ⟨ret_bool (by rw [unhide HGG, decide_eq_true hsec]; simp), hbb3⟩
  · have p64 : ¬ (x.secret.length : Int) ≤ 64 := by omega
    go_wp2
    go_ret
    exact ⟨ret_bool (by rw [unhide HGG, decide_eq_false hsec]; simp), hba⟩

set_option maxRecDepth 20000 in
set_option maxHeartbeats 2000000 in
theorem newClient_any (x : Cl) (a2 a3 a4 : Option Addr) (c2 c3 c4 : Nat) (w : World) (B : Nat) (hB : B ≤ w.heap.size) (hS : Small x) (k2 : Ls w B (.slice a2 x.sc.length c2) x.sc) (k3 : Ls w B (.slice a3 x.tg.length c3) x.tg) (k4 : Ls w B (.slice a4 x.ac.length c4) x.ac) :
    Calls Tryz.prog 116 #[.agg #[.string ⟨x.name.toArray⟩, .string ⟨x.secret.toArray⟩, .slice a2 x.sc.length c2, .slice a3 x.tg.length c3, .slice a4 x.ac.length c4]] w fun e w' =>
      ∃ Q, e = .returned (.pointer (some ⟨Q, 0, none⟩)) ∧ w.heap.size ≤ Q ∧ Q < w'.heap.size ∧ w'.cell? ⟨Q, 0, none⟩ = some (.string ⟨x.name.toArray⟩) ∧ Below w.heap.size w w' := by
  have HS := hide hS
  obtain ⟨wa, hwa⟩ : ∃ wa, wa = w.alloc (.cells #[.string ⟨x.name.toArray⟩, .string ⟨x.secret.toArray⟩, .slice a2 x.sc.length c2, .slice a3 x.tg.length c3, .slice a4 x.ac.length c4] 37) := ⟨_, rfl⟩
  have hba : Below w.heap.size w wa := by rw [hwa]; exact (Below.refl _ _).alloc (Nat.le_refl _) _
  have k2a := k2.below (hba.mono hB)
  have k3a := k3.below (hba.mono hB)
  have k4a := k4.below (hba.mono hB)
  have hsa : wa.heap.size = w.heap.size + 1 := by rw [hwa]; simp
  have g0 : wa.cell? ⟨w.heap.size, 0, none⟩ = some (.string ⟨x.name.toArray⟩) := by rw [hwa]; simp
  have g1 : wa.cell? ⟨w.heap.size, 1, none⟩ = some (.string ⟨x.secret.toArray⟩) := by rw [hwa]; simp
  have g2 : wa.cell? ⟨w.heap.size, 2, none⟩ = some (.slice a2 x.sc.length c2) := by rw [hwa]; simp
  have g3 : wa.cell? ⟨w.heap.size, 3, none⟩ = some (.slice a3 x.tg.length c3) := by rw [hwa]; simp
  have g4 : wa.cell? ⟨w.heap.size, 4, none⟩ = some (.slice a4 x.ac.length c4) := by rw [hwa]; simp
  have HWA := hide hwa
  have K2 := hide k2a
  have K3 := hide k3a
  have K4 := hide k4a
  clear hS k2 k3 k4 hwa k2a k3a k4a
  go_enter Tryz.func116, Tryz.ntmps116
  go_wp2
  rw [← unhide HWA]
  clear HWA
  generalize hxn : x.name = xn at g0 ⊢
  generalize x.secret = xs at g1 ⊢
  have HXN := hide hxn
  clear hxn
  go_region_held3 (fun w' => w'.cell? ⟨w.heap.size, 0, none⟩ = some (.string ⟨xn.toArray⟩) ∧ w'.cell? ⟨w.heap.size, 1, none⟩ = some (.string ⟨xs.toArray⟩) ∧ w'.cell? ⟨w.heap.size, 2, none⟩ = some (.slice a2 x.sc.length c2) ∧ w'.cell? ⟨w.heap.size, 3, none⟩ = some (.slice a3 x.tg.length c3) ∧ w'.cell? ⟨w.heap.size, 4, none⟩ = some (.slice a4 x.ac.length c4)) (go_keep)
    (first
      | (go_at_call_of 153 (Value.slice a2 x.sc.length c2); refine (isAmong_any _ x.sc _ B (by simp; omega) (unhide HS).1 (unhide K2).drew).mono ?_; rintro e w1 ⟨p1, rfl, hp1, hp1', hL1, hb1⟩; have hs1 := hb1.size; have u0 := (hb1.cell (p := ⟨w.heap.size, 0, none⟩) (by show w.heap.size < wa.heap.size; omega)).trans g0; have u1 := (hb1.cell (p := ⟨w.heap.size, 1, none⟩) (by show w.heap.size < wa.heap.size; omega)).trans g1; have u2 := (hb1.cell (p := ⟨w.heap.size, 2, none⟩) (by show w.heap.size < wa.heap.size; omega)).trans g2; have u3 := (hb1.cell (p := ⟨w.heap.size, 3, none⟩) (by show w.heap.size < wa.heap.size; omega)).trans g3; have u4 := (hb1.cell (p := ⟨w.heap.size, 4, none⟩) (by show w.heap.size < wa.heap.size; omega)).trans g4; have K31 := hide ((unhide K3).drew.below (hb1.mono (show B ≤ wa.heap.size by omega))); have K41 := hide ((unhide K4).drew.below (hb1.mono (show B ≤ wa.heap.size by omega))))
      | (go_at_call_of 153 (Value.slice a3 x.tg.length c3); refine (isAmong_any _ x.tg _ B (show B ≤ w1.heap.size by have hq : wa.heap.size ≤ w1.heap.size := hs1; omega) (unhide HS).2.1 (unhide K31)).mono ?_; rintro e w2 ⟨p2, rfl, hp2, hp2', hL2, hb2⟩; have hs2 := hb2.size; have hq1 : wa.heap.size ≤ w1.heap.size := hs1; have y0 := (hb2.cell (p := ⟨w.heap.size, 0, none⟩) (by show w.heap.size < w1.heap.size; omega)).trans u0; have y1 := (hb2.cell (p := ⟨w.heap.size, 1, none⟩) (by show w.heap.size < w1.heap.size; omega)).trans u1; have y2 := (hb2.cell (p := ⟨w.heap.size, 2, none⟩) (by show w.heap.size < w1.heap.size; omega)).trans u2; have y3 := (hb2.cell (p := ⟨w.heap.size, 3, none⟩) (by show w.heap.size < w1.heap.size; omega)).trans u3; have y4 := (hb2.cell (p := ⟨w.heap.size, 4, none⟩) (by show w.heap.size < w1.heap.size; omega)).trans u4; have K42 := hide ((unhide K41).below (hb2.mono (show B ≤ w1.heap.size by omega))))
      | (go_at_call_of 153 (Value.slice a4 x.ac.length c4); refine (isAmong_any _ x.ac _ B (show B ≤ w2.heap.size by have hq : wa.heap.size ≤ w1.heap.size := hs1; have hq2 : w1.heap.size ≤ w2.heap.size := hs2; omega) (unhide HS).2.2 (unhide K42)).mono ?_; rintro e w3 ⟨p3, rfl, hp3, hp3', hL3, hb3⟩; have hs3 := hb3.size; have hq2 : w1.heap.size ≤ w2.heap.size := hs2; have z0 := (hb3.cell (p := ⟨w.heap.size, 0, none⟩) (by show w.heap.size < w2.heap.size; omega)).trans y0; have z1 := (hb3.cell (p := ⟨w.heap.size, 1, none⟩) (by show w.heap.size < w2.heap.size; omega)).trans y1; have z2 := (hb3.cell (p := ⟨w.heap.size, 2, none⟩) (by show w.heap.size < w2.heap.size; omega)).trans y2; have z3 := (hb3.cell (p := ⟨w.heap.size, 3, none⟩) (by show w.heap.size < w2.heap.size; omega)).trans y3; have z4 := (hb3.cell (p := ⟨w.heap.size, 4, none⟩) (by show w.heap.size < w2.heap.size; omega)).trans y4))
  go_wp2
  go_ret
  have hq3 : w2.heap.size ≤ w3.heap.size := hs3
  refine ⟨w3.heap.size, rfl, by omega, by simp, by rw [unhide HXN]; simp, ?_⟩
  exact Below.alloc (((hba.drew.trans (hb1.mono (show w.heap.size ≤ wa.heap.size by omega))).trans (hb2.mono (by omega))).trans (hb3.mono (by omega))) (by omega) _

/-- the clients' places -/
def ptrs (Qs : List Nat) : List Value := Qs.map fun q => .pointer (some ⟨q, 0, none⟩)
/-- what a search for a client's name tells -/
def FoundC (cs : List Cl) (k : Nat) (x : List UInt8) (p : Value) (Qs : List Nat) : Prop :=
  (p = .pointer none ∧ ∀ j, j < k → (clName cs j != x) = true) ∨ ∃ m q, p = .pointer (some ⟨q, 0, none⟩) ∧ m < k ∧ Qs[m]? = some q ∧ (clName cs m == x) = true ∧ ∀ j, j < m → (clName cs j != x) = true

set_option maxRecDepth 20000 in
set_option maxHeartbeats 1000000 in
theorem findC_any (v : Value) (cs : List Cl) (Qs : List Nat) (k : Nat) (x : List UInt8) (R : Nat) (w : World) (base : Nat) (hk8 : k ≤ 8) (hQ : Qs.length = k) (ho : w.ownsRow base 120 1 v k (ptrs Qs)) (hN : ∀ j q, Qs[j]? = some q → w.cell? ⟨q, 0, none⟩ = some (sv (clName cs j)))
    (hR : w.cell? ⟨R, 0, none⟩ = some v) :
    Calls Tryz.prog 115 #[.pointer (some ⟨R, 0, none⟩), .string ⟨x.toArray⟩] w fun e w' => (∃ p, e = .returned p ∧ FoundC cs k x p Qs) ∧ w' = w := by
  have HN := hide hN
  have HO := hide (owns_cells ho)
  have hshape : ∃ a c, v = .slice a k c := by
    rcases owns_cells ho with ⟨rfl, hn⟩ | ⟨g, cap, rfl, _⟩
    · exact ⟨none, 0, by rw [hn]⟩
    · exact ⟨_, cap, rfl⟩
  obtain ⟨a, c, rfl⟩ := hshape
  clear hN ho
  go_enter Tryz.func115, Tryz.ntmps115
  go_wp2
  go_loopg [12] k (fun q i wr => ∃ m : Nat, m + q = k ∧ i = .int .i64 (m : Nat) ∧ (∀ j, j < m → (clName cs j != x) = true) ∧ wr = w)
  case atStart => exact ⟨0, Nat.zero_add _, rfl, fun j hj => absurd hj (Nat.not_lt_zero _), rfl⟩
  case round =>
    obtain ⟨m, hm, rfl, hA, rfl⟩ := hrel
    have HA := hide hA
    clear hA
    by_cases hlt : m < k
    · have hw : wrap64 ((m : Int) + 1) = (m : Int) + 1 := w64 _ (by omega) (by omega)
      have hql : m < Qs.length := by omega
      have hqe : Qs[m]? = some (Qs[m]'hql) := List.getElem?_eq_getElem hql
      generalize Qs[m]'hql = q at hqe
      have hc2 := unhide HN m q hqe
      rcases unhide HO with ⟨_, hn⟩ | ⟨g, cap, he, _, _, _, hcell⟩
      · omega
      injection he with e1 e2 e3
      subst e1
      have hc1 := hcell m (.pointer (some ⟨q, 0, none⟩)) (by unfold ptrs; rw [List.getElem?_map, hqe]; rfl)
      clear hcell e2 e3
      generalize hy : clName cs m = y at hc2
      have HY := hide hy
      have HQE := hide hqe
      clear hy hqe
      rw [sv_def] at hc2
      go_wp2
      · rename_i h1
        go_ret
        refine ⟨⟨_, rfl, Or.inr ⟨m, q, rfl, hlt, unhide HQE, ?_, unhide HA⟩⟩, rfl⟩
        rw [unhide HY]; exact h1
      · rename_i h1
        go_roundg (gk - 1)
        case measure => omega
        case rel => exact ⟨m + 1, by omega, by first | exact num1 hw | rfl, nest_more (unhide HA) (unhide HY) h1, rfl⟩
    · go_wp2
      go_ret
      exact ⟨⟨_, rfl, Or.inl ⟨rfl, fun j hj => unhide HA j (by omega)⟩⟩, rfl⟩
end Go.Proofs.YtkmkkmdpjliifaaGreatDoor
namespace Go.Proofs.YtkmkkmdpjliifaaGreatDoor
open Go.ChangeShapes Go.WideShapes Go.ChangeAt Go.RowKit

/-- a slice of strings that lies in a block of N -/
def LsN (w : World) (N : Nat → Prop) (v : Value) (l : List (List UInt8)) : Prop :=
  ∃ a c, v = .slice a l.length c ∧ l.length ≤ c ∧ (0 < l.length → ∃ g o, a = some ⟨g, o, none⟩ ∧ N g ∧ ∀ j, j < l.length → w.cell? ⟨g, o + j, none⟩ = some (sv (l.getD j [])))
theorem LsN.ls {w : World} {N : Nat → Prop} {B : Nat} {v : Value} {l : List (List UInt8)} (h : LsN w N v l) (hN : ∀ k, N k → k < B) : Ls w B v l := by
  obtain ⟨a, c, rfl, hle, h⟩ := h
  refine ⟨a, c, rfl, hle, fun hp => ?_⟩
  obtain ⟨g, o, rfl, hg, h⟩ := h hp
  exact ⟨g, o, rfl, hN g hg, h⟩
theorem LsN.keep {w w' : World} {N N' : Nat → Prop} {v : Value} {l : List (List UInt8)} (h : LsN w N v l) (hN : ∀ k, N k → w'.heap[k]? = w.heap[k]? ∧ N' k) : LsN w' N' v l := by
  obtain ⟨a, c, rfl, hle, h⟩ := h
  refine ⟨a, c, rfl, hle, fun hp => ?_⟩
  obtain ⟨g, o, rfl, hg, h⟩ := h hp
  exact ⟨g, o, rfl, (hN g hg).2, fun j hj => (World.cell?_of_block (a := ⟨g, o + j, none⟩) (hN g hg).1).trans (h j hj)⟩
theorem owns_LsN {w : World} {base : Nat} {v : Value} {l : List (List UInt8)} (h : w.ownsRow base 9 1 v l.length (svs l)) : LsN w (fun k => base ≤ k ∧ k < w.heap.size) v l := by
  rcases owns_cells h with ⟨rfl, hn⟩ | ⟨g, cap, rfl, hc, hg, hl, hcell⟩
  · exact ⟨none, 0, by rw [hn], by omega, fun hp => by omega⟩
  · exact ⟨_, cap, rfl, hc, fun _ => ⟨g, 0, rfl, ⟨hg, hl⟩, fun j hj => by rw [Nat.zero_add]; exact hcell j _ (svs_get l j hj)⟩⟩
theorem append_listN {w : World} {v0 : Value} {b0 : Nat} (hb0 : b0 ≤ w.heap.size) (h0 : w.ownsRow b0 9 1 v0 0 []) {a : Option Addr} {l : List (List UInt8)} {c : Nat} {B : Nat} (hl : l.length ≤ 8796093022208) (hv : Ls w B (.slice a l.length c) l) (hp : 0 < l.length) (ty : TypeId) :
    ∃ v' w', (Builtin.append_ #[35, 35] ty #[v0, .slice a l.length c]).run Tryz.prog w = .ok v' w' ∧ LsN w' (fun k => b0 ≤ k ∧ k < w'.heap.size) v' l ∧ w.grownBy w' v0.ownBlock := by
  obtain ⟨a1, c1, he, hle, hv⟩ := hv
  obtain ⟨g, o, rfl, hg, hc⟩ := hv hp
  injection he with e1 e2 e3
  subst e1
  obtain ⟨i0, hi, hz0, hz1, hz2⟩ := info_parts info9
  obtain ⟨v', w', hrun, ho, hgr, _⟩ := run_append_own (P := Tryz.prog) w b0 35 ty 9 i0 _ 1 16 Tryz.underlying35 hi hz0 hz1 hz2 rfl (by decide) v0 0 [] h0 ⟨g, o, none⟩ l.length c (svs l) (by simp [svs]) (fun j u hu => by
      have hj : j < l.length := by
        rcases Nat.lt_or_ge j l.length with h | h
        · exact h
        · rw [List.getElem?_eq_none (by simp [svs]; exact h)] at hu; cases hu
      rw [svs_get l j hj] at hu
      rw [add_plain, hc j hj, hu]) (fun u hu => by
      obtain ⟨x, _, rfl⟩ := List.mem_map.1 hu
      rfl) (by unfold maxLen; omega) (by omega) hb0
  rw [Nat.zero_add, List.nil_append] at ho
  exact ⟨v', w', hrun, owns_LsN ho, hgr⟩
/-- blocks that a call has made -/
def New (w w' : World) (k : Nat) : Prop := w.heap.size ≤ k ∧ k < w'.heap.size

set_option maxRecDepth 20000 in
set_option maxHeartbeats 1000000 in
theorem CloneN_any (v : Value) (l : List (List UInt8)) (w : World) (B : Nat) (hB : B ≤ w.heap.size) (hl : l.length ≤ 8796093022208) (hv : Ls w B v l) :
    Calls Tryz.prog 145 #[v] w fun e w' => ∃ a' c', e = .returned (.slice a' l.length c') ∧ LsN w' (New w w') (.slice a' l.length c') l ∧ Below w.heap.size w w' := by
  have hv' := hv
  obtain ⟨a, c, rfl, hle, hx⟩ := hv'
  have q35 : ∀ (w : World) (a : Option Addr) (n c n' c' : Nat), (binOp .eql 35 (.slice a n c) (.slice none n' c')).run Tryz.prog w = .ok (.bool a.isNone) w := fun w a n c n' c' => Lib.run_eql_slice_nil w _ _ a n c n' c' Tryz.underlying35
  by_cases hp : 0 < l.length
  · obtain ⟨g, o, rfl, hg, hcell⟩ := hx hp
    have hown : (w.alloc (.cells #[] 9)).ownsRow w.heap.size 9 1 (.slice (some ⟨w.heap.size, 0, none⟩) 0 0) 0 [] :=
      ⟨rfl, Or.inr ⟨w.heap.size, 0, #[], rfl, Nat.le_refl _, heap_alloc_new w _, Nat.le_refl _, Nat.zero_le _, rfl, rfl⟩⟩
    have hva := hv.below (((Below.refl w.heap.size w).alloc (Nat.le_refl _) (.cells #[] 9)).mono hB)
    obtain ⟨v', w', hrun, hL, hgr⟩ := append_listN (show w.heap.size ≤ (w.alloc (.cells #[] 9)).heap.size by simp) hown hl hva hp 35
    have hb : Below w.heap.size w w' := ((Below.refl w.heap.size w).alloc (Nat.le_refl _) _).grown hgr (by simp) (fun k hk => by simp [Value.ownBlock] at hk; omega)
    obtain ⟨a', c', rfl, hrest⟩ := hL
    have HL : Hid (LsN w' (New w w') (.slice a' l.length c') l) := ⟨a', c', rfl, hrest⟩
    clear hl hx hrest hv hva hcell
    go_enter Tryz.func145, Tryz.ntmps145
    go_wp2_with (at_builtin; refine appLaw rfl _ _ rfl rfl rfl hrun ?_)
    go_ret
    exact ⟨_, _, rfl, unhide HL, hb⟩
  · have : l = [] := List.length_eq_zero_iff.1 (by omega)
    subst this
    clear hl hv hx
    cases a with
    | none =>
      go_enter Tryz.func145, Tryz.ntmps145
      go_wp2
      go_ret
      exact ⟨_, _, rfl, ⟨_, _, rfl, Nat.zero_le _, fun h => absurd h (by simp)⟩, Below.refl _ _⟩
    | some ad =>
      have hrun : (Builtin.append_ #[35, 35] 35 #[.slice (some ⟨w.heap.size, 0, none⟩) 0 0, .slice (some ad) 0 c]).run Tryz.prog (w.alloc (.cells #[] 9)) = .ok (.slice (some ⟨w.heap.size, 0, none⟩) 0 0) (w.alloc (.cells #[] 9)) := by
        obtain ⟨i0, hi, hz0, hz1, hz2⟩ := info_parts info9
        have hl0 := run_loadCells_list (P := Tryz.prog) (w.alloc (.cells #[] 9)) ad [] (fun j v hv => by simp at hv)
        rw [List.length_nil] at hl0
        simp [Builtin.append_, run_underlying Tryz.underlying35, sizeOf, typeInfo, hi, Builtin.lenOf, Builtin.firstCells, hl0, storeCells]
      go_enter Tryz.func145, Tryz.ntmps145
      go_wp2_with (at_builtin; refine appLaw rfl _ _ rfl rfl rfl hrun ?_)
      go_ret
      exact ⟨_, _, rfl, ⟨_, _, rfl, Nat.zero_le _, fun h => absurd h (by simp)⟩, (Below.refl _ _).alloc (Nat.le_refl _) _⟩

/-- a list that a closure holds: its cell and what that leads to, all in blocks of N -/
def LsP (w : World) (N : Nat → Prop) (p : Nat) (l : List (List UInt8)) : Prop := N p ∧ ∃ a c, w.cell? ⟨p, 0, none⟩ = some (.slice a l.length c) ∧ LsN w N (.slice a l.length c) l
theorem LsP.keep {w w' : World} {N N' : Nat → Prop} {p : Nat} {l : List (List UInt8)} (h : LsP w N p l) (hN : ∀ k, N k → w'.heap[k]? = w.heap[k]? ∧ N' k) : LsP w' N' p l := by
  obtain ⟨h1, a, c, h2, h3⟩ := h
  exact ⟨(hN p h1).2, a, c, (World.cell?_of_block (a := ⟨p, 0, none⟩) (hN p h1).1).trans h2, h3.keep hN⟩
theorem New.below {w w1 w2 : World} (hb : Below w1.heap.size w1 w2) : ∀ k, New w w1 k → w2.heap[k]? = w1.heap[k]? ∧ New w w2 k := fun k h => ⟨hb.block k h.2, h.1, Nat.lt_of_lt_of_le h.2 hb.size⟩

set_option maxRecDepth 20000 in
set_option maxHeartbeats 1000000 in
theorem isAmongN_any (v : Value) (l : List (List UInt8)) (w : World) (B : Nat) (hB : B ≤ w.heap.size) (hl : l.length ≤ 8796093022208) (hv : Ls w B v l) :
    Calls Tryz.prog 153 #[v] w fun e w' => ∃ p, e = .returned (.func (.func 188) #[] #[.pointer (some ⟨p, 0, none⟩)]) ∧ LsP w' (New w w') p l ∧ Below w.heap.size w w' := by
  have hC := CloneN_any v l w B hB hl hv
  have HC := hide hC
  clear hC hl
  obtain ⟨a, c, rfl, _⟩ := hv
  have hmf : ∀ (fn : Fn) (first cap : Array Value) (w : World), (Instr.makeFunc fn first cap).run Tryz.prog w = .ok (.func fn first cap) w := fun _ _ _ _ => rfl
  go_enter Tryz.func153, Tryz.ntmps153
  go_wp2_with (go_at_call 145; refine (unhide HC).mono ?_; rintro e w1 ⟨a1, c1, rfl, hL, hb1⟩; have HL := hide hL; clear hL)
  go_ret
  have hs := hb1.size
  refine ⟨w1.heap.size, rfl, ⟨⟨hs, by simp⟩, a1, c1, by simp, ?_⟩, hb1.alloc (by omega) _⟩
  exact (unhide HL).keep (New.below ((Below.refl w1.heap.size w1).alloc (Nat.le_refl _) _))

/-- a client, cell by cell -/
def cliF (x : Cl) (p2 p3 p4 : Nat) (j : Nat) : Value :=
  if j = 0 then .string ⟨x.name.toArray⟩ else if j = 1 then .func (.func 188) #[] #[.pointer (some ⟨p2, 0, none⟩)] else if j = 2 then .func (.func 188) #[] #[.pointer (some ⟨p3, 0, none⟩)]
  else if j = 3 then .func (.func 188) #[] #[.pointer (some ⟨p4, 0, none⟩)] else .string ⟨x.secret.toArray⟩
/-- a client that lies at q, all of it in blocks of N -/
def ClX (w : World) (N : Nat → Prop) (x : Cl) (q : Nat) : Prop :=
  N q ∧ ∃ p2 p3 p4, (∀ j, j < 5 → w.cell? ⟨q, j, none⟩ = some (cliF x p2 p3 p4 j)) ∧ LsP w N p2 x.sc ∧ LsP w N p3 x.tg ∧ LsP w N p4 x.ac ∧ ∃ ca, w.heap[q]? = some (.cells ca 152 (0, 0))
theorem ClX.keep {w w' : World} {N N' : Nat → Prop} {x : Cl} {q : Nat} (h : ClX w N x q) (hN : ∀ k, N k → w'.heap[k]? = w.heap[k]? ∧ N' k) : ClX w' N' x q := by
  obtain ⟨h1, p2, p3, p4, h2, h3, h4, h5, ca, h6⟩ := h
  exact ⟨(hN q h1).2, p2, p3, p4, fun j hj => (World.cell?_of_block (a := ⟨q, j, none⟩) (hN q h1).1).trans (h2 j hj), h3.keep hN, h4.keep hN, h5.keep hN, ca, (hN q h1).1.trans h6⟩
theorem ClX.name {w : World} {N : Nat → Prop} {x : Cl} {q : Nat} (h : ClX w N x q) : w.cell? ⟨q, 0, none⟩ = some (.string ⟨x.name.toArray⟩) := by
  obtain ⟨_, p2, p3, p4, h2, _⟩ := h
  exact h2 0 (by decide)
end Go.Proofs.YtkmkkmdpjliifaaGreatDoor
namespace Go.Proofs.YtkmkkmdpjliifaaGreatDoor
open Go.ChangeShapes Go.WideShapes Go.ChangeAt Go.RowKit

set_option maxRecDepth 20000 in
set_option maxHeartbeats 2000000 in
theorem newClientN_any (x : Cl) (a2 a3 a4 : Option Addr) (c2 c3 c4 : Nat) (w : World) (B : Nat) (hB : B ≤ w.heap.size) (hS : Small x) (k2 : Ls w B (.slice a2 x.sc.length c2) x.sc) (k3 : Ls w B (.slice a3 x.tg.length c3) x.tg) (k4 : Ls w B (.slice a4 x.ac.length c4) x.ac) :
    Calls Tryz.prog 116 #[.agg #[.string ⟨x.name.toArray⟩, .string ⟨x.secret.toArray⟩, .slice a2 x.sc.length c2, .slice a3 x.tg.length c3, .slice a4 x.ac.length c4]] w fun e w' =>
      ∃ Q, e = .returned (.pointer (some ⟨Q, 0, none⟩)) ∧ ClX w' (New w w') x Q ∧ Below w.heap.size w w' := by
  have HS := hide hS
  obtain ⟨wa, hwa⟩ : ∃ wa, wa = w.alloc (.cells #[.string ⟨x.name.toArray⟩, .string ⟨x.secret.toArray⟩, .slice a2 x.sc.length c2, .slice a3 x.tg.length c3, .slice a4 x.ac.length c4] 37) := ⟨_, rfl⟩
  have hba : Below w.heap.size w wa := by rw [hwa]; exact (Below.refl _ _).alloc (Nat.le_refl _) _
  have k2a := k2.below (hba.mono hB)
  have k3a := k3.below (hba.mono hB)
  have k4a := k4.below (hba.mono hB)
  have hsa : wa.heap.size = w.heap.size + 1 := by rw [hwa]; simp
  have g0 : wa.cell? ⟨w.heap.size, 0, none⟩ = some (.string ⟨x.name.toArray⟩) := by rw [hwa]; simp
  have g1 : wa.cell? ⟨w.heap.size, 1, none⟩ = some (.string ⟨x.secret.toArray⟩) := by rw [hwa]; simp
  have g2 : wa.cell? ⟨w.heap.size, 2, none⟩ = some (.slice a2 x.sc.length c2) := by rw [hwa]; simp
  have g3 : wa.cell? ⟨w.heap.size, 3, none⟩ = some (.slice a3 x.tg.length c3) := by rw [hwa]; simp
  have g4 : wa.cell? ⟨w.heap.size, 4, none⟩ = some (.slice a4 x.ac.length c4) := by rw [hwa]; simp
  have HWA := hide hwa
  have K2 := hide k2a
  have K3 := hide k3a
  have K4 := hide k4a
  clear hS k2 k3 k4 hwa k2a k3a k4a
  go_enter Tryz.func116, Tryz.ntmps116
  go_wp2
  rw [← unhide HWA]
  clear HWA
  generalize hxn : x.name = xn at g0 ⊢
  generalize hxs : x.secret = xs at g1 ⊢
  have HXS := hide hxs
  clear hxs
  have HXN := hide hxn
  clear hxn
  go_region_held3 (fun w' => w'.cell? ⟨w.heap.size, 0, none⟩ = some (.string ⟨xn.toArray⟩) ∧ w'.cell? ⟨w.heap.size, 1, none⟩ = some (.string ⟨xs.toArray⟩) ∧ w'.cell? ⟨w.heap.size, 2, none⟩ = some (.slice a2 x.sc.length c2) ∧ w'.cell? ⟨w.heap.size, 3, none⟩ = some (.slice a3 x.tg.length c3) ∧ w'.cell? ⟨w.heap.size, 4, none⟩ = some (.slice a4 x.ac.length c4)) (go_keep)
    (first
      | (go_at_call_of 153 (Value.slice a2 x.sc.length c2); refine (isAmongN_any _ x.sc _ B (by simp; omega) (unhide HS).1 (unhide K2).drew).mono ?_; rintro e w1 ⟨p1, rfl, hL1, hb1⟩; have hs1 := hb1.size; have u0 := (hb1.cell (p := ⟨w.heap.size, 0, none⟩) (by show w.heap.size < wa.heap.size; omega)).trans g0; have u1 := (hb1.cell (p := ⟨w.heap.size, 1, none⟩) (by show w.heap.size < wa.heap.size; omega)).trans g1; have u2 := (hb1.cell (p := ⟨w.heap.size, 2, none⟩) (by show w.heap.size < wa.heap.size; omega)).trans g2; have u3 := (hb1.cell (p := ⟨w.heap.size, 3, none⟩) (by show w.heap.size < wa.heap.size; omega)).trans g3; have u4 := (hb1.cell (p := ⟨w.heap.size, 4, none⟩) (by show w.heap.size < wa.heap.size; omega)).trans g4; have K31 := hide ((unhide K3).drew.below (hb1.mono (show B ≤ wa.heap.size by omega))); have K41 := hide ((unhide K4).drew.below (hb1.mono (show B ≤ wa.heap.size by omega))))
      | (go_at_call_of 153 (Value.slice a3 x.tg.length c3); refine (isAmongN_any _ x.tg _ B (show B ≤ w1.heap.size by have hq : wa.heap.size ≤ w1.heap.size := hs1; omega) (unhide HS).2.1 (unhide K31)).mono ?_; rintro e w2 ⟨p2, rfl, hL2, hb2⟩; have hs2 := hb2.size; have hq1 : wa.heap.size ≤ w1.heap.size := hs1; have y0 := (hb2.cell (p := ⟨w.heap.size, 0, none⟩) (by show w.heap.size < w1.heap.size; omega)).trans u0; have y1 := (hb2.cell (p := ⟨w.heap.size, 1, none⟩) (by show w.heap.size < w1.heap.size; omega)).trans u1; have y2 := (hb2.cell (p := ⟨w.heap.size, 2, none⟩) (by show w.heap.size < w1.heap.size; omega)).trans u2; have y3 := (hb2.cell (p := ⟨w.heap.size, 3, none⟩) (by show w.heap.size < w1.heap.size; omega)).trans u3; have y4 := (hb2.cell (p := ⟨w.heap.size, 4, none⟩) (by show w.heap.size < w1.heap.size; omega)).trans u4; have K42 := hide ((unhide K41).below (hb2.mono (show B ≤ w1.heap.size by omega))))
      | (go_at_call_of 153 (Value.slice a4 x.ac.length c4); refine (isAmongN_any _ x.ac _ B (show B ≤ w2.heap.size by have hq : wa.heap.size ≤ w1.heap.size := hs1; have hq2 : w1.heap.size ≤ w2.heap.size := hs2; omega) (unhide HS).2.2 (unhide K42)).mono ?_; rintro e w3 ⟨p3, rfl, hL3, hb3⟩; have hs3 := hb3.size; have hq2 : w1.heap.size ≤ w2.heap.size := hs2; have z0 := (hb3.cell (p := ⟨w.heap.size, 0, none⟩) (by show w.heap.size < w2.heap.size; omega)).trans y0; have z1 := (hb3.cell (p := ⟨w.heap.size, 1, none⟩) (by show w.heap.size < w2.heap.size; omega)).trans y1; have z2 := (hb3.cell (p := ⟨w.heap.size, 2, none⟩) (by show w.heap.size < w2.heap.size; omega)).trans y2; have z3 := (hb3.cell (p := ⟨w.heap.size, 3, none⟩) (by show w.heap.size < w2.heap.size; omega)).trans y3; have z4 := (hb3.cell (p := ⟨w.heap.size, 4, none⟩) (by show w.heap.size < w2.heap.size; omega)).trans y4))
  go_wp2
  go_ret
  have hq3 : w2.heap.size ≤ w3.heap.size := hs3
  have hbA : ∀ o, Below w3.heap.size w3 (w3.alloc o) := fun o => (Below.refl w3.heap.size w3).alloc (Nat.le_refl _) o
  refine ⟨w3.heap.size, rfl, ⟨⟨by omega, by simp⟩, p1, p2, p3, fun j hj => ?_, ?_, ?_, ?_, ⟨_, heap_alloc_new w3 _⟩⟩, ?_⟩
  · unfold cliF
    rw [unhide HXN, unhide HXS]
    rcases (show j = 0 ∨ j = 1 ∨ j = 2 ∨ j = 3 ∨ j = 4 by omega) with rfl | rfl | rfl | rfl | rfl <;> simp
  · exact ((hL1.keep (New.below hb2)).keep (New.below hb3)).keep (fun k h => ⟨(hbA _).block k h.2, by show w.heap.size ≤ k; have := h.1; have : wa.heap.size ≤ k := this; omega, Nat.lt_of_lt_of_le h.2 (hbA _).size⟩)
  · exact (hL2.keep (New.below hb3)).keep (fun k h => ⟨(hbA _).block k h.2, by show w.heap.size ≤ k; have : w1.heap.size ≤ k := h.1; have : wa.heap.size ≤ w1.heap.size := hs1; omega, Nat.lt_of_lt_of_le h.2 (hbA _).size⟩)
  · exact hL3.keep (fun k h => ⟨(hbA _).block k h.2, by show w.heap.size ≤ k; have : w2.heap.size ≤ k := h.1; have : wa.heap.size ≤ w1.heap.size := hs1; have : w1.heap.size ≤ w2.heap.size := hs2; omega, Nat.lt_of_lt_of_le h.2 (hbA _).size⟩)
  · exact Below.alloc (((hba.drew.trans (hb1.mono (show w.heap.size ≤ wa.heap.size by omega))).trans (hb2.mono (by omega))).trans (hb3.mono (by omega))) (by omega) _
end Go.Proofs.YtkmkkmdpjliifaaGreatDoor
