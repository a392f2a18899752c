import Derived.Test.YtkmkkmdpjliifaaDoorNxG
import Derived.Test.YtkmkkmdpjliifaaDoorNxC
namespace Go.Proofs.YtkmkkmdpjliifaaDoor
open Go.ChangeShapes Go.WideShapes Go.ChangeAt Go.RowKit

theorem nest_next {ok : Nat → Bool} {nm : Nat → List UInt8} {k m q : Nat} {y : List UInt8} {b1 : Bool} (hO : ok k = (b1 && (List.range k).all fun j => nm j != y)) (h1 : b1 = true) (hA : ∀ j, j < k → ok j = true)
    (hA2 : ∀ j, j < m → (nm j != y) = true) (hm : m + q = k) (hlt : ¬ m < k) : ∀ j, j < k + 1 → ok j = true := by
  intro j hj
  have hmk : m = k := by omega
  subst hmk
  by_cases e : j = m
  · rw [e, hO, all_true hA2, h1]; rfl
  · exact hA j (by omega)
theorem nest_bad {ok : Nat → Bool} {nm : Nat → List UInt8} {n k m : Nat} {y z : List UInt8} {b1 : Bool} (hk : k < n) (hO : ok k = (b1 && (List.range k).all fun j => nm j != y)) (hm : m < k) (hz : nm m = z) (h2 : (z == y) = true) : (List.range n).all ok = false := by
  have hf : ok k = false := by
    rw [hO, all_false hm]
    · simp
    · rw [hz]; simp at h2; rw [h2]; simp
  exact all_false hk hf
theorem nest_more {nm : Nat → List UInt8} {m : Nat} {y z : List UInt8} (hA2 : ∀ j, j < m → (nm j != y) = true) (hz : nm m = z) (h2 : (z == y) = false) : ∀ j, j < m + 1 → (nm j != y) = true := by
  intro j hj
  by_cases e : j = m
  · rw [e, hz]
    simp at h2
    simpa using h2
  · exact hA2 j (by omega)

/-- a key -/
structure Ky where
  name : List UInt8
  secret : List UInt8
instance : Inhabited Ky := ⟨⟨[], []⟩⟩
def KyAt (w : World) (g p : Nat) (x : Ky) : Prop := w.cell? ⟨g, p, none⟩ = some (sv x.name) ∧ w.cell? ⟨g, p + 1, none⟩ = some (sv x.secret)
/-- A slice of keys, to be read. -/
def Ks (w : World) (B : Nat) (v : Value) (ks : List Ky) : Prop :=
  ∃ a c, v = .slice a ks.length c ∧ (0 < ks.length → ∃ g o, a = some ⟨g, o, none⟩ ∧ g < B ∧ ∀ i, i < ks.length → KyAt w g (o + i * 2) (ks.getD i default))
theorem KyAt.below {w w' : World} {B g p : Nat} {x : Ky} (h : KyAt w g p x) (hb : Below B w w') (hg : g < B) : KyAt w' g p x :=
  ⟨(hb.cell (p := ⟨g, p, none⟩) hg).trans h.1, (hb.cell (p := ⟨g, p + 1, none⟩) hg).trans h.2⟩
theorem Ks.below {w w' : World} {B : Nat} {v : Value} {l : List Ky} (h : Ks w B v l) (hb : Below B w w') : Ks w' B v l := by
  obtain ⟨a, c, rfl, h⟩ := h
  refine ⟨a, c, rfl, fun hp => ?_⟩
  obtain ⟨g, o, rfl, hg, h⟩ := h hp
  exact ⟨g, o, rfl, hg, fun j hj => (h j hj).below hb hg⟩
def kyName (ks : List Ky) (i : Nat) : List UInt8 := (ks.getD i default).name
def kyOk (ks : List Ky) (i : Nat) : Bool := (plainB (ks.getD i default).name && decide ((ks.getD i default).secret.length ≤ 64)) && (List.range i).all (fun k => kyName ks k != (ks.getD i default).name)
def keysB (ks : List Ky) : Bool := (List.range ks.length).all (kyOk ks) && decide (1 ≤ ks.length) && decide (ks.length ≤ 8)
def KFits (ks : List Ky) : Prop := ∀ i, i < ks.length → (ks.getD i default).name.length ≤ 9223372036854775807 ∧ (ks.getD i default).secret.length ≤ 9223372036854775807

theorem keysB_bad {ks : List Ky} (h : (List.range ks.length).all (kyOk ks) = false) : keysB ks = false := by
  unfold keysB
  rw [h]; simp
theorem drewN_two (w : World) (a b : Nat) : (w.drewN a).drewN b = w.drewN (a + b) := by
  simp [World.drewN, Nat.add_assoc]

set_option maxRecDepth 20000 in
set_option maxHeartbeats 1000000 in
theorem keysR_any (v : Value) (ks : List Ky) (w : World) (B : Nat) (hl : ks.length ≤ 8796093022208) (hF : KFits ks) (hv : Ks w B v ks) :
    Calls Tryd.prog 76 #[v] w fun e w' => e = .returned (.bool (keysB ks)) ∧ ∃ n, w' = w.drewN n := by
  obtain ⟨a, c, rfl, hv⟩ := hv
  have HL := hide hl
  have HV := hide hv
  have HF := hide hF
  clear hl hv hF
  go_enter Tryd.func76, Tryd.ntmps76
  go_wp2
  go_loopg [3] ks.length (fun q i wr => ∃ k n : Nat, k + q = ks.length ∧ i = .int .i64 (k : Nat) ∧ (∀ j, j < k → kyOk ks j = true) ∧ wr = w.drewN n)
  case atStart => exact ⟨0, 0, Nat.zero_add _, rfl, fun j hj => absurd hj (Nat.not_lt_zero _), rfl⟩
  case round =>
    obtain ⟨k, n0, hk, rfl, hA, rfl⟩ := hrel
    have HA := hide hA
    clear hA
    have hw : wrap64 ((k : Int) + 1) = (k : Int) + 1 := w64 _ (by omega) (by have := unhide HL; omega)
    by_cases hlt : k < ks.length
    · obtain ⟨g, o, rfl, hg, hC⟩ := unhide HV (by omega)
      have hc := (hC k hlt).1
      have hc' := (hC k hlt).2
      have HC := hide hC
      clear hC
      have hok : kyOk ks k = ((plainB (ks.getD k default).name && decide ((ks.getD k default).secret.length ≤ 64)) && (List.range k).all (fun j => kyName ks j != (ks.getD k default).name)) := rfl
      have hfit := unhide HF k hlt
      generalize hy : (ks.getD k default).name = y at hc hok hfit
      generalize hs : (ks.getD k default).secret = s at hc' hok hfit
      have HO := hide hok
      have HFt := hide hfit
      clear hok hy hfit hs
      rw [sv_def] at hc hc'
      generalize hn : plainB y = b1 at HO
      have HN := hide hn
      clear hn
      have hkl : (k : Int) < ks.length := by omega
      go_wp2_with (go_at_call 99; refine (plainR_any y _ (unhide HFt).1).mono ?_; rintro e w1 ⟨rfl, rfl⟩; rw [unhide HN])
      · rename_i h1 h2
        go_ret
        refine ⟨congrArg (fun b => Ending.returned (Value.bool b)) (keysB_bad (all_false hlt ?_)).symm, _, rfl⟩
        rw [unhide HO, decide_eq_false (p := s.length ≤ 64) (by omega)]; simp
      · rename_i h1 h2
        have hb1 : (b1 && decide (s.length ≤ 64)) = true := by rw [h1, decide_eq_true (p := s.length ≤ 64) (by omega)]; rfl
        obtain ⟨gO, hgO⟩ : ∃ q, q = gk := ⟨_, rfl⟩
        have HW := hide hw
        clear hw
        go_loopg [5] k (fun q i wq => ∃ (m n : Nat), m + q = k ∧ i = .int .i64 (m : Nat) ∧ (∀ j, j < m → (kyName ks j != y) = true) ∧ wq = w.drewN n)
        case atStart => exact ⟨0, n0, Nat.zero_add _, rfl, fun j hj => absurd hj (Nat.not_lt_zero _), rfl⟩
        case round =>
          obtain ⟨m, n, hm, rfl, hA2, rfl⟩ := hrel
          have HA2 := hide hA2
          clear hA2
          by_cases hlt2 : m < k
          · have hw2 : wrap64 ((m : Int) + 1) = (m : Int) + 1 := w64 _ (by omega) (by have := unhide HL; omega)
            have hc2 := (unhide HC m (by omega)).1
            generalize hz : (ks.getD m default).name = z at hc2
            have HZ := hide hz
            clear hz
            rw [sv_def] at hc2
            have hml : (m : Int) < ks.length := by omega
            have hml2 : m < ks.length := by omega
            go_wp2
            go_quiet (fail)
            go_wp2
            · rename_i h3
              go_ret
              refine ⟨congrArg (fun b => Ending.returned (Value.bool b)) (keysB_bad (nest_bad hlt (unhide HO) hlt2 (unhide HZ) h3)).symm, _, drewN_two _ _ _⟩
            · rename_i h3
              go_roundg (gk - 1)
              case measure => omega
              case rel => exact ⟨m + 1, _, by omega, by first | exact num1 hw2 | rfl, nest_more (unhide HA2) (unhide HZ) h3, rfl⟩
          · have hw := unhide HW
            go_wp2
            go_roundg (gO - 1)
            case measure => omega
            case rel => exact ⟨k + 1, _, by omega, by first | exact num1 hw | rfl, nest_next (unhide HO) hb1 (unhide HA) (unhide HA2) hm hlt2, rfl⟩
      · rename_i h1
        go_ret
        refine ⟨congrArg (fun b => Ending.returned (Value.bool b)) (keysB_bad (all_false hlt ?_)).symm, _, rfl⟩
        rw [unhide HO, Bool.eq_false_iff.2 h1]; simp
    · go_wp2
      all_goals go_ret
      all_goals refine ⟨congrArg (fun b => Ending.returned (Value.bool b)) ?_, _, rfl⟩
      all_goals unfold keysB
      all_goals rw [all_true (fun j hj => unhide HA j (by omega)), Bool.true_and]
      · rw [decide_eq_true (p := 1 ≤ ks.length) (by omega), Bool.true_and, decide_eq_decide]
        omega
      · rw [decide_eq_false (p := 1 ≤ ks.length) (by omega), Bool.false_and]

def clName (cs : List Cl) (i : Nat) : List UInt8 := (cs.getD i default).name
def clGood (x : Cl) : Bool := plainB x.name && decide (x.secret.length ≤ 64) && listB x.sc && listB x.tg && listB x.ac
def clOk (cs : List Cl) (i : Nat) : Bool := clGood (cs.getD i default) && (List.range i).all (fun k => clName cs k != (cs.getD i default).name)
def clientsB (cs : List Cl) : Bool := (List.range cs.length).all (clOk cs) && decide (cs.length ≤ 8)
def ClFits (x : Cl) : Prop := x.name.length ≤ 9223372036854775807 ∧ x.secret.length ≤ 9223372036854775807 ∧ Fits x.sc ∧ Fits x.tg ∧ Fits x.ac
def CFits (cs : List Cl) : Prop := ∀ i, i < cs.length → Small (cs.getD i default) ∧ ClFits (cs.getD i default)
theorem clientsB_bad {cs : List Cl} (h : (List.range cs.length).all (clOk cs) = false) : clientsB cs = false := by
  unfold clientsB
  rw [h]; simp

set_option maxRecDepth 20000 in
set_option maxHeartbeats 2000000 in
theorem clientsR_any (v : Value) (cs : List Cl) (w : World) (B : Nat) (hB : B ≤ w.heap.size) (hl : cs.length ≤ 1353245080301) (hF : CFits cs) (hv : Cs w B v cs) :
    Calls Tryd.prog 77 #[v] w fun e w' => e = .returned (.bool (clientsB cs)) ∧ Below w.heap.size w w' := by
  obtain ⟨a, c, rfl, hv⟩ := hv
  have HL := hide hl
  have HV := hide hv
  have HF := hide hF
  clear hl hv hF
  go_enter Tryd.func77, Tryd.ntmps77
  go_wp2
  go_loopg [3] cs.length (fun q i wr => ∃ k : Nat, k + q = cs.length ∧ i = .int .i64 (k : Nat) ∧ (∀ j, j < k → clOk cs j = true) ∧ Below w.heap.size w wr)
  case atStart => exact ⟨0, Nat.zero_add _, rfl, fun j hj => absurd hj (Nat.not_lt_zero _), Below.refl _ _⟩
  case round =>
    obtain ⟨k, hk, rfl, hA, hb⟩ := hrel
    have HA := hide hA
    clear hA
    have hw : wrap64 ((k : Int) + 1) = (k : Int) + 1 := w64 _ (by omega) (by have := unhide HL; omega)
    by_cases hlt : k < cs.length
    · obtain ⟨g, o, rfl, hg, hC⟩ := unhide HV (by omega)
      have hC' : ∀ i, i < cs.length → ClAt wr B g (o + i * 5) (cs.getD i default) := fun i hi => (hC i hi).below (hb.mono hB) hg
      have hx := hC' k hlt
      have HC := hide hC'
      clear hC hC'
      have hok : clOk cs k = (clGood (cs.getD k default) && (List.range k).all (fun j => clName cs j != (cs.getD k default).name)) := rfl
      have hfit := unhide HF k hlt
      generalize hxx : cs.getD k default = x at hx hok hfit
      have HO := hide hok
      have HFt := hide hfit
      clear hok hfit hxx
      obtain ⟨h0, h1, ⟨a2, c2, h2, k2⟩, ⟨a3, c3, h3, k3⟩, a4, c4, h4, k4⟩ := hx
      rw [sv_def] at h0 h1
      have hsz := hb.size
      generalize hn0 : plainB x.name = b0 
      generalize hn2 : listB x.sc = b2
      generalize hn3 : listB x.tg = b3
      generalize hn4 : listB x.ac = b4
      have HN0 := hide hn0
      have HN2 := hide hn2
      have HN3 := hide hn3
      have HN4 := hide hn4
      clear hn0 hn2 hn3 hn4
      have hkl : (k : Int) < cs.length := by omega
      go_wp2_with fail
      refine (plainR_any x.name _ (unhide HFt).2.1).mono ?_
      rintro e w0 ⟨rfl, rfl⟩
      rw [unhide HN0]
      go_wp2_with fail
      refine (ListR_any _ x.sc _ B (by omega) (unhide HFt).1.1 (unhide HFt).2.2.2.1 k2).mono ?_
      rintro e w1 ⟨rfl, hb1⟩
      rw [unhide HN2]
      have hs1 := hb1.size
      have t1 := hb1.mono (show B ≤ w0.heap.size by omega)
      have u0 := (t1.cell (p := ⟨g, o + k * 5, none⟩) hg).trans h0
      have u1 := (t1.cell (p := ⟨g, o + k * 5 + 1, none⟩) hg).trans h1
      have u3 := (t1.cell (p := ⟨g, o + k * 5 + 3, none⟩) hg).trans h3
      have u4 := (t1.cell (p := ⟨g, o + k * 5 + 4, none⟩) hg).trans h4
      have k3 := k3.below t1
      have k4 := k4.below t1
      clear h0 h1 h2 h3 h4 k2
      go_wp2_with fail
      refine (ListR_any _ x.tg _ B (by omega) (unhide HFt).1.2.1 (unhide HFt).2.2.2.2.1 k3).mono ?_
      rintro e w2 ⟨rfl, hb2⟩
      rw [unhide HN3]
      have hs2 := hb2.size
      have t2 := hb2.mono (show B ≤ w1.heap.size by omega)
      have h0 := (t2.cell (p := ⟨g, o + k * 5, none⟩) hg).trans u0
      have h1 := (t2.cell (p := ⟨g, o + k * 5 + 1, none⟩) hg).trans u1
      have h4 := (t2.cell (p := ⟨g, o + k * 5 + 4, none⟩) hg).trans u4
      have k4 := k4.below t2
      clear u0 u1 u3 u4 k3
      go_wp2_with fail
      refine (ListR_any _ x.ac _ B (by omega) (unhide HFt).1.2.2 (unhide HFt).2.2.2.2.2 k4).mono ?_
      rintro e w3 ⟨rfl, hb3⟩
      rw [unhide HN4]
      have hs3 := hb3.size
      have t3 := hb3.mono (show B ≤ w2.heap.size by omega)
      have u0 := (t3.cell (p := ⟨g, o + k * 5, none⟩) hg).trans h0
      have u1 := (t3.cell (p := ⟨g, o + k * 5 + 1, none⟩) hg).trans h1
      clear h0 h1 h4 k4
      have HC3 : Hid (∀ i, i < cs.length → ClAt w3 B g (o + i * 5) (cs.getD i default)) := fun i hi => (((unhide HC i hi).below t1 hg).below t2 hg).below t3 hg
      have hb' : Below w.heap.size w w3 := ((hb.trans (hb1.mono hsz)).trans (hb2.mono (by omega))).trans (hb3.mono (by omega))
      have hok2 : clOk cs k = (b0 && decide (x.secret.length ≤ 64) && b2 && b3 && b4 && (List.range k).all (fun j => clName cs j != x.name)) := by
        rw [unhide HO]; unfold clGood
        rw [unhide HN0, unhide HN2, unhide HN3, unhide HN4]
      have HO2 := hide hok2
      clear hok2 HO HC hb hb1 hb2 hb3 t1 t2 t3
      generalize x.name = y at u0 HO2
      generalize x.secret = s at u1 HO2
      go_wp2
      · rename_i q0 q2 q3 q4 q5
        go_ret
        refine ⟨congrArg (fun b => Ending.returned (Value.bool b)) (clientsB_bad (all_false hlt ?_)).symm, hb'⟩
        rw [unhide HO2, decide_eq_false (p := s.length ≤ 64) (by omega)]; simp
      · rename_i q0 q2 q3 q4 q5
        have hq : (b0 && decide (s.length ≤ 64) && b2 && b3 && b4) = true := by rw [q0, q2, q3, q4, decide_eq_true (p := s.length ≤ 64) (by omega)]; rfl
        obtain ⟨gO, hgO⟩ : ∃ q, q = gk := ⟨_, rfl⟩
        have HW := hide hw
        have HQ := hide hq
        clear hw hq
        go_loopg [8] k (fun q i wq => ∃ (m n : Nat), m + q = k ∧ i = .int .i64 (m : Nat) ∧ (∀ j, j < m → (clName cs j != y) = true) ∧ wq = w3.drewN n)
        case atStart => exact ⟨0, 0, Nat.zero_add _, rfl, fun j hj => absurd hj (Nat.not_lt_zero _), rfl⟩
        case round =>
          obtain ⟨m, n, hm, rfl, hA2, rfl⟩ := hrel
          have HA2 := hide hA2
          clear hA2
          by_cases hlt2 : m < k
          · have hw2 : wrap64 ((m : Int) + 1) = (m : Int) + 1 := w64 _ (by omega) (by have := unhide HL; omega)
            have hc2 := (unhide HC3 m (by omega)).1
            generalize hz : (cs.getD m default).name = z at hc2
            have HZ := hide hz
            clear hz
            rw [sv_def] at hc2
            have hml : (m : Int) < cs.length := by omega
            have hml2 : m < cs.length := by omega
            go_wp2
            go_quiet (fail)
            go_wp2
            · rename_i h3
              go_ret
              exact ⟨congrArg (fun b => Ending.returned (Value.bool b)) (clientsB_bad (nest_bad hlt (unhide HO2) hlt2 (unhide HZ) h3)).symm, below_drewN' (below_drewN' hb' _) _⟩
            · rename_i h3
              go_roundg (gk - 1)
              case measure => omega
              case rel => exact ⟨m + 1, _, by omega, by first | exact num1 hw2 | rfl, nest_more (unhide HA2) (unhide HZ) h3, rfl⟩
          · have hw := unhide HW
            go_wp2
            go_roundg (gO - 1)
            case measure => omega
            case rel => exact ⟨k + 1, by omega, by first | exact num1 hw | rfl, nest_next (unhide HO2) (unhide HQ) (unhide HA) (unhide HA2) hm hlt2, below_drewN' hb' _⟩
      · rename_i q0 q2 q3 q4
        go_ret
        refine ⟨congrArg (fun b => Ending.returned (Value.bool b)) (clientsB_bad (all_false hlt ?_)).symm, hb'⟩
        rw [unhide HO2, Bool.eq_false_iff.2 q4]; simp
      · rename_i q0 q2 q3
        go_ret
        refine ⟨congrArg (fun b => Ending.returned (Value.bool b)) (clientsB_bad (all_false hlt ?_)).symm, hb'⟩
        rw [unhide HO2, Bool.eq_false_iff.2 q3]; simp
      · rename_i q0 q2
        go_ret
        refine ⟨congrArg (fun b => Ending.returned (Value.bool b)) (clientsB_bad (all_false hlt ?_)).symm, hb'⟩
        rw [unhide HO2, Bool.eq_false_iff.2 q2]; simp
      · rename_i q0
        go_ret
        refine ⟨congrArg (fun b => Ending.returned (Value.bool b)) (clientsB_bad (all_false hlt ?_)).symm, hb'⟩
        rw [unhide HO2, Bool.eq_false_iff.2 q0]; simp
    · go_wp2
      go_ret
      refine ⟨congrArg (fun b => Ending.returned (Value.bool b)) ?_, hb⟩
      unfold clientsB
      rw [all_true (fun j hj => unhide HA j (by omega)), Bool.true_and, decide_eq_decide]
      omega
end Go.Proofs.YtkmkkmdpjliifaaDoor
