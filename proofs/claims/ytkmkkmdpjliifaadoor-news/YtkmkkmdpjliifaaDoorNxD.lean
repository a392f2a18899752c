import Derived.Test.YtkmkkmdpjliifaaDoorNxC
import Derived.Deep.RegionHeld3
namespace Go.Proofs.YtkmkkmdpjliifaaDoor
open Go.ChangeShapes Go.WideShapes Go.ChangeAt Go.RowKit

/-- Blocks from lo up to hi alone may have turned. -/
structure Bet (lo hi : Nat) (w w' : World) : Prop where
  os : w'.os = w.os
  tape : w'.tape = w.tape
  output : w'.output = w.output
  size : w'.heap.size = w.heap.size
  block : ∀ k, k < lo ∨ hi ≤ k → w'.heap[k]? = w.heap[k]?
theorem Bet.refl (lo hi : Nat) (w : World) : Bet lo hi w w := ⟨rfl, rfl, rfl, rfl, fun _ _ => rfl⟩
theorem Bet.trans {lo hi : Nat} {a b c : World} (h : Bet lo hi a b) (k : Bet lo hi b c) : Bet lo hi a c := ⟨k.os.trans h.os, k.tape.trans h.tape, k.output.trans h.output, k.size.trans h.size, fun i hi => (k.block i hi).trans (h.block i hi)⟩
theorem Bet.drew {lo hi : Nat} {a w : World} (h : Bet lo hi a w) : Bet lo hi a w.drew := ⟨h.os, h.tape, h.output, h.size, h.block⟩
theorem Bet.drewN {lo hi : Nat} {a w : World} (h : Bet lo hi a w) (n : Nat) : Bet lo hi a (w.drewN n) := ⟨h.os, h.tape, h.output, h.size, h.block⟩
theorem But.bet {g lo hi : Nat} {w w' : World} (h : But g w w') (h1 : lo ≤ g) (h2 : g < hi) : Bet lo hi w w' := ⟨h.os, h.tape, h.output, h.size, fun k hk => h.block k (by omega)⟩
theorem Bet.below {lo hi B : Nat} {w w' : World} (h : Bet lo hi w w') (hB : B ≤ lo) : Below B w w' := ⟨h.os, h.tape, h.output, by rw [h.size]; exact Nat.le_refl _, fun k hk => h.block k (by omega)⟩
theorem Bet.set5 {lo hi g p : Nat} {a w : World} {v0 v1 v2 v3 v4 : Value} (h : Bet lo hi a w) (h1 : lo ≤ g) (h2 : g < hi) : Bet lo hi a (set5 w g p v0 v1 v2 v3 v4) :=
  h.trans (((((((But.refl g w).setCell p v0).setCell (p + 1) v1).setCell (p + 2) v2).setCell (p + 3) v3).setCell (p + 4) v4).bet h1 h2)
theorem Ls.drew {w : World} {B : Nat} {v : Value} {l : List (List UInt8)} (h : Ls w B v l) : Ls w.drew B v l := h
theorem But.cell {g : Nat} {w w' : World} (h : But g w w') {a : Addr} (hne : a.block ≠ g) : w'.cell? a = w.cell? a := World.cell?_of_block (h.block a.block hne)

/-- a client that the caller wrote over -/
def spF (f : Nat) : Value := if f = 0 then sv spoiltL else c0 f
theorem spF_step (F : Nat → Nat → Value) (k j : Nat) :
    (if j = k * 5 + 4 then .slice none 0 0 else if j = k * 5 + 3 then .slice none 0 0 else if j = k * 5 + 2 then .slice none 0 0 else if j = k * 5 + 1 then .string ⟨#[]⟩ else if j = k * 5 then .string ⟨#[115, 112, 111, 105, 108, 116]⟩
     else if j / 5 < k then spF (j % 5) else F (j / 5) (j % 5)) = if j / 5 < k + 1 then spF (j % 5) else F (j / 5) (j % 5) := by
  by_cases h : j / 5 = k
  · obtain ⟨h1, h2⟩ := mod5 h
    rw [h]
    generalize j % 5 = f at *
    subst h1
    rw [if_pos (show k < k + 1 by omega), if_neg (show ¬ k < k by omega)]
    rcases (show f = 0 ∨ f = 1 ∨ f = 2 ∨ f = 3 ∨ f = 4 by omega) with rfl | rfl | rfl | rfl | rfl
    all_goals simp [spF, sv, c0, spoiltL]
  · have hj : ∀ f, f < 5 → ¬ j = k * 5 + f := fun f hf => by omega
    rw [if_neg (hj 4 (by omega)), if_neg (hj 3 (by omega)), if_neg (hj 2 (by omega)), if_neg (hj 1 (by omega)), if_neg (by have := hj 0 (by omega); simpa using this)]
    have e : (j / 5 < k + 1) ↔ j / 5 < k := by omega
    simp only [e]
theorem ListsAt.but {w w' : World} {G i b : Nat} {x : Cl} (h : ListsAt w G i x) (hb : But b w w') (h1 : b ≠ G + 1 + 3 * i) (h2 : b ≠ G + 2 + 3 * i) (h3 : b ≠ G + 3 + 3 * i) : ListsAt w' G i x :=
  ⟨h.1.but hb (Ne.symm h1), h.2.1.but hb (Ne.symm h2), h.2.2.but hb (Ne.symm h3)⟩
theorem ListsAt.drewN {w : World} {G i : Nat} {x : Cl} (h : ListsAt w G i x) (n : Nat) : ListsAt (w.drewN n) G i x := h
theorem stay_lists {G k p nq : Nat} {wr w1 w2 w3 : World} {cs : List Cl} {v0 v1 v2 v3 v4 : Value} (hb1 : But (G + 1 + 3 * k) wr.drew w1) (hb2 : But (G + 2 + 3 * k) w1.drew w2) (hb3 : But (G + 3 + 3 * k) w2.drew w3)
    (hLs : ∀ i, k ≤ i → i < cs.length → ListsAt wr G i (cs.getD i default)) : ∀ i, k + 1 ≤ i → i < cs.length → ListsAt (set5 (w3.drewN nq) G p v0 v1 v2 v3 v4) G i (cs.getD i default) := by
  intro i hi hn
  obtain ⟨q1, q2, q3⟩ := ((((((hLs i (by omega) hn).drew.but hb1 (by omega) (by omega) (by omega)).drew.but hb2 (by omega) (by omega) (by omega)).drew.but hb3 (by omega) (by omega) (by omega))).drewN nq)
  exact ⟨q1.set5 (by omega), q2.set5 (by omega), q3.set5 (by omega)⟩

set_option maxRecDepth 20000 in
set_option maxHeartbeats 2000000 in
theorem clientsStay_any (v : Value) (cs : List Cl) (w : World) (B G : Nat) (hB : B ≤ G) (hn : cs.length ≤ 1353245080301) (hs : ∀ i, i < cs.length → Small (cs.getD i default)) (hv : Cs w B v cs)
    (hR : Row w G 105 (5 * (cs.length + 4)) (fun j => clF G cs cs.length (cs.length + 4) (j / 5) (j % 5))) (hLs : ∀ i, i < cs.length → ListsAt w G i (cs.getD i default)) :
    Calls Tryd.prog 51 #[.slice (some ⟨G, 0, none⟩) cs.length (cs.length + 4), v] w fun e w' => e = .returned (.bool true) ∧ Bet G (G + 1 + 3 * cs.length) w w' := by
  obtain ⟨a, c, rfl, hv⟩ := hv
  have HL := hide hn
  have HS := hide hs
  have hadd : wrap64 ((cs.length : Int) + 4) = (cs.length : Int) + 4 := w64 _ (by omega) (by omega)
  have HV := hide hv
  have HLs := hide hLs
  clear hn hs hv hLs
  go_enter Tryd.func51, Tryd.ntmps51
  go_wp2
  go_loopg [6, 7] (cs.length + 4) (fun q b i wr => ∃ k : Nat, k + q = cs.length + 4 ∧ b = .bool true ∧ i = .int .i64 (k : Nat) ∧
    Row wr G 105 (5 * (cs.length + 4)) (fun j => if j / 5 < k then spF (j % 5) else clF G cs cs.length (cs.length + 4) (j / 5) (j % 5)) ∧
    (∀ i, k ≤ i → i < cs.length → ListsAt wr G i (cs.getD i default)) ∧ Bet G (G + 1 + 3 * cs.length) w wr)
  case atStart =>
    exact ⟨0, Nat.zero_add _, rfl, rfl, hR.congr (fun j hj => by rw [if_neg (Nat.not_lt_zero _)]), fun i _ hi => unhide HLs i hi, Bet.refl _ _ _⟩
  case round =>
    clear hR HLs hadd
    obtain ⟨k, hk, rfl, rfl, hR, hLs, hb⟩ := hrel
    have hw : wrap64 ((k : Int) + 1) = (k : Int) + 1 := w64 _ (by omega) (by have := unhide HL; omega)
    by_cases hlt : k < cs.length + 4
    · have hcell : ∀ f, f < 5 → wr.cell? ⟨G, k * 5 + f, none⟩ = some (clF G cs cs.length (cs.length + 4) k f) := fun f hf => by
        rw [hR.cell (j := k * 5 + f) (by omega), if_neg (by omega), show (k * 5 + f) / 5 = k by omega, show (k * 5 + f) % 5 = f by omega]
      have c0 := hcell 0 (by omega)
      have c1 := hcell 1 (by omega)
      have c2 := hcell 2 (by omega)
      have c3 := hcell 3 (by omega)
      have c4 := hcell 4 (by omega)
      rw [Nat.add_zero] at c0
      have z0 := hR.frozen (k * 5)
      have z1 := hR.frozen (k * 5 + 1)
      have z2 := hR.frozen (k * 5 + 2)
      have z3 := hR.frozen (k * 5 + 3)
      have z4 := hR.frozen (k * 5 + 4)
      clear hcell
      have HR := hide hR
      have HLL := hide hLs
      clear hR hLs
      by_cases h1 : k < cs.length
      · obtain ⟨g, o, rfl, hg, hC⟩ := unhide HV (by omega)
        have hx := hC k h1
        obtain ⟨hS2, hS3, hS4⟩ := unhide HS k h1
        obtain ⟨hr1, hr2, hr3⟩ := unhide HLL k (Nat.le_refl _) h1
        unfold clF at c0 c1 c2 c3 c4
        rw [if_pos h1] at c0 c1 c2 c3 c4
        simp only [if_true, if_false, Nat.one_ne_zero, show ¬ (2 : Nat) = 0 by omega, show ¬ (2 : Nat) = 1 by omega, show ¬ (3 : Nat) = 0 by omega, show ¬ (3 : Nat) = 1 by omega, show ¬ (3 : Nat) = 2 by omega, show ¬ (4 : Nat) = 0 by omega, show ¬ (4 : Nat) = 1 by omega, show ¬ (4 : Nat) = 2 by omega, show ¬ (4 : Nat) = 3 by omega] at c0 c1 c2 c3 c4
        generalize hxx : cs.getD k default = x at hx hS2 hS3 hS4 hr1 hr2 hr3 c0 c1 c2 c3 c4
        have HX := hide hxx
        have H2 := hide hS2
        have H3 := hide hS3
        have H4 := hide hS4
        clear hC hxx hS2 hS3 hS4
        obtain ⟨h0, h1', ⟨a2, e2, h2, k2⟩, ⟨a3, e3, h3, k3⟩, a4, e4, h4, k4⟩ := hx.below (hb.below hB) hg
        clear hx
        rw [sv_def] at h0 h1' c0 c1
        go_wp2_with fail
        go_region_held3 (fun w' => w'.cell? ⟨G, k * 5 + 2, none⟩ = some (.slice (some ⟨G + 1 + 3 * k, 0, none⟩) x.sc.length (x.sc.length + 4)) ∧ w'.cell? ⟨g, o + k * 5 + 2, none⟩ = some (.slice a2 x.sc.length e2)) (go_keep)
          (first | (go_at_call 17; refine (stays_any _ x.sc _ B (G + 1 + 3 * k) (by omega) (unhide H2) k2.drew hr1.drew).mono ?_; rintro e w1 ⟨rfl, hR1, hb1⟩; have u1 := (hb1.cell (a := ⟨G, k * 5 + 2, none⟩) (by show G ≠ _; omega)).trans c2; have u2 := (hb1.cell (a := ⟨g, o + k * 5 + 2, none⟩) (by show g ≠ _; omega)).trans h2))
        have t1 : ∀ (q b : Nat), (b = G ∨ b = g) → w1.cell? ⟨b, q, none⟩ = wr.cell? ⟨b, q, none⟩ := fun q b hbb => hb1.cell (a := ⟨b, q, none⟩) (by show b ≠ _; omega)
        have c0 := (t1 _ G (Or.inl rfl)).trans c0
        have c1 := (t1 _ G (Or.inl rfl)).trans c1
        have c3 := (t1 _ G (Or.inl rfl)).trans c3
        have c4 := (t1 _ G (Or.inl rfl)).trans c4
        have h0 := (t1 _ g (Or.inr rfl)).trans h0
        have h1' := (t1 _ g (Or.inr rfl)).trans h1'
        have h3 := (t1 _ g (Or.inr rfl)).trans h3
        have h4 := (t1 _ g (Or.inr rfl)).trans h4
        have k3 := k3.drew.below (hb1.below (B := B) (by omega))
        have k4 := k4.drew.below (hb1.below (B := B) (by omega))
        have hr2 := hr2.drew.but hb1 (by omega)
        have hr3 := hr3.drew.but hb1 (by omega)
        clear k2 h2 c2 u1 u2 hR1 t1 hr1
        go_wp2_with fail
        go_region_held3 (fun w' => w'.cell? ⟨G, k * 5 + 3, none⟩ = some (.slice (some ⟨G + 2 + 3 * k, 0, none⟩) x.tg.length (x.tg.length + 4)) ∧ w'.cell? ⟨g, o + k * 5 + 3, none⟩ = some (.slice a3 x.tg.length e3)) (go_keep)
          (first | (go_at_call 17; refine (stays_any _ x.tg _ B (G + 2 + 3 * k) (by omega) (unhide H3) k3.drew hr2.drew).mono ?_; rintro e w2 ⟨rfl, hR2, hb2⟩; have u1 := (hb2.cell (a := ⟨G, k * 5 + 3, none⟩) (by show G ≠ _; omega)).trans c3; have u2 := (hb2.cell (a := ⟨g, o + k * 5 + 3, none⟩) (by show g ≠ _; omega)).trans h3))
        have t1 : ∀ (q b : Nat), (b = G ∨ b = g) → w2.cell? ⟨b, q, none⟩ = w1.cell? ⟨b, q, none⟩ := fun q b hbb => hb2.cell (a := ⟨b, q, none⟩) (by show b ≠ _; omega)
        have c0 := (t1 _ G (Or.inl rfl)).trans c0
        have c1 := (t1 _ G (Or.inl rfl)).trans c1
        have c4 := (t1 _ G (Or.inl rfl)).trans c4
        have h0 := (t1 _ g (Or.inr rfl)).trans h0
        have h1' := (t1 _ g (Or.inr rfl)).trans h1'
        have h4 := (t1 _ g (Or.inr rfl)).trans h4
        have k4 := k4.drew.below (hb2.below (B := B) (by omega))
        have hr3 := hr3.drew.but hb2 (by omega)
        clear k3 h3 c3 u1 u2 hR2 t1 hr2
        go_wp2_with fail
        go_region_held3 (fun w' => w'.cell? ⟨G, k * 5 + 4, none⟩ = some (.slice (some ⟨G + 3 + 3 * k, 0, none⟩) x.ac.length (x.ac.length + 4)) ∧ w'.cell? ⟨g, o + k * 5 + 4, none⟩ = some (.slice a4 x.ac.length e4)) (go_keep)
          (first | (go_at_call 17; refine (stays_any _ x.ac _ B (G + 3 + 3 * k) (by omega) (unhide H4) k4.drew hr3.drew).mono ?_; rintro e w3 ⟨rfl, hR3, hb3⟩; have u1 := (hb3.cell (a := ⟨G, k * 5 + 4, none⟩) (by show G ≠ _; omega)).trans c4; have u2 := (hb3.cell (a := ⟨g, o + k * 5 + 4, none⟩) (by show g ≠ _; omega)).trans h4))
        have t1 : ∀ (q b : Nat), (b = G ∨ b = g) → w3.cell? ⟨b, q, none⟩ = w2.cell? ⟨b, q, none⟩ := fun q b hbb => hb3.cell (a := ⟨b, q, none⟩) (by show b ≠ _; omega)
        have c0 := (t1 _ G (Or.inl rfl)).trans c0
        have c1 := (t1 _ G (Or.inl rfl)).trans c1
        have h0 := (t1 _ g (Or.inr rfl)).trans h0
        have h1' := (t1 _ g (Or.inr rfl)).trans h1'
        clear k4 h4 c4 u1 u2 hR3 t1 hr3
        have hRo := (((unhide HR).drew.but hb1 (by omega)).drew.but hb2 (by omega)).drew.but hb3 (by omega)
        have c2 := hRo.cell (j := k * 5 + 2) (by omega)
        have c3 := hRo.cell (j := k * 5 + 3) (by omega)
        have c4 := hRo.cell (j := k * 5 + 4) (by omega)
        have z0 := hRo.frozen (k * 5)
        have z1 := hRo.frozen (k * 5 + 1)
        have z2 := hRo.frozen (k * 5 + 2)
        have z3 := hRo.frozen (k * 5 + 3)
        have z4 := hRo.frozen (k * 5 + 4)
        generalize x.name = xn at c0 h0
        generalize x.secret = xs at c1 h1'
        have HRo := hide hRo
        clear hRo
        go_wp2_with fail
        go_quiet (fail)
        go_wp2
        go_roundg (gk - 1)
        case measure => omega
        case rel =>
          refine ⟨k + 1, by omega, rfl, by go_num, ?_, ?_, ?_⟩
          · exact (((((((unhide HRo).drewN nq).set (k * 5) _).set (k * 5 + 1) _).set (k * 5 + 2) _).set (k * 5 + 3) _).set (k * 5 + 4) _).congr (fun j hj => spF_step (clF G cs cs.length (cs.length + 4)) k j)
          · exact stay_lists hb1 hb2 hb3 (unhide HLL)
          · exact Bet.set5 (((((hb.drew.trans (hb1.bet (by omega) (by omega))).drew.trans (hb2.bet (by omega) (by omega))).drew.trans (hb3.bet (by omega) (by omega)))).drewN nq) (Nat.le_refl _) (by omega)
      · unfold clF at c0 c1 c2 c3 c4
        rw [if_neg h1] at c0 c1 c2 c3 c4
        rw [if_pos ⟨hlt, rfl⟩] at c0
        simp only [Go.Proofs.YtkmkkmdpjliifaaDoor.c0, Nat.one_ne_zero, and_false, if_false, show ¬ (2 : Nat) = 0 by omega, show ¬ (3 : Nat) = 0 by omega, show ¬ (4 : Nat) = 0 by omega, show (1 : Nat) < 2 by omega, show ¬ (2 : Nat) < 2 by omega, show ¬ (3 : Nat) < 2 by omega, show ¬ (4 : Nat) < 2 by omega, if_true] at c1 c2 c3 c4
        rw [sv_def] at c0 c1
        unfold beyondL at c0
        go_wp2
        go_roundg (gk - 1)
        case measure => omega
        case rel =>
          refine ⟨k + 1, by omega, rfl, by go_num, ?_, ?_, ?_⟩
          · exact ((((((unhide HR).set (k * 5) _).set (k * 5 + 1) _).set (k * 5 + 2) _).set (k * 5 + 3) _).set (k * 5 + 4) _).congr (fun j hj => spF_step (clF G cs cs.length (cs.length + 4)) k j)
          · intro i hi1 hi2
            omega
          · exact Bet.set5 hb (Nat.le_refl _) (by omega)
    · go_wp2
      go_ret
      exact ⟨rfl, hb⟩
end Go.Proofs.YtkmkkmdpjliifaaDoor
