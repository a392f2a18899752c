import Derived.Test.YtkmkkmdpjliifaaDoorKaA
import Derived.Deep.CutRange
namespace Go.Proofs.YtkmkkmdpjliifaaDoor
open Go.ChangeShapes Go.WideShapes Go.ChangeAt Go.RowKit

/-- lent, in the midst of a round -/
theorem lent_mid {wA : World} {B : Nat} {v : Value} {l : List (List UInt8)} (u : World) (hu : Below wA.heap.size wA u) (hv : Ls wA B v l) (hB : B ≤ wA.heap.size) (hl : l.length ≤ 8796093022208) :
    Calls Tryd.prog 14 #[v] u fun e w' => e = .returned (.slice (some ⟨u.heap.size, 0, none⟩) l.length (l.length + 4)) ∧ Row w' u.heap.size 9 (l.length + 4) (lentF l) ∧ w'.heap.size = u.heap.size + 1 ∧ Below u.heap.size u w' ∧ Below wA.heap.size wA w' :=
  (lent_any v l u B (Nat.le_trans hB hu.size) hl (hv.below (hu.mono hB))).mono fun _ _ ⟨h1, h2, h3, h4⟩ => ⟨h1, h2, h3, h4, hu.trans (h4.mono hu.size)⟩
theorem Bo.but {w w' : World} {b o g : Nat} {vB : Value} {E : List En} (h : Bo w b o vB E) (hb : But g w w') (hf : Fr o vB E g) : Bo w' b o vB E :=
  h.keep (Nat.le_of_eq hb.size.symm) (fun k _ hn => hb.block k (fun e => hn (e ▸ hf)))
theorem L3.at_ {w w' : World} {base b : Nat} {c : Cm} {p : Pl} (h : L3 w base c p) (hb : Below w.heap.size w w') (hd : b ≤ base) : L3 w' b c p := ⟨(h.o2.below hb).down hd, (h.o3.below hb).down hd, (h.o4.below hb).down hd, h.d23, h.d24, h.d34⟩
/-- the places of what was lent -/
def plL (c : Cz) (g2 g3 g4 : Nat) : Pl := ⟨some ⟨g2, 0, none⟩, c.scp.length + 4, some ⟨g3, 0, none⟩, c.aud.length + 4, some ⟨g4, 0, none⟩, c.act.length + 4⟩
/-- claims that were lent -/
structure LentW (c : Cz) (wA : World) (g9 g2 g3 g4 : Nat) (wc : World) : Prop where
  row : Row wc g9 37 6 (czF c (plL c g2 g3 g4))
  r2 : Row wc g2 9 (c.scp.length + 4) (lentF c.scp)
  r3 : Row wc g3 9 (c.aud.length + 4) (lentF c.aud)
  r4 : Row wc g4 9 (c.act.length + 4) (lentF c.act)
  lo : wA.heap.size ≤ g9 ∧ wA.heap.size ≤ g2 ∧ wA.heap.size ≤ g3 ∧ wA.heap.size ≤ g4
  ne : g9 ≠ g2 ∧ g9 ≠ g3 ∧ g9 ≠ g4 ∧ g2 ≠ g3 ∧ g2 ≠ g4 ∧ g3 ≠ g4
  bel : Below wA.heap.size wA wc
def LentQ (c : Cz) (wA : World) (s : Value) (wc : World) : Prop := ∃ g9 g2 g3 g4, s = .pointer (some ⟨g9, 0, none⟩) ∧ LentW c wA g9 g2 g3 g4 wc

theorem alloc_sz (w : World) (o : Obj) : (w.alloc o).heap.size = w.heap.size + 1 := by simp
theorem Row.go {w w' : World} {g n : Nat} {t : TypeId} {f : Nat → Value} (h : Row w g t n f) (hb : Below w.heap.size w w') : Row w' g t n f := h.below hb h.lt
theorem LentW.st {c : Cz} {wA wD : World} {g9 g2 g3 g4 : Nat} {f : Nat → Value} (R9 : Row wD g9 37 6 f) (r2 : Row wD g2 9 (c.scp.length + 4) (lentF c.scp)) (r3 : Row wD g3 9 (c.aud.length + 4) (lentF c.aud)) (r4 : Row wD g4 9 (c.act.length + 4) (lentF c.act))
    (lo : wA.heap.size ≤ g9 ∧ wA.heap.size ≤ g2 ∧ wA.heap.size ≤ g3 ∧ wA.heap.size ≤ g4) (ne : g9 ≠ g2 ∧ g9 ≠ g3 ∧ g9 ≠ g4 ∧ g2 ≠ g3 ∧ g2 ≠ g4 ∧ g3 ≠ g4) (bel : Below wA.heap.size wA wD) : LentW c wA g9 g2 g3 g4 (st6 wD g9 c (plL c g2 g3 g4)) :=
  ⟨st6_row R9 c _, r2.but (st6_but wD g9 c _) (Ne.symm ne.1), r3.but (st6_but wD g9 c _) (Ne.symm ne.2.1), r4.but (st6_but wD g9 c _) (Ne.symm ne.2.2.1), lo, ne, bel.trans ((st6_but wD g9 c _).below lo.1)⟩
section
variable {c : Cz} {wA wB wC wD : World} (ob : Obj)
theorem lentD (R2 : Row wB wA.heap.size 9 (c.scp.length + 4) (lentF c.scp) ∧ Below wA.heap.size wA.drew wB ∧ Below wA.heap.size wA wB) (S2 : wB.heap.size = wA.heap.size + 1) (R3 : Row wC wB.heap.size 9 (c.aud.length + 4) (lentF c.aud) ∧ Below wB.heap.size wB wC ∧ Below wA.heap.size wA wC)
    (S3 : wC.heap.size = wB.heap.size + 1) (R4 : Row wD wC.heap.size 9 (c.act.length + 4) (lentF c.act) ∧ Below wC.heap.size wC wD ∧ Below wA.heap.size wA wD) (S4 : wD.heap.size = wC.heap.size + 1) :
    LentW c wA wD.heap.size wA.heap.size wB.heap.size wC.heap.size (wD.alloc (.cells #[.int .i64 c.id, .string ⟨c.sub.toArray⟩, .slice (some ⟨wA.heap.size, 0, none⟩) c.scp.length (c.scp.length + 4), .slice (some ⟨wB.heap.size, 0, none⟩) c.aud.length (c.aud.length + 4), .slice (some ⟨wC.heap.size, 0, none⟩) c.act.length (c.act.length + 4), .int .i64 c.exp] 37)) :=
  ⟨Row.new wD 37 _ _ 6 rfl (six rfl rfl rfl rfl rfl rfl), ((R2.1.go R3.2.1).go R4.2.1).alloc _, (R3.1.go R4.2.1).alloc _, R4.1.alloc _, by omega, by omega, R4.2.2.alloc (by omega) _⟩
theorem lentC (R2 : Row wB wA.heap.size 9 (c.scp.length + 4) (lentF c.scp) ∧ Below wA.heap.size wA.drew wB ∧ Below wA.heap.size wA wB) (S2 : wB.heap.size = wA.heap.size + 1) (R3 : Row wC wB.heap.size 9 (c.aud.length + 4) (lentF c.aud) ∧ Below wB.heap.size wB wC ∧ Below wA.heap.size wA wC)
    (S3 : wC.heap.size = wB.heap.size + 1) (R4 : Row wD (wC.alloc ob).heap.size 9 (c.act.length + 4) (lentF c.act) ∧ Below (wC.alloc ob).heap.size (wC.alloc ob) wD ∧ Below wA.heap.size wA wD) (R9 : Row wD wC.heap.size 37 6 (czF cz0 pl0)) :
    LentW c wA wC.heap.size wA.heap.size wB.heap.size (wC.heap.size + 1) (st6 wD wC.heap.size c (plL c wA.heap.size wB.heap.size (wC.heap.size + 1))) := by
  have e := alloc_sz wC ob
  exact LentW.st R9 (((R2.1.go R3.2.1).alloc ob).go R4.2.1) ((R3.1.alloc ob).go R4.2.1) (e ▸ R4.1) (by omega) (by omega) R4.2.2
theorem lentB (R2 : Row wB wA.heap.size 9 (c.scp.length + 4) (lentF c.scp) ∧ Below wA.heap.size wA.drew wB ∧ Below wA.heap.size wA wB) (S2 : wB.heap.size = wA.heap.size + 1) (R3 : Row wC (wB.alloc ob).heap.size 9 (c.aud.length + 4) (lentF c.aud) ∧ Below (wB.alloc ob).heap.size (wB.alloc ob) wC ∧ Below wA.heap.size wA wC)
    (S3 : wC.heap.size = (wB.alloc ob).heap.size + 1) (R4 : Row wD wC.heap.size 9 (c.act.length + 4) (lentF c.act) ∧ Below wC.heap.size wC wD ∧ Below wA.heap.size wA wD) (S4 : wD.heap.size = wC.heap.size + 1) (R9 : Row wD wB.heap.size 37 6 (czF cz0 pl0)) :
    LentW c wA wB.heap.size wA.heap.size (wB.heap.size + 1) wC.heap.size (st6 wD wB.heap.size c (plL c wA.heap.size (wB.heap.size + 1) wC.heap.size)) := by
  have e := alloc_sz wB ob
  exact LentW.st R9 (((R2.1.alloc ob).go R3.2.1).go R4.2.1) (e ▸ R3.1.go R4.2.1) R4.1 (by omega) (by omega) R4.2.2
theorem lentA (R2 : Row wB (wA.drew.alloc ob).heap.size 9 (c.scp.length + 4) (lentF c.scp) ∧ Below (wA.drew.alloc ob).heap.size (wA.drew.alloc ob) wB ∧ Below wA.heap.size wA wB) (S2 : wB.heap.size = (wA.drew.alloc ob).heap.size + 1) (R3 : Row wC wB.heap.size 9 (c.aud.length + 4) (lentF c.aud) ∧ Below wB.heap.size wB wC ∧ Below wA.heap.size wA wC)
    (S3 : wC.heap.size = wB.heap.size + 1) (R4 : Row wD wC.heap.size 9 (c.act.length + 4) (lentF c.act) ∧ Below wC.heap.size wC wD ∧ Below wA.heap.size wA wD) (S4 : wD.heap.size = wC.heap.size + 1) (R9 : Row wD wA.heap.size 37 6 (czF cz0 pl0)) :
    LentW c wA wA.heap.size (wA.heap.size + 1) wB.heap.size wC.heap.size (st6 wD wA.heap.size c (plL c (wA.heap.size + 1) wB.heap.size wC.heap.size)) := by
  have e : (wA.drew.alloc ob).heap.size = wA.heap.size + 1 := alloc_sz wA.drew ob
  exact LentW.st R9 (e ▸ (R2.1.go R3.2.1).go R4.2.1) (R3.1.go R4.2.1) R4.1 (by omega) (by omega) R4.2.2
end

set_option maxRecDepth 20000 in
set_option maxHeartbeats 4000000 in
theorem Jsons_any (c : Cz) (p : Pl) (T : List UInt8) (t : Int) (w : World) (ht : -9223372036854775808 ≤ t ∧ t ≤ 9223372036854775807) (hS : CzS c) (hL : CzL w w.heap.size c p) (hT : UT w) (hP : PT w.heap.size w) :
    Calls Tryd.prog 4 #[.agg (czA c p), .string ⟨T.toArray⟩, .int .i64 t] w fun e w' => e = .returned (.bool true) ∧ Below w.heap.size w w' := by
  obtain ⟨w1, hw1⟩ : ∃ w1, w1 = w.alloc (.cells #[.int .i64 c.id, .string ⟨c.sub.toArray⟩, .slice p.a2 c.scp.length p.c2, .slice p.a3 c.aud.length p.c3, .slice p.a4 c.act.length p.c4, .int .i64 c.exp] 37) := ⟨_, rfl⟩
  have hb1 : Below w.heap.size w w1 := by rw [hw1]; exact (Below.refl _ _).alloc (Nat.le_refl _) _
  have hs1 : w1.heap.size = w.heap.size + 1 := by rw [hw1]; simp
  have hR1 : Row w1 w.heap.size 37 6 (czF c p) := by rw [hw1]; exact Row.new w 37 _ _ 6 rfl (six rfl rfl rfl rfl rfl rfl)
  obtain ⟨w2, hw2⟩ : ∃ w2, w2 = w1.alloc (.cells #[.slice none 0 0] 41) := ⟨_, rfl⟩
  have hb2 : Below w1.heap.size w1 w2 := by rw [hw2]; exact (Below.refl _ _).alloc (Nat.le_refl _) _
  have hs2 : w2.heap.size = w.heap.size + 1 + 1 := by rw [hw2, ← hs1]; simp
  have hK2 : Bo w2 (w.heap.size + 1) (w.heap.size + 1) (.slice none 0 0) [] := by rw [hw2, ← hs1]; exact Bo.start w1
  have hbw : Below w.heap.size w w2 := hb1.trans (hb2.mono (by omega))
  have HR2 : Hid (Row w2 w.heap.size 37 6 (czF c p)) := hR1.below hb2 (by omega)
  have HL2 : Hid (CzL w2 w.heap.size c p) := hL.below hbw
  have HT2 : Hid (UT w2) := hT.belowS hbw
  have HP2 : Hid (PT w.heap.size w2) := hP.on hbw
  have HTL : Hid (2 < w.heap.size) := hT.lt
  have hz := pickZ_range t 20 (by decide)
  obtain ⟨N, hN⟩ : ∃ N : Nat, N = (2 + pickZ t 20).toNat := ⟨_, rfl⟩
  have hNz : 2 + pickZ t 20 = (N : Int) := by omega
  have hN21 : N ≤ 21 := by omega
  have hNw : wrap64 (2 + pickZ t 20) = (N : Int) := by rw [hNz]; exact w64 _ (by omega) (by omega)
  have HPK := hide (fun u => pick_any t 20 u ht ⟨by decide, by decide⟩)
  have HS := hide hS
  have HWB := hide hbw
  have HW2 : Hid (w2 = (w.alloc (.cells #[.int .i64 c.id, .string ⟨c.sub.toArray⟩, .slice p.a2 c.scp.length p.c2, .slice p.a3 c.aud.length p.c3, .slice p.a4 c.act.length p.c4, .int .i64 c.exp] 37)).alloc (.cells #[.slice none 0 0] 41)) := by rw [← hw1]; exact hw2
  have HN21 := hide hN21
  have HK2 := hide hK2
  clear hS hL hT hP ht hz hN hNz hN21 hb1 hb2 hR1 hw1 hw2 hs1 hbw hK2
  generalize pickZ t 20 = z at *
  unfold czA
  go_enter Tryd.func4, Tryd.ntmps4
  go_wp2_with fail
  rw [← unhide HW2]
  go_loopg [8] N (fun q i wr => ∃ (k : Nat) (vB : Value) (E : List En), k + q = N ∧ i = .int .i64 (k : Nat) ∧ E.length = 12 * k ∧ Bo wr (w.heap.size + 1) (w.heap.size + 1) vB E ∧ Below (w.heap.size + 1) w2 wr)
  case atStart => exact ⟨0, _, [], Nat.zero_add _, rfl, rfl, unhide HK2, Below.refl _ _⟩
  case round =>
    clear HK2
    obtain ⟨k, vB, E, hk, rfl, hE, hK, hB⟩ := hrel
    have hsz := hK.lt
    go_wp2_with fail
    refine (unhide HPK _).mono ?_
    rintro e wA ⟨rfl, hb1⟩
    have hB1 := hB.trans (hb1.mono (Nat.le_of_lt hsz))
    have hs1 : w.heap.size + 1 < wA.heap.size := Nat.lt_of_lt_of_le hsz hb1.size
    have HK1 := hide (hK.below hb1)
    have HK0 := hide (And.intro hk hE)
    clear hK hB hb1 hsz hk hE
    by_cases hlt : k < N
    · have hkI : (k : Int) < (N : Int) := by omega
      have HLT := hide hlt
      have hR1 := (unhide HR2).below hB1 (Nat.lt_succ_self _)
      have L1 := (unhide HL2).below (hB1.mono (Nat.le_succ _))
      have g0 : wA.cell? ⟨w.heap.size, 0, none⟩ = some (.int .i64 c.id) := hR1.cell (by decide)
      have g1 : wA.cell? ⟨w.heap.size, 1, none⟩ = some (.string ⟨c.sub.toArray⟩) := hR1.cell (by decide)
      have g2 : wA.cell? ⟨w.heap.size, 2, none⟩ = some (.slice p.a2 c.scp.length p.c2) := hR1.cell (by decide)
      have g3 : wA.cell? ⟨w.heap.size, 3, none⟩ = some (.slice p.a3 c.aud.length p.c3) := hR1.cell (by decide)
      have g4 : wA.cell? ⟨w.heap.size, 4, none⟩ = some (.slice p.a4 c.act.length p.c4) := hR1.cell (by decide)
      have g5 : wA.cell? ⟨w.heap.size, 5, none⟩ = some (.int .i64 c.exp) := hR1.cell (by decide)
      have nA : w.heap.size ≠ wA.heap.size := by omega
      have mA : wA.heap.size ≠ w.heap.size := by omega
      have HB1 := hide hB1
      have HC2 := hide (fun u (hu : Below wA.heap.size wA u) => lent_mid u hu L1.k2 (by omega) (unhide HS).l2)
      have HC3 := hide (fun u (hu : Below wA.heap.size wA u) => lent_mid u hu L1.k3 (by omega) (unhide HS).l3)
      have HC4 := hide (fun u (hu : Below wA.heap.size wA u) => lent_mid u hu L1.k4 (by omega) (unhide HS).l4)
      clear hlt hB1 hR1 L1
      go_wp2_with fail
      go_cut [9] from 25 to 123 (fun s wc => LentQ c wA s wc)
      case first =>
        go_region_held3 (fun w' => w'.cell? ⟨w.heap.size, 0, none⟩ = some (.int .i64 c.id) ∧ w'.cell? ⟨w.heap.size, 1, none⟩ = some (.string ⟨c.sub.toArray⟩) ∧ w'.cell? ⟨w.heap.size, 2, none⟩ = some (.slice p.a2 c.scp.length p.c2) ∧ w'.cell? ⟨w.heap.size, 3, none⟩ = some (.slice p.a3 c.aud.length p.c3) ∧ w'.cell? ⟨w.heap.size, 4, none⟩ = some (.slice p.a4 c.act.length p.c4) ∧ w'.cell? ⟨w.heap.size, 5, none⟩ = some (.int .i64 c.exp)) (go_keep)
          (first
            | (go_at_call_of 14 (Value.slice p.a2 c.scp.length p.c2); refine (unhide HC2 _ (by first | exact (Below.refl _ _).drew | exact ((Below.refl _ _).drew.alloc (Nat.le_refl _) _))).mono ?_; rintro e wB ⟨rfl, r2, s2, b2, B2⟩; have x0 := (B2.cell (p := ⟨w.heap.size, 0, none⟩) (by show w.heap.size < wA.heap.size; omega)).trans g0; have x1 := (B2.cell (p := ⟨w.heap.size, 1, none⟩) (by show w.heap.size < wA.heap.size; omega)).trans g1; have x2 := (B2.cell (p := ⟨w.heap.size, 2, none⟩) (by show w.heap.size < wA.heap.size; omega)).trans g2; have x3 := (B2.cell (p := ⟨w.heap.size, 3, none⟩) (by show w.heap.size < wA.heap.size; omega)).trans g3; have x4 := (B2.cell (p := ⟨w.heap.size, 4, none⟩) (by show w.heap.size < wA.heap.size; omega)).trans g4; have x5 := (B2.cell (p := ⟨w.heap.size, 5, none⟩) (by show w.heap.size < wA.heap.size; omega)).trans g5; (try (have R9 : Row wB wA.heap.size 37 6 (czF cz0 pl0) := (Row.new wA.drew 37 #[.int .i64 0, .string ⟨#[]⟩, .slice none 0 0, .slice none 0 0, .slice none 0 0, .int .i64 0] (czF cz0 pl0) 6 rfl (six rfl rfl rfl rfl rfl rfl)).below b2 (by simp); have q0 : wB.cell? ⟨wA.heap.size, 0, none⟩ = some (.int .i64 0) := R9.cell (by decide); have f0 := R9.frozen 0; have q1 : wB.cell? ⟨wA.heap.size, 1, none⟩ = some (.string ⟨#[]⟩) := R9.cell (by decide); have f1 := R9.frozen 1; have q2 : wB.cell? ⟨wA.heap.size, 2, none⟩ = some (.slice none 0 0) := R9.cell (by decide); have f2 := R9.frozen 2; have q3 : wB.cell? ⟨wA.heap.size, 3, none⟩ = some (.slice none 0 0) := R9.cell (by decide); have f3 := R9.frozen 3; have q4 : wB.cell? ⟨wA.heap.size, 4, none⟩ = some (.slice none 0 0) := R9.cell (by decide); have f4 := R9.frozen 4; have q5 : wB.cell? ⟨wA.heap.size, 5, none⟩ = some (.int .i64 0) := R9.cell (by decide); have f5 := R9.frozen 5)); have nB : w.heap.size ≠ wB.heap.size := (by have := B2.size; omega); have mB : wB.heap.size ≠ w.heap.size := (by have := B2.size; omega); have R2 := hide (And.intro r2 (And.intro b2 B2)); have S2 := hide s2; clear r2 b2 B2 s2)
            | (go_at_call_of 14 (Value.slice p.a3 c.aud.length p.c3); refine (unhide HC3 _ (by first | exact (unhide R2).2.2 | exact ((unhide R2).2.2.alloc (unhide R2).2.2.size _))).mono ?_; rintro e wC ⟨rfl, r3, s3, b3, B3⟩; have y0 := (B3.cell (p := ⟨w.heap.size, 0, none⟩) (by show w.heap.size < wA.heap.size; omega)).trans g0; have y1 := (B3.cell (p := ⟨w.heap.size, 1, none⟩) (by show w.heap.size < wA.heap.size; omega)).trans g1; have y2 := (B3.cell (p := ⟨w.heap.size, 2, none⟩) (by show w.heap.size < wA.heap.size; omega)).trans g2; have y3 := (B3.cell (p := ⟨w.heap.size, 3, none⟩) (by show w.heap.size < wA.heap.size; omega)).trans g3; have y4 := (B3.cell (p := ⟨w.heap.size, 4, none⟩) (by show w.heap.size < wA.heap.size; omega)).trans g4; have y5 := (B3.cell (p := ⟨w.heap.size, 5, none⟩) (by show w.heap.size < wA.heap.size; omega)).trans g5; (first | (have R9 : Row wC wB.heap.size 37 6 (czF cz0 pl0) := (Row.new wB 37 #[.int .i64 0, .string ⟨#[]⟩, .slice none 0 0, .slice none 0 0, .slice none 0 0, .int .i64 0] (czF cz0 pl0) 6 rfl (six rfl rfl rfl rfl rfl rfl)).below b3 (by simp); have q0 : wC.cell? ⟨_, 0, none⟩ = some (.int .i64 0) := R9.cell (by decide); have f0 := R9.frozen 0; have q1 : wC.cell? ⟨_, 1, none⟩ = some (.string ⟨#[]⟩) := R9.cell (by decide); have f1 := R9.frozen 1; have q2 : wC.cell? ⟨_, 2, none⟩ = some (.slice none 0 0) := R9.cell (by decide); have f2 := R9.frozen 2; have q3 : wC.cell? ⟨_, 3, none⟩ = some (.slice none 0 0) := R9.cell (by decide); have f3 := R9.frozen 3; have q4 : wC.cell? ⟨_, 4, none⟩ = some (.slice none 0 0) := R9.cell (by decide); have f4 := R9.frozen 4; have q5 : wC.cell? ⟨_, 5, none⟩ = some (.int .i64 0) := R9.cell (by decide); have f5 := R9.frozen 5) | (have R9 := Row.below R9 b3 (Row.lt R9); have q0 : wC.cell? ⟨_, 0, none⟩ = some (.int .i64 0) := R9.cell (by decide); have f0 := R9.frozen 0; have q1 : wC.cell? ⟨_, 1, none⟩ = some (.string ⟨#[]⟩) := R9.cell (by decide); have f1 := R9.frozen 1; have q2 : wC.cell? ⟨_, 2, none⟩ = some (.slice none 0 0) := R9.cell (by decide); have f2 := R9.frozen 2; have q3 : wC.cell? ⟨_, 3, none⟩ = some (.slice none 0 0) := R9.cell (by decide); have f3 := R9.frozen 3; have q4 : wC.cell? ⟨_, 4, none⟩ = some (.slice none 0 0) := R9.cell (by decide); have f4 := R9.frozen 4; have q5 : wC.cell? ⟨_, 5, none⟩ = some (.int .i64 0) := R9.cell (by decide); have f5 := R9.frozen 5) | skip); have nC : w.heap.size ≠ wC.heap.size := (by have := B3.size; omega); have mC : wC.heap.size ≠ w.heap.size := (by have := B3.size; omega); have R3 := hide (And.intro r3 (And.intro b3 B3)); have S3 := hide s3; clear r3 b3 B3 s3)
            | (go_at_call_of 14 (Value.slice p.a4 c.act.length p.c4); refine (unhide HC4 _ (by first | exact (unhide R3).2.2 | exact ((unhide R3).2.2.alloc (unhide R3).2.2.size _))).mono ?_; rintro e wD ⟨rfl, r4, s4, b4, B4⟩; have z0 := (B4.cell (p := ⟨w.heap.size, 0, none⟩) (by show w.heap.size < wA.heap.size; omega)).trans g0; have z1 := (B4.cell (p := ⟨w.heap.size, 1, none⟩) (by show w.heap.size < wA.heap.size; omega)).trans g1; have z2 := (B4.cell (p := ⟨w.heap.size, 2, none⟩) (by show w.heap.size < wA.heap.size; omega)).trans g2; have z3 := (B4.cell (p := ⟨w.heap.size, 3, none⟩) (by show w.heap.size < wA.heap.size; omega)).trans g3; have z4 := (B4.cell (p := ⟨w.heap.size, 4, none⟩) (by show w.heap.size < wA.heap.size; omega)).trans g4; have z5 := (B4.cell (p := ⟨w.heap.size, 5, none⟩) (by show w.heap.size < wA.heap.size; omega)).trans g5; (first | (have R9 : Row wD wC.heap.size 37 6 (czF cz0 pl0) := (Row.new wC 37 #[.int .i64 0, .string ⟨#[]⟩, .slice none 0 0, .slice none 0 0, .slice none 0 0, .int .i64 0] (czF cz0 pl0) 6 rfl (six rfl rfl rfl rfl rfl rfl)).below b4 (by simp); have q0 : wD.cell? ⟨_, 0, none⟩ = some (.int .i64 0) := R9.cell (by decide); have f0 := R9.frozen 0; have q1 : wD.cell? ⟨_, 1, none⟩ = some (.string ⟨#[]⟩) := R9.cell (by decide); have f1 := R9.frozen 1; have q2 : wD.cell? ⟨_, 2, none⟩ = some (.slice none 0 0) := R9.cell (by decide); have f2 := R9.frozen 2; have q3 : wD.cell? ⟨_, 3, none⟩ = some (.slice none 0 0) := R9.cell (by decide); have f3 := R9.frozen 3; have q4 : wD.cell? ⟨_, 4, none⟩ = some (.slice none 0 0) := R9.cell (by decide); have f4 := R9.frozen 4; have q5 : wD.cell? ⟨_, 5, none⟩ = some (.int .i64 0) := R9.cell (by decide); have f5 := R9.frozen 5) | (have R9 := Row.below R9 b4 (Row.lt R9); have q0 : wD.cell? ⟨_, 0, none⟩ = some (.int .i64 0) := R9.cell (by decide); have f0 := R9.frozen 0; have q1 : wD.cell? ⟨_, 1, none⟩ = some (.string ⟨#[]⟩) := R9.cell (by decide); have f1 := R9.frozen 1; have q2 : wD.cell? ⟨_, 2, none⟩ = some (.slice none 0 0) := R9.cell (by decide); have f2 := R9.frozen 2; have q3 : wD.cell? ⟨_, 3, none⟩ = some (.slice none 0 0) := R9.cell (by decide); have f3 := R9.frozen 3; have q4 : wD.cell? ⟨_, 4, none⟩ = some (.slice none 0 0) := R9.cell (by decide); have f4 := R9.frozen 4; have q5 : wD.cell? ⟨_, 5, none⟩ = some (.int .i64 0) := R9.cell (by decide); have f5 := R9.frozen 5) | skip); have nD : w.heap.size ≠ wD.heap.size := (by have := B4.size; omega); have mD : wD.heap.size ≠ w.heap.size := (by have := B4.size; omega); have R4 := hide (And.intro r4 (And.intro b4 B4)); have S4 := hide s4; clear r4 b4 B4 s4))
        · go_wp2_with fail
          go_meet
          exact ⟨_, _, _, _, rfl, lentD (unhide R2) (unhide S2) (unhide R3) (unhide S3) (unhide R4) (unhide S4)⟩
        · go_wp2_with fail
          go_meet
          exact ⟨_, _, _, _, rfl, lentC _ (unhide R2) (unhide S2) (unhide R3) (unhide S3) (unhide R4) R9⟩
        · go_wp2_with fail
          go_meet
          exact ⟨_, _, _, _, rfl, lentB _ (unhide R2) (unhide S2) (unhide R3) (unhide S3) (unhide R4) (unhide S4) R9⟩
        · go_wp2_with fail
          go_meet
          exact ⟨_, _, _, _, rfl, lentA _ (unhide R2) (unhide S2) (unhide R3) (unhide S3) (unhide R4) (unhide S4) R9⟩
      case rest =>
        obtain ⟨g9, h2, h3, h4, rfl, hW⟩ := hcut
        clear HC2 HC3 HC4 g0 g1 g2 g3 g4 g5 nA mA
        have HWc := hide hW
        have hBc := (unhide HB1).trans (hW.bel.mono (Nat.le_of_lt hs1))
        have HKc := hide ((unhide HK1).below hW.bel)
        have HF2 := hide ((unhide HK1).fresh hW.lo.2.1)
        have HF3 := hide ((unhide HK1).fresh hW.lo.2.2.1)
        have HF4 := hide ((unhide HK1).fresh hW.lo.2.2.2)
        have hsc := hW.bel.size
        have HBc := hide hBc
        have s0 : wc.cell? ⟨g9, 0, none⟩ = some (.int .i64 c.id) := hW.row.cell (by decide)
        have s1 : wc.cell? ⟨g9, 1, none⟩ = some (.string ⟨c.sub.toArray⟩) := hW.row.cell (by decide)
        have s2 : wc.cell? ⟨g9, 2, none⟩ = some (.slice (some ⟨h2, 0, none⟩) c.scp.length (c.scp.length + 4)) := hW.row.cell (by decide)
        have s3 : wc.cell? ⟨g9, 3, none⟩ = some (.slice (some ⟨h3, 0, none⟩) c.aud.length (c.aud.length + 4)) := hW.row.cell (by decide)
        have s4 : wc.cell? ⟨g9, 4, none⟩ = some (.slice (some ⟨h4, 0, none⟩) c.act.length (c.act.length + 4)) := hW.row.cell (by decide)
        have s5 : wc.cell? ⟨g9, 5, none⟩ = some (.int .i64 c.exp) := hW.row.cell (by decide)
        clear hW hBc HB1 HK1
        go_wp2_with fail
        refine (PrintM_any c (plL c h2 h3 h4) wc wc.heap.size (Nat.le_refl _) (unhide HS) ⟨lent_Ls (unhide HWc).r2, lent_Ls (unhide HWc).r3, lent_Ls (unhide HWc).r4⟩ ((unhide HT2).below (by have := unhide HTL; omega) (unhide HBc)) (PT.up ((unhide HP2).on ((unhide HBc).mono (Nat.le_succ _))) (by omega))).mono ?_
        rintro e wd ⟨hp, hbd⟩
        obtain ⟨px, pk, rfl, hu⟩ := hp.one
        have HU := hide hu
        have hsd := hbd.size
        have HBd := hide ((unhide HBc).trans (hbd.mono (by omega)))
        have HKd := hide ((unhide HKc).below hbd)
        have HRd := hide ((unhide HR2).below (unhide HBd) (Nat.lt_succ_self _))
        have HHd := hide (And.intro ((unhide HWc).row.go hbd) (And.intro ((unhide HWc).r2.go hbd) (And.intro ((unhide HWc).r3.go hbd) ((unhide HWc).r4.go hbd))))
        have t0 : wd.cell? ⟨w.heap.size, 0, none⟩ = some (.int .i64 c.id) := (unhide HRd).cell (by decide)
        have t1 : wd.cell? ⟨w.heap.size, 1, none⟩ = some (.string ⟨c.sub.toArray⟩) := (unhide HRd).cell (by decide)
        have t2 : wd.cell? ⟨w.heap.size, 2, none⟩ = some (.slice p.a2 c.scp.length p.c2) := (unhide HRd).cell (by decide)
        have t3 : wd.cell? ⟨w.heap.size, 3, none⟩ = some (.slice p.a3 c.aud.length p.c3) := (unhide HRd).cell (by decide)
        have t4 : wd.cell? ⟨w.heap.size, 4, none⟩ = some (.slice p.a4 c.act.length p.c4) := (unhide HRd).cell (by decide)
        have t5 : wd.cell? ⟨w.heap.size, 5, none⟩ = some (.int .i64 c.exp) := (unhide HRd).cell (by decide)
        clear hp hu hbd s0 s1 s2 s3 s4 s5 HBc HKc
        go_wp2_with fail
        refine (PrintR_any c p wd w.heap.size (by omega) (unhide HS) ((unhide HL2).below ((unhide HBd).mono (Nat.le_succ _)))).mono ?_
        rintro e we ⟨hq, hbe⟩
        obtain rfl := unhide HU _ hq
        have hse := hbe.size
        have hBe := (unhide HBd).trans (hbe.mono (by omega))
        have HBe := hide hBe
        have HKe := hide ((unhide HKd).below hbe)
        have hRe := (unhide HRd).go hbe
        have HRe := hide hRe
        have hHe9 := (unhide HHd).1.go hbe
        have HHe := hide (And.intro hHe9 (And.intro ((unhide HHd).2.1.go hbe) (And.intro ((unhide HHd).2.2.1.go hbe) ((unhide HHd).2.2.2.go hbe))))
        have a2 : we.cell? ⟨g9, 2, none⟩ = some (.slice (some ⟨h2, 0, none⟩) c.scp.length (c.scp.length + 4)) := hHe9.cell (by decide)
        have b2 : we.cell? ⟨w.heap.size, 2, none⟩ = some (.slice p.a2 c.scp.length p.c2) := hRe.cell (by decide)
        clear hq hbe t0 t1 t2 t3 t4 t5 HBd HKd HRd HHd HU hBe hRe hHe9
        go_wp2_with fail
        refine (stays_any _ c.scp we w.heap.size h2 (by have := (unhide HWc).lo; omega) (unhide HS).l2 ((unhide HL2).k2.below ((unhide HBe).mono (Nat.le_succ _))) (unhide HHe).2.1).mono ?_
        rintro e wf ⟨rfl, -, hbf⟩
        have hsf := hbf.size
        have HBf := hide ((unhide HBe).trans (hbf.below (B := w.heap.size + 1) (by have := (unhide HWc).lo; omega)))
        have HKf := hide ((unhide HKe).but hbf (unhide HF2))
        have hRf := (unhide HRe).but hbf (show w.heap.size ≠ h2 by have := (unhide HWc).lo; omega)
        have HRf := hide hRf
        have hHf9 := (unhide HHe).1.but hbf (unhide HWc).ne.1
        have HHf := hide (And.intro hHf9 (And.intro ((unhide HHe).2.2.1.but hbf (Ne.symm (unhide HWc).ne.2.2.2.1)) ((unhide HHe).2.2.2.but hbf (Ne.symm (unhide HWc).ne.2.2.2.2.1))))
        have a3 : wf.cell? ⟨g9, 3, none⟩ = some (.slice (some ⟨h3, 0, none⟩) c.aud.length (c.aud.length + 4)) := hHf9.cell (by decide)
        have b3 : wf.cell? ⟨w.heap.size, 3, none⟩ = some (.slice p.a3 c.aud.length p.c3) := hRf.cell (by decide)
        clear hbf a2 b2 HBe HKe HRe HHe hRf hHf9
        go_wp2_with fail
        refine (stays_any _ c.aud wf w.heap.size h3 (by have := (unhide HWc).lo; omega) (unhide HS).l3 ((unhide HL2).k3.below ((unhide HBf).mono (Nat.le_succ _))) (unhide HHf).2.1).mono ?_
        rintro e wg ⟨rfl, -, hbg⟩
        have hsg := hbg.size
        have HBg := hide ((unhide HBf).trans (hbg.below (B := w.heap.size + 1) (by have := (unhide HWc).lo; omega)))
        have HKg := hide ((unhide HKf).but hbg (unhide HF3))
        have hRg := (unhide HRf).but hbg (show w.heap.size ≠ h3 by have := (unhide HWc).lo; omega)
        have hHg9 := (unhide HHf).1.but hbg (unhide HWc).ne.2.1
        have HHg := hide ((unhide HHf).2.2.but hbg (Ne.symm (unhide HWc).ne.2.2.2.2.2))
        have a4 : wg.cell? ⟨g9, 4, none⟩ = some (.slice (some ⟨h4, 0, none⟩) c.act.length (c.act.length + 4)) := hHg9.cell (by decide)
        have b4 : wg.cell? ⟨w.heap.size, 4, none⟩ = some (.slice p.a4 c.act.length p.c4) := hRg.cell (by decide)
        clear hbg a3 b3 HBf HKf HRf HHf hRg hHg9
        go_wp2_with fail
        refine (stays_any _ c.act wg w.heap.size h4 (by have := (unhide HWc).lo; omega) (unhide HS).l4 ((unhide HL2).k4.below ((unhide HBg).mono (Nat.le_succ _))) (unhide HHg)).mono ?_
        rintro e wh ⟨rfl, -, hbh⟩
        have hsh := hbh.size
        have HBh := hide ((unhide HBg).trans (hbh.below (B := w.heap.size + 1) (by have := (unhide HWc).lo; omega)))
        have HKh := hide ((unhide HKg).but hbh (unhide HF4))
        have hsw : w.heap.size + 1 < wh.heap.size := by omega
        clear hbh a4 b4 HBg HKg HHg HF2 HF3 HF4 HWc
        go_wp2_with fail
        refine (ParseM_any T wh ((unhide HT2).below (by have := unhide HTL; omega) (unhide HBh))).mono ?_
        rintro e wp ⟨c', p', k', rfl, hL, hZ, hbp, hO⟩
        have hsp := hbp.size
        have HBp := hide ((unhide HBh).trans (hbp.mono (by omega)))
        have HKp := hide ((unhide HKh).below hbp)
        have HFr := hide (fun k (hk : wh.heap.size ≤ k) => (unhide HKh).fresh hk)
        have HO := hide hO
        have HZ := hide hZ
        have HL := hide hL
        clear hO hZ hL hbp HBh HKh
        obtain ⟨wpa, hwpa⟩ : ∃ wpa, wpa = wp.alloc (.cells #[.int .i64 c'.z.id, .string ⟨c'.z.sub.toArray⟩, .slice p'.a2 c'.z.scp.length p'.c2, .slice p'.a3 c'.z.aud.length p'.c3, .slice p'.a4 c'.z.act.length p'.c4, .int .i64 c'.z.exp] 37) := ⟨_, rfl⟩
        have hbpa : Below wp.heap.size wp wpa := by rw [hwpa]; exact (Below.refl _ _).alloc (Nat.le_refl _) _
        have hRpa : Row wpa wp.heap.size 37 6 (czF c'.z p') := by rw [hwpa]; exact Row.new wp 37 _ _ 6 rfl (six rfl rfl rfl rfl rfl rfl)
        have HRpa := hide hRpa
        have HBpa := hide hbpa
        have HWpa := hide hwpa
        have hspa := hbpa.size
        clear hbpa hRpa hwpa
        unfold czA
        go_wp2_with fail
        rw [← unhide HWpa]
        clear HWpa
        refine (ParseR_any T wpa).mono ?_
        rintro e wq ⟨cq, p2, k2, rfl, hCL, hO2, hbq⟩
        obtain ⟨rfl, rfl⟩ := parse_both (unhide HO) hO2
        obtain ⟨wqa, hwqa⟩ : ∃ wqa, wqa = wq.alloc (.cells #[.int .i64 c'.z.id, .string ⟨c'.z.sub.toArray⟩, .slice p2.a2 c'.z.scp.length p2.c2, .slice p2.a3 c'.z.aud.length p2.c3, .slice p2.a4 c'.z.act.length p2.c4, .int .i64 c'.z.exp] 37) := ⟨_, rfl⟩
        have hbqa : Below wq.heap.size wq wqa := by rw [hwqa]; exact (Below.refl _ _).alloc (Nat.le_refl _) _
        have hRqa : Row wqa wq.heap.size 37 6 (czF c'.z p2) := by rw [hwqa]; exact Row.new wq 37 _ _ 6 rfl (six rfl rfl rfl rfl rfl rfl)
        have hsq := hbq.size
        have hsqa : wqa.heap.size = wq.heap.size + 1 := by rw [hwqa]; simp
        have hbpq : Below wp.heap.size wp wqa := ((unhide HBpa).trans (hbq.mono hspa)).trans (hbqa.mono (by omega))
        have hRx := ((unhide HRpa).go hbq).go hbqa
        have HBpq := hide hbpq
        have HCL := hide ((hCL.below hbqa).up (Nat.le_of_lt (show wq.heap.size < wqa.heap.size by omega)))
        have x0 : (wq.alloc (.cells #[.int .i64 c'.z.id, .string ⟨c'.z.sub.toArray⟩, .slice p2.a2 c'.z.scp.length p2.c2, .slice p2.a3 c'.z.aud.length p2.c3, .slice p2.a4 c'.z.act.length p2.c4, .int .i64 c'.z.exp] 37)).cell? ⟨wp.heap.size, 0, none⟩ = some (.int .i64 c'.z.id) := by rw [← hwqa]; exact hRx.cell (by decide)
        have x1 : (wq.alloc (.cells #[.int .i64 c'.z.id, .string ⟨c'.z.sub.toArray⟩, .slice p2.a2 c'.z.scp.length p2.c2, .slice p2.a3 c'.z.aud.length p2.c3, .slice p2.a4 c'.z.act.length p2.c4, .int .i64 c'.z.exp] 37)).cell? ⟨wp.heap.size, 1, none⟩ = some (.string ⟨c'.z.sub.toArray⟩) := by rw [← hwqa]; exact hRx.cell (by decide)
        have x2 : (wq.alloc (.cells #[.int .i64 c'.z.id, .string ⟨c'.z.sub.toArray⟩, .slice p2.a2 c'.z.scp.length p2.c2, .slice p2.a3 c'.z.aud.length p2.c3, .slice p2.a4 c'.z.act.length p2.c4, .int .i64 c'.z.exp] 37)).cell? ⟨wp.heap.size, 2, none⟩ = some (.slice p'.a2 c'.z.scp.length p'.c2) := by rw [← hwqa]; exact hRx.cell (by decide)
        have x3 : (wq.alloc (.cells #[.int .i64 c'.z.id, .string ⟨c'.z.sub.toArray⟩, .slice p2.a2 c'.z.scp.length p2.c2, .slice p2.a3 c'.z.aud.length p2.c3, .slice p2.a4 c'.z.act.length p2.c4, .int .i64 c'.z.exp] 37)).cell? ⟨wp.heap.size, 3, none⟩ = some (.slice p'.a3 c'.z.aud.length p'.c3) := by rw [← hwqa]; exact hRx.cell (by decide)
        have x4 : (wq.alloc (.cells #[.int .i64 c'.z.id, .string ⟨c'.z.sub.toArray⟩, .slice p2.a2 c'.z.scp.length p2.c2, .slice p2.a3 c'.z.aud.length p2.c3, .slice p2.a4 c'.z.act.length p2.c4, .int .i64 c'.z.exp] 37)).cell? ⟨wp.heap.size, 4, none⟩ = some (.slice p'.a4 c'.z.act.length p'.c4) := by rw [← hwqa]; exact hRx.cell (by decide)
        have x5 : (wq.alloc (.cells #[.int .i64 c'.z.id, .string ⟨c'.z.sub.toArray⟩, .slice p2.a2 c'.z.scp.length p2.c2, .slice p2.a3 c'.z.aud.length p2.c3, .slice p2.a4 c'.z.act.length p2.c4, .int .i64 c'.z.exp] 37)).cell? ⟨wp.heap.size, 5, none⟩ = some (.int .i64 c'.z.exp) := by rw [← hwqa]; exact hRx.cell (by decide)
        have y0 : (wq.alloc (.cells #[.int .i64 c'.z.id, .string ⟨c'.z.sub.toArray⟩, .slice p2.a2 c'.z.scp.length p2.c2, .slice p2.a3 c'.z.aud.length p2.c3, .slice p2.a4 c'.z.act.length p2.c4, .int .i64 c'.z.exp] 37)).cell? ⟨wq.heap.size, 0, none⟩ = some (.int .i64 c'.z.id) := by rw [← hwqa]; exact hRqa.cell (by decide)
        have y1 : (wq.alloc (.cells #[.int .i64 c'.z.id, .string ⟨c'.z.sub.toArray⟩, .slice p2.a2 c'.z.scp.length p2.c2, .slice p2.a3 c'.z.aud.length p2.c3, .slice p2.a4 c'.z.act.length p2.c4, .int .i64 c'.z.exp] 37)).cell? ⟨wq.heap.size, 1, none⟩ = some (.string ⟨c'.z.sub.toArray⟩) := by rw [← hwqa]; exact hRqa.cell (by decide)
        have y2 : (wq.alloc (.cells #[.int .i64 c'.z.id, .string ⟨c'.z.sub.toArray⟩, .slice p2.a2 c'.z.scp.length p2.c2, .slice p2.a3 c'.z.aud.length p2.c3, .slice p2.a4 c'.z.act.length p2.c4, .int .i64 c'.z.exp] 37)).cell? ⟨wq.heap.size, 2, none⟩ = some (.slice p2.a2 c'.z.scp.length p2.c2) := by rw [← hwqa]; exact hRqa.cell (by decide)
        have y3 : (wq.alloc (.cells #[.int .i64 c'.z.id, .string ⟨c'.z.sub.toArray⟩, .slice p2.a2 c'.z.scp.length p2.c2, .slice p2.a3 c'.z.aud.length p2.c3, .slice p2.a4 c'.z.act.length p2.c4, .int .i64 c'.z.exp] 37)).cell? ⟨wq.heap.size, 3, none⟩ = some (.slice p2.a3 c'.z.aud.length p2.c3) := by rw [← hwqa]; exact hRqa.cell (by decide)
        have y4 : (wq.alloc (.cells #[.int .i64 c'.z.id, .string ⟨c'.z.sub.toArray⟩, .slice p2.a2 c'.z.scp.length p2.c2, .slice p2.a3 c'.z.aud.length p2.c3, .slice p2.a4 c'.z.act.length p2.c4, .int .i64 c'.z.exp] 37)).cell? ⟨wq.heap.size, 4, none⟩ = some (.slice p2.a4 c'.z.act.length p2.c4) := by rw [← hwqa]; exact hRqa.cell (by decide)
        have y5 : (wq.alloc (.cells #[.int .i64 c'.z.id, .string ⟨c'.z.sub.toArray⟩, .slice p2.a2 c'.z.scp.length p2.c2, .slice p2.a3 c'.z.aud.length p2.c3, .slice p2.a4 c'.z.act.length p2.c4, .int .i64 c'.z.exp] 37)).cell? ⟨wq.heap.size, 5, none⟩ = some (.int .i64 c'.z.exp) := by rw [← hwqa]; exact hRqa.cell (by decide)
        have HRx := hide hRx
        have HWqa := hide hwqa
        clear hCL hO2 hbq hbqa hRqa hbpq hRx hwqa HRpa HBpa
        unfold czA
        go_wp2_with fail
        rw [← unhide HWqa]
        refine (Alike_any c'.z p' p2 wqa wqa.heap.size (Nat.le_refl _) (unhide HZ) ⟨((unhide HL).o2.below (unhide HBpq)).ls, ((unhide HL).o3.below (unhide HBpq)).ls, ((unhide HL).o4.below (unhide HBpq)).ls⟩ (unhide HCL)).mono ?_
        rintro e wl ⟨rfl, hbl⟩
        have hsl := hbl.size
        have HBpl := hide ((unhide HBpq).trans (hbl.mono (by omega)))
        have hRl := (unhide HRx).go hbl
        have x0 : wl.cell? ⟨wp.heap.size, 0, none⟩ = some (.int .i64 c'.z.id) := hRl.cell (by decide)
        have x1 : wl.cell? ⟨wp.heap.size, 1, none⟩ = some (.string ⟨c'.z.sub.toArray⟩) := hRl.cell (by decide)
        have x2 : wl.cell? ⟨wp.heap.size, 2, none⟩ = some (.slice p'.a2 c'.z.scp.length p'.c2) := hRl.cell (by decide)
        have x3 : wl.cell? ⟨wp.heap.size, 3, none⟩ = some (.slice p'.a3 c'.z.aud.length p'.c3) := hRl.cell (by decide)
        have x4 : wl.cell? ⟨wp.heap.size, 4, none⟩ = some (.slice p'.a4 c'.z.act.length p'.c4) := hRl.cell (by decide)
        have x5 : wl.cell? ⟨wp.heap.size, 5, none⟩ = some (.int .i64 c'.z.exp) := hRl.cell (by decide)
        have HTk := hide (bookTakes_any wl (w.heap.size + 1) (w.heap.size + 1) vB E c' p' (by omega) ((unhide HKp).below (unhide HBpl)) (L3.at_ (unhide HL) (unhide HBpl) (by omega)) (fun k e => unhide HFr k ((unhide HL).o2.blk e).1) (fun k e => unhide HFr k ((unhide HL).o3.blk e).1) (fun k e => unhide HFr k ((unhide HL).o4.blk e).1) (parse_small (unhide HO)).1 (parse_small (unhide HO)).2.1 (parse_small (unhide HO)).2.2 (by have := unhide HK0; have := unhide HLT; have := unhide HN21; omega) (by have := unhide HK0; omega))
        have HBl := hide ((unhide HBp).trans ((unhide HBpl).mono (by omega)))
        clear hbl hRl HRx HCL HBpq HBpl HWqa HKp HL HZ HO HFr HBp
        go_wp2_with fail
        refine (unhide HTk).mono ?_
        rintro e wt ⟨⟨ut, rfl⟩, vB', F, hF, hBo, hbt⟩
        have hst := hbt.size
        have HBt := hide ((unhide HBl).trans hbt)
        have HBo := hide hBo
        have HF := hide hF
        have HKe := hide (kept_any wt wt.heap.size (w.heap.size + 1) (E ++ F) (Nat.le_refl _) (by rw [List.length_append, hF]; have := unhide HK0; have := unhide HLT; have := unhide HN21; omega) hBo.bk)
        clear hF hBo hbt HTk x0 x1 x2 x3 x4 x5
        go_wp2_with fail
        refine (unhide HKe).mono ?_
        rintro e wk ⟨rfl, hbk⟩
        clear HKe
        go_wp2_with fail
        go_roundg (gk - 1)
        case measure => have := unhide HK0; have := unhide HLT; omega
        case rel => exact ⟨k + 1, vB', E ++ F, by have := unhide HK0; have := unhide HLT; omega, by rw [numRd k N (unhide HLT) (unhide HN21)]; rfl, by rw [List.length_append, unhide HF]; have := unhide HK0; omega, (unhide HBo).below hbk, (unhide HBt).trans (hbk.mono (by omega))⟩
    · have hkI : ¬ (k : Int) < (N : Int) := by omega
      go_wp2_with fail
      go_ret
      exact ⟨rfl, (unhide HWB).trans (hB1.mono (Nat.le_succ _))⟩
end Go.Proofs.YtkmkkmdpjliifaaDoor
