import Derived.Test.YtkmkkmdpjliifaaGreatDoorJzP
import Derived.Test.YtkmkkmdpjliifaaGreatDoorJzB
import Derived.Test.YtkmkkmdpjliifaaGreatDoorSvE
namespace Go.Proofs.YtkmkkmdpjliifaaGreatDoor
open Go.ChangeShapes Go.WideShapes Go.ChangeAt Go.RowKit

theorem JB.z {T : List UInt8} {c : Cm} (hT : T.length ≤ 1048576) (h : JB T T.length c) : CzS c.z := by
  have hl := h.len
  exact ⟨by have := h.sub; show c.sub.length ≤ _; omega, by show c.scp.length ≤ _; omega, by show c.aud.length ≤ _; omega, by show c.act.length ≤ _; omega, fits_of (n := 4194304) (by decide) (fun s hs => by have := h.i2 s hs; omega), fits_of (n := 4194304) (by decide) (fun s hs => by have := h.i3 s hs; omega), fits_of (n := 4194304) (by decide) (fun s hs => by have := h.i4 s hs; omega)⟩
theorem L3.czl {w : World} {b : Nat} {c : Cm} {p : Pl} (h : L3 w b c p) : CzL w w.heap.size c.z p := ⟨h.o2.ls, h.o3.ls, h.o4.ls⟩
/-- what Read answers of a text that is no longer than this -/
def readS (t : List UInt8) : Option Cm := (objS t).bind (fun c => if rightB c.z = true then some c else none)
def ReaR (o : Option Cm) (w : World) (e : Ending) (w' : World) : Prop :=
  ∃ (c : Cm) (p : Pl) (k : Int), e = .returned (.tuple #[.agg (czA c.z p), .int .i64 k]) ∧ L3 w' w.heap.size c p ∧ CzS c.z ∧ Below w.heap.size w w' ∧ ((k = 0 ∧ o = some c) ∨ (k = 2 ∧ o = none ∧ c = cm0 ∧ p = pl0))
theorem czs0 : CzS cm0.z := PBd.start.z

set_option maxRecDepth 20000 in
set_option maxHeartbeats 2000000 in
theorem Read_any (T : List UInt8) (w : World) (hT : T.length ≤ 1048576) (hU : UT w) : Calls Tryz.prog 104 #[.string ⟨T.toArray⟩] w (ReaR (readS T) w) := by
  have HT := hide hT
  obtain ⟨wa, hwa⟩ : ∃ wa, wa = w.alloc (.cells #[.int .i64 0, .string ⟨#[]⟩, .slice none 0 0, .slice none 0 0, .slice none 0 0, .int .i64 0] 60) := ⟨_, rfl⟩
  have hba : Below w.heap.size w wa := by rw [hwa]; exact (Below.refl _ _).alloc (Nat.le_refl _) _
  have hsa : wa.heap.size = w.heap.size + 1 := by rw [hwa]; simp
  have hRa : Row wa w.heap.size 60 6 (czF cz0 pl0) := by rw [hwa]; exact Row.new w 60 _ _ 6 rfl (six rfl rfl rfl rfl rfl rfl)
  have HUa := hide (hU.belowS hba)
  have HWA := hide hwa
  clear hT hU hwa
  go_enter Tryz.func104, Tryz.ntmps104
  go_wp2_with fail
  rw [← unhide HWA]
  clear HWA
  refine (readObject_any T _ (unhide HT) (unhide HUa)).mono ?_
  rintro e w1 ⟨c, p, ok, rfl, hL1, hJB, hb1, hO⟩
  have hs1 := hb1.size
  have hR1 := hRa.below hb1 (by omega)
  have HO := hide hO
  have HJB := hide hJB
  have HU1 := hide ((unhide HUa).belowS hb1)
  clear hO hJB hRa
  have hRs0 : w1.cell? ⟨w.heap.size, 0, none⟩ = some (.int .i64 0) := hR1.cell (by decide)
  obtain ⟨wb, hwb⟩ : ∃ wb, wb = w1.alloc (.cells #[.int .i64 c.z.id, .string ⟨c.z.sub.toArray⟩, .slice p.a2 c.z.scp.length p.c2, .slice p.a3 c.z.aud.length p.c3, .slice p.a4 c.z.act.length p.c4, .int .i64 c.z.exp] 60) := ⟨_, rfl⟩
  have hbb : Below w1.heap.size w1 wb := by rw [hwb]; exact (Below.refl _ _).alloc (Nat.le_refl _) _
  have hsb : wb.heap.size = w1.heap.size + 1 := by rw [hwb]; simp
  have hRb := hR1.below hbb (by omega)
  have hLb : L3 wb wa.heap.size c p := ⟨hL1.o2.below hbb, hL1.o3.below hbb, hL1.o4.below hbb, hL1.d23, hL1.d24, hL1.d34⟩
  have hCb : Row wb w1.heap.size 60 6 (czF c.z p) := by rw [hwb]; exact Row.new w1 60 _ _ 6 rfl (six rfl rfl rfl rfl rfl rfl)
  have HUb := hide ((unhide HU1).belowS hbb)
  have HWB := hide hwb
  clear hwb
  unfold czA
  cases ok with
  | false =>
    have HN : Hid (readS T = none) := by
      rcases unhide HO with ⟨h, _⟩ | ⟨_, h, _⟩
      · cases h
      · unfold readS Hid; rw [h]; rfl
    have s0 : wb.cell? ⟨w.heap.size, 0, none⟩ = some (.int .i64 0) := hRb.cell (by decide)
    have s1 : wb.cell? ⟨w.heap.size, 1, none⟩ = some (.string ⟨#[]⟩) := hRb.cell (by decide)
    have s2 : wb.cell? ⟨w.heap.size, 2, none⟩ = some (.slice none 0 0) := hRb.cell (by decide)
    have s3 : wb.cell? ⟨w.heap.size, 3, none⟩ = some (.slice none 0 0) := hRb.cell (by decide)
    have s4 : wb.cell? ⟨w.heap.size, 4, none⟩ = some (.slice none 0 0) := hRb.cell (by decide)
    have s5 : wb.cell? ⟨w.heap.size, 5, none⟩ = some (.int .i64 0) := hRb.cell (by decide)
    have z0 := hRb.frozen 0
    have z1 := hRb.frozen 1
    have z2 := hRb.frozen 2
    have z3 := hRb.frozen 3
    have z4 := hRb.frozen 4
    have z5 := hRb.frozen 5
    rw [unhide HWB] at s0 s1 s2 s3 s4 s5 z0 z1 z2 z3 z4 z5
    go_wp2_with fail
    rw [← unhide HWB]
    exact ret_cz Tryz.results104 (st6_row hRb cz0 pl0) rfl rfl ⟨cm0, pl0, 2, rfl, L3.none _ _, czs0, ((hba.trans (hb1.mono (by omega))).trans (hbb.mono (by omega))).trans ((st6_but wb w.heap.size cz0 pl0).below (Nat.le_refl _)), Or.inr ⟨rfl, unhide HN, rfl, rfl⟩⟩
  | true =>
    have hob : objS T = some c := by
      rcases unhide HO with ⟨_, h⟩ | ⟨h, _⟩
      · exact h
      · cases h
    have HRD : Hid (readS T = if rightB c.z = true then some c else none) := by unfold readS Hid; rw [hob]; rfl
    have HZ := hide (JB.z (unhide HT) (unhide HJB))
    clear hob
    have d0 : wb.cell? ⟨w1.heap.size, 0, none⟩ = some (.int .i64 c.z.id) := hCb.cell (by decide)
    go_wp2_with fail
    rw [← unhide HWB]
    refine (areClaims_any c.z p _ _ (Nat.le_refl _) (unhide HZ) hLb.czl (unhide HUb)).mono ?_
    rintro e w2 ⟨rfl, hb2⟩
    have hs2 := hb2.size
    have hR2 := hRb.below hb2 (by omega)
    have hC2 := hCb.below hb2 (by omega)
    have hL2 : L3 w2 wa.heap.size c p := ⟨hLb.o2.below hb2, hLb.o3.below hb2, hLb.o4.below hb2, hLb.d23, hLb.d24, hLb.d34⟩
    have hB2 : Below w.heap.size w w2 := ((hba.trans (hb1.mono (by omega))).trans (hbb.mono (by omega))).trans (hb2.mono (by omega))
    have s0 : w2.cell? ⟨w.heap.size, 0, none⟩ = some (.int .i64 0) := hR2.cell (by decide)
    have sf0 := hR2.frozen 0
    have s1 : w2.cell? ⟨w.heap.size, 1, none⟩ = some (.string ⟨#[]⟩) := hR2.cell (by decide)
    have sf1 := hR2.frozen 1
    have s2 : w2.cell? ⟨w.heap.size, 2, none⟩ = some (.slice none 0 0) := hR2.cell (by decide)
    have sf2 := hR2.frozen 2
    have s3 : w2.cell? ⟨w.heap.size, 3, none⟩ = some (.slice none 0 0) := hR2.cell (by decide)
    have sf3 := hR2.frozen 3
    have s4 : w2.cell? ⟨w.heap.size, 4, none⟩ = some (.slice none 0 0) := hR2.cell (by decide)
    have sf4 := hR2.frozen 4
    have s5 : w2.cell? ⟨w.heap.size, 5, none⟩ = some (.int .i64 0) := hR2.cell (by decide)
    have sf5 := hR2.frozen 5
    clear hRs0 d0 hb2 hbb hb1 hba HWB HU1 HUb HUa
    cases hr : rightB c.z with
    | false =>
      have HN : Hid (readS T = none) := by unfold Hid; rw [unhide HRD, if_neg (by rw [hr]; decide)]
      clear hr
      go_wp2_with fail
      exact ret_cz Tryz.results104 (st6_row hR2 cz0 pl0) rfl rfl ⟨cm0, pl0, 2, rfl, L3.none _ _, czs0, hB2.trans ((st6_but w2 w.heap.size cz0 pl0).below (Nat.le_refl _)), Or.inr ⟨rfl, unhide HN, rfl, rfl⟩⟩
    | true =>
      have HN : Hid (readS T = some c) := by unfold Hid; rw [unhide HRD, if_pos hr]
      clear hr
      have d0 : w2.cell? ⟨w1.heap.size, 0, none⟩ = some (.int .i64 c.z.id) := hC2.cell (by decide)
      have d1 : w2.cell? ⟨w1.heap.size, 1, none⟩ = some (.string ⟨c.z.sub.toArray⟩) := hC2.cell (by decide)
      have d2 : w2.cell? ⟨w1.heap.size, 2, none⟩ = some (.slice p.a2 c.z.scp.length p.c2) := hC2.cell (by decide)
      have d3 : w2.cell? ⟨w1.heap.size, 3, none⟩ = some (.slice p.a3 c.z.aud.length p.c3) := hC2.cell (by decide)
      have d4 : w2.cell? ⟨w1.heap.size, 4, none⟩ = some (.slice p.a4 c.z.act.length p.c4) := hC2.cell (by decide)
      have d5 : w2.cell? ⟨w1.heap.size, 5, none⟩ = some (.int .i64 c.z.exp) := hC2.cell (by decide)
      go_wp2_with fail
      exact ret_cz Tryz.results104 (st6_row hR2 c.z p) rfl rfl ⟨c, p, 0, rfl, (hL2.gr (Gr.ofBut (st6_but w2 w.heap.size c.z p)) (by omega)).down (by omega), unhide HZ, hB2.trans ((st6_but w2 w.heap.size c.z p).below (Nat.le_refl _)), Or.inl ⟨rfl, unhide HN⟩⟩

end Go.Proofs.YtkmkkmdpjliifaaGreatDoor
namespace Go.Proofs.YtkmkkmdpjliifaaGreatDoor
open Go.ChangeShapes Go.WideShapes Go.ChangeAt Go.RowKit

/-- claims whose lists lie in blocks of N -/
structure CzN (w : World) (N : Nat → Prop) (c : Cz) (p : Pl) : Prop where
  k2 : LsN w N (.slice p.a2 c.scp.length p.c2) c.scp
  k3 : LsN w N (.slice p.a3 c.aud.length p.c3) c.aud
  k4 : LsN w N (.slice p.a4 c.act.length p.c4) c.act
theorem CzN.keep {w w' : World} {N N' : Nat → Prop} {c : Cz} {p : Pl} (h : CzN w N c p) (hN : ∀ k, N k → w'.heap[k]? = w.heap[k]? ∧ N' k) : CzN w' N' c p := ⟨h.k2.keep hN, h.k3.keep hN, h.k4.keep hN⟩
theorem CzN.l {w : World} {N : Nat → Prop} {B : Nat} {c : Cz} {p : Pl} (h : CzN w N c p) (hN : ∀ k, N k → k < B) : CzL w B c p := ⟨h.k2.ls hN, h.k3.ls hN, h.k4.ls hN⟩
theorem ret_czo {fn : Func} {q : Tmp} (h : fn.results = #[.cell q 60]) {a : Act} {w : World} {R : Ending → World → Prop} {g : Nat} {c : Cz} {p : Pl} (hRow : Row w g 60 6 (czF c p))
    (hp : a.tmps.getD q undef = .pointer (some ⟨g, 0, none⟩)) (hdef : a.defers = []) (hR : R (.returned (.agg (czA c p))) w) : bodyPost Tryz.prog fn R Exit.ret a w := by
  rw [← arr6] at hR
  exact ret_rowN h _ hRow hp Tryz.underlying60 ⟨_, rfl⟩ (by kernel_rfl) hdef hR

set_option maxRecDepth 20000 in
set_option maxHeartbeats 2000000 in
theorem copiedL_any (c : Cz) (p : Pl) (w : World) (B : Nat) (hB : B ≤ w.heap.size) (hS : CzS c) (hL : CzL w B c p) :
    Calls Tryz.prog 107 #[.agg (czA c p)] w fun e w' => ∃ p', e = .returned (.agg (czA c p')) ∧ CzN w' (New w w') c p' ∧ Below w.heap.size w w' := by
  obtain ⟨wb, hwb⟩ : ∃ wb, wb = (w.alloc (.cells #[.int .i64 c.id, .string ⟨c.sub.toArray⟩, .slice p.a2 c.scp.length p.c2, .slice p.a3 c.aud.length p.c3, .slice p.a4 c.act.length p.c4, .int .i64 c.exp] 60)).alloc (.cells #[.int .i64 0, .string ⟨#[]⟩, .slice none 0 0, .slice none 0 0, .slice none 0 0, .int .i64 0] 60) := ⟨_, rfl⟩
  have hsa : (w.alloc (.cells #[.int .i64 c.id, .string ⟨c.sub.toArray⟩, .slice p.a2 c.scp.length p.c2, .slice p.a3 c.aud.length p.c3, .slice p.a4 c.act.length p.c4, .int .i64 c.exp] 60)).heap.size = w.heap.size + 1 := by simp
  have hbb : Below w.heap.size w wb := by rw [hwb]; exact ((Below.refl _ _).alloc (Nat.le_refl _) _).alloc (by simp) _
  have hsb : wb.heap.size = w.heap.size + 1 + 1 := by rw [hwb]; simp
  have hR0 : Row wb w.heap.size 60 6 (czF c p) := by rw [hwb]; exact (Row.new w 60 _ _ 6 rfl (six rfl rfl rfl rfl rfl rfl)).alloc _
  have hZ0 : Row wb (w.heap.size + 1) 60 6 (czF cz0 pl0) := by
    rw [hwb, ← hsa]; exact Row.new _ 60 _ _ 6 rfl (six rfl rfl rfl rfl rfl rfl)
  have hLb := hL.below (hbb.mono hB)
  have HC2 := hide (CloneN_any _ c.scp wb B (by omega) hS.l2 hLb.k2)
  have HC3 := hide (fun w1 (hb : Below B wb w1) (hs : wb.heap.size ≤ w1.heap.size) => CloneN_any _ c.aud w1 B (by omega) hS.l3 (hLb.k3.below hb))
  have HC4 := hide (fun w1 (hb : Below B wb w1) (hs : wb.heap.size ≤ w1.heap.size) => CloneN_any _ c.act w1 B (by omega) hS.l4 (hLb.k4.below hb))
  have HWB := hide hwb
  have HR0 := hide hR0
  have HZ0 := hide hZ0
  have HBB := hide hbb
  have g2 : ((w.alloc (.cells #[.int .i64 c.id, .string ⟨c.sub.toArray⟩, .slice p.a2 c.scp.length p.c2, .slice p.a3 c.aud.length p.c3, .slice p.a4 c.act.length p.c4, .int .i64 c.exp] 60)).alloc (.cells #[.int .i64 0, .string ⟨#[]⟩, .slice none 0 0, .slice none 0 0, .slice none 0 0, .int .i64 0] 60)).cell? ⟨w.heap.size, 2, none⟩ = some (.slice p.a2 c.scp.length p.c2) := by
    rw [← hwb]; exact hR0.cell (by decide)
  clear hS hL hLb hwb hR0 hZ0 hbb hsa
  unfold czA
  go_enter Tryz.func107, Tryz.ntmps107
  go_wp2_with fail
  rw [← unhide HWB]
  clear HWB g2
  refine (unhide HC2).mono ?_
  rintro e w1 ⟨b2, d2, rfl, hL2, hb1⟩
  have hs1 := hb1.size
  have R1 := (unhide HR0).below hb1 (by omega)
  have HR1 := hide (R1.set_czF 2 (.slice b2 c.scp.length d2) (c' := c) (p' := { p with a2 := b2, c2 := d2 }) (six rfl rfl rfl rfl rfl rfl))
  have HZ1 := hide (Row.but ((unhide HZ0).below hb1 (by omega)) ((But.refl w.heap.size w1).setCell 2 (.slice b2 c.scp.length d2)) (show w.heap.size + 1 ≠ w.heap.size by omega))
  have hX1 : Below w.heap.size wb (w1.setCell ⟨w.heap.size, 2, none⟩ (.slice b2 c.scp.length d2)) := (hb1.mono (show w.heap.size ≤ wb.heap.size by omega)).setCell (Nat.le_refl _) _
  have HX1 := hide hX1
  clear hX1
  have hn1x : LsN (w1.setCell ⟨w.heap.size, 2, none⟩ (.slice b2 c.scp.length d2)) (New wb (w1.setCell ⟨w.heap.size, 2, none⟩ (.slice b2 c.scp.length d2))) (.slice b2 c.scp.length d2) c.scp := hL2.keep (fun k hk => ⟨Below.heap_setCell _ _ _ _ (show k ≠ w.heap.size by have : wb.heap.size ≤ k := hk.1; omega), hk.1, by simpa [World.setCell] using hk.2⟩)
  have HN1 := hide hn1x
  clear hn1x
  have r0 : w1.cell? ⟨w.heap.size, 0, none⟩ = some (.int .i64 c.id) := R1.cell (by decide)
  have z0 := R1.frozen 0
  have r1 : w1.cell? ⟨w.heap.size, 1, none⟩ = some (.string ⟨c.sub.toArray⟩) := R1.cell (by decide)
  have z1 := R1.frozen 1
  have r2 : w1.cell? ⟨w.heap.size, 2, none⟩ = some (.slice p.a2 c.scp.length p.c2) := R1.cell (by decide)
  have z2 := R1.frozen 2
  have r3 : w1.cell? ⟨w.heap.size, 3, none⟩ = some (.slice p.a3 c.aud.length p.c3) := R1.cell (by decide)
  have z3 := R1.frozen 3
  have r4 : w1.cell? ⟨w.heap.size, 4, none⟩ = some (.slice p.a4 c.act.length p.c4) := R1.cell (by decide)
  have z4 := R1.frozen 4
  have r5 : w1.cell? ⟨w.heap.size, 5, none⟩ = some (.int .i64 c.exp) := R1.cell (by decide)
  have z5 := R1.frozen 5
  clear R1 hL2 hb1 HC2 HZ0 HR0
  have HC3' := hide (unhide HC3 (w1.setCell ⟨w.heap.size, 2, none⟩ (.slice b2 c.scp.length d2)) ((unhide HX1).mono hB) (by simp [World.setCell]; omega))
  clear HC3
  go_wp2_with fail
  refine (unhide HC3').mono ?_
  rintro e w2 ⟨b3, d3, rfl, hL3, hb2⟩
  obtain ⟨x1, hx1⟩ : ∃ x1, x1 = w1.setCell ⟨w.heap.size, 2, none⟩ (.slice b2 c.scp.length d2) := ⟨_, rfl⟩
  rw [← hx1] at hb2 hL3 HN1 HX1 HZ1 HR1
  have hsx : x1.heap.size = w1.heap.size := by rw [hx1]; simp [World.setCell]
  clear hx1 HC3' r0 r1 r2 r3 r4 r5 z0 z1 z2 z3 z4 z5
  have hs2 := hb2.size
  have R2 := (unhide HR1).below hb2 (by omega)
  have HR2 := hide (R2.set_czF 3 (.slice b3 c.aud.length d3) (c' := c) (p' := { p with a2 := b2, c2 := d2, a3 := b3, c3 := d3 }) (six rfl rfl rfl rfl rfl rfl))
  have HZ2 := hide (Row.but ((unhide HZ1).below hb2 (by omega)) ((But.refl w.heap.size w2).setCell 3 (.slice b3 c.aud.length d3)) (show w.heap.size + 1 ≠ w.heap.size by omega))
  have hX2 : Below w.heap.size wb (w2.setCell ⟨w.heap.size, 3, none⟩ (.slice b3 c.aud.length d3)) := ((unhide HX1).trans (hb2.mono (by omega))).setCell (Nat.le_refl _) _
  have HX2 := hide hX2
  clear hX2
  have hn2x : LsN (w2.setCell ⟨w.heap.size, 3, none⟩ (.slice b3 c.aud.length d3)) (New wb (w2.setCell ⟨w.heap.size, 3, none⟩ (.slice b3 c.aud.length d3))) (.slice b2 c.scp.length d2) c.scp := (unhide HN1).keep (fun k hk => ⟨(Below.heap_setCell _ _ _ _ (show k ≠ w.heap.size by have : wb.heap.size ≤ k := hk.1; omega)).trans (hb2.block k hk.2), hk.1, by have := hk.2; simp [World.setCell]; omega⟩)
  have HN2 := hide hn2x
  clear hn2x
  have hm2x : LsN (w2.setCell ⟨w.heap.size, 3, none⟩ (.slice b3 c.aud.length d3)) (New wb (w2.setCell ⟨w.heap.size, 3, none⟩ (.slice b3 c.aud.length d3))) (.slice b3 c.aud.length d3) c.aud := hL3.keep (fun k hk => ⟨Below.heap_setCell _ _ _ _ (show k ≠ w.heap.size by have : x1.heap.size ≤ k := hk.1; omega), by have : x1.heap.size ≤ k := hk.1; show wb.heap.size ≤ k; omega, by simpa [World.setCell] using hk.2⟩)
  have HM2 := hide hm2x
  clear hm2x
  have r0 : w2.cell? ⟨w.heap.size, 0, none⟩ = some (.int .i64 c.id) := R2.cell (by decide)
  have z0 := R2.frozen 0
  have r1 : w2.cell? ⟨w.heap.size, 1, none⟩ = some (.string ⟨c.sub.toArray⟩) := R2.cell (by decide)
  have z1 := R2.frozen 1
  have r2 : w2.cell? ⟨w.heap.size, 2, none⟩ = some (.slice b2 c.scp.length d2) := R2.cell (by decide)
  have z2 := R2.frozen 2
  have r3 : w2.cell? ⟨w.heap.size, 3, none⟩ = some (.slice p.a3 c.aud.length p.c3) := R2.cell (by decide)
  have z3 := R2.frozen 3
  have r4 : w2.cell? ⟨w.heap.size, 4, none⟩ = some (.slice p.a4 c.act.length p.c4) := R2.cell (by decide)
  have z4 := R2.frozen 4
  have r5 : w2.cell? ⟨w.heap.size, 5, none⟩ = some (.int .i64 c.exp) := R2.cell (by decide)
  have z5 := R2.frozen 5
  clear R2 hL3 hb2 HZ1 HR1 HN1 HX1
  have HC4' := hide (unhide HC4 (w2.setCell ⟨w.heap.size, 3, none⟩ (.slice b3 c.aud.length d3)) ((unhide HX2).mono hB) (by simp [World.setCell]; omega))
  clear HC4
  go_wp2_with fail
  refine (unhide HC4').mono ?_
  rintro e w3 ⟨b4, d4, rfl, hL4, hb3⟩
  obtain ⟨x2, hx2⟩ : ∃ x2, x2 = w2.setCell ⟨w.heap.size, 3, none⟩ (.slice b3 c.aud.length d3) := ⟨_, rfl⟩
  rw [← hx2] at hb3 hL4 HN2 HM2 HX2 HZ2 HR2
  have hsx2 : x2.heap.size = w2.heap.size := by rw [hx2]; simp [World.setCell]
  clear hx2 HC4' r0 r1 r2 r3 r4 r5 z0 z1 z2 z3 z4 z5
  have hs3 := hb3.size
  have R3 := (unhide HR2).below hb3 (by omega)
  have R4 := R3.set_czF 4 (.slice b4 c.act.length d4) (c' := c) (p' := { a2 := b2, c2 := d2, a3 := b3, c3 := d3, a4 := b4, c4 := d4 }) (six rfl rfl rfl rfl rfl rfl)
  have Z3 := Row.but ((unhide HZ2).below hb3 (by omega)) ((But.refl w.heap.size w3).setCell 4 (.slice b4 c.act.length d4)) (show w.heap.size + 1 ≠ w.heap.size by omega)
  have HR4 := hide R4
  have HZ3 := hide Z3
  have r0 : w3.cell? ⟨w.heap.size, 0, none⟩ = some (.int .i64 c.id) := R3.cell (by decide)
  have z0 := R3.frozen 0
  have r1 : w3.cell? ⟨w.heap.size, 1, none⟩ = some (.string ⟨c.sub.toArray⟩) := R3.cell (by decide)
  have z1 := R3.frozen 1
  have r2 : w3.cell? ⟨w.heap.size, 2, none⟩ = some (.slice b2 c.scp.length d2) := R3.cell (by decide)
  have z2 := R3.frozen 2
  have r3 : w3.cell? ⟨w.heap.size, 3, none⟩ = some (.slice b3 c.aud.length d3) := R3.cell (by decide)
  have z3 := R3.frozen 3
  have r4 : w3.cell? ⟨w.heap.size, 4, none⟩ = some (.slice p.a4 c.act.length p.c4) := R3.cell (by decide)
  have z4 := R3.frozen 4
  have r5 : w3.cell? ⟨w.heap.size, 5, none⟩ = some (.int .i64 c.exp) := R3.cell (by decide)
  have z5 := R3.frozen 5
  have y0 : (w3.setCell ⟨w.heap.size, 4, none⟩ (.slice b4 c.act.length d4)).cell? ⟨w.heap.size + 1, 0, none⟩ = some (.int .i64 0) := Z3.cell (by decide)
  have q0 := Z3.frozen 0
  have y1 : (w3.setCell ⟨w.heap.size, 4, none⟩ (.slice b4 c.act.length d4)).cell? ⟨w.heap.size + 1, 1, none⟩ = some (.string ⟨#[]⟩) := Z3.cell (by decide)
  have q1 := Z3.frozen 1
  have y2 : (w3.setCell ⟨w.heap.size, 4, none⟩ (.slice b4 c.act.length d4)).cell? ⟨w.heap.size + 1, 2, none⟩ = some (.slice none 0 0) := Z3.cell (by decide)
  have q2 := Z3.frozen 2
  have y3 : (w3.setCell ⟨w.heap.size, 4, none⟩ (.slice b4 c.act.length d4)).cell? ⟨w.heap.size + 1, 3, none⟩ = some (.slice none 0 0) := Z3.cell (by decide)
  have q3 := Z3.frozen 3
  have y4 : (w3.setCell ⟨w.heap.size, 4, none⟩ (.slice b4 c.act.length d4)).cell? ⟨w.heap.size + 1, 4, none⟩ = some (.slice none 0 0) := Z3.cell (by decide)
  have q4 := Z3.frozen 4
  have y5 : (w3.setCell ⟨w.heap.size, 4, none⟩ (.slice b4 c.act.length d4)).cell? ⟨w.heap.size + 1, 5, none⟩ = some (.int .i64 0) := Z3.cell (by decide)
  have q5 := Z3.frozen 5
  clear R3 R4 Z3
  go_wp2_with fail
  have hX3 : Below w.heap.size wb (w3.setCell ⟨w.heap.size, 4, none⟩ (.slice b4 c.act.length d4)) := ((unhide HX2).trans (hb3.mono (by omega))).setCell (Nat.le_refl _) _
  have hall : ∀ k, wb.heap.size ≤ k → k < w3.heap.size → (st6 (w3.setCell ⟨w.heap.size, 4, none⟩ (.slice b4 c.act.length d4)) (w.heap.size + 1) c { a2 := b2, c2 := d2, a3 := b3, c3 := d3, a4 := b4, c4 := d4 }).heap[k]? = w3.heap[k]? ∧ New w (st6 (w3.setCell ⟨w.heap.size, 4, none⟩ (.slice b4 c.act.length d4)) (w.heap.size + 1) c { a2 := b2, c2 := d2, a3 := b3, c3 := d3, a4 := b4, c4 := d4 }) k := fun k h1 h2 =>
    ⟨((st6_but _ _ c _).block k (by omega)).trans (Below.heap_setCell _ _ _ _ (show k ≠ w.heap.size by omega)), by show w.heap.size ≤ k; omega, by rw [(st6_but _ _ c _).size]; simpa [World.setCell] using h2⟩
  have hfin : CzN (st6 (w3.setCell ⟨w.heap.size, 4, none⟩ (.slice b4 c.act.length d4)) (w.heap.size + 1) c { a2 := b2, c2 := d2, a3 := b3, c3 := d3, a4 := b4, c4 := d4 }) (New w (st6 (w3.setCell ⟨w.heap.size, 4, none⟩ (.slice b4 c.act.length d4)) (w.heap.size + 1) c { a2 := b2, c2 := d2, a3 := b3, c3 := d3, a4 := b4, c4 := d4 })) c { a2 := b2, c2 := d2, a3 := b3, c3 := d3, a4 := b4, c4 := d4 } ∧ Below w.heap.size w (st6 (w3.setCell ⟨w.heap.size, 4, none⟩ (.slice b4 c.act.length d4)) (w.heap.size + 1) c { a2 := b2, c2 := d2, a3 := b3, c3 := d3, a4 := b4, c4 := d4 }) := by
    refine ⟨⟨?_, ?_, ?_⟩, ?_⟩
    · exact (unhide HN2).keep (fun k hk => by
        have h1 : wb.heap.size ≤ k := hk.1
        have h2 := hk.2
        obtain ⟨e1, e2⟩ := hall k h1 (by omega)
        exact ⟨e1.trans (hb3.block k h2), e2⟩)
    · exact (unhide HM2).keep (fun k hk => by
        have h1 : wb.heap.size ≤ k := hk.1
        have h2 := hk.2
        obtain ⟨e1, e2⟩ := hall k h1 (by omega)
        exact ⟨e1.trans (hb3.block k h2), e2⟩)
    · exact hL4.keep (fun k hk => by
        have h1 : x2.heap.size ≤ k := hk.1
        exact hall k (by omega) hk.2)
    · exact ((unhide HBB).trans hX3).trans ((st6_but _ _ c _).below (Nat.le_succ _))
  refine ret_czo (c := c) (p := { a2 := b2, c2 := d2, a3 := b3, c3 := d3, a4 := b4, c4 := d4 }) (g := w.heap.size + 1) Tryz.results107 ?_ rfl rfl ?_
  · exact st6_row (unhide HZ3) c { a2 := b2, c2 := d2, a3 := b3, c3 := d3, a4 := b4, c4 := d4 }
  · exact ⟨{ a2 := b2, c2 := d2, a3 := b3, c3 := d3, a4 := b4, c4 := d4 }, rfl, hfin⟩
end Go.Proofs.YtkmkkmdpjliifaaGreatDoor
