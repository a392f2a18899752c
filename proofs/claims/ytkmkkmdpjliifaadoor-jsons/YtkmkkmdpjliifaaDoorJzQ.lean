import Derived.Test.YtkmkkmdpjliifaaDoorJzP
import Derived.Test.YtkmkkmdpjliifaaDoorJzB
namespace Go.Proofs.YtkmkkmdpjliifaaDoor
open Go.ChangeShapes Go.WideShapes Go.ChangeAt Go.RowKit

theorem JB.z {T : List UInt8} {c : Cm} (hT : T.length ≤ 1048576) (h : JB T T.length c) : CzS c.z := by
  have hl := h.len
  exact ⟨by have := h.sub; show c.sub.length ≤ _; omega, by show c.scp.length ≤ _; omega, by show c.aud.length ≤ _; omega, by show c.act.length ≤ _; omega, fits_of (n := 4194304) (by decide) (fun s hs => by have := h.i2 s hs; omega), fits_of (n := 4194304) (by decide) (fun s hs => by have := h.i3 s hs; omega), fits_of (n := 4194304) (by decide) (fun s hs => by have := h.i4 s hs; omega)⟩
theorem L3.czl {w : World} {b : Nat} {c : Cm} {p : Pl} (h : L3 w b c p) : CzL w w.heap.size c.z p := ⟨h.o2.ls, h.o3.ls, h.o4.ls⟩
/-- what Read answers of a text that is no longer than this -/
def readS (t : List UInt8) : Option Cm := (objS t).bind (fun c => if rightB c.z = true then some c else none)
def ReaR (o : Option Cm) (w : World) (e : Ending) (w' : World) : Prop :=
  ∃ (c : Cm) (p : Pl) (k : Int), e = .returned (.tuple #[.agg (czA c.z p), .int .i64 k]) ∧ L3 w' w.heap.size c p ∧ CzS c.z ∧ Below w.heap.size w w' ∧ ((k = 0 ∧ o = some c) ∨ (k = 2 ∧ o = none ∧ c = cm0 ∧ p = pl0))
theorem czs0 : CzS cm0.z := PBd.start.z

set_option maxRecDepth 20000 in
set_option maxHeartbeats 2000000 in
theorem Read_any (T : List UInt8) (w : World) (hT : T.length ≤ 1048576) (hU : UT w) : Calls Tryd.prog 70 #[.string ⟨T.toArray⟩] w (ReaR (readS T) w) := by
  have HT := hide hT
  obtain ⟨wa, hwa⟩ : ∃ wa, wa = w.alloc (.cells #[.int .i64 0, .string ⟨#[]⟩, .slice none 0 0, .slice none 0 0, .slice none 0 0, .int .i64 0] 37) := ⟨_, rfl⟩
  have hba : Below w.heap.size w wa := by rw [hwa]; exact (Below.refl _ _).alloc (Nat.le_refl _) _
  have hsa : wa.heap.size = w.heap.size + 1 := by rw [hwa]; simp
  have hRa : Row wa w.heap.size 37 6 (czF cz0 pl0) := by rw [hwa]; exact Row.new w 37 _ _ 6 rfl (six rfl rfl rfl rfl rfl rfl)
  have HUa := hide (hU.belowS hba)
  have HWA := hide hwa
  clear hT hU hwa
  go_enter Tryd.func70, Tryd.ntmps70
  go_wp2_with fail
  rw [← unhide HWA]
  clear HWA
  refine (readObject_any T _ (unhide HT) (unhide HUa)).mono ?_
  rintro e w1 ⟨c, p, ok, rfl, hL1, hJB, hb1, hO⟩
  have hs1 := hb1.size
  have hR1 := hRa.below hb1 (by omega)
  have HO := hide hO
  have HJB := hide hJB
  have HU1 := hide ((unhide HUa).belowS hb1)
  clear hO hJB hRa
  have hRs0 : w1.cell? ⟨w.heap.size, 0, none⟩ = some (.int .i64 0) := hR1.cell (by decide)
  obtain ⟨wb, hwb⟩ : ∃ wb, wb = w1.alloc (.cells #[.int .i64 c.z.id, .string ⟨c.z.sub.toArray⟩, .slice p.a2 c.z.scp.length p.c2, .slice p.a3 c.z.aud.length p.c3, .slice p.a4 c.z.act.length p.c4, .int .i64 c.z.exp] 37) := ⟨_, rfl⟩
  have hbb : Below w1.heap.size w1 wb := by rw [hwb]; exact (Below.refl _ _).alloc (Nat.le_refl _) _
  have hsb : wb.heap.size = w1.heap.size + 1 := by rw [hwb]; simp
  have hRb := hR1.below hbb (by omega)
  have hLb : L3 wb wa.heap.size c p := ⟨hL1.o2.below hbb, hL1.o3.below hbb, hL1.o4.below hbb, hL1.d23, hL1.d24, hL1.d34⟩
  have hCb : Row wb w1.heap.size 37 6 (czF c.z p) := by rw [hwb]; exact Row.new w1 37 _ _ 6 rfl (six rfl rfl rfl rfl rfl rfl)
  have HUb := hide ((unhide HU1).belowS hbb)
  have HWB := hide hwb
  clear hwb
  unfold czA
  cases ok with
  | false =>
    have HN : Hid (readS T = none) := by
      rcases unhide HO with ⟨h, _⟩ | ⟨_, h, _⟩
      · cases h
      · unfold readS Hid; rw [h]; rfl
    have s0 : wb.cell? ⟨w.heap.size, 0, none⟩ = some (.int .i64 0) := hRb.cell (by decide)
    have s1 : wb.cell? ⟨w.heap.size, 1, none⟩ = some (.string ⟨#[]⟩) := hRb.cell (by decide)
    have s2 : wb.cell? ⟨w.heap.size, 2, none⟩ = some (.slice none 0 0) := hRb.cell (by decide)
    have s3 : wb.cell? ⟨w.heap.size, 3, none⟩ = some (.slice none 0 0) := hRb.cell (by decide)
    have s4 : wb.cell? ⟨w.heap.size, 4, none⟩ = some (.slice none 0 0) := hRb.cell (by decide)
    have s5 : wb.cell? ⟨w.heap.size, 5, none⟩ = some (.int .i64 0) := hRb.cell (by decide)
    have z0 := hRb.frozen 0
    have z1 := hRb.frozen 1
    have z2 := hRb.frozen 2
    have z3 := hRb.frozen 3
    have z4 := hRb.frozen 4
    have z5 := hRb.frozen 5
    rw [unhide HWB] at s0 s1 s2 s3 s4 s5 z0 z1 z2 z3 z4 z5
    go_wp2_with fail
    rw [← unhide HWB]
    exact ret_cz Tryd.results70 (st6_row hRb cz0 pl0) rfl rfl ⟨cm0, pl0, 2, rfl, L3.none _ _, czs0, ((hba.trans (hb1.mono (by omega))).trans (hbb.mono (by omega))).trans ((st6_but wb w.heap.size cz0 pl0).below (Nat.le_refl _)), Or.inr ⟨rfl, unhide HN, rfl, rfl⟩⟩
  | true =>
    have hob : objS T = some c := by
      rcases unhide HO with ⟨_, h⟩ | ⟨h, _⟩
      · exact h
      · cases h
    have HRD : Hid (readS T = if rightB c.z = true then some c else none) := by unfold readS Hid; rw [hob]; rfl
    have HZ := hide (JB.z (unhide HT) (unhide HJB))
    clear hob
    have d0 : wb.cell? ⟨w1.heap.size, 0, none⟩ = some (.int .i64 c.z.id) := hCb.cell (by decide)
    go_wp2_with fail
    rw [← unhide HWB]
    refine (areClaims_any c.z p _ _ (Nat.le_refl _) (unhide HZ) hLb.czl (unhide HUb)).mono ?_
    rintro e w2 ⟨rfl, hb2⟩
    have hs2 := hb2.size
    have hR2 := hRb.below hb2 (by omega)
    have hC2 := hCb.below hb2 (by omega)
    have hL2 : L3 w2 wa.heap.size c p := ⟨hLb.o2.below hb2, hLb.o3.below hb2, hLb.o4.below hb2, hLb.d23, hLb.d24, hLb.d34⟩
    have hB2 : Below w.heap.size w w2 := ((hba.trans (hb1.mono (by omega))).trans (hbb.mono (by omega))).trans (hb2.mono (by omega))
    have s0 : w2.cell? ⟨w.heap.size, 0, none⟩ = some (.int .i64 0) := hR2.cell (by decide)
    have sf0 := hR2.frozen 0
    have s1 : w2.cell? ⟨w.heap.size, 1, none⟩ = some (.string ⟨#[]⟩) := hR2.cell (by decide)
    have sf1 := hR2.frozen 1
    have s2 : w2.cell? ⟨w.heap.size, 2, none⟩ = some (.slice none 0 0) := hR2.cell (by decide)
    have sf2 := hR2.frozen 2
    have s3 : w2.cell? ⟨w.heap.size, 3, none⟩ = some (.slice none 0 0) := hR2.cell (by decide)
    have sf3 := hR2.frozen 3
    have s4 : w2.cell? ⟨w.heap.size, 4, none⟩ = some (.slice none 0 0) := hR2.cell (by decide)
    have sf4 := hR2.frozen 4
    have s5 : w2.cell? ⟨w.heap.size, 5, none⟩ = some (.int .i64 0) := hR2.cell (by decide)
    have sf5 := hR2.frozen 5
    clear hRs0 d0 hb2 hbb hb1 hba HWB HU1 HUb HUa
    cases hr : rightB c.z with
    | false =>
      have HN : Hid (readS T = none) := by unfold Hid; rw [unhide HRD, if_neg (by rw [hr]; decide)]
      clear hr
      go_wp2_with fail
      exact ret_cz Tryd.results70 (st6_row hR2 cz0 pl0) rfl rfl ⟨cm0, pl0, 2, rfl, L3.none _ _, czs0, hB2.trans ((st6_but w2 w.heap.size cz0 pl0).below (Nat.le_refl _)), Or.inr ⟨rfl, unhide HN, rfl, rfl⟩⟩
    | true =>
      have HN : Hid (readS T = some c) := by unfold Hid; rw [unhide HRD, if_pos hr]
      clear hr
      have d0 : w2.cell? ⟨w1.heap.size, 0, none⟩ = some (.int .i64 c.z.id) := hC2.cell (by decide)
      have d1 : w2.cell? ⟨w1.heap.size, 1, none⟩ = some (.string ⟨c.z.sub.toArray⟩) := hC2.cell (by decide)
      have d2 : w2.cell? ⟨w1.heap.size, 2, none⟩ = some (.slice p.a2 c.z.scp.length p.c2) := hC2.cell (by decide)
      have d3 : w2.cell? ⟨w1.heap.size, 3, none⟩ = some (.slice p.a3 c.z.aud.length p.c3) := hC2.cell (by decide)
      have d4 : w2.cell? ⟨w1.heap.size, 4, none⟩ = some (.slice p.a4 c.z.act.length p.c4) := hC2.cell (by decide)
      have d5 : w2.cell? ⟨w1.heap.size, 5, none⟩ = some (.int .i64 c.z.exp) := hC2.cell (by decide)
      go_wp2_with fail
      exact ret_cz Tryd.results70 (st6_row hR2 c.z p) rfl rfl ⟨c, p, 0, rfl, (hL2.gr (Gr.ofBut (st6_but w2 w.heap.size c.z p)) (by omega)).down (by omega), unhide HZ, hB2.trans ((st6_but w2 w.heap.size c.z p).below (Nat.le_refl _)), Or.inl ⟨rfl, unhide HN⟩⟩

theorem parseS_read {T : List UInt8} (h : T.length ≤ 4096) : parseS T = readS T := by unfold parseS readS; rw [if_neg (by omega)]

set_option maxRecDepth 20000 in
set_option maxHeartbeats 2000000 in
theorem ParseC_any (T : List UInt8) (w : World) (hU : UT w) : Calls Tryd.prog 39 #[.string ⟨T.toArray⟩] w (ReaR (parseS T) w) := by
  obtain ⟨wa, hwa⟩ : ∃ wa, wa = w.alloc (.cells #[.int .i64 0, .string ⟨#[]⟩, .slice none 0 0, .slice none 0 0, .slice none 0 0, .int .i64 0] 37) := ⟨_, rfl⟩
  have hba : Below w.heap.size w wa := by rw [hwa]; exact (Below.refl _ _).alloc (Nat.le_refl _) _
  have hsa : wa.heap.size = w.heap.size + 1 := by rw [hwa]; simp
  have hRa : Row wa w.heap.size 37 6 (czF cz0 pl0) := by rw [hwa]; exact Row.new w 37 _ _ 6 rfl (six rfl rfl rfl rfl rfl rfl)
  have HUa := hide (hU.belowS hba)
  have HWA := hide hwa
  clear hU hwa
  by_cases hl : 4096 < T.length
  · have d1 : decide ((4096 : Int) < (T.length : Int)) = true := decide_eq_true (by omega)
    have HN := hide (parseS_long hl)
    clear hl
    go_enter Tryd.func39, Tryd.ntmps39
    go_wp2_with fail
    rw [← unhide HWA]
    exact ret_cz Tryd.results39 hRa rfl rfl ⟨cm0, pl0, 2, rfl, L3.none _ _, czs0, hba, Or.inr ⟨rfl, unhide HN, rfl, rfl⟩⟩
  · have d1 : decide ((4096 : Int) < (T.length : Int)) = false := decide_eq_false (by omega)
    have HN := hide (parseS_read (T := T) (by omega))
    have HT : Hid (T.length ≤ 1048576) := hide (by omega)
    clear hl
    go_enter Tryd.func39, Tryd.ntmps39
    go_wp2_with fail
    rw [← unhide HWA]
    refine (Read_any T _ (unhide HT) (unhide HUa)).mono ?_
    rintro e w2 ⟨c, p, k, rfl, hL2, hZ, hb2, hO⟩
    have hR2 := hRa.below hb2 (by omega)
    have HO := hide hO
    have HZ := hide hZ
    clear hO hZ
    have s0 : w2.cell? ⟨w.heap.size, 0, none⟩ = some (.int .i64 0) := hR2.cell (by decide)
    have sf0 := hR2.frozen 0
    have s1 : w2.cell? ⟨w.heap.size, 1, none⟩ = some (.string ⟨#[]⟩) := hR2.cell (by decide)
    have sf1 := hR2.frozen 1
    have s2 : w2.cell? ⟨w.heap.size, 2, none⟩ = some (.slice none 0 0) := hR2.cell (by decide)
    have sf2 := hR2.frozen 2
    have s3 : w2.cell? ⟨w.heap.size, 3, none⟩ = some (.slice none 0 0) := hR2.cell (by decide)
    have sf3 := hR2.frozen 3
    have s4 : w2.cell? ⟨w.heap.size, 4, none⟩ = some (.slice none 0 0) := hR2.cell (by decide)
    have sf4 := hR2.frozen 4
    have s5 : w2.cell? ⟨w.heap.size, 5, none⟩ = some (.int .i64 0) := hR2.cell (by decide)
    have sf5 := hR2.frozen 5
    unfold czA
    go_wp2_with fail
    exact ret_cz Tryd.results39 (st6_row hR2 c.z p) rfl rfl ⟨c, p, k, rfl, (hL2.gr (Gr.ofBut (st6_but w2 w.heap.size c.z p)) (by omega)).down (by omega), unhide HZ, (hba.trans (hb2.mono (by omega))).trans ((st6_but w2 w.heap.size c.z p).below (Nat.le_refl _)), by rw [unhide HN]; exact unhide HO⟩

set_option maxRecDepth 20000 in
set_option maxHeartbeats 2000000 in
theorem ParseM_any (T : List UInt8) (w : World) (hU : UT w) : Calls Tryd.prog 18 #[.string ⟨T.toArray⟩] w (ReaR (parseS T) w) := by
  obtain ⟨wa, hwa⟩ : ∃ wa, wa = w.alloc (.cells #[.int .i64 0, .string ⟨#[]⟩, .slice none 0 0, .slice none 0 0, .slice none 0 0, .int .i64 0] 37) := ⟨_, rfl⟩
  have hba : Below w.heap.size w wa := by rw [hwa]; exact (Below.refl _ _).alloc (Nat.le_refl _) _
  have hsa : wa.heap.size = w.heap.size + 1 := by rw [hwa]; simp
  have hRa : Row wa w.heap.size 37 6 (czF cz0 pl0) := by rw [hwa]; exact Row.new w 37 _ _ 6 rfl (six rfl rfl rfl rfl rfl rfl)
  have HUa := hide (hU.belowS hba)
  have HWA := hide hwa
  clear hU hwa
  go_enter Tryd.func18, Tryd.ntmps18
  go_wp2_with fail
  rw [← unhide HWA]
  refine (ParseC_any T _ (unhide HUa)).mono ?_
  rintro e w2 ⟨c, p, k, rfl, hL2, hZ, hb2, hO⟩
  have hR2 := hRa.below hb2 (by omega)
  have HO := hide hO
  have HZ := hide hZ
  clear hO hZ
  have s0 : w2.cell? ⟨w.heap.size, 0, none⟩ = some (.int .i64 0) := hR2.cell (by decide)
  have sf0 := hR2.frozen 0
  have s1 : w2.cell? ⟨w.heap.size, 1, none⟩ = some (.string ⟨#[]⟩) := hR2.cell (by decide)
  have sf1 := hR2.frozen 1
  have s2 : w2.cell? ⟨w.heap.size, 2, none⟩ = some (.slice none 0 0) := hR2.cell (by decide)
  have sf2 := hR2.frozen 2
  have s3 : w2.cell? ⟨w.heap.size, 3, none⟩ = some (.slice none 0 0) := hR2.cell (by decide)
  have sf3 := hR2.frozen 3
  have s4 : w2.cell? ⟨w.heap.size, 4, none⟩ = some (.slice none 0 0) := hR2.cell (by decide)
  have sf4 := hR2.frozen 4
  have s5 : w2.cell? ⟨w.heap.size, 5, none⟩ = some (.int .i64 0) := hR2.cell (by decide)
  have sf5 := hR2.frozen 5
  unfold czA
  go_wp2_with fail
  exact ret_cz Tryd.results18 (st6_row hR2 c.z p) rfl rfl ⟨c, p, k, rfl, (hL2.gr (Gr.ofBut (st6_but w2 w.heap.size c.z p)) (by omega)).down (by omega), unhide HZ, (hba.trans (hb2.mono (by omega))).trans ((st6_but w2 w.heap.size c.z p).below (Nat.le_refl _)), unhide HO⟩
end Go.Proofs.YtkmkkmdpjliifaaDoor
