import Derived.Test.YtkmkkmdpjliifaaGreatDoorJyA
import Derived.Test.YtkmkkmdpjliifaaGreatDoorJzQ
import Derived.Test.YtkmkkmdpjliifaaGreatDoorExG
import Derived.Test.YtkmkkmdpjliifaaGreatDoorPlA
import Derived.Test.YtkmkkmdpjliifaaGreatDoorPlB
import Derived.Test.YtkmkkmdpjliifaaGreatDoorKnB
import Derived.Test.YtkmkkmdpjliifaaGreatDoorLfA
namespace Go.Proofs.YtkmkkmdpjliifaaGreatDoor
open Go.ChangeShapes Go.WideShapes Go.ChangeAt Go.RowKit

/-- what Parse answers: the claims, if there are such -/
def parseS (t : List UInt8) : Option Cm := if 4096 < t.length then none else (objS t).bind (fun c => if rightB c.z = true then some c else none)
end Go.Proofs.YtkmkkmdpjliifaaGreatDoor
namespace Go.Proofs.YtkmkkmdpjliifaaGreatDoor
open Go.ChangeShapes Go.WideShapes Go.ChangeAt Go.RowKit

theorem parseS_long {t : List UInt8} (h : 4096 < t.length) : parseS t = none := by unfold parseS; rw [if_pos h]
end Go.Proofs.YtkmkkmdpjliifaaGreatDoor
namespace Go.Proofs.YtkmkkmdpjliifaaGreatDoor
open Go.ChangeShapes Go.WideShapes Go.ChangeAt Go.RowKit

theorem parseS_read {T : List UInt8} (h : T.length ≤ 4096) : parseS T = readS T := by unfold parseS readS; rw [if_neg (by omega)]

set_option maxRecDepth 20000 in
set_option maxHeartbeats 2000000 in
theorem ParseC_any (T : List UInt8) (w : World) (hU : UT w) : Calls Tryz.prog 63 #[.string ⟨T.toArray⟩] w (ReaR (parseS T) w) := by
  obtain ⟨wa, hwa⟩ : ∃ wa, wa = w.alloc (.cells #[.int .i64 0, .string ⟨#[]⟩, .slice none 0 0, .slice none 0 0, .slice none 0 0, .int .i64 0] 60) := ⟨_, rfl⟩
  have hba : Below w.heap.size w wa := by rw [hwa]; exact (Below.refl _ _).alloc (Nat.le_refl _) _
  have hsa : wa.heap.size = w.heap.size + 1 := by rw [hwa]; simp
  have hRa : Row wa w.heap.size 60 6 (czF cz0 pl0) := by rw [hwa]; exact Row.new w 60 _ _ 6 rfl (six rfl rfl rfl rfl rfl rfl)
  have HUa := hide (hU.belowS hba)
  have HWA := hide hwa
  clear hU hwa
  by_cases hl : 4096 < T.length
  · have d1 : decide ((4096 : Int) < (T.length : Int)) = true := decide_eq_true (by omega)
    have HN := hide (parseS_long hl)
    clear hl
    go_enter Tryz.func63, Tryz.ntmps63
    go_wp2_with fail
    rw [← unhide HWA]
    exact ret_cz Tryz.results63 hRa rfl rfl ⟨cm0, pl0, 2, rfl, L3.none _ _, czs0, hba, Or.inr ⟨rfl, unhide HN, rfl, rfl⟩⟩
  · have d1 : decide ((4096 : Int) < (T.length : Int)) = false := decide_eq_false (by omega)
    have HN := hide (parseS_read (T := T) (by omega))
    have HT : Hid (T.length ≤ 1048576) := hide (by omega)
    clear hl
    go_enter Tryz.func63, Tryz.ntmps63
    go_wp2_with fail
    rw [← unhide HWA]
    refine (Read_any T _ (unhide HT) (unhide HUa)).mono ?_
    rintro e w2 ⟨c, p, k, rfl, hL2, hZ, hb2, hO⟩
    have hR2 := hRa.below hb2 (by omega)
    have HO := hide hO
    have HZ := hide hZ
    clear hO hZ
    have s0 : w2.cell? ⟨w.heap.size, 0, none⟩ = some (.int .i64 0) := hR2.cell (by decide)
    have sf0 := hR2.frozen 0
    have s1 : w2.cell? ⟨w.heap.size, 1, none⟩ = some (.string ⟨#[]⟩) := hR2.cell (by decide)
    have sf1 := hR2.frozen 1
    have s2 : w2.cell? ⟨w.heap.size, 2, none⟩ = some (.slice none 0 0) := hR2.cell (by decide)
    have sf2 := hR2.frozen 2
    have s3 : w2.cell? ⟨w.heap.size, 3, none⟩ = some (.slice none 0 0) := hR2.cell (by decide)
    have sf3 := hR2.frozen 3
    have s4 : w2.cell? ⟨w.heap.size, 4, none⟩ = some (.slice none 0 0) := hR2.cell (by decide)
    have sf4 := hR2.frozen 4
    have s5 : w2.cell? ⟨w.heap.size, 5, none⟩ = some (.int .i64 0) := hR2.cell (by decide)
    have sf5 := hR2.frozen 5
    unfold czA
    go_wp2_with fail
    exact ret_cz Tryz.results63 (st6_row hR2 c.z p) rfl rfl ⟨c, p, k, rfl, (hL2.gr (Gr.ofBut (st6_but w2 w.heap.size c.z p)) (by omega)).down (by omega), unhide HZ, (hba.trans (hb2.mono (by omega))).trans ((st6_but w2 w.heap.size c.z p).below (Nat.le_refl _)), by rw [unhide HN]; exact unhide HO⟩

set_option maxRecDepth 20000 in
set_option maxHeartbeats 2000000 in
theorem ParseM_any (T : List UInt8) (w : World) (hU : UT w) : Calls Tryz.prog 20 #[.string ⟨T.toArray⟩] w (ReaR (parseS T) w) := by
  obtain ⟨wa, hwa⟩ : ∃ wa, wa = w.alloc (.cells #[.int .i64 0, .string ⟨#[]⟩, .slice none 0 0, .slice none 0 0, .slice none 0 0, .int .i64 0] 60) := ⟨_, rfl⟩
  have hba : Below w.heap.size w wa := by rw [hwa]; exact (Below.refl _ _).alloc (Nat.le_refl _) _
  have hsa : wa.heap.size = w.heap.size + 1 := by rw [hwa]; simp
  have hRa : Row wa w.heap.size 60 6 (czF cz0 pl0) := by rw [hwa]; exact Row.new w 60 _ _ 6 rfl (six rfl rfl rfl rfl rfl rfl)
  have HUa := hide (hU.belowS hba)
  have HWA := hide hwa
  clear hU hwa
  go_enter Tryz.func20, Tryz.ntmps20
  go_wp2_with fail
  rw [← unhide HWA]
  refine (ParseC_any T _ (unhide HUa)).mono ?_
  rintro e w2 ⟨c, p, k, rfl, hL2, hZ, hb2, hO⟩
  have hR2 := hRa.below hb2 (by omega)
  have HO := hide hO
  have HZ := hide hZ
  clear hO hZ
  have s0 : w2.cell? ⟨w.heap.size, 0, none⟩ = some (.int .i64 0) := hR2.cell (by decide)
  have sf0 := hR2.frozen 0
  have s1 : w2.cell? ⟨w.heap.size, 1, none⟩ = some (.string ⟨#[]⟩) := hR2.cell (by decide)
  have sf1 := hR2.frozen 1
  have s2 : w2.cell? ⟨w.heap.size, 2, none⟩ = some (.slice none 0 0) := hR2.cell (by decide)
  have sf2 := hR2.frozen 2
  have s3 : w2.cell? ⟨w.heap.size, 3, none⟩ = some (.slice none 0 0) := hR2.cell (by decide)
  have sf3 := hR2.frozen 3
  have s4 : w2.cell? ⟨w.heap.size, 4, none⟩ = some (.slice none 0 0) := hR2.cell (by decide)
  have sf4 := hR2.frozen 4
  have s5 : w2.cell? ⟨w.heap.size, 5, none⟩ = some (.int .i64 0) := hR2.cell (by decide)
  have sf5 := hR2.frozen 5
  unfold czA
  go_wp2_with fail
  exact ret_cz Tryz.results20 (st6_row hR2 c.z p) rfl rfl ⟨c, p, k, rfl, (hL2.gr (Gr.ofBut (st6_but w2 w.heap.size c.z p)) (by omega)).down (by omega), unhide HZ, (hba.trans (hb2.mono (by omega))).trans ((st6_but w2 w.heap.size c.z p).below (Nat.le_refl _)), unhide HO⟩
end Go.Proofs.YtkmkkmdpjliifaaGreatDoor
namespace Go.Proofs.YtkmkkmdpjliifaaGreatDoor
open Go.ChangeShapes Go.WideShapes Go.ChangeAt Go.RowKit

theorem nm6 : nmK [0, 1, 2, 3, 4, 5] 6 = allN.take 6 := by decide +kernel
/-- right claims, out of raw numbers -/
def rawC (id subject : Int) (l2 l3 l4 : List Int) (expiry : Int) : Cm :=
  ⟨pickN id 1000000000000, allN.getD (pickN subject 6) [], nmK l2 l2.length, nmK l3 l3.length, nmK l4 l4.length, pickN expiry 1000000000000⟩
theorem rawC_right (id subject : Int) (l2 l3 l4 : List Int) (expiry : Int) : rightB (rawC id subject l2 l3 l4 expiry).z = true := by
  have h1 := pickN_lt id 1000000000000 (by decide)
  have h2 := pickN_lt expiry 1000000000000 (by decide)
  have h3 := pickN_lt subject 6 (by decide)
  rw [rightB_eq]
  show (nameN (allN.getD (pickN subject 6) []) && (listB (nmK l2 l2.length) && (listB (nmK l3 l3.length) && (listB (nmK l4 l4.length) && numsB ((pickN id 1000000000000 : Nat) : Int) ((pickN expiry 1000000000000 : Nat) : Int))))) = true
  rw [allN_name _ (by omega), nmK_list, nmK_list, nmK_list]
  have hn : numsB ((pickN id 1000000000000 : Nat) : Int) ((pickN expiry 1000000000000 : Nat) : Int) = true := by unfold numsB; simp; omega
  rw [hn]
  rfl

set_option maxRecDepth 20000 in
set_option maxHeartbeats 2000000 in
theorem claimsK_any (id subject : Int) (v2 v3 v4 : Value) (l2 l3 l4 : List Int) (expiry : Int) (w : World) (B : Nat) (hB : B ≤ w.heap.size) (hi : -9223372036854775808 ≤ id ∧ id ≤ 9223372036854775807) (hsj : -9223372036854775808 ≤ subject ∧ subject ≤ 9223372036854775807) (he : -9223372036854775808 ≤ expiry ∧ expiry ≤ 9223372036854775807)
    (n2 : l2.length ≤ 17592186044416) (n3 : l3.length ≤ 17592186044416) (n4 : l4.length ≤ 17592186044416) (k2 : LsI w B v2 l2) (k3 : LsI w B v3 l3) (k4 : LsI w B v4 l4) :
    Calls Tryz.prog 18 #[.int .i64 id, .int .i64 subject, v2, v3, v4, .int .i64 expiry] w fun e w' => ∃ p', e = .returned (.agg (czA (rawC id subject l2 l3 l4 expiry).z p')) ∧ CzN w' (New w w') (rawC id subject l2 l3 l4 expiry).z p' ∧ Below w.heap.size w w' := by
  obtain ⟨w1, hw1⟩ : ∃ w1, w1 = allocL w [.cells #[.int .i64 0, .string ⟨#[]⟩, .slice none 0 0, .slice none 0 0, .slice none 0 0, .int .i64 0] 60, .cells #[.int .i64 0, .int .i64 1, .int .i64 2, .int .i64 3, .int .i64 4, .int .i64 5] 3] := ⟨_, rfl⟩
  have hb1 : Below w.heap.size w w1 := by rw [hw1]; exact allocL_below _ _
  have hs1 : w1.heap.size = w.heap.size + 2 := by rw [hw1, allocL_size]; rfl
  have hZ1 : Row w1 w.heap.size 60 6 (czF cz0 pl0) := by rw [hw1]; exact ⟨_, allocL_heap _ w 0 _ rfl, rfl, six rfl rfl rfl rfl rfl rfl⟩
  have hI1 : LsI w1 w1.heap.size (.slice (some ⟨w.heap.size + 1, 0, none⟩) 6 6) [0, 1, 2, 3, 4, 5] := by
    refine ⟨_, _, rfl, Nat.le_refl _, fun _ => ⟨_, _, rfl, by omega, fun j hj => ?_⟩⟩
    have hj6 : j < 6 := hj
    rw [Nat.zero_add, hw1, allocL_cell (i := 1) rfl]
    rcases (show j = 0 ∨ j = 1 ∨ j = 2 ∨ j = 3 ∨ j = 4 ∨ j = 5 by omega) with rfl | rfl | rfl | rfl | rfl | rfl <;> exact ⟨rfl, by decide, by decide⟩
  have HN1 := hide (names_any _ [0, 1, 2, 3, 4, 5] w1 w1.heap.size (Nat.le_refl _) (by decide) hI1)
  have HN2 := hide (fun (u : World) (hu : Below w.heap.size w u) => names_any v2 l2 u B (by have := hu.size; omega) n2 (k2.below (hu.mono hB)))
  have HN3 := hide (fun (u : World) (hu : Below w.heap.size w u) => names_any v3 l3 u B (by have := hu.size; omega) n3 (k3.below (hu.mono hB)))
  have HN4 := hide (fun (u : World) (hu : Below w.heap.size w u) => names_any v4 l4 u B (by have := hu.size; omega) n4 (k4.below (hu.mono hB)))
  have HP1 := hide (fun u => pickK_any id 1000000000000 u hi (by decide))
  have HP2 := hide (fun u => pickK_any subject 6 u hsj (by decide))
  have HP3 := hide (fun u => pickK_any expiry 1000000000000 u he (by decide))
  obtain ⟨a2, c2, rfl, x2⟩ := k2
  obtain ⟨a3, c3, rfl, x3⟩ := k3
  obtain ⟨a4, c4, rfl, x4⟩ := k4
  have HW1 : Hid (w1 = (w.alloc (.cells #[.int .i64 0, .string ⟨#[]⟩, .slice none 0 0, .slice none 0 0, .slice none 0 0, .int .i64 0] 60)).alloc (.cells #[.int .i64 0, .int .i64 1, .int .i64 2, .int .i64 3, .int .i64 4, .int .i64 5] 3)) := hw1
  have HB1 := hide hb1
  have HZ1 := hide hZ1
  clear x2 x3 x4 hw1 hb1 hZ1 hI1 n2 n3 n4 hi hsj he
  go_enter Tryz.func18, Tryz.ntmps18
  go_wp2_with fail
  rw [← unhide HW1]
  refine (unhide HN1).mono ?_
  rintro e w2 ⟨va, rfl, hO2, hb2⟩
  have hs2 := hb2.size
  have hB2 := (unhide HB1).trans (hb2.mono (by omega))
  rw [show ([0, 1, 2, 3, 4, 5] : List Int).length = 6 from rfl, nm6] at hO2
  rcases hO2.row with ⟨_, h0⟩ | ⟨ga, cap, fa, rfl, hga, hgl, hcap, hRa, hfa⟩
  · exact absurd h0 (by decide)
  have HRa := hide (And.intro hRa hfa)
  clear hRa hfa hO2 HW1 HN1
  rw [show (allN.take 6).length = 6 from rfl]
  go_wp2_with fail
  refine (unhide HN2 w2 hB2).mono ?_
  rintro e w3 ⟨vb, rfl, hO3, hb3⟩
  have hs3 := hb3.size
  have hB3 := hB2.trans (hb3.mono (by omega))
  have HO3 := hide hO3
  obtain ⟨b2, d2, rfl, y2⟩ := hO3.ls
  clear hO3 y2 HN2
  go_wp2_with fail
  refine (unhide HN3 w3 hB3).mono ?_
  rintro e w4 ⟨vc, rfl, hO4, hb4⟩
  have hs4 := hb4.size
  have hB4 := hB3.trans (hb4.mono (by omega))
  have HO4 := hide hO4
  obtain ⟨b3, d3, rfl, y3⟩ := hO4.ls
  clear hO4 y3 HN3
  go_wp2_with fail
  refine (unhide HN4 w4 hB4).mono ?_
  rintro e w5 ⟨vd, rfl, hO5, hb5⟩
  have hs5 := hb5.size
  have hB5 := hB4.trans (hb5.mono (by omega))
  have HO5 := hide hO5
  obtain ⟨b4, d4, rfl, y4⟩ := hO5.ls
  clear hO5 y4 HN4
  obtain ⟨p1, p1e⟩ := pickN_lt id 1000000000000 (by decide)
  obtain ⟨p2, p2e⟩ := pickN_lt subject 6 (by decide)
  obtain ⟨p3, p3e⟩ := pickN_lt expiry 1000000000000 (by decide)
  rw [show ((1000000000000 : Nat) : Int) = 1000000000000 from rfl] at p1e p3e
  rw [show ((6 : Nat) : Int) = 6 from rfl] at p2e
  rw [p1e] at HP1
  rw [p2e] at HP2
  rw [p3e] at HP3
  have hb25 : Below w2.heap.size w2 w5 := (hb3.trans (hb4.mono hs3)).trans (hb5.mono (by omega))
  have hZ5 := ((unhide HZ1).below hb2 (by omega)).below hb25 (by omega)
  have hRa5 := (unhide HRa).1.below hb25 hgl
  have hcs : w5.cell? ⟨ga, pickN subject 6, none⟩ = some (.string ⟨(allN.getD (pickN subject 6) []).toArray⟩) := by
    have h6 : (allN.take 6).length = 6 := rfl
    rw [hRa5.cell (by omega), (unhide HRa).2 _ (by omega)]
    have e : (allN.take 6).getD (pickN subject 6) [] = allN.getD (pickN subject 6) [] := by
      rw [List.getD_eq_getElem?_getD, List.getElem?_take_of_lt p2, ← List.getD_eq_getElem?_getD]
    rw [e]
    rfl
  have HRW : Hid (rawC id subject l2 l3 l4 expiry = ⟨pickN id 1000000000000, allN.getD (pickN subject 6) [], nmK l2 l2.length, nmK l3 l3.length, nmK l4 l4.length, pickN expiry 1000000000000⟩) := rfl
  generalize hrw : rawC id subject l2 l3 l4 expiry = cr at *
  have HRC := hide hrw
  clear hrw
  generalize pickN id 1000000000000 = pi at *
  generalize pickN expiry 1000000000000 = pe at *
  generalize allN.getD (pickN subject 6) [] = sub at *
  generalize pickN subject 6 = pk at *
  have hpk6 : (pk : Int) < 6 := by omega
  have y0 : w5.cell? ⟨w.heap.size, 0, none⟩ = some (.int .i64 0) := hZ5.cell (by decide)
  have y1 : w5.cell? ⟨w.heap.size, 1, none⟩ = some (.string ⟨#[]⟩) := hZ5.cell (by decide)
  have y2 : w5.cell? ⟨w.heap.size, 2, none⟩ = some (.slice none 0 0) := hZ5.cell (by decide)
  have y3 : w5.cell? ⟨w.heap.size, 3, none⟩ = some (.slice none 0 0) := hZ5.cell (by decide)
  have y4 : w5.cell? ⟨w.heap.size, 4, none⟩ = some (.slice none 0 0) := hZ5.cell (by decide)
  have y5 : w5.cell? ⟨w.heap.size, 5, none⟩ = some (.int .i64 0) := hZ5.cell (by decide)
  have z0 := hZ5.frozen 0
  have z1 := hZ5.frozen 1
  have z2 := hZ5.frozen 2
  have z3 := hZ5.frozen 3
  have z4 := hZ5.frozen 4
  have z5 := hZ5.frozen 5
  have nga : ga ≠ w.heap.size := by omega
  have mga : w.heap.size ≠ ga := by omega
  have HZ5 := hide hZ5
  have HN5 : Hid (CzN w5 (fun k => w.heap.size < k ∧ k < w5.heap.size) cr.z ⟨b2, d2, b3, d3, b4, d4⟩) := by
    rw [unhide HRW]
    refine ⟨?_, ?_, ?_⟩
    · exact (owns_LsN (((unhide HO3).below hb4).below hb5)).keep (fun k hk => ⟨rfl, by have := hk.1; omega, hk.2⟩)
    · exact (owns_LsN ((unhide HO4).below hb5)).keep (fun k hk => ⟨rfl, by have := hk.1; omega, hk.2⟩)
    · exact (owns_LsN (unhide HO5)).keep (fun k hk => ⟨rfl, by have := hk.1; omega, hk.2⟩)
  have HB5 := hide hB5
  clear hZ5 hRa5 HRa hb25 hb2 hb3 hb4 hb5 hB2 hB3 hB4 hB5 HZ1 HB1 HO3 HO4 HO5 p1 p2 p3 p1e p2e p3e hgl hcap
  generalize nmK l2 l2.length = m2 at *
  generalize nmK l3 l3.length = m3 at *
  generalize nmK l4 l4.length = m4 at *
  go_wp2_with fail
  go_region_held3 (fun w' => w'.cell? ⟨ga, pk, none⟩ = some (.string ⟨sub.toArray⟩)) (go_keep)
    (first
      | (go_at_call_of 26 (Value.int IntKind.i64 id); refine (unhide HP1 _).mono ?_; rintro e wx ⟨rfl, rfl⟩)
      | (go_at_call_of 26 (Value.int IntKind.i64 subject); refine (unhide HP2 _).mono ?_; rintro e wx ⟨rfl, rfl⟩)
      | (go_at_call_of 26 (Value.int IntKind.i64 expiry); refine (unhide HP3 _).mono ?_; rintro e wx ⟨rfl, rfl⟩))
  go_wp2_with fail
  have hcr := unhide HRW
  subst hcr
  have hrow : Row (st6 w5 w.heap.size (⟨pi, sub, m2, m3, m4, pe⟩ : Cm).z ⟨b2, d2, b3, d3, b4, d4⟩).drew w.heap.size 60 6 (czF (⟨pi, sub, m2, m3, m4, pe⟩ : Cm).z ⟨b2, d2, b3, d3, b4, d4⟩) := (st6_row (unhide HZ5) (⟨pi, sub, m2, m3, m4, pe⟩ : Cm).z ⟨b2, d2, b3, d3, b4, d4⟩).below (Below.refl (w.heap.size + 1) _).drew (Nat.lt_succ_self _)
  have hfin : CzN (st6 w5 w.heap.size (⟨pi, sub, m2, m3, m4, pe⟩ : Cm).z ⟨b2, d2, b3, d3, b4, d4⟩).drew (New w (st6 w5 w.heap.size (⟨pi, sub, m2, m3, m4, pe⟩ : Cm).z ⟨b2, d2, b3, d3, b4, d4⟩).drew) (⟨pi, sub, m2, m3, m4, pe⟩ : Cm).z ⟨b2, d2, b3, d3, b4, d4⟩ ∧ Below w.heap.size w (st6 w5 w.heap.size (⟨pi, sub, m2, m3, m4, pe⟩ : Cm).z ⟨b2, d2, b3, d3, b4, d4⟩).drew := by
    have b6 := (st6_but w5 w.heap.size (⟨pi, sub, m2, m3, m4, pe⟩ : Cm).z ⟨b2, d2, b3, d3, b4, d4⟩).drew
    generalize (st6 w5 w.heap.size (⟨pi, sub, m2, m3, m4, pe⟩ : Cm).z ⟨b2, d2, b3, d3, b4, d4⟩).drew = w6 at b6 ⊢
    exact ⟨(unhide HN5).keep (fun k hk => ⟨b6.block k (by have := hk.1; omega), by have h1 : w.heap.size < k := hk.1; show w.heap.size ≤ k; omega, by rw [b6.size]; exact hk.2⟩), (unhide HB5).trans (b6.below (Nat.le_refl _))⟩
  refine ret_czo (c := (⟨pi, sub, m2, m3, m4, pe⟩ : Cm).z) (p := ⟨b2, d2, b3, d3, b4, d4⟩) (g := w.heap.size) Tryz.results18 hrow rfl rfl ?_
  rw [unhide HRC]
  exact ⟨⟨b2, d2, b3, d3, b4, d4⟩, rfl, hfin⟩
end Go.Proofs.YtkmkkmdpjliifaaGreatDoor
namespace Go.Proofs.YtkmkkmdpjliifaaGreatDoor
open Go.ChangeShapes Go.WideShapes Go.ChangeAt Go.RowKit


theorem parse_plain {c : Cm} (h : rightB c.z = true) : parseS (plainS c) = some c := by
  unfold parseS
  rw [if_neg (by have := plainS_length h; omega), obj_right h, Option.bind_some, if_pos h]
end Go.Proofs.YtkmkkmdpjliifaaGreatDoor
namespace Go.Proofs.YtkmkkmdpjliifaaGreatDoor
open Go.ChangeShapes Go.WideShapes Go.ChangeAt Go.RowKit

theorem allB_S {s : List UInt8} (h : allB s = true) : allS s s.length := fun j hj => by
  unfold allB at h
  rw [List.all_eq_true] at h
  exact h j (List.mem_range.2 hj)
/-- Pack of what Unpack makes -/
theorem pack_uO {s : List UInt8} (h : uE s = 0) : packL (uO s) = s := by
  cases hb : (allB s && okN s) with
  | false => rw [uE_no s hb] at h; cases h
  | true =>
    rw [uO_yes s hb]
    rw [Bool.and_eq_true] at hb
    have := round_trip s (allB_S hb.1)
    rw [hb.2] at this
    exact of_decide_eq_true this
end Go.Proofs.YtkmkkmdpjliifaaGreatDoor
namespace Go.Proofs.YtkmkkmdpjliifaaGreatDoor
open Go.ChangeShapes Go.WideShapes Go.ChangeAt Go.RowKit

theorem uE_cases (s : List UInt8) : uE s = 0 ∨ (uE s = 2 ∧ uO s = []) := by
  cases h : (allB s && okN s) with
  | true => exact Or.inl (uE_yes s h)
  | false => exact Or.inr ⟨uE_no s h, uO_no s h⟩

end Go.Proofs.YtkmkkmdpjliifaaGreatDoor
namespace Go.Proofs.YtkmkkmdpjliifaaGreatDoor
open Go.ChangeShapes Go.WideShapes Go.ChangeAt Go.RowKit Go.Deep

theorem whole_of' (s : ByteArray) : (⟨s.data.toList.toArray⟩ : ByteArray) = s := by cases s; simp
end Go.Proofs.YtkmkkmdpjliifaaGreatDoor
namespace Go.Proofs.YtkmkkmdpjliifaaGreatDoor.lf
open Go.ChangeShapes Go.WideShapes Go.ChangeAt Go.RowKit Go.Shelf
open Go.ChangeMaps (open_string)
theorem read25 : Tryz.prog.readableRec 25 = true := by kernel_rfl
theorem read9 : Tryz.prog.readableRec 9 = true := by kernel_rfl
end Go.Proofs.YtkmkkmdpjliifaaGreatDoor.lf
