import Derived.Test.YtkmkkmdpjliifaaGreatDoorKpA
import Derived.Test.YtkmkkmdpjliifaaGreatDoorSvT
namespace Go.Proofs.YtkmkkmdpjliifaaGreatDoor
open Go.ChangeShapes Go.WideShapes Go.ChangeAt Go.RowKit

set_option maxRecDepth 20000 in
set_option maxHeartbeats 1000000 in
theorem login_any (n : Nat) (hn : n ≤ 9) (w : World) :
    Calls Tryz.prog 31 #[.int .i64 (n : Nat)] w fun e w' => e = .returned (.agg #[.string ⟨#[99, UInt8.ofNat (48 + n)]⟩, .string ⟨#[115, UInt8.ofNat (48 + n)]⟩]) ∧ Below w.heap.size w w' := by
  have hw : wrap64 (48 + (n : Int)) = 48 + (n : Int) := w64 _ (by omega) (by omega)
  obtain ⟨wb, hwb⟩ : ∃ wb, wb = (w.alloc (.cells #[.string ⟨#[]⟩, .string ⟨#[]⟩] 81)).alloc (.cells #[.int .u8 (48 + (n : Int))] 5) := ⟨_, rfl⟩
  have hcv : (convert 110 9 (.slice (some ⟨w.heap.size + 1, 0, none⟩) 1 1)).run Tryz.prog wb = .ok (.string ⟨#[UInt8.ofNat (48 + n)]⟩) wb := by
    rw [conv8 (w := wb) (w.heap.size + 1) 0 1 1 (fun _ => 48 + n) (fun i hi => by
      have : i = 0 := by omega
      subst this
      rw [hwb]
      simp)]
    rfl
  have hb : Below w.heap.size w wb := by rw [hwb]; exact ((Below.refl _ _).alloc (Nat.le_refl _) _).alloc (by simp) _
  have hR : Row wb w.heap.size 81 2 (fun _ => .string ⟨#[]⟩) := by
    rw [hwb]
    refine (Row.new w 81 _ _ 2 rfl (fun j hj => ?_)).alloc _
    rcases (show j = 0 ∨ j = 1 by omega) with rfl | rfl <;> rfl
  have s0 := hR.cell (j := 0) (by decide)
  have s1 := hR.cell (j := 1) (by decide)
  have z0 := hR.frozen 0
  have z1 := hR.frozen 1
  have HR := hide hR
  have HB := hide hb
  have HWB := hide hwb
  clear hwb hb hR
  have c1 : (Op.stringOp .add ⟨#[99]⟩ ⟨#[UInt8.ofNat (48 + n)]⟩).run Tryz.prog wb = .ok (.string ⟨#[99, UInt8.ofNat (48 + n)]⟩) wb := cat_str [99] [UInt8.ofNat (48 + n)] _ rfl (by simp) wb
  have c2 : (Op.stringOp .add ⟨#[115]⟩ ⟨#[UInt8.ofNat (48 + n)]⟩).run Tryz.prog wb = .ok (.string ⟨#[115, UInt8.ofNat (48 + n)]⟩) wb := cat_str [115] [UInt8.ofNat (48 + n)] _ rfl (by simp) wb
  generalize UInt8.ofNat (48 + n) = d at *
  go_enter Tryz.func31, Tryz.ntmps31
  go_wp2_with fail
  rw [← unhide HWB, hcv]
  clear HWB hcv
  go_wp2_with fail
  have hfin : Row ((wb.setCell ⟨w.heap.size, 0, none⟩ (.string ⟨#[99, d]⟩)).setCell ⟨w.heap.size, 1, none⟩ (.string ⟨#[115, d]⟩)) w.heap.size 81 2 (fun j => if j = 0 then .string ⟨#[99, d]⟩ else .string ⟨#[115, d]⟩) :=
    (((unhide HR).set 0 (.string ⟨#[99, d]⟩)).set 1 (.string ⟨#[115, d]⟩)).congr (fun j hj => by
      rcases (show j = 0 ∨ j = 1 by omega) with rfl | rfl <;> rfl)
  refine ret_rowN Tryz.results31 _ hfin rfl Tryz.underlying81 ⟨_, rfl⟩ (by kernel_rfl) rfl ?_
  exact ⟨congrArg (fun x => Ending.returned (.agg x)) (arrOf_eq 2 _ _ rfl (fun j hj => by
    rcases (show j = 0 ∨ j = 1 by omega) with rfl | rfl <;> rfl)), ((unhide HB).setCell (Nat.le_refl _) _).setCell (Nat.le_refl _) _⟩

set_option maxRecDepth 20000 in
set_option maxHeartbeats 1000000 in
/-- the statements' comparison of lists -/
theorem sameK_any (v1 v2 : Value) (l1 l2 : List (List UInt8)) (w : World) (B : Nat) (hl : l1.length ≤ 8796093022208) (h1 : Ls w B v1 l1) (h2 : Ls w B v2 l2) :
    Calls Tryz.prog 29 #[v1, v2] w fun e w' => e = .returned (.bool (decide (l1 = l2))) ∧ ∃ n, w' = w.drewN n := by
  obtain ⟨a1, c1, rfl, _, hx1⟩ := h1
  obtain ⟨a2, c2, rfl, _, hx2⟩ := h2
  by_cases hn : l1.length = l2.length
  · have HX1 := hide hx1
    have HX2 := hide hx2
    have HL := hide hl
    have HN := hide hn
    have hnI : (l1.length : Int) = (l2.length : Int) := by omega
    clear hx1 hx2 hl
    go_enter Tryz.func29, Tryz.ntmps29
    go_wp2_with fail
    go_loopg [5] l1.length (fun q i wr => ∃ k n : Nat, k + q = l1.length ∧ i = .int .i64 (k : Nat) ∧ (∀ j, j < k → l1.getD j [] = l2.getD j []) ∧ wr = w.drewN n)
    case atStart => exact ⟨0, 0, Nat.zero_add _, rfl, fun j hj => absurd hj (Nat.not_lt_zero _), rfl⟩
    case round =>
      obtain ⟨k, nd, hk, rfl, hall, rfl⟩ := hrel
      have HALL := hide hall
      clear hall
      by_cases hlt : k < l1.length
      · have hkI : (k : Int) < (l1.length : Int) := by omega
        have hkI2 : (k : Int) < (l2.length : Int) := by omega
        have hw : wrap64 ((k : Int) + 1) = (k : Int) + 1 := w64 _ (by omega) (by have := unhide HL; omega)
        obtain ⟨g1, o1, rfl, hg1, hc1⟩ := unhide HX1 (by omega)
        obtain ⟨g2, o2, rfl, hg2, hc2⟩ := unhide HX2 (by omega)
        have k1 := hc1 k hlt
        have k2 := hc2 k (by omega)
        rw [sv_def] at k1 k2
        generalize hy1 : l1.getD k [] = y1 at k1
        generalize hy2 : l2.getD k [] = y2 at k2
        have HY := hide (And.intro hy1 hy2)
        clear hc1 hc2 hy1 hy2
        by_cases he : y1 = y2
        · subst he
          go_wp2_with fail
          go_quiet (fail)
          go_wp2_with fail
          go_roundg (gk - 1)
          case measure => omega
          case rel => exact ⟨k + 1, nd + nq, by omega, by first | exact num1 hw | rfl, fun j hj => by
            by_cases e : j = k
            · subst e; rw [(unhide HY).1, (unhide HY).2]
            · exact unhide HALL j (by omega), by first | rfl | rw [World.drewN_drewN]⟩
        · have hne : (y1 == y2) = false := by simpa using he
          have HE := hide he
          clear he
          go_wp2_with fail
          go_quiet (fail)
          go_wp2_with fail
          go_ret
          refine ⟨ret_bool ?_, nd + nq, by first | rfl | rw [World.drewN_drewN]⟩
          rw [decide_eq_false]
          intro e
          apply unhide HE
          rw [← (unhide HY).1, ← (unhide HY).2, e]
      · have hkn : k = l1.length := by omega
        subst hkn
        go_wp2_with fail
        go_ret
        refine ⟨ret_bool ?_, nd, rfl⟩
        rw [decide_eq_true (list_eq_of (unhide HN) (unhide HALL))]
  · have hnI : ¬ (l1.length : Int) = (l2.length : Int) := by omega
    have hne : decide (l1 = l2) = false := decide_eq_false (fun e => hn (by rw [e]))
    rw [hne]
    clear hx1 hx2 hl hn hne
    go_enter Tryz.func29, Tryz.ntmps29
    go_wp2_with fail
    go_ret
    exact ⟨rfl, 0, rfl⟩

end Go.Proofs.YtkmkkmdpjliifaaGreatDoor
namespace Go.Proofs.YtkmkkmdpjliifaaGreatDoor
open Go.ChangeShapes Go.WideShapes Go.ChangeAt Go.RowKit

set_option maxRecDepth 20000 in
set_option maxHeartbeats 2000000 in
/-- the statements' comparison of claims -/
theorem alike_any (c1 c2 : Cz) (p1 p2 : Pl) (w : World) (B : Nat) (hB : B ≤ w.heap.size) (hS1 : CzS c1) (hL1 : CzL w B c1 p1) (hL2 : CzL w B c2 p2) :
    Calls Tryz.prog 21 #[.agg (czA c1 p1), .agg (czA c2 p2)] w fun e w' => e = .returned (.bool (sameZ c1 c2)) ∧ Below w.heap.size w w' := by
  obtain ⟨wa, hwa⟩ : ∃ wa, wa = w.alloc (.cells #[.int .i64 c1.id, .string ⟨c1.sub.toArray⟩, .slice p1.a2 c1.scp.length p1.c2, .slice p1.a3 c1.aud.length p1.c3, .slice p1.a4 c1.act.length p1.c4, .int .i64 c1.exp] 60) := ⟨_, rfl⟩
  have hsa : wa.heap.size = w.heap.size + 1 := by rw [hwa]; simp
  obtain ⟨wb, hwb⟩ : ∃ wb, wb = wa.alloc (.cells #[.int .i64 c2.id, .string ⟨c2.sub.toArray⟩, .slice p2.a2 c2.scp.length p2.c2, .slice p2.a3 c2.aud.length p2.c3, .slice p2.a4 c2.act.length p2.c4, .int .i64 c2.exp] 60) := ⟨_, rfl⟩
  have hbb : Below w.heap.size w wb := by rw [hwb, hwa]; exact ((Below.refl _ _).alloc (Nat.le_refl _) _).alloc (by simp) _
  have hRa : Row wb w.heap.size 60 6 (czF c1 p1) := by rw [hwb, hwa]; exact (Row.new w 60 _ _ 6 rfl (six rfl rfl rfl rfl rfl rfl)).alloc _
  have hRb : Row wb (w.heap.size + 1) 60 6 (czF c2 p2) := by rw [hwb, ← hsa]; exact Row.new wa 60 _ _ 6 rfl (six rfl rfl rfl rfl rfl rfl)
  have hLa := hL1.below (hbb.mono hB)
  have hLb := hL2.below (hbb.mono hB)
  have HE2 := hide (fun n => sameK_any _ _ c1.scp c2.scp (wb.drewN n) B hS1.l2 (hLa.k2.drewN n) (hLb.k2.drewN n))
  have HE3 := hide (fun n => sameK_any _ _ c1.aud c2.aud (wb.drewN n) B hS1.l3 (hLa.k3.drewN n) (hLb.k3.drewN n))
  have HE4 := hide (fun n => sameK_any _ _ c1.act c2.act (wb.drewN n) B hS1.l4 (hLa.k4.drewN n) (hLb.k4.drewN n))
  have HW : Hid (wb = (w.alloc (.cells #[.int .i64 c1.id, .string ⟨c1.sub.toArray⟩, .slice p1.a2 c1.scp.length p1.c2, .slice p1.a3 c1.aud.length p1.c3, .slice p1.a4 c1.act.length p1.c4, .int .i64 c1.exp] 60)).alloc (.cells #[.int .i64 c2.id, .string ⟨c2.sub.toArray⟩, .slice p2.a2 c2.scp.length p2.c2, .slice p2.a3 c2.aud.length p2.c3, .slice p2.a4 c2.act.length p2.c4, .int .i64 c2.exp] 60)) := by rw [← hwa]; exact hwb
  have HBB := hide hbb
  have a0 : wb.cell? ⟨w.heap.size, 0, none⟩ = some (.int .i64 c1.id) := hRa.cell (by decide)
  have a1 : wb.cell? ⟨w.heap.size, 1, none⟩ = some (.string ⟨c1.sub.toArray⟩) := hRa.cell (by decide)
  have a2 : wb.cell? ⟨w.heap.size, 2, none⟩ = some (.slice p1.a2 c1.scp.length p1.c2) := hRa.cell (by decide)
  have a3 : wb.cell? ⟨w.heap.size, 3, none⟩ = some (.slice p1.a3 c1.aud.length p1.c3) := hRa.cell (by decide)
  have a4 : wb.cell? ⟨w.heap.size, 4, none⟩ = some (.slice p1.a4 c1.act.length p1.c4) := hRa.cell (by decide)
  have a5 : wb.cell? ⟨w.heap.size, 5, none⟩ = some (.int .i64 c1.exp) := hRa.cell (by decide)
  have b0 : wb.cell? ⟨w.heap.size + 1, 0, none⟩ = some (.int .i64 c2.id) := hRb.cell (by decide)
  have b1 : wb.cell? ⟨w.heap.size + 1, 1, none⟩ = some (.string ⟨c2.sub.toArray⟩) := hRb.cell (by decide)
  have b2 : wb.cell? ⟨w.heap.size + 1, 2, none⟩ = some (.slice p2.a2 c2.scp.length p2.c2) := hRb.cell (by decide)
  have b3 : wb.cell? ⟨w.heap.size + 1, 3, none⟩ = some (.slice p2.a3 c2.aud.length p2.c3) := hRb.cell (by decide)
  have b4 : wb.cell? ⟨w.heap.size + 1, 4, none⟩ = some (.slice p2.a4 c2.act.length p2.c4) := hRb.cell (by decide)
  have b5 : wb.cell? ⟨w.heap.size + 1, 5, none⟩ = some (.int .i64 c2.exp) := hRb.cell (by decide)
  generalize hsz : sameZ c1 c2 = r
  unfold sameZ at hsz
  have HSZ := hide hsz
  clear hS1 hL1 hL2 hLa hLb hRa hRb hwa hwb hbb hsz
  unfold czA
  have hcell : ∀ (n : Nat) (a : Addr), (wb.drewN n).cell? a = wb.cell? a := fun _ _ => rfl
  go_enter Tryz.func21, Tryz.ntmps21
  go_wp2_with fail
  rw [← unhide HW]
  clear HW
  refine (unhide HE2 0).mono ?_
  rintro e w1 ⟨rfl, n1, rfl⟩
  rw [World.drewN_drewN, Nat.zero_add]
  go_wp2_with fail
  refine (unhide HE3 n1).mono ?_
  rintro e w2 ⟨rfl, n2, rfl⟩
  rw [World.drewN_drewN]
  go_wp2_with fail
  refine (unhide HE4 _).mono ?_
  rintro e w3 ⟨rfl, n3, rfl⟩
  rw [World.drewN_drewN]
  clear HE2 HE3 HE4
  cases d1 : decide (c1.scp = c2.scp) with
  | false =>
    go_wp2_with fail
    go_ret
    refine ⟨ret_bool ?_, below_drewN' (unhide HBB) _⟩
    rw [← unhide HSZ]
    simp [d1]
  | true =>
  cases d2 : decide (c1.aud = c2.aud) with
  | false =>
    go_wp2_with fail
    go_ret
    refine ⟨ret_bool ?_, below_drewN' (unhide HBB) _⟩
    rw [← unhide HSZ]
    simp [d1, d2]
  | true =>
  cases d3 : decide (c1.act = c2.act) with
  | false =>
    go_wp2_with fail
    go_ret
    refine ⟨ret_bool ?_, below_drewN' (unhide HBB) _⟩
    rw [← unhide HSZ]
    simp [d1, d2, d3]
  | true =>
  by_cases e1 : c1.id = c2.id
  · rw [← e1] at b0
    by_cases e2 : c1.sub = c2.sub
    · rw [← e2] at b1
      by_cases e3 : c1.exp = c2.exp
      · rw [← e3] at b5
        go_wp2_with fail
        go_ret
        refine ⟨ret_bool ?_, below_drewN' (unhide HBB) _⟩
        rw [← unhide HSZ]
        simp [e1, e2, e3, d1, d2, d3]
      · have q3 : (c1.exp == c2.exp) = false := by simpa using e3
        go_wp2_with fail
        go_ret
        refine ⟨ret_bool ?_, below_drewN' (unhide HBB) _⟩
        rw [← unhide HSZ]
        simp [e3]
    · have q2 : (c1.sub == c2.sub) = false := by simpa using e2
      go_wp2_with fail
      go_ret
      refine ⟨ret_bool ?_, below_drewN' (unhide HBB) _⟩
      rw [← unhide HSZ]
      simp [e2]
  · have q1 : (c1.id == c2.id) = false := by simpa using e1
    go_wp2_with fail
    go_ret
    refine ⟨ret_bool ?_, below_drewN' (unhide HBB) _⟩
    rw [← unhide HSZ]
    simp [e1]
end Go.Proofs.YtkmkkmdpjliifaaGreatDoor
