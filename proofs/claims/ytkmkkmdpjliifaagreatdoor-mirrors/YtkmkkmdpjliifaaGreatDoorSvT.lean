import Derived.Test.YtkmkkmdpjliifaaGreatDoorSvQ
import Derived.Test.YtkmkkmdpjliifaaGreatDoorJyA
import Derived.Deep.CutRange
namespace Go.Proofs.YtkmkkmdpjliifaaGreatDoor
open Go.ChangeShapes Go.WideShapes Go.ChangeAt Go.RowKit

theorem list_eq_of {l1 l2 : List (List UInt8)} (h : l1.length = l2.length) (ha : ∀ j, j < l1.length → l1.getD j [] = l2.getD j []) : l1 = l2 := by
  apply List.ext_getElem h
  intro i h1 h2
  have := ha i h1
  simpa [List.getD, h1, h2] using this

set_option maxRecDepth 20000 in
set_option maxHeartbeats 1000000 in
theorem Equal_any (v1 v2 : Value) (l1 l2 : List (List UInt8)) (w : World) (B : Nat) (hl : l1.length ≤ 8796093022208) (h1 : Ls w B v1 l1) (h2 : Ls w B v2 l2) :
    Calls Tryz.prog 213 #[v1, v2] w fun e w' => e = .returned (.bool (decide (l1 = l2))) ∧ ∃ n, w' = w.drewN n := by
  obtain ⟨a1, c1, rfl, _, hx1⟩ := h1
  obtain ⟨a2, c2, rfl, _, hx2⟩ := h2
  by_cases hn : l1.length = l2.length
  · have HX1 := hide hx1
    have HX2 := hide hx2
    have HL := hide hl
    have HN := hide hn
    have hnI : (l1.length : Int) = (l2.length : Int) := by omega
    clear hx1 hx2 hl
    go_enter Tryz.func213, Tryz.ntmps213
    go_wp2_with fail
    go_loopg [13] l1.length (fun q i wr => ∃ k n : Nat, k + q = l1.length ∧ i = .int .i64 (k : Nat) ∧ (∀ j, j < k → l1.getD j [] = l2.getD j []) ∧ wr = w.drewN n)
    case atStart => exact ⟨0, 0, Nat.zero_add _, rfl, fun j hj => absurd hj (Nat.not_lt_zero _), rfl⟩
    case round =>
      obtain ⟨k, nd, hk, rfl, hall, rfl⟩ := hrel
      have HALL := hide hall
      clear hall
      by_cases hlt : k < l1.length
      · have hkI : (k : Int) < (l1.length : Int) := by omega
        have hkI2 : (k : Int) < (l2.length : Int) := by omega
        have hw : wrap64 ((k : Int) + 1) = (k : Int) + 1 := w64 _ (by omega) (by have := unhide HL; omega)
        obtain ⟨g1, o1, rfl, hg1, hc1⟩ := unhide HX1 (by omega)
        obtain ⟨g2, o2, rfl, hg2, hc2⟩ := unhide HX2 (by omega)
        have k1 := hc1 k hlt
        have k2 := hc2 k (by omega)
        rw [sv_def] at k1 k2
        generalize hy1 : l1.getD k [] = y1 at k1
        generalize hy2 : l2.getD k [] = y2 at k2
        have HY := hide (And.intro hy1 hy2)
        clear hc1 hc2 hy1 hy2
        by_cases he : y1 = y2
        · subst he
          go_wp2_with fail
          go_quiet (fail)
          go_wp2_with fail
          go_roundg (gk - 1)
          case measure => omega
          case rel => exact ⟨k + 1, nd + nq, by omega, by first | exact num1 hw | rfl, fun j hj => by
            by_cases e : j = k
            · subst e; rw [(unhide HY).1, (unhide HY).2]
            · exact unhide HALL j (by omega), by first | rfl | rw [World.drewN_drewN]⟩
        · have hne : (y1 == y2) = false := by simpa using he
          have HE := hide he
          clear he
          go_wp2_with fail
          go_quiet (fail)
          go_wp2_with fail
          go_ret
          refine ⟨ret_bool ?_, nd + nq, by first | rfl | rw [World.drewN_drewN]⟩
          rw [decide_eq_false]
          intro e
          apply unhide HE
          rw [← (unhide HY).1, ← (unhide HY).2, e]
      · have hkn : k = l1.length := by omega
        subst hkn
        go_wp2_with fail
        go_ret
        refine ⟨ret_bool ?_, nd, rfl⟩
        rw [decide_eq_true (list_eq_of (unhide HN) (unhide HALL))]
  · have hnI : ¬ (l1.length : Int) = (l2.length : Int) := by omega
    have hne : decide (l1 = l2) = false := decide_eq_false (fun e => hn (by rw [e]))
    rw [hne]
    clear hx1 hx2 hl hn hne
    go_enter Tryz.func213, Tryz.ntmps213
    go_wp2_with fail
    go_ret
    exact ⟨rfl, 0, rfl⟩
end Go.Proofs.YtkmkkmdpjliifaaGreatDoor
namespace Go.Proofs.YtkmkkmdpjliifaaGreatDoor
open Go.ChangeShapes Go.WideShapes Go.ChangeAt Go.RowKit

theorem Ls.drewN {w : World} {B : Nat} {v : Value} {l : List (List UInt8)} (h : Ls w B v l) (n : Nat) : Ls (w.drewN n) B v l := h

end Go.Proofs.YtkmkkmdpjliifaaGreatDoor
namespace Go.Proofs.YtkmkkmdpjliifaaGreatDoor
open Go.ChangeShapes Go.WideShapes Go.ChangeAt Go.RowKit

/-- are claims the same? -/
def sameZ (a b : Cz) : Bool := decide (a.id = b.id) && decide (a.sub = b.sub) && decide (a.exp = b.exp) && decide (a.scp = b.scp) && decide (a.aud = b.aud) && decide (a.act = b.act)
theorem sameZ_iff (a b : Cz) : sameZ a b = true ↔ a = b := by
  unfold sameZ
  cases a; cases b
  simp
  constructor
  · rintro ⟨⟨⟨⟨⟨h1, h2⟩, h3⟩, h4⟩, h5⟩, h6⟩; exact ⟨h1, h2, h4, h5, h6, h3⟩
  · rintro ⟨h1, h2, h4, h5, h6, h3⟩; exact ⟨⟨⟨⟨⟨h1, h2⟩, h3⟩, h4⟩, h5⟩, h6⟩

set_option maxRecDepth 20000 in
set_option maxHeartbeats 2000000 in
theorem areSame_any (c1 c2 : Cz) (p1 p2 : Pl) (w : World) (B : Nat) (hB : B ≤ w.heap.size) (hS1 : CzS c1) (hL1 : CzL w B c1 p1) (hL2 : CzL w B c2 p2) :
    Calls Tryz.prog 183 #[.agg (czA c1 p1), .agg (czA c2 p2)] w fun e w' => e = .returned (.bool (sameZ c1 c2)) ∧ Below w.heap.size w w' := by
  obtain ⟨wa, hwa⟩ : ∃ wa, wa = w.alloc (.cells #[.int .i64 c1.id, .string ⟨c1.sub.toArray⟩, .slice p1.a2 c1.scp.length p1.c2, .slice p1.a3 c1.aud.length p1.c3, .slice p1.a4 c1.act.length p1.c4, .int .i64 c1.exp] 60) := ⟨_, rfl⟩
  have hsa : wa.heap.size = w.heap.size + 1 := by rw [hwa]; simp
  obtain ⟨wb, hwb⟩ : ∃ wb, wb = wa.alloc (.cells #[.int .i64 c2.id, .string ⟨c2.sub.toArray⟩, .slice p2.a2 c2.scp.length p2.c2, .slice p2.a3 c2.aud.length p2.c3, .slice p2.a4 c2.act.length p2.c4, .int .i64 c2.exp] 60) := ⟨_, rfl⟩
  have hbb : Below w.heap.size w wb := by rw [hwb, hwa]; exact ((Below.refl _ _).alloc (Nat.le_refl _) _).alloc (by simp) _
  have hRa : Row wb w.heap.size 60 6 (czF c1 p1) := by rw [hwb, hwa]; exact (Row.new w 60 _ _ 6 rfl (six rfl rfl rfl rfl rfl rfl)).alloc _
  have hRb : Row wb (w.heap.size + 1) 60 6 (czF c2 p2) := by rw [hwb, ← hsa]; exact Row.new wa 60 _ _ 6 rfl (six rfl rfl rfl rfl rfl rfl)
  have hLa := hL1.below (hbb.mono hB)
  have hLb := hL2.below (hbb.mono hB)
  have HE2 := hide (fun n => Equal_any _ _ c1.scp c2.scp (wb.drewN n) B hS1.l2 (hLa.k2.drewN n) (hLb.k2.drewN n))
  have HE3 := hide (fun n => Equal_any _ _ c1.aud c2.aud (wb.drewN n) B hS1.l3 (hLa.k3.drewN n) (hLb.k3.drewN n))
  have HE4 := hide (fun n => Equal_any _ _ c1.act c2.act (wb.drewN n) B hS1.l4 (hLa.k4.drewN n) (hLb.k4.drewN n))
  have HW : Hid (wb = (w.alloc (.cells #[.int .i64 c1.id, .string ⟨c1.sub.toArray⟩, .slice p1.a2 c1.scp.length p1.c2, .slice p1.a3 c1.aud.length p1.c3, .slice p1.a4 c1.act.length p1.c4, .int .i64 c1.exp] 60)).alloc (.cells #[.int .i64 c2.id, .string ⟨c2.sub.toArray⟩, .slice p2.a2 c2.scp.length p2.c2, .slice p2.a3 c2.aud.length p2.c3, .slice p2.a4 c2.act.length p2.c4, .int .i64 c2.exp] 60)) := by rw [← hwa]; exact hwb
  have HBB := hide hbb
  have a0 : wb.cell? ⟨w.heap.size, 0, none⟩ = some (.int .i64 c1.id) := hRa.cell (by decide)
  have a1 : wb.cell? ⟨w.heap.size, 1, none⟩ = some (.string ⟨c1.sub.toArray⟩) := hRa.cell (by decide)
  have a2 : wb.cell? ⟨w.heap.size, 2, none⟩ = some (.slice p1.a2 c1.scp.length p1.c2) := hRa.cell (by decide)
  have a3 : wb.cell? ⟨w.heap.size, 3, none⟩ = some (.slice p1.a3 c1.aud.length p1.c3) := hRa.cell (by decide)
  have a4 : wb.cell? ⟨w.heap.size, 4, none⟩ = some (.slice p1.a4 c1.act.length p1.c4) := hRa.cell (by decide)
  have a5 : wb.cell? ⟨w.heap.size, 5, none⟩ = some (.int .i64 c1.exp) := hRa.cell (by decide)
  have b0 : wb.cell? ⟨w.heap.size + 1, 0, none⟩ = some (.int .i64 c2.id) := hRb.cell (by decide)
  have b1 : wb.cell? ⟨w.heap.size + 1, 1, none⟩ = some (.string ⟨c2.sub.toArray⟩) := hRb.cell (by decide)
  have b2 : wb.cell? ⟨w.heap.size + 1, 2, none⟩ = some (.slice p2.a2 c2.scp.length p2.c2) := hRb.cell (by decide)
  have b3 : wb.cell? ⟨w.heap.size + 1, 3, none⟩ = some (.slice p2.a3 c2.aud.length p2.c3) := hRb.cell (by decide)
  have b4 : wb.cell? ⟨w.heap.size + 1, 4, none⟩ = some (.slice p2.a4 c2.act.length p2.c4) := hRb.cell (by decide)
  have b5 : wb.cell? ⟨w.heap.size + 1, 5, none⟩ = some (.int .i64 c2.exp) := hRb.cell (by decide)
  generalize hsz : sameZ c1 c2 = r
  unfold sameZ at hsz
  have HSZ := hide hsz
  clear hS1 hL1 hL2 hLa hLb hRa hRb hwa hwb hbb hsz
  unfold czA
  have hcell : ∀ (n : Nat) (a : Addr), (wb.drewN n).cell? a = wb.cell? a := fun _ _ => rfl
  go_enter Tryz.func183, Tryz.ntmps183
  go_upto_region 1 with fail
  rw [← unhide HW]
  clear HW
  by_cases e1 : c1.id = c2.id
  · by_cases e2 : c1.sub = c2.sub
    · by_cases e3 : c1.exp = c2.exp
      · rw [← e1] at b0
        rw [← e2] at b1
        rw [← e3] at b5
        go_wp2_with fail
        refine (unhide HE2 0).mono ?_
        rintro e w1 ⟨rfl, n1, rfl⟩
        rw [World.drewN_drewN, Nat.zero_add]
        cases d1 : decide (c1.scp = c2.scp) with
        | false =>
          go_wp2_with fail
          go_ret
          refine ⟨ret_bool ?_, below_drewN' (unhide HBB) _⟩
          rw [← unhide HSZ]
          simp [e1, e2, e3, d1]
        | true =>
        go_wp2_with fail
        refine (unhide HE3 n1).mono ?_
        rintro e w2 ⟨rfl, n2, rfl⟩
        rw [World.drewN_drewN]
        cases d2 : decide (c1.aud = c2.aud) with
        | false =>
          go_wp2_with fail
          go_ret
          refine ⟨ret_bool ?_, below_drewN' (unhide HBB) _⟩
          rw [← unhide HSZ]
          simp [e1, e2, e3, d1, d2]
        | true =>
        go_wp2_with fail
        refine (unhide HE4 _).mono ?_
        rintro e w3 ⟨rfl, n3, rfl⟩
        rw [World.drewN_drewN]
        go_wp2_with fail
        go_ret
        refine ⟨ret_bool ?_, below_drewN' (unhide HBB) _⟩
        rw [← unhide HSZ]
        simp [e1, e2, e3, d1, d2]
      · have q3 : (c1.exp == c2.exp) = false := by simpa using e3
        rw [← e1] at b0
        rw [← e2] at b1
        go_wp2_with fail
        go_ret
        refine ⟨ret_bool ?_, unhide HBB⟩
        rw [← unhide HSZ]
        simp [e1, e2, e3]
    · have q2 : (c1.sub == c2.sub) = false := by simpa using e2
      rw [← e1] at b0
      go_wp2_with fail
      go_ret
      refine ⟨ret_bool ?_, unhide HBB⟩
      rw [← unhide HSZ]
      simp [e1, e2]
  · have q1 : (c1.id == c2.id) = false := by simpa using e1
    go_wp2_with fail
    go_ret
    refine ⟨ret_bool ?_, unhide HBB⟩
    rw [← unhide HSZ]
    simp [e1]
end Go.Proofs.YtkmkkmdpjliifaaGreatDoor
namespace Go.Proofs.YtkmkkmdpjliifaaGreatDoor
open Go.ChangeShapes Go.WideShapes Go.ChangeAt Go.RowKit

/-- the grant of just these claims -/
def findG (G : List Gt) (c : Cm) : Option Nat := if (decide (1 ≤ c.id) && decide (c.id ≤ G.length) && sameZ (G.getD (c.id - 1) default).c.z c.z) = true then some (c.id - 1) else none
theorem findG_lt {G : List Gt} {c : Cm} {i : Nat} (h : findG G c = some i) : i < G.length := by
  unfold findG at h
  split at h
  · rename_i h1
    simp at h1
    cases h; omega
  · cases h
theorem numF (n : Nat) (h : n ≤ 999999) (h1 : 1 ≤ n) : wrap64 ((n : Int) - 1) = ((n - 1 : Nat) : Int) := by rw [w64 _ (by omega) (by omega)]; omega

set_option maxRecDepth 20000 in
set_option maxHeartbeats 2000000 in
theorem Find_any (c : Cm) (p : Pl) (w : World) (s R O now : Nat) (vk vs vg : Value) (ks : List Ky) (cs : List Cl) (Qs : List Nat) (G : List Gt) (hS : Sv w s R O now vk vs vg ks cs Qs G) (hL : CzL w w.heap.size c.z p) :
    Calls Tryz.prog 143 #[.pointer (some ⟨s, 3, none⟩), .agg (czA c.z p)] w fun e w' => e = .returned (.pointer ((findG G c).map fun i => ⟨(G.getD i default).b, 0, none⟩)) ∧ Below w.heap.size w w' := by
  obtain ⟨wa, hwa⟩ : ∃ wa, wa = w.alloc (.cells #[.int .i64 c.z.id, .string ⟨c.z.sub.toArray⟩, .slice p.a2 c.z.scp.length p.c2, .slice p.a3 c.z.aud.length p.c3, .slice p.a4 c.z.act.length p.c4, .int .i64 c.z.exp] 60) := ⟨_, rfl⟩
  have hba : Below w.heap.size w wa := by rw [hwa]; exact (Below.refl _ _).alloc (Nat.le_refl _) _
  have hsa : wa.heap.size = w.heap.size + 1 := by rw [hwa]; simp
  have hRa : Row wa w.heap.size 60 6 (czF c.z p) := by rw [hwa]; exact Row.new w 60 _ _ 6 rfl (six rfl rfl rfl rfl rfl rfl)
  have hSa := hS.below hba
  obtain ⟨av, cv, hvg⟩ := hSa.vgf
  have r3 : wa.cell? ⟨s, 3, none⟩ = some (.slice av G.length cv) := by rw [← hvg]; exact hSa.row.cell (j := 3) (by decide)
  have a0 : wa.cell? ⟨w.heap.size, 0, none⟩ = some (.int .i64 c.z.id) := hRa.cell (by decide)
  have a1 : wa.cell? ⟨w.heap.size, 1, none⟩ = some (.string ⟨c.z.sub.toArray⟩) := hRa.cell (by decide)
  have a2 : wa.cell? ⟨w.heap.size, 2, none⟩ = some (.slice p.a2 c.z.scp.length p.c2) := hRa.cell (by decide)
  have a3 : wa.cell? ⟨w.heap.size, 3, none⟩ = some (.slice p.a3 c.z.aud.length p.c3) := hRa.cell (by decide)
  have a4 : wa.cell? ⟨w.heap.size, 4, none⟩ = some (.slice p.a4 c.z.act.length p.c4) := hRa.cell (by decide)
  have a5 : wa.cell? ⟨w.heap.size, 5, none⟩ = some (.int .i64 c.z.exp) := hRa.cell (by decide)
  have hsm := hS.small
  have HWA := hide hwa
  have HBA := hide hba
  by_cases h1 : 1 ≤ c.id ∧ c.id ≤ G.length
  · obtain ⟨hi1, hi2⟩ := h1
    obtain ⟨i, hi⟩ : ∃ i, i = c.id - 1 := ⟨_, rfl⟩
    have hil : i < G.length := by omega
    have hown := hSa.own
    rw [hvg] at hown
    rcases owns_cells hown with ⟨_, h0⟩ | ⟨qb, cap, he, _, _, hql, hcells⟩
    · omega
    · have hgi := hcells i (gptr (G.getD i default)) (by simp [List.getD, hil])
      injection he with he1 he2 he3
      subst he1
      have hgr := hSa.gr i hil
      have hcid : c.z.id = ((c.id : Nat) : Int) := rfl
      have hq1 : ¬ c.z.id < 1 := by omega
      have hq2 : ¬ ((G.length : Nat) : Int) < c.z.id := by omega
      have hwr : wrap64 (c.z.id - 1) = ((i : Nat) : Int) := by rw [hcid, numF c.id (by omega) hi1, ← hi]
      have hiI : ((i : Nat) : Int) < ((G.length : Nat) : Int) := by omega
      have hwr2 : IntKind.i64.wrap (c.z.id - 1) = ((i : Nat) : Int) := by rw [hcid, IntKind.wrap_i64]; omega
      have hgl := (hSa.ls i hil).l (B := wa.heap.size) (fun k hk => hk.1)
      have hcl := (hL.below hba).up (show w.heap.size ≤ wa.heap.size by omega)
      have hcz := right_czs (hSa.right i hil)
      have hfg : findG G c = if sameZ (G.getD i default).c.z c.z = true then some i else none := by
        unfold findG
        rw [decide_eq_true hi1, decide_eq_true hi2, ← hi]
        rfl
      generalize hgg : G.getD i default = g at *
      have HAs := hide (fun u (hu : Below wa.heap.size wa u) => areSame_any g.c.z c.z g.pl p u wa.heap.size hu.size hcz (hgl.below hu) (hcl.below hu))
      have q3 : wa.cell? ⟨g.b, 3, none⟩ = some (.int .i64 g.c.z.id) := hgr.cell (by decide)
      have q4 : wa.cell? ⟨g.b, 4, none⟩ = some (.string ⟨g.c.z.sub.toArray⟩) := hgr.cell (by decide)
      have q5 : wa.cell? ⟨g.b, 5, none⟩ = some (.slice g.pl.a2 g.c.z.scp.length g.pl.c2) := hgr.cell (by decide)
      have q6 : wa.cell? ⟨g.b, 6, none⟩ = some (.slice g.pl.a3 g.c.z.aud.length g.pl.c3) := hgr.cell (by decide)
      have q7 : wa.cell? ⟨g.b, 7, none⟩ = some (.slice g.pl.a4 g.c.z.act.length g.pl.c4) := hgr.cell (by decide)
      have q8 : wa.cell? ⟨g.b, 8, none⟩ = some (.int .i64 g.c.z.exp) := hgr.cell (by decide)
      have hgp : wa.cell? ⟨qb, i, none⟩ = some (.pointer (some ⟨g.b, 0, none⟩)) := hgi
      have hgbl : g.b < wa.heap.size := hgr.lt
      have HFG := hide hfg
      have HGG := hide hgg
      clear hgl hcl hcz hfg hgr hgi hcells hown hSa hS hL hRa hwa hba hgg he2 hi1 hi2 hi hvg hsm
      clear hcid
      unfold czA at *
      generalize c.z.id = ci at *
      go_enter Tryz.func143, Tryz.ntmps143
      go_wp2_with fail
      rw [← unhide HWA]
      clear HWA
      go_quiet (fail)
      go_wp2_with fail
      go_quiet (fail)
      go_wp2_with fail
      clear hwr hwr2 hgp r3 hq1 hq2 hiI
      go_region_with (go_at_call 183; refine (unhide HAs _ (below_drewN' (Below.refl _ _) _)).mono ?_; rintro e w5 ⟨rfl, hb5⟩)
      all_goals
        have hB5 : Below w.heap.size w w5 := (below_drewN' (unhide HBA) _).trans (hb5.mono (show w.heap.size ≤ wa.heap.size by omega))
        have HB5 := hide hB5
        clear hB5 hb5 q3 q4 q5 q6 q7 q8 a0 a1 a2 a3 a4 a5 HAs
        cases hq : sameZ g.c.z c.z with
        | true =>
          have hfin : findG G c = some i := by rw [unhide HFG, hq]; rfl
          have HFin := hide hfin
          clear hfin hq HFG
          go_wp2_with fail
          go_ret
          exact ⟨by rw [unhide HFin, Option.map_some, unhide HGG]; rfl, unhide HB5⟩
        | false =>
          have hfin : findG G c = none := by rw [unhide HFG, hq]; rfl
          have HFin := hide hfin
          clear hfin hq HFG
          go_wp2_with fail
          go_ret
          exact ⟨by rw [unhide HFin]; rfl, unhide HB5⟩
  · have hf : findG G c = none := by
      unfold findG
      rw [if_neg]
      intro h
      simp at h
      exact h1 ⟨h.1.1, h.1.2⟩
    have HF := hide hf
    have hcid : c.z.id = ((c.id : Nat) : Int) := rfl
    have hc0 : (0 : Int) ≤ c.z.id := by omega
    by_cases h2 : c.z.id < 1
    · clear hf hRa hSa hS hL hwa hba hvg h1 hcid
      unfold czA
      go_enter Tryz.func143, Tryz.ntmps143
      go_wp2_with fail
      rw [← unhide HWA]
      clear HWA
      generalize c.z.id = ci at *
      go_quiet (fail)
      go_wp2_with fail
      go_ret
      exact ⟨by rw [unhide HF]; rfl, below_drewN' (unhide HBA) _⟩
    · have h3 : ((G.length : Nat) : Int) < c.z.id := by omega
      clear hf hRa hSa hS hL hwa hba hvg h1 hcid
      unfold czA
      go_enter Tryz.func143, Tryz.ntmps143
      go_wp2_with fail
      rw [← unhide HWA]
      clear HWA
      generalize c.z.id = ci at *
      go_quiet (fail)
      go_wp2_with fail
      go_ret
      exact ⟨by rw [unhide HF]; rfl, below_drewN' (unhide HBA) _⟩
end Go.Proofs.YtkmkkmdpjliifaaGreatDoor
namespace Go.Proofs.YtkmkkmdpjliifaaGreatDoor
open Go.ChangeShapes Go.WideShapes Go.ChangeAt Go.RowKit

/-- is a grant alive, and all that it came of? (with so many steps at most) -/
def aliveF (G : List Gt) (now : Nat) : Nat → Option Nat → Bool
  | _, none => true
  | 0, some _ => true
  | f + 1, some i => !(G.getD i default).rev && decide (now < (G.getD i default).c.exp) && aliveF G now f (G.getD i default).p
def aliveG (G : List Gt) (now : Nat) (o : Option Nat) : Bool := aliveF G now (match o with | none => 0 | some i => i + 1) o
theorem aliveF_more {G : List Gt} {now : Nat} (hp : ∀ i, i < G.length → ∀ k, (G.getD i default).p = some k → k < i) : ∀ (f i : Nat), i < G.length → i < f → aliveF G now f (some i) = aliveG G now (some i)
  | 0, i, _, h => by omega
  | f + 1, i, hi, h => by
    unfold aliveG
    show aliveF G now (f + 1) (some i) = aliveF G now (i + 1) (some i)
    unfold aliveF
    cases hpi : (G.getD i default).p with
    | none => cases f <;> cases i <;> rfl
    | some k =>
      have hk := hp i hi k hpi
      rw [aliveF_more hp f k (by omega) (by omega), aliveF_more hp i k (by omega) hk]
theorem aliveG_step {G : List Gt} {now : Nat} (hp : ∀ i, i < G.length → ∀ k, (G.getD i default).p = some k → k < i) {i : Nat} (hi : i < G.length) :
    aliveG G now (some i) = (!(G.getD i default).rev && decide (now < (G.getD i default).c.exp) && aliveG G now (G.getD i default).p) := by
  show aliveF G now (i + 1) (some i) = _
  unfold aliveF
  cases hpi : (G.getD i default).p with
  | none => cases i <;> rfl
  | some k => rw [aliveF_more hp i k (by have := hp i hi k hpi; omega) (hp i hi k hpi)]

set_option maxRecDepth 20000 in
set_option maxHeartbeats 1000000 in
theorem IsAlive_any (i0 : Nat) (w : World) (s R O now : Nat) (vk vs vg : Value) (ks : List Ky) (cs : List Cl) (Qs : List Nat) (G : List Gt) (hS : Sv w s R O now vk vs vg ks cs Qs G) (hi0 : i0 < G.length) :
    Calls Tryz.prog 144 #[.pointer (some ⟨(G.getD i0 default).b, 0, none⟩), .int .i64 (now : Nat)] w fun e w' => e = .returned (.bool (aliveG G now (some i0))) ∧ w' = w := by
  have HS := hide hS
  have HI0 := hide hi0
  generalize hb0 : (G.getD i0 default).b = b0
  have HB0 := hide hb0
  clear hS hi0 hb0
  go_enter Tryz.func144, Tryz.ntmps144
  go_wp2_with fail
  go_loopg [5] (i0 + 1) (fun q x wr => ∃ o : Option Nat, x = .pointer (o.map fun i => ⟨(G.getD i default).b, 0, none⟩) ∧ (∀ i, o = some i → i < G.length ∧ i < q) ∧ aliveG G now (some i0) = aliveG G now o ∧ wr = w)
  case atStart => exact ⟨some i0, by rw [Option.map_some, unhide HB0], fun i h => by cases h; exact ⟨unhide HI0, Nat.lt_succ_self _⟩, rfl, rfl⟩
  case round =>
    obtain ⟨o, rfl, ho, ha, rfl⟩ := hrel
    have HA := hide ha
    clear ha
    cases o with
    | none =>
      go_wp2_with fail
      go_ret
      exact ⟨ret_bool (by rw [unhide HA]; rfl), rfl⟩
    | some i =>
      obtain ⟨hil, hiq⟩ := ho i rfl
      have hgr := (unhide HS).gr i hil
      have hst := aliveG_step (now := now) (unhide HS).pr hil
      have hpr := (unhide HS).pr i hil
      clear ho
      generalize hgg : G.getD i default = g at *
      have q1 : wr.cell? ⟨g.b, 1, none⟩ = some (.pointer ((g.p.map fun k => (G.getD k default).b).map fun b => ⟨b, 0, none⟩)) := hgr.cell (by decide)
      have q2 : wr.cell? ⟨g.b, 2, none⟩ = some (.bool g.rev) := hgr.cell (by decide)
      have q8 : wr.cell? ⟨g.b, 8, none⟩ = some (.int .i64 (g.c.exp : Nat)) := hgr.cell (by decide)
      have hmm : ((g.p.map fun k => (G.getD k default).b).map fun b => (⟨b, 0, none⟩ : Addr)) = g.p.map fun k => ⟨(G.getD k default).b, 0, none⟩ := by rw [Option.map_map]; rfl
      rw [hmm] at q1
      have HST := hide hst
      have HPR := hide hpr
      have HGG := hide hgg
      have HIL := hide hil
      clear hgr hst hpr hmm hgg hil
      have hpo : (Option.map (fun i => (⟨(G.getD i default).b, 0, none⟩ : Addr)) (some i)) = some ⟨g.b, 0, none⟩ := by rw [Option.map_some, unhide HGG]
      rw [hpo]
      clear hpo
      generalize hpp : (g.p.map fun k => (⟨(G.getD k default).b, 0, none⟩ : Addr)) = pq at q1
      have HPP := hide hpp
      clear hpp
      cases hrv : g.rev with
      | true =>
        rw [hrv] at q2
        have hfin : aliveG G now (some i0) = false := by rw [unhide HA, unhide HST, hrv]; rfl
        have HFin := hide hfin
        clear hfin hrv
        go_wp2_with fail
        go_ret
        exact ⟨ret_bool (unhide HFin).symm, rfl⟩
      | false =>
        rw [hrv] at q2
        by_cases hx : now < g.c.exp
        · have hxI : ¬ ((g.c.exp : Nat) : Int) ≤ ((now : Nat) : Int) := by omega
          have hnx : aliveG G now (some i0) = aliveG G now g.p := by rw [unhide HA, unhide HST, hrv, decide_eq_true hx]; rfl
          have HNX := hide hnx
          clear hnx hrv hx
          go_wp2_with fail
          go_roundg i
          case measure => omega
          case rel => exact ⟨g.p, by rw [unhide HPP], fun k hk => ⟨by have := unhide HPR k hk; have := unhide HIL; omega, unhide HPR k hk⟩, unhide HNX, rfl⟩
        · have hxI : ((g.c.exp : Nat) : Int) ≤ ((now : Nat) : Int) := by omega
          have hfin : aliveG G now (some i0) = false := by rw [unhide HA, unhide HST, hrv, decide_eq_false hx]; rfl
          have HFin := hide hfin
          clear hfin hrv hx
          go_wp2_with fail
          go_ret
          exact ⟨ret_bool (unhide HFin).symm, rfl⟩
end Go.Proofs.YtkmkkmdpjliifaaGreatDoor
namespace Go.Proofs.YtkmkkmdpjliifaaGreatDoor
open Go.ChangeShapes Go.WideShapes Go.ChangeAt Go.RowKit

/-- the grant of a token that is taken; else why not -/
def takeS (ks : List Ky) (G : List Gt) (now : Nat) (t : List UInt8) : Option Nat × Int :=
  if openE ks t = 0 then
    match readS (openT t) with
    | none => (none, 2)
    | some c => match findG G c with
      | none => (none, 6)
      | some i => if aliveG G now (some i) = true then (some i, 0) else (none, 6)
  else (none, openE ks t)
theorem openT_len (t : List UInt8) (h : unpB t = true) : (openT t).length ≤ t.length := by
  have h3 : (partsL t).length = 3 := by
    unfold unpB at h
    simp at h
    exact h.1
  exact Nat.le_trans (uO_len _) (partsL_le t 1 (by omega))
theorem openE_unp {ks : List Ky} {t : List UInt8} (h : openE ks t = 0) : unpB t = true := by
  unfold openE at h
  cases hu : unpB t with
  | true => rfl
  | false => rw [hu] at h; cases h

set_option maxRecDepth 20000 in
set_option maxHeartbeats 2000000 in
theorem takeTok_any (t : List UInt8) (w : World) (s R O now : Nat) (vk vs vg : Value) (ks : List Ky) (cs : List Cl) (Qs : List Nat) (G : List Gt) (hS : Sv w s R O now vk vs vg ks cs Qs G) (hT : Tb s w) (hm : MX w) (h4 : 4 < s) (ht : t.length ≤ 1048576) :
    Calls Tryz.prog 105 #[.pointer (some ⟨s, 0, none⟩), .string ⟨t.toArray⟩] w fun e w' => e = .returned (.tuple #[.pointer ((takeS ks G now t).1.map fun i => ⟨(G.getD i default).b, 0, none⟩), .int .i64 (takeS ks G now t).2]) ∧ Below w.heap.size w w' := by
  have r1 : w.cell? ⟨s, 1, none⟩ = some (.pointer (some ⟨R, 0, none⟩)) := hS.row.cell (j := 1) (by decide)
  have hsl := hS.lt
  have HOp := hide (Open_any t w s R O vk vs ks cs Qs (Nat.le_of_lt hsl) h4 hS.sb hT.kt hm ht)
  have HS := hide hS
  have HT := hide hT
  have HTl := hide ht
  clear hS hT hm h4 ht
  go_enter Tryz.func105, Tryz.ntmps105
  go_wp2_with fail
  refine (unhide HOp).mono ?_
  rintro e w1 ⟨hr1, hb1⟩
  clear HOp r1
  rcases hr1 with ⟨hne, rfl⟩ | ⟨h0, rfl⟩
  · have htk : takeS ks G now t = (none, openE ks t) := by unfold takeS; rw [if_neg hne]
    have HTK := hide htk
    clear htk
    generalize openE ks t = oe at *
    have hoI : ¬ oe = 0 := hne
    go_wp2_with fail
    go_ret2
    exact ⟨by rw [unhide HTK]; rfl, hb1⟩
  · have htk : takeS ks G now t = match readS (openT t) with | none => (none, 2) | some c => match findG G c with | none => (none, 6) | some i => if aliveG G now (some i) = true then (some i, 0) else (none, 6) := by unfold takeS; rw [if_pos h0]
    have hol := openT_len t (openE_unp h0)
    have hs1 := hb1.size
    have HRd := hide (Read_any (openT t) w1 (by have := unhide HTl; omega) ((unhide HT).ut.belowS hb1))
    have HB1 := hide hb1
    have HTK := hide htk
    clear htk hol h0 hb1
    generalize openT t = ot at *
    go_wp2_with fail
    refine (unhide HRd).mono ?_
    rintro e w2 ⟨c, p, k, rfl, hL2, hZ, hb2, hO⟩
    clear HRd
    have hs2 := hb2.size
    rcases hO with ⟨rfl, hrd⟩ | ⟨rfl, hrd, rfl, rfl⟩
    · obtain ⟨wb, hwb⟩ : ∃ wb, wb = w2.alloc (.cells #[.int .i64 c.z.id, .string ⟨c.z.sub.toArray⟩, .slice p.a2 c.z.scp.length p.c2, .slice p.a3 c.z.aud.length p.c3, .slice p.a4 c.z.act.length p.c4, .int .i64 c.z.exp] 60) := ⟨_, rfl⟩
      have hbb : Below w2.heap.size w2 wb := by rw [hwb]; exact (Below.refl _ _).alloc (Nat.le_refl _) _
      have hsb : wb.heap.size = w2.heap.size + 1 := by rw [hwb]; simp
      have g0 : wb.cell? ⟨w2.heap.size, 0, none⟩ = some (.int .i64 c.z.id) := by rw [hwb]; simp
      have g1 : wb.cell? ⟨w2.heap.size, 1, none⟩ = some (.string ⟨c.z.sub.toArray⟩) := by rw [hwb]; simp
      have g2 : wb.cell? ⟨w2.heap.size, 2, none⟩ = some (.slice p.a2 c.z.scp.length p.c2) := by rw [hwb]; simp
      have g3 : wb.cell? ⟨w2.heap.size, 3, none⟩ = some (.slice p.a3 c.z.aud.length p.c3) := by rw [hwb]; simp
      have g4 : wb.cell? ⟨w2.heap.size, 4, none⟩ = some (.slice p.a4 c.z.act.length p.c4) := by rw [hwb]; simp
      have g5 : wb.cell? ⟨w2.heap.size, 5, none⟩ = some (.int .i64 c.z.exp) := by rw [hwb]; simp
      have hB2 : Below w.heap.size w w2 := (unhide HB1).trans (hb2.mono hs1)
      have hBb : Below w.heap.size w wb := hB2.trans (hbb.mono (show w.heap.size ≤ w2.heap.size by omega))
      have hSb := (unhide HS).below hBb
      have hcl : CzL wb.drew wb.heap.size c.z p := ((hL2.czl.below hbb).up (show w2.heap.size ≤ wb.heap.size by omega)).below (Below.refl _ wb).drew
      obtain ⟨fp, hfp⟩ : ∃ fp : Option Addr, fp = (findG G c).map fun i => ⟨(G.getD i default).b, 0, none⟩ := ⟨_, rfl⟩
      have hFn := Find_any c p wb.drew s R O now vk vs vg ks cs Qs G (hSb.below (Below.refl _ wb).drew) hcl
      rw [← hfp] at hFn
      have HFn := hide hFn
      have HFP := hide hfp
      have htk : takeS ks G now t = match findG G c with | none => (none, 6) | some i => if aliveG G now (some i) = true then (some i, 0) else (none, 6) := by rw [unhide HTK, hrd]
      have HTK2 := hide htk
      have HWB := hide hwb
      have HBb := hide hBb
      clear htk hwb hBb hSb hcl hB2 hbb hb2 hrd hL2 hZ HTK hFn hfp
      unfold czA at *
      generalize c.z.id = zi at *
      generalize c.z.exp = ze at *
      generalize c.z.sub = zs at *
      generalize c.z.scp.length = z2 at *
      generalize c.z.aud.length = z3 at *
      generalize c.z.act.length = z4 at *
      go_wp2_with fail
      rw [← unhide HWB]
      clear HWB
      go_region_held3 (fun w' => w'.cell? ⟨w2.heap.size, 0, none⟩ = some (.int .i64 zi) ∧ w'.cell? ⟨w2.heap.size, 1, none⟩ = some (.string ⟨zs.toArray⟩) ∧ w'.cell? ⟨w2.heap.size, 2, none⟩ = some (.slice p.a2 z2 p.c2) ∧ w'.cell? ⟨w2.heap.size, 3, none⟩ = some (.slice p.a3 z3 p.c3) ∧ w'.cell? ⟨w2.heap.size, 4, none⟩ = some (.slice p.a4 z4 p.c4) ∧ w'.cell? ⟨w2.heap.size, 5, none⟩ = some (.int .i64 ze)) (go_keep)
        (first | (go_at_call 143; refine (unhide HFn).mono ?_; rintro e w3 ⟨rfl, hb3⟩; have t0 := (hb3.cell (p := ⟨w2.heap.size, 0, none⟩) (show w2.heap.size < wb.heap.size by omega)).trans g0; have t1 := (hb3.cell (p := ⟨w2.heap.size, 1, none⟩) (show w2.heap.size < wb.heap.size by omega)).trans g1; have t2 := (hb3.cell (p := ⟨w2.heap.size, 2, none⟩) (show w2.heap.size < wb.heap.size by omega)).trans g2; have t3 := (hb3.cell (p := ⟨w2.heap.size, 3, none⟩) (show w2.heap.size < wb.heap.size by omega)).trans g3; have t4 := (hb3.cell (p := ⟨w2.heap.size, 4, none⟩) (show w2.heap.size < wb.heap.size by omega)).trans g4; have t5 := (hb3.cell (p := ⟨w2.heap.size, 5, none⟩) (show w2.heap.size < wb.heap.size by omega)).trans g5))
      have hB3 : Below w.heap.size w w3 := (unhide HBb).drew.trans (hb3.mono (show w.heap.size ≤ wb.heap.size by omega))
      have hS3 := (unhide HS).below hB3
      have r0 : w3.cell? ⟨s, 0, none⟩ = some (.int .i64 (now : Nat)) := hS3.row.cell (j := 0) (by decide)
      have hsz3 : s < w3.heap.size := hS3.lt
      have HB3 := hide hB3
      have HS3 := hide hS3
      clear hB3 hS3 hb3 t0 t1 t2 t3 t4 t5 g0 g1 g2 g3 g4 g5 HFn HBb
      cases hfg : findG G c with
      | none =>
        have hfp := unhide HFP
        rw [hfg] at hfp
        simp only [Option.map_none] at hfp
        have htk := unhide HTK2
        rw [hfg] at htk
        have HTK3 := hide htk
        clear htk HTK2 HFP hfg
        subst hfp
        go_wp2_with fail
        go_ret2
        exact ⟨by rw [unhide HTK3]; rfl, unhide HB3⟩
      | some i =>
        have hfp := unhide HFP
        rw [hfg] at hfp
        simp only [Option.map_some] at hfp
        have htk := unhide HTK2
        rw [hfg] at htk
        have HTK3 := hide htk
        have HAl := hide (IsAlive_any i w3 s R O now vk vs vg ks cs Qs G (unhide HS3) (findG_lt hfg))
        clear htk HTK2 HFP hfg
        generalize hgb : (G.getD i default).b = gb at *
        have HGB := hide hgb
        subst hfp
        clear hgb
        generalize hal : aliveG G now (some i) = al at *
        have HAL := hide hal
        clear hal
        go_wp2_with fail
        refine (unhide HAl).mono ?_
        rintro e w4 ⟨rfl, rfl⟩
        cases al with
        | true =>
          go_wp2_with fail
          go_ret2
          refine ⟨?_, unhide HB3⟩
          rw [unhide HTK3, unhide HAL, if_pos rfl, Option.map_some, unhide HGB]
          rfl
        | false =>
          go_wp2_with fail
          go_ret2
          refine ⟨?_, unhide HB3⟩
          rw [unhide HTK3, unhide HAL, if_neg (by decide)]
          rfl
    · have htk : takeS ks G now t = (none, 2) := by rw [unhide HTK, hrd]
      have HTK2 := hide htk
      have HB2 := hide ((unhide HB1).trans (hb2.mono hs1))
      clear htk hb2 hrd hL2 hZ HTK
      unfold czA
      go_wp2_with fail
      go_ret2
      refine ⟨by rw [unhide HTK2]; rfl, ?_⟩
      refine (unhide HB2).trans (((Below.refl _ _).alloc (Nat.le_refl _) _).mono (by omega))
end Go.Proofs.YtkmkkmdpjliifaaGreatDoor
