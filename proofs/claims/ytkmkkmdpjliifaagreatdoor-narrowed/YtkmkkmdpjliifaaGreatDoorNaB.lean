import Derived.Test.YtkmkkmdpjliifaaGreatDoorTrH
namespace Go.Proofs.YtkmkkmdpjliifaaGreatDoor
open Go.ChangeShapes Go.WideShapes Go.ChangeAt Go.RowKit

theorem small_num {k : Nat} (h : k < 40) : wrap64 ((k : Int) + 1) = (k : Int) + 1 := w64 _ (by omega) (by omega)
set_option maxRecDepth 20000 in
set_option maxHeartbeats 4000000 in
theorem Narrowed_any (v : Value) (St : List Stp) (w : World) (hT : TT w.heap.size w) (hl : St.length ≤ 8796093022208) (hSt : LsT w w.heap.size v St) :
    Calls Tryz.prog 6 #[v] w fun e w' => e = .returned (.bool true) ∧ Below w.heap.size w w' := by
  have HTr := hide (tree_any v St w hT hl hSt)
  obtain ⟨ast, cst, rfl, _⟩ := hSt
  clear hT hl
  go_enter Tryz.func6, Tryz.ntmps6
  go_wp2_with fail
  refine (unhide HTr).mono ?_
  rintro e w1 ⟨gp, s, R, O, vk, vs, vg, Qs, G, vt, vc, vp, C, rfl, hS, h3⟩
  obtain ⟨gt, ct, rfl, hct⟩ := hS.texts h3
  obtain ⟨gc, cc, rfl, hgc, hcl⟩ := hS.claims h3
  obtain ⟨ga, ca, rfl, hga, hpa⟩ := hS.parents h3
  have hgl := hS.lt
  have h40 := hS.tr.sv.small
  have r1 : w1.cell? ⟨gp, 1, none⟩ = some (.slice (some ⟨gt, 0, none⟩) G.length ct) := hS.tr.row.cell (j := 1) (by decide)
  have r2 : w1.cell? ⟨gp, 2, none⟩ = some (.slice (some ⟨gc, 0, none⟩) G.length cc) := hS.tr.row.cell (j := 2) (by decide)
  have r3 : w1.cell? ⟨gp, 3, none⟩ = some (.slice (some ⟨ga, 0, none⟩) G.length ca) := hS.tr.row.cell (j := 3) (by decide)
  have r4 : w1.cell? ⟨gp, 4, none⟩ = some (.bool false) := hS.tr.row.cell (j := 4) (by decide)
  have HG : Hid (∀ u, Below w1.heap.size w1 u → u.cell? ⟨gp, 1, none⟩ = some (.slice (some ⟨gt, 0, none⟩) G.length ct) ∧ u.cell? ⟨gp, 2, none⟩ = some (.slice (some ⟨gc, 0, none⟩) G.length cc) ∧ u.cell? ⟨gp, 3, none⟩ = some (.slice (some ⟨ga, 0, none⟩) G.length ca)) := fun u hu => ⟨(hu.cell (p := ⟨gp, 1, none⟩) hgl).trans r1, (hu.cell (p := ⟨gp, 2, none⟩) hgl).trans r2, (hu.cell (p := ⟨gp, 3, none⟩) hgl).trans r3⟩
  have HC : Hid (∀ u, Below w1.heap.size w1 u → ∀ i, i < G.length → (∀ j, j < 6 → u.cell? ⟨gc, i * 6 + j, none⟩ = some (czF (G.getD i default).c.z (C.getD i (cm0, pl0)).2 j)) ∧ CzL u w1.heap.size (G.getD i default).c.z (C.getD i (cm0, pl0)).2) := fun u hu i hi => ⟨fun j hj => (hu.cell (p := ⟨gc, i * 6 + j, none⟩) hgc).trans ((hcl i hi).1 j hj), (hcl i hi).2.below hu⟩
  have HP : Hid (∀ u, Below w1.heap.size w1 u → ∀ i, i < G.length → u.cell? ⟨ga, i, none⟩ = some (.int .i64 (parI (G.getD i default)))) := fun u hu i hi => (hu.cell (p := ⟨ga, i, none⟩) hga).trans (hpa i hi)
  have HS := hide hS
  have H40 := hide h40
  have HB1 := hide hS.bel
  clear hS hct hcl hpa hgl hgc hga h3 h40 r1 r2 r3
  try dsimp only
  go_wp2_with fail
  go_loopg [4] G.length (fun q i wr => ∃ k : Nat, k + q = G.length ∧ i = .int .i64 (k : Nat) ∧ Below w1.heap.size w1 wr)
  case atStart => exact ⟨0, Nat.zero_add _, rfl, Below.refl _ _⟩
  case round =>
    obtain ⟨k, hk, rfl, hb⟩ := hrel
    have HB := hide hb
    obtain ⟨q1, q2, q3⟩ := unhide HG wr hb
    by_cases hlt : k < G.length
    · have hkI : (k : Int) < (G.length : Int) := Int.ofNat_lt.2 hlt
      have HM : Hid (gk - 1 < gk ∧ k + 1 + (gk - 1) = G.length) := ⟨by omega, by omega⟩
      have HW := hide (small_num (Nat.lt_of_lt_of_le hlt (unhide H40)))
      obtain ⟨hA, hL⟩ := unhide HC wr hb k hlt
      have hP := unhide HP wr hb k hlt
      have hsc := (unhide HS).ok.scp k hlt
      have hau := (unhide HS).ok.aud k hlt
      have hpar := (unhide HS).ok.par k hlt
      have hri := (unhide HS).tr.sv.right k hlt
      generalize G.getD k default = g1 at hA hL hP hsc hau hpar hri
      generalize (C.getD k (cm0, pl0)).2 = pz at hA hL
      obtain ⟨cz, hcz⟩ : ∃ cz, cz = g1.c.z := ⟨_, rfl⟩
      have HCS := hide (right_czs hri)
      rw [← hcz] at hA hL HCS
      have hsc0 : 0 < cz.scp.length := by rw [hcz]; exact hsc
      have hau0 : 0 < cz.aud.length := by rw [hcz]; exact hau
      have HPAR := hide hpar
      have HCZ := hide hcz
      clear hsc hau hpar hri hcz
      have ds1 : (((cz.scp.length : Nat) : Int) == 0) = false := beq_eq_false_iff_ne.2 (fun e => Nat.ne_of_gt hsc0 (Int.ofNat_eq_zero.1 e))
      have da1 : (((cz.aud.length : Nat) : Int) == 0) = false := beq_eq_false_iff_ne.2 (fun e => Nat.ne_of_gt hau0 (Int.ofNat_eq_zero.1 e))
      have ds2 : ¬ cz.scp.length = 0 := Nat.ne_of_gt hsc0
      have da2 : ¬ cz.aud.length = 0 := Nat.ne_of_gt hau0
      have x0 : wr.cell? ⟨gc, k * 6, none⟩ = some (.int .i64 cz.id) := (hA 0 (by decide))
      have x1 : wr.cell? ⟨gc, k * 6 + 1, none⟩ = some (.string ⟨cz.sub.toArray⟩) := (hA 1 (by decide))
      have x2 : wr.cell? ⟨gc, k * 6 + 2, none⟩ = some (.slice pz.a2 cz.scp.length pz.c2) := (hA 2 (by decide))
      have x3 : wr.cell? ⟨gc, k * 6 + 3, none⟩ = some (.slice pz.a3 cz.aud.length pz.c3) := (hA 3 (by decide))
      have x4 : wr.cell? ⟨gc, k * 6 + 4, none⟩ = some (.slice pz.a4 cz.act.length pz.c4) := (hA 4 (by decide))
      have x5 : wr.cell? ⟨gc, k * 6 + 5, none⟩ = some (.int .i64 cz.exp) := (hA 5 (by decide))
      obtain ⟨wa, hwa⟩ : ∃ wa, wa = wr.alloc (.cells #[.int .i64 cz.id, .string ⟨cz.sub.toArray⟩, .slice pz.a2 cz.scp.length pz.c2, .slice pz.a3 cz.aud.length pz.c3, .slice pz.a4 cz.act.length pz.c4, .int .i64 cz.exp] 60) := ⟨_, rfl⟩
      have hba : Below wr.heap.size wr wa := by rw [hwa]; exact (Below.refl _ _).alloc (Nat.le_refl _) _
      have hRa : Row wa wr.heap.size 60 6 (czF cz pz) := by rw [hwa]; exact Row.new wr 60 _ _ 6 rfl (six rfl rfl rfl rfl rfl rfl)
      have hwr := hb.size
      have hBa := hb.trans (hba.mono hwr)
      have HBA := hide hBa
      have HRA := hide hRa
      have HLA := hide (hL.below (hba.mono hwr))
      have HWA := hide hwa
      have zG : ∀ o, (wr.alloc o).cell? ⟨gp, 3, none⟩ = some (.slice (some ⟨ga, 0, none⟩) G.length ca) := fun o => (unhide HG _ (hb.alloc hwr o)).2.2
      have zP : ∀ o, (wr.alloc o).cell? ⟨ga, k, none⟩ = some (.int .i64 (parI g1)) := fun o => (((Below.refl wr.heap.size wr).alloc (Nat.le_refl _) o).cell (p := ⟨ga, k, none⟩) (World.block_lt_of_cell? _ _ hP)).trans hP
      clear hA hL hP hb hba hRa hBa hwa
      generalize hpi : parI g1 = pi at *
      cases hp : g1.p with
      | none =>
        have hpi2 : pi = -1 := by rw [← hpi]; unfold parI; rw [hp]
        subst hpi2
        have hw := unhide HW
        clear hp hpi
        go_wp2_with fail
        go_roundg (gk - 1)
        case measure => exact (unhide HM).1
        case rel => exact ⟨k + 1, (unhide HM).2, by first | exact num1 hw | rfl, (unhide HB).alloc hwr _⟩
      | some j =>
        have hpi2 : pi = ((j : Nat) : Int) := by rw [← hpi]; unfold parI; rw [hp]
        subst hpi2
        obtain ⟨hjk, hbl⟩ := unhide HPAR j hp
        have hjG : j < G.length := Nat.lt_trans hjk hlt
        have hjI : (j : Int) < (G.length : Int) := Int.ofNat_lt.2 hjG
        have hj0 : ¬ (j : Int) < 0 := Int.not_lt.2 (Int.natCast_nonneg _)
        clear hp hpi
        obtain ⟨hA2, hL2⟩ := unhide HC wa (unhide HBA) j hjG
        have hri2 := (unhide HS).tr.sv.right j hjG
        generalize G.getD j default = g2 at hA2 hL2 hbl hri2
        generalize (C.getD j (cm0, pl0)).2 = pp at hA2 hL2
        obtain ⟨cp, hcp⟩ : ∃ cp, cp = g2.c.z := ⟨_, rfl⟩
        have HCS2 := hide (right_czs hri2)
        rw [← hcp] at hA2 hL2 HCS2
        have hin : (∀ x ∈ cz.scp, x ∈ cp.scp) ∧ (∀ x ∈ cz.aud, x ∈ cp.aud) ∧ cz.exp ≤ cp.exp ∧ cz.sub = cp.sub ∧ (cz.act = cp.act ∨ ∃ x, cz.act = x :: cp.act) := by
          rw [unhide HCZ, hcp]
          exact ⟨hbl.scp, hbl.aud, Int.ofNat_le.2 hbl.exp, hbl.sub, hbl.act⟩
        have HIN := hide hin
        have HL2 := hide hL2
        obtain ⟨a1, a2, a3⟩ := unhide HG wa (unhide HBA)
        have a4 : wa.cell? ⟨ga, k, none⟩ = some (.int .i64 ((j : Nat) : Int)) := by rw [unhide HWA]; exact zP _
        have b0 : wa.cell? ⟨gc, j * 6, none⟩ = some (.int .i64 cp.id) := (hA2 0 (by decide))
        have b1 : wa.cell? ⟨gc, j * 6 + 1, none⟩ = some (.string ⟨cp.sub.toArray⟩) := (hA2 1 (by decide))
        have b2 : wa.cell? ⟨gc, j * 6 + 2, none⟩ = some (.slice pp.a2 cp.scp.length pp.c2) := (hA2 2 (by decide))
        have b3 : wa.cell? ⟨gc, j * 6 + 3, none⟩ = some (.slice pp.a3 cp.aud.length pp.c3) := (hA2 3 (by decide))
        have b4 : wa.cell? ⟨gc, j * 6 + 4, none⟩ = some (.slice pp.a4 cp.act.length pp.c4) := (hA2 4 (by decide))
        have b5 : wa.cell? ⟨gc, j * 6 + 5, none⟩ = some (.int .i64 cp.exp) := (hA2 5 (by decide))
        clear hA2 hL2 hin hbl hri2 hcp
        go_wp2_with fail
        rw [← unhide HWA]
        go_cut [6] from 20 to 119 (fun v6 wc => ∃ b, v6 = .pointer (some ⟨b, 0, none⟩) ∧ Row wc b 60 6 (czF cp pp) ∧ wa.heap.size ≤ b ∧ Below wa.heap.size wa wc)
        case first =>
          go_region_held3 (fun w' => w'.cell? ⟨gp, 2, none⟩ = some (.slice (some ⟨gc, 0, none⟩) G.length cc) ∧ w'.cell? ⟨gp, 3, none⟩ = some (.slice (some ⟨ga, 0, none⟩) G.length ca) ∧ w'.cell? ⟨ga, k, none⟩ = some (.int .i64 (j : Nat)) ∧ w'.cell? ⟨gc, j * 6, none⟩ = some (.int .i64 cp.id) ∧ w'.cell? ⟨gc, j * 6 + 1, none⟩ = some (.string ⟨cp.sub.toArray⟩) ∧ w'.cell? ⟨gc, j * 6 + 2, none⟩ = some (.slice pp.a2 cp.scp.length pp.c2) ∧ w'.cell? ⟨gc, j * 6 + 3, none⟩ = some (.slice pp.a3 cp.aud.length pp.c3) ∧ w'.cell? ⟨gc, j * 6 + 4, none⟩ = some (.slice pp.a4 cp.act.length pp.c4) ∧ w'.cell? ⟨gc, j * 6 + 5, none⟩ = some (.int .i64 cp.exp)) (go_keep) (fail)
          all_goals go_wp2_with fail
          all_goals go_meet
          all_goals exact ⟨_, rfl, (Row.new wa 60 _ _ 6 rfl (six rfl rfl rfl rfl rfl rfl)).keep rfl, Nat.le_refl _, ((Below.refl _ _).alloc (Nat.le_refl _) _).drew⟩
        case rest =>
          obtain ⟨b, rfl, hRb, hbb, hbc⟩ := hcut
          have hwa := (unhide HBA).size
          have hRx := (unhide HRA).below hbc (unhide HRA).lt
          have hLc := (unhide HLA).below (hbc.mono hwa)
          have hLp := (unhide HL2).below (hbc.mono hwa)
          have HBC := hide ((unhide HBA).trans (hbc.mono hwa))
          obtain ⟨n1, n2, n3, n4, n5⟩ := unhide HIN
          have HI1 : Hid (Calls Tryz.prog 28 #[.slice pz.a2 cz.scp.length pz.c2, .slice pp.a2 cp.scp.length pp.c2] wc fun e w' => e = .returned (.bool true) ∧ wc = w') := by
            have h := within_any _ _ cz.scp cp.scp wc w1.heap.size (unhide HCS).l2 (unhide HCS2).l2 hLc.k2 hLp.k2
            rw [(withinB_iff _ _).2 n1] at h
            exact h.mono (fun e w' ⟨h1, h2⟩ => ⟨h1, h2.symm⟩)
          have HI2 : Hid (Calls Tryz.prog 28 #[.slice pz.a3 cz.aud.length pz.c3, .slice pp.a3 cp.aud.length pp.c3] wc fun e w' => e = .returned (.bool true) ∧ wc = w') := by
            have h := within_any _ _ cz.aud cp.aud wc w1.heap.size (unhide HCS).l3 (unhide HCS2).l3 hLc.k3 hLp.k3
            rw [(withinB_iff _ _).2 n2] at h
            exact h.mono (fun e w' ⟨h1, h2⟩ => ⟨h1, h2.symm⟩)
          have HSm := hide (sameK_any _ _ cz.act cp.act wc w1.heap.size (unhide HCS).l4 hLc.k4 hLp.k4)
          have c2 : wc.cell? ⟨wr.heap.size, 2, none⟩ = some (.slice pz.a2 cz.scp.length pz.c2) := hRx.cell (j := 2) (by decide)
          have c3 : wc.cell? ⟨wr.heap.size, 3, none⟩ = some (.slice pz.a3 cz.aud.length pz.c3) := hRx.cell (j := 3) (by decide)
          have c4 : wc.cell? ⟨wr.heap.size, 4, none⟩ = some (.slice pz.a4 cz.act.length pz.c4) := hRx.cell (j := 4) (by decide)
          have d2 : wc.cell? ⟨b, 2, none⟩ = some (.slice pp.a2 cp.scp.length pp.c2) := hRb.cell (j := 2) (by decide)
          have d3 : wc.cell? ⟨b, 3, none⟩ = some (.slice pp.a3 cp.aud.length pp.c3) := hRb.cell (j := 3) (by decide)
          have d4 : wc.cell? ⟨b, 4, none⟩ = some (.slice pp.a4 cp.act.length pp.c4) := hRb.cell (j := 4) (by decide)
          have HRx := hide hRx
          have HRb := hide hRb
          have HLc := hide (And.intro hLc hLp)
          clear hRx hRb hLc hLp hbb hbc b0 b1 b2 b3 b4 b5 a1 a2 a3 a4 zG zP q1 q2 q3 x0 x1 x2 x3 x4 x5 ds1 ds2 da1 da2 n1 n2
          go_wp2_with fail
          refine (unhide HI1).mono ?_
          rintro e w2 ⟨rfl, rfl⟩
          try dsimp only
          go_wp2_with fail
          refine (unhide HI2).mono ?_
          rintro e w2 ⟨rfl, rfl⟩
          try dsimp only
          go_wp2_with fail
          refine (unhide HSm).mono ?_
          rintro e w3 ⟨rfl, nn, rfl⟩
          have hbd : Below wc.heap.size wc (wc.drewN nn) := ⟨rfl, rfl, rfl, Nat.le_refl _, fun _ _ => rfl⟩
          generalize wc.drewN nn = wd at *
          have hRx := (unhide HRx).below hbd (unhide HRx).lt
          have hRb := (unhide HRb).below hbd (unhide HRb).lt
          have HBD := hide ((unhide HBC).trans (hbd.mono (unhide HBC).size))
          have hLd := And.intro ((unhide HLc).1.below (hbd.mono (unhide HBC).size)) ((unhide HLc).2.below (hbd.mono (unhide HBC).size))
          have HLd := hide hLd
          have e1 : wd.cell? ⟨wr.heap.size, 1, none⟩ = some (.string ⟨cz.sub.toArray⟩) := hRx.cell (j := 1) (by decide)
          have e5 : wd.cell? ⟨wr.heap.size, 5, none⟩ = some (.int .i64 cz.exp) := hRx.cell (j := 5) (by decide)
          have f1 : wd.cell? ⟨b, 1, none⟩ = some (.string ⟨cz.sub.toArray⟩) := by rw [n4]; exact hRb.cell (j := 1) (by decide)
          have f5 : wd.cell? ⟨b, 5, none⟩ = some (.int .i64 cp.exp) := hRb.cell (j := 5) (by decide)
          have e4 : wd.cell? ⟨wr.heap.size, 4, none⟩ = some (.slice pz.a4 cz.act.length pz.c4) := hRx.cell (j := 4) (by decide)
          have f4 : wd.cell? ⟨b, 4, none⟩ = some (.slice pp.a4 cp.act.length pp.c4) := hRb.cell (j := 4) (by decide)
          have dx : ¬ cp.exp < cz.exp := Int.not_lt.2 n3
          have dx2 : decide (cp.exp < cz.exp) = false := decide_eq_false dx
          clear c2 c3 c4 d2 d3 d4 hRx hRb hbd hLd n3 n4
          by_cases hact : cz.act = cp.act
          · rw [decide_eq_true hact]
            have hw := unhide HW
            clear n5 hact
            try dsimp only
            go_wp2_with fail
            go_roundg (gk - 1)
            case measure => exact (unhide HM).1
            case rel => exact ⟨k + 1, (unhide HM).2, by first | exact num1 hw | rfl, unhide HBD⟩
          · rw [decide_eq_false hact]
            obtain ⟨x, hx⟩ : ∃ x, cz.act = x :: cp.act := n5.resolve_left hact
            clear n5 hact
            have hlen : cz.act.length = cp.act.length + 1 := by rw [hx]; rfl
            obtain ⟨a', c', ee, hle, hpo⟩ := (unhide HLd).1.k4
            injection ee with e6 e7 e8
            subst e8
            obtain ⟨g4, o4, hg4, _, _⟩ := hpo (by omega)
            rw [hg4] at e6
            have HTl := hide (Ls.tail (x := x) (l := cp.act) (a := pz.a4) (c := pz.c4) (by rw [← hx]; exact (unhide HLd).1.k4) (A := if pz.c4 = 1 then some ⟨g4, o4, none⟩ else some ⟨g4, o4 + 1, none⟩) (fun hc g o he => by
              rw [if_neg (by omega)]
              rw [e6] at he
              injection he with he
              injection he with h1 h2
              rw [h1, h2]))
            rw [e6, hlen] at e4
            rw [hlen] at hle
            obtain ⟨A, hA⟩ : ∃ A : Option Addr, (if pz.c4 = 1 then some ⟨g4, o4, none⟩ else some ⟨g4, o4 + 1, none⟩) = A := ⟨_, rfl⟩
            rw [hA] at HTl
            have HS2 : Hid (∀ n, Calls Tryz.prog 29 #[.slice A cp.act.length (pz.c4 - 1), .slice pp.a4 cp.act.length pp.c4] (wd.drewN n) fun e w' => e = .returned (.bool true) ∧ ∃ m, w' = (wd.drewN n).drewN m) := fun n => by
              have h := sameK_any _ _ cp.act cp.act (wd.drewN n) w1.heap.size (unhide HCS2).l4 ((unhide HTl).drewN n) ((unhide HLd).2.k4.drewN n)
              rw [decide_eq_true rfl] at h
              exact h
            have hw := unhide HW
            clear hpo e7 hg4 hlen hx e6
            try dsimp only
            go_wp2_with fail
            go_quiet (first | (go_at_call 29; exact Calls.quiet_of (unhide HS2 _)))
            go_wp2_with fail
            go_roundg (gk - 1)
            case measure => exact (unhide HM).1
            case rel => exact ⟨k + 1, (unhide HM).2, by first | exact num1 hw | rfl, (unhide HBD).trans ⟨rfl, rfl, rfl, Nat.le_refl _, fun _ _ => rfl⟩⟩
    · have hkn : k = G.length := by omega
      have hkd : decide ((k : Int) < (G.length : Int)) = false := decide_eq_false (by omega)
      subst hkn
      clear hk hb
      go_wp2_with fail
      go_ret
      exact ⟨rfl, (unhide HB1).trans ((unhide HB).mono (unhide HB1).size)⟩
end Go.Proofs.YtkmkkmdpjliifaaGreatDoor
