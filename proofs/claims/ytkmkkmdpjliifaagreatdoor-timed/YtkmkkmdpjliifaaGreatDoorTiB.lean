import Derived.Test.YtkmkkmdpjliifaaGreatDoorTiA
namespace Go.Proofs.YtkmkkmdpjliifaaGreatDoor
open Go.ChangeShapes Go.WideShapes Go.ChangeAt Go.RowKit

theorem tick_num {n : Nat} (h : n < 2200) : wrap64 ((n : Int) - 1) = (n : Int) - 1 := w64 _ (by omega) (by omega)
theorem small_numT {k : Nat} (h : k < 40) : wrap64 ((k : Int) + 1) = (k : Int) + 1 := w64 _ (by omega) (by omega)
set_option maxRecDepth 20000 in
set_option maxHeartbeats 4000000 in
set_option linter.unusedSimpArgs false in
theorem Timed_any (v : Value) (St : List Stp) (m : Int) (w : World) (hT : TT w.heap.size w) (hm : In64 m) (hl : St.length ≤ 8796093022208) (hSt : LsT w w.heap.size v St) :
    Calls Tryz.prog 9 #[v, .int .i64 m] w fun e w' => e = .returned (.bool true) ∧ Below w.heap.size w w' := by
  have HTr := hide (tree_any v St w hT hl hSt)
  obtain ⟨ast, cst, rfl, _⟩ := hSt
  obtain ⟨hn1, hn2⟩ := pickN_lt m 2200 (by decide)
  have HPk : Hid (∀ u : World, Calls Tryz.prog 26 #[.int .i64 m, .int .i64 2200] u fun e w' => e = .returned (.int .i64 (pickN m 2200 : Nat)) ∧ u = w') := fun u => by
    have h := pickK_any m 2200 u hm (by decide)
    rw [show pickZ m 2200 = ((pickN m 2200 : Nat) : Int) from hn2] at h
    exact h.mono (fun e w' ⟨h1, h2⟩ => ⟨h1, h2.symm⟩)
  generalize pickN m 2200 = n at *
  have HT := hide hT
  have HN := hide hn1
  clear hT hl hn2 hn1 hm
  go_enter Tryz.func9, Tryz.ntmps9
  go_wp2_with fail
  refine (unhide HTr).mono ?_
  rintro e w1 ⟨gp, s, R, O, vk, vs, vg, Qs, G, vt, vc, vp, C, rfl, hS, h3⟩
  have r0 : w1.cell? ⟨gp, 0, none⟩ = some (.pointer (some ⟨s, 0, none⟩)) := hS.tr.row.cell (j := 0) (by decide)
  have r4 : w1.cell? ⟨gp, 4, none⟩ = some (.bool false) := hS.tr.row.cell (j := 4) (by decide)
  have HTk : Hid (Calls Tryz.prog 36 #[.pointer (some ⟨s, 0, none⟩), .int .i64 (n : Nat)] w1 fun e w' => e = .returned (.int .i64 0) ∧ Sv w' s R O n vk vs vg ks0 cs0 Qs G ∧ But s w1 w') := by
    refine (Tick_any (n : Nat) w1 s R O 0 vk vs vg ks0 cs0 Qs G hS.tr.sv).mono ?_
    rintro e w' (⟨h1, _⟩ | ⟨_, rfl, _, _, h5, h6⟩)
    · unfold tickE at h1
      rw [if_neg (by have := unhide HN; omega)] at h1
      cases h1
    · exact ⟨rfl, h5, h6⟩
  have HS := hide (And.intro hS h3)
  clear hS h3
  try dsimp only
  go_wp2_with fail
  refine (unhide HPk w1).mono ?_
  rintro e w' ⟨rfl, rfl⟩
  try dsimp only
  go_wp2_with fail
  refine (unhide HTk).mono ?_
  rintro e w2 ⟨rfl, hSv, hBut⟩
  obtain ⟨hS, h3⟩ := unhide HS
  have hTr2 := hS.tr.tick hSv hBut
  have hb12 : Below s w1 w2 := ⟨hBut.os, hBut.tape, hBut.output, Nat.le_of_eq hBut.size.symm, fun k hk => hBut.block k (Nat.ne_of_lt hk)⟩
  obtain ⟨gt, ct, gc, cc, ga, ca, hV⟩ := hTr2.view hS.cm h3
  have HB2 := hide (hS.bel.trans (hb12.mono hS.w0s))
  have h40 := hS.tr.sv.small
  have HB : Hid (∀ u, Below w2.heap.size w2 u → TrV w2.heap.size u gp s gt ct gc cc ga ca G (fun i => (C.getD i (cm0, pl0)).2)) := fun u hu => hV.below hu
  have hT2 := (unhide HT).below (unhide HB2)
  have HLK : Hid (∀ i, i < G.length → ∀ u : World, Below w2.heap.size w2 u → Calls Tryz.prog 32 #[.pointer (some ⟨s, 0, none⟩), .agg #[.string ⟨#[99, 48]⟩, .string ⟨#[115, 48]⟩], .string ⟨(tokG G i).toArray⟩] u fun e w' => ∃ p', e = .returned (.tuple #[.agg (czA (lkC G (aliveG G n (some i)) i) p'), .bool (aliveG G n (some i)), .int .i64 0]) ∧ CzN w' (New u w') (lkC G (aliveG G n (some i)) i) p' ∧ Below u.heap.size u w') := fun i hi u hu =>
    look_tr (m := 0) (hTr2.sv.below hu) ((hT2.tb hS.w0s).below (hu.mono (Nat.le_of_lt hTr2.sv.lt))) ((hT2.mx).below (Nat.lt_trans (hS.s4 (unhide HT)) hTr2.sv.lt) hu) (hS.s4 (unhide HT)) (by decide) hi rfl
  have HAl : Hid (∀ i, i < G.length → aliveG G n (some i) = decide (n < (G.getD i default).c.exp)) := fun i hi => hS.ok.alive n (i + 1) i (Nat.lt_succ_self _) hi
  have HTb : Hid (∀ u, Below w2.heap.size w2 u → Calls Tryz.prog 36 #[.pointer (some ⟨s, 0, none⟩), .int .i64 ((n : Int) - 1)] u fun e w' => e = .returned (.int .i64 1) ∧ u = w') := fun u hu => by
    refine (Tick_any ((n : Int) - 1) u s R O n vk vs vg ks0 cs0 Qs G (hTr2.sv.below hu)).mono ?_
    rintro e w' (⟨_, rfl, rfl⟩ | ⟨h1, _⟩)
    · exact ⟨rfl, rfl⟩
    · unfold tickE at h1
      rw [if_pos (Or.inl (by omega))] at h1
      cases h1
  have HLT := hide (And.intro hV.b1 hV.b2)
  have H40 := hide h40
  have hwm := tick_num (unhide HN)
  clear hS h3 hTr2 hb12 hV h40 hT2 hSv hBut HS HTk HTr r0 r4
  try dsimp only
  go_wp2_with fail
  go_loopg [8] G.length (fun q i wr => ∃ k : Nat, k + q = G.length ∧ i = .int .i64 (k : Nat) ∧ Below w2.heap.size w2 wr)
  case atStart => exact ⟨0, Nat.zero_add _, rfl, Below.refl _ _⟩
  case round =>
    obtain ⟨k, hk, rfl, hb⟩ := hrel
    have HBr := hide hb
    have hV := unhide HB wr hb
    have q1 := hV.r1
    by_cases hlt : k < G.length
    · have hkI : (k : Int) < (G.length : Int) := Int.ofNat_lt.2 hlt
      have HM : Hid (gk - 1 < gk ∧ k + 1 + (gk - 1) = G.length) := ⟨by omega, by omega⟩
      have HW := hide (small_numT (Nat.lt_of_lt_of_le hlt (unhide H40)))
      have hwr := hb.size
      have q0 := hV.r0
      have q2 := hV.t k hlt
      have HLt : Hid (gp < wr.heap.size ∧ gt < wr.heap.size) := ⟨Nat.lt_of_lt_of_le (unhide HLT).1 hwr, Nat.lt_of_lt_of_le (unhide HLT).2 hwr⟩
      have HCl : Hid (∀ u, Below wr.heap.size wr u → u.cell? ⟨gp, 0, none⟩ = some (.pointer (some ⟨s, 0, none⟩)) ∧ u.cell? ⟨gp, 1, none⟩ = some (.slice (some ⟨gt, 0, none⟩) G.length ct) ∧ u.cell? ⟨gt, k, none⟩ = some (.string ⟨(tokG G k).toArray⟩)) := fun u hu =>
        let z := unhide HB u (hb.trans (hu.mono hwr))
        ⟨z.r0, z.r1, z.t k hlt⟩
      have HLo : Hid (∀ u : World, Below wr.heap.size wr u → Calls Tryz.prog 31 #[.int .i64 0] u fun e w' => e = .returned (.agg #[.string ⟨#[99, 48]⟩, .string ⟨#[115, 48]⟩]) ∧ Below u.heap.size u w' ∧ Below wr.heap.size wr w') := fun u hu =>
        (login_any 0 (by decide) u).mono (fun e w' ⟨h1, h2⟩ => ⟨h1, h2, hu.trans (h2.mono hu.size)⟩)
      have hal := unhide HAl k hlt
      have HLk : Hid (∀ u : World, Below wr.heap.size wr u → Calls Tryz.prog 32 #[.pointer (some ⟨s, 0, none⟩), .agg #[.string ⟨#[99, 48]⟩, .string ⟨#[115, 48]⟩], .string ⟨(tokG G k).toArray⟩] u fun e w' => ∃ p', e = .returned (.tuple #[.agg #[.int .i64 (lkC G (aliveG G n (some k)) k).id, .string ⟨(lkC G (aliveG G n (some k)) k).sub.toArray⟩, .slice p'.a2 (lkC G (aliveG G n (some k)) k).scp.length p'.c2, .slice p'.a3 (lkC G (aliveG G n (some k)) k).aud.length p'.c3, .slice p'.a4 (lkC G (aliveG G n (some k)) k).act.length p'.c4, .int .i64 (lkC G (aliveG G n (some k)) k).exp], .bool (aliveG G n (some k)), .int .i64 0]) ∧ CzN w' (New u w') (lkC G (aliveG G n (some k)) k) p' ∧ Below u.heap.size u w' ∧ Below wr.heap.size wr w') := fun u hu =>
        (unhide HLK k hlt u (hb.trans (hu.mono hwr))).mono (fun e w' ⟨p', h1, h2, h3⟩ => ⟨p', h1, h2, h3, hu.trans (h3.mono hu.size)⟩)
      have hE : (G.getD k default).c.z.exp = (((G.getD k default).c.exp : Nat) : Int) := rfl
      generalize lkC G (aliveG G n (some k)) k = cz at *
      generalize hAB : aliveG G n (some k) = AB at *
      generalize tokG G k = tx at *
      have nnw : gp ≠ wr.heap.size := by have := unhide HLt; omega
      have mmw : wr.heap.size ≠ gp := by have := unhide HLt; omega
      have nnx : gt ≠ wr.heap.size := by have := unhide HLt; omega
      have mmx : wr.heap.size ≠ gt := by have := unhide HLt; omega
      have HAB := hide (And.intro hal hE)
      have HV := hide hV
      clear hal hE hV hb hAB
      go_wp2_with fail
      go_cut [9, 10, 11] from 33 to 70 (fun pt ok er wc => LkQ wr cz AB pt ok er wc)
      case first =>
        go_region_held3 (fun w' => w'.cell? ⟨gp, 0, none⟩ = some (.pointer (some ⟨s, 0, none⟩)) ∧ w'.cell? ⟨gp, 1, none⟩ = some (.slice (some ⟨gt, 0, none⟩) G.length ct) ∧ w'.cell? ⟨gt, k, none⟩ = some (.string ⟨tx.toArray⟩)) (go_keep)
          (first
            | (go_at_call 31; refine (unhide HLo _ (by first | exact (Below.refl _ _).drew | exact ((Below.refl _ _).drew.alloc (Nat.le_refl _) _))).mono ?_; rintro e wB ⟨rfl, bB, BBb⟩; obtain ⟨x0b, x1b, x2b⟩ := unhide HCl wB BBb; (try (have R9 : Row wB wr.heap.size 60 6 (czF cz0 pl0) := (Row.new wr.drew 60 #[.int .i64 0, .string ⟨#[]⟩, .slice none 0 0, .slice none 0 0, .slice none 0 0, .int .i64 0] (czF cz0 pl0) 6 rfl (six rfl rfl rfl rfl rfl rfl)).below bB (by simp); have q0 : wB.cell? ⟨wr.heap.size, 0, none⟩ = some (.int .i64 0) := R9.cell (by decide); have f0 := R9.frozen 0; have q1 : wB.cell? ⟨wr.heap.size, 1, none⟩ = some (.string ⟨#[]⟩) := R9.cell (by decide); have f1 := R9.frozen 1; have q2 : wB.cell? ⟨wr.heap.size, 2, none⟩ = some (.slice none 0 0) := R9.cell (by decide); have f2 := R9.frozen 2; have q3 : wB.cell? ⟨wr.heap.size, 3, none⟩ = some (.slice none 0 0) := R9.cell (by decide); have f3 := R9.frozen 3; have q4 : wB.cell? ⟨wr.heap.size, 4, none⟩ = some (.slice none 0 0) := R9.cell (by decide); have f4 := R9.frozen 4; have q5 : wB.cell? ⟨wr.heap.size, 5, none⟩ = some (.int .i64 0) := R9.cell (by decide); have f5 := R9.frozen 5)); have n1b : gp ≠ wB.heap.size := (by have := BBb.size; have := unhide HLt; omega); have m1b : wB.heap.size ≠ gp := (by have := BBb.size; have := unhide HLt; omega); have n2b : gt ≠ wB.heap.size := (by have := BBb.size; have := unhide HLt; omega); have m2b : wB.heap.size ≠ gt := (by have := BBb.size; have := unhide HLt; omega); have R2 := hide (And.intro bB BBb); clear bB BBb)
            | (go_at_call 32; refine (unhide HLk _ (by first | exact (unhide R2).2 | exact (unhide R2).2.alloc (unhide R2).2.size _)).mono ?_; rintro e wC ⟨pC, rfl, nC, bC, BBc⟩; obtain ⟨x0c, x1c, x2c⟩ := unhide HCl wC BBc; (first | (have R9 : Row wC wB.heap.size 60 6 (czF cz0 pl0) := (Row.new wB 60 #[.int .i64 0, .string ⟨#[]⟩, .slice none 0 0, .slice none 0 0, .slice none 0 0, .int .i64 0] (czF cz0 pl0) 6 rfl (six rfl rfl rfl rfl rfl rfl)).below bC (by simp); have q0 : wC.cell? ⟨_, 0, none⟩ = some (.int .i64 0) := R9.cell (by decide); have f0 := R9.frozen 0; have q1 : wC.cell? ⟨_, 1, none⟩ = some (.string ⟨#[]⟩) := R9.cell (by decide); have f1 := R9.frozen 1; have q2 : wC.cell? ⟨_, 2, none⟩ = some (.slice none 0 0) := R9.cell (by decide); have f2 := R9.frozen 2; have q3 : wC.cell? ⟨_, 3, none⟩ = some (.slice none 0 0) := R9.cell (by decide); have f3 := R9.frozen 3; have q4 : wC.cell? ⟨_, 4, none⟩ = some (.slice none 0 0) := R9.cell (by decide); have f4 := R9.frozen 4; have q5 : wC.cell? ⟨_, 5, none⟩ = some (.int .i64 0) := R9.cell (by decide); have f5 := R9.frozen 5) | (have R9 := Row.below R9 bC (Row.lt R9); have q0 : wC.cell? ⟨_, 0, none⟩ = some (.int .i64 0) := R9.cell (by decide); have f0 := R9.frozen 0; have q1 : wC.cell? ⟨_, 1, none⟩ = some (.string ⟨#[]⟩) := R9.cell (by decide); have f1 := R9.frozen 1; have q2 : wC.cell? ⟨_, 2, none⟩ = some (.slice none 0 0) := R9.cell (by decide); have f2 := R9.frozen 2; have q3 : wC.cell? ⟨_, 3, none⟩ = some (.slice none 0 0) := R9.cell (by decide); have f3 := R9.frozen 3; have q4 : wC.cell? ⟨_, 4, none⟩ = some (.slice none 0 0) := R9.cell (by decide); have f4 := R9.frozen 4; have q5 : wC.cell? ⟨_, 5, none⟩ = some (.int .i64 0) := R9.cell (by decide); have f5 := R9.frozen 5) | skip); have n1c : gp ≠ wC.heap.size := (by have := BBc.size; have := unhide HLt; omega); have m1c : wC.heap.size ≠ gp := (by have := BBc.size; have := unhide HLt; omega); have n2c : gt ≠ wC.heap.size := (by have := BBc.size; have := unhide HLt; omega); have m2c : wC.heap.size ≠ gt := (by have := BBc.size; have := unhide HLt; omega); have R3 := hide (And.intro nC (And.intro bC BBc)); clear nC bC BBc))
        · go_wp2_with fail
          go_meet
          exact lkq_of (grqA (unhide R2).2 (unhide R3))
        · go_wp2_with fail
          go_meet
          exact lkq_of (grqB (unhide R2).2 (unhide R3) R9)
        · go_wp2_with fail
          go_meet
          exact lkq_of (grqC (unhide R2).1 (unhide R3) R9)
      case rest =>
        obtain ⟨p', g, rfl, rfl, rfl, _, _, _, hbc⟩ := hcut
        have HBC := hide ((unhide HBr).trans (hbc.mono hwr))
        have hVc := unhide HB wc (unhide HBC)
        have d2 := hVc.r2
        have d5 : wc.cell? ⟨gc, k * 6 + 5, none⟩ = some (.int .i64 (((G.getD k default).c.exp : Nat) : Int)) := hVc.c k hlt 5 (by decide)
        obtain ⟨hal, _⟩ := unhide HAB
        generalize (G.getD k default).c.exp = ex at *
        subst hal
        have hw := unhide HW
        clear hVc hbc q0 q1 q2 HCl HLo HLk HAB HV
        by_cases he : n < ex
        · have he2 : (n : Int) < (ex : Int) := Int.ofNat_lt.2 he
          have he3 : decide (n < ex) = true := decide_eq_true he
          rw [he3]
          clear he3 he
          go_wp2_with fail
          go_roundg (gk - 1)
          case measure => exact (unhide HM).1
          case rel => exact ⟨k + 1, (unhide HM).2, by first | exact num1 hw | rfl, unhide HBC⟩
        · have he2 : decide ((n : Int) < (ex : Int)) = false := decide_eq_false (by omega)
          have he4 : ¬ (n : Int) < (ex : Int) := by omega
          have he3 : decide (n < ex) = false := decide_eq_false he
          rw [he3]
          clear he3 he
          go_wp2_with fail
          go_roundg (gk - 1)
          case measure => exact (unhide HM).1
          case rel => exact ⟨k + 1, (unhide HM).2, by first | exact num1 hw | rfl, unhide HBC⟩
    · have hkn : k = G.length := by omega
      have hkd : decide ((k : Int) < (G.length : Int)) = false := decide_eq_false (by omega)
      have q0 := hV.r0
      have HTe := hide (unhide HTb wr hb)
      subst hkn
      clear hk hb hV
      go_wp2_with fail
      refine (unhide HTe).mono ?_
      rintro e w' ⟨rfl, rfl⟩
      try dsimp only
      go_wp2_with fail
      go_ret
      exact ⟨rfl, (unhide HB2).trans ((unhide HBr).mono (unhide HB2).size)⟩
end Go.Proofs.YtkmkkmdpjliifaaGreatDoor
