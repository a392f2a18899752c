import Derived.Test.YtkmkkmdpjliifaaGreatDoorJyB
import Derived.Test.YtkmkkmdpjliifaaGreatDoorNxC
import Derived.Laws.ResultCell
namespace Go.Proofs.YtkmkkmdpjliifaaGreatDoor
open Go.ChangeShapes Go.WideShapes Go.ChangeAt Go.RowKit

theorem mid_any (l : List UInt8) (i n : Nat) (h : i + n ≤ l.length) (u : World) (x y : Int) (hx : x = (i : Nat)) (hy : y = ((i + n : Nat) : Int)) : (Instr.slice 9 (.string ⟨l.toArray⟩) (some (.int .i64 x)) (some (.int .i64 y)) none).run Tryz.prog u = .ok (.string ⟨((l.drop i).take n).toArray⟩) u := by
  subst hx hy
  have h3 : (ByteArray.mk l.toArray).size = l.length := by simp [ByteArray.size]
  rw [run_slice_string (w := u) 9 _ .i64 .i64 _ _ Tryz.underlying9 (by omega) (by omega) (by omega), ByteArray.extract_mk]
  have e : ((i : Int) + (n : Int)).toNat = i + n := by omega
  simp [e]
theorem arr6 (c : Cz) (p : Pl) : arrOf 6 (czF c p) = czA c p := by
  apply Array.ext (by rw [arrOf_size]; rfl)
  intro i h1 h2
  have e := arrOf_get 6 (czF c p) i (by rw [arrOf_size] at h1; exact h1)
  rw [Array.getElem?_eq_getElem h1] at e
  rw [Option.some.inj e]
  rw [arrOf_size] at h1
  exact six (P := fun i => ∀ h2 : i < (czA c p).size, czF c p i = (czA c p)[i]) (fun _ => rfl) (fun _ => rfl) (fun _ => rfl) (fun _ => rfl) (fun _ => rfl) (fun _ => rfl) i h1 h2
theorem ret_cz {fn : Func} {q u : Tmp} (h : fn.results = #[.cell q 60, .tmp u]) {a : Act} {w : World} {R : Ending → World → Prop} {g : Nat} {c : Cz} {p : Pl} (hRow : Row w g 60 6 (czF c p))
    (hp : a.tmps.getD q undef = .pointer (some ⟨g, 0, none⟩)) (hdef : a.defers = []) (hR : R (.returned (.tuple #[.agg (czA c p), a.tmps.getD u undef])) w) : bodyPost Tryz.prog fn R Exit.ret a w := by
  refine bodyPost_ret (v := .tuple #[.agg (czA c p), a.tmps.getD u undef]) ?_ hdef hR
  have hl := run_loadVar_row (P := Tryz.prog) w g 60 60 (arrOf 6 (czF c p)) (0, 0) _ hRow.whole Tryz.underlying60 rfl (by rw [arrOf_size]; kernel_rfl)
  rw [arr6] at hl
  rw [results_cell_tmp h, hp]
  simp [asAddr, hl, Result.andThen]
/-- claims, stored whole -/
def st6 (w : World) (g : Nat) (c : Cz) (p : Pl) : World :=
  (((((w.setCell ⟨g, 0, none⟩ (.int .i64 c.id)).setCell ⟨g, 1, none⟩ (.string ⟨c.sub.toArray⟩)).setCell ⟨g, 2, none⟩ (.slice p.a2 c.scp.length p.c2)).setCell ⟨g, 3, none⟩ (.slice p.a3 c.aud.length p.c3)).setCell ⟨g, 4, none⟩ (.slice p.a4 c.act.length p.c4)).setCell ⟨g, 5, none⟩ (.int .i64 c.exp)
theorem st6_row {w : World} {g : Nat} {f : Nat → Value} (h : Row w g 60 6 f) (c : Cz) (p : Pl) : Row (st6 w g c p) g 60 6 (czF c p) :=
  ((((((h.set 0 _).set 1 _).set 2 _).set 3 _).set 4 _).set 5 _).congr (six rfl rfl rfl rfl rfl rfl)
theorem st6_but (w : World) (g : Nat) (c : Cz) (p : Pl) : But g w (st6 w g c p) := ((((((But.refl g w).setCell 0 _).setCell 1 _).setCell 2 _).setCell 3 _).setCell 4 _).setCell 5 _
theorem PM.lists' {w0 wr w1 : World} {u : List UInt8} {b : Bool} {c : Cm} {p : Pl} (h : PM w0 wr u b c p) (hg : But w0.heap.size wr w1) : CzL w1 w1.heap.size c.z p :=
  ⟨(h.o2.gr (Gr.ofBut hg) (by omega)).ls, (h.o3.gr (Gr.ofBut hg) (by omega)).ls, (h.o4.gr (Gr.ofBut hg) (by omega)).ls⟩
theorem measP {k g : Nat} (h : k + g = 6) (h6 : k < 6) : g - 1 < g := by omega
theorem relP {k g : Nat} (h : k + g = 6) (h6 : k < 6) : k + 1 + (g - 1) = 6 := by omega
theorem b16 {n m T : Nat} (h1 : n ≤ 4 * m) (h2 : m ≤ T) (h3 : T ≤ 4096) : n ≤ 16384 := by omega
theorem b40 {n m T : Nat} (h1 : n ≤ m + 2) (h2 : m ≤ T) (h3 : T ≤ 4096) : n ≤ 4098 := by omega
theorem bM {m T : Nat} (h2 : m ≤ T) (h3 : T ≤ 4096) : m ≤ 1048576 := by omega
theorem m3 {n q g : Nat} (h : n + g = q) (h2 : n < q) : g - 1 < g ∧ n + 1 + (g - 1) = q := by omega
theorem vj3 {n : Nat} {jj : Int} (h : ((3 * n : Nat) : Int) = jj) (hw : wrap64 (jj + 3) = jj + 3) : wrap64 (jj + 3) = ((3 * (n + 1) : Nat) : Int) := by rw [hw, ← h]; omega
theorem getD_le {o : Option (List UInt8)} {d : List UInt8} {n : Nat} (h1 : d.length ≤ n) (h2 : ∀ u, o = some u → u.length ≤ n) : (o.getD d).length ≤ n := by
  cases o with
  | none => exact h1
  | some u => exact h2 u rfl
theorem sees_le {c : UInt8} {u : List UInt8} {n : Nat} (h : u.length ≤ n) : ((seesS c u).getD (skipB u)).length ≤ n :=
  getD_le (Nat.le_trans (skipB_le u) h) (fun _ h' => Nat.le_trans (Nat.le_of_lt (seesS_lt h')) h)
/-- what Parse answers -/
def ParsR (t : List UInt8) (w : World) (e : Ending) (w' : World) : Prop :=
  ∃ (c : Cz) (p : Pl) (k : Int), e = .returned (.tuple #[.agg (czA c p), .int .i64 k]) ∧ CzL w' w'.heap.size c p ∧ ((parseS t = none ∧ c = cz0 ∧ k = 2) ∨ (∃ cm, parseS t = some cm ∧ c = cm.z ∧ k = 0)) ∧ Below w.heap.size w w'
theorem parseS_long {t : List UInt8} (h : 4096 < t.length) : parseS t = none := by unfold parseS; rw [if_pos h]
theorem CzL.none (w : World) (B : Nat) : CzL w B cz0 pl0 := ⟨⟨_, _, rfl, Nat.le_refl _, fun h => absurd h (by decide)⟩, ⟨_, _, rfl, Nat.le_refl _, fun h => absurd h (by decide)⟩, ⟨_, _, rfl, Nat.le_refl _, fun h => absurd h (by decide)⟩⟩

set_option maxRecDepth 20000 in
set_option maxHeartbeats 4000000 in
theorem ParseR_any (t : List UInt8) (w : World) : Calls Tryz.prog 126 #[.string ⟨t.toArray⟩] w (ParsR t w) := by
  by_cases hl : 4096 < t.length
  · have d1 : decide ((4096 : Int) < (t.length : Int)) = true := decide_eq_true (by omega)
    have hp := hide (parseS_long hl)
    clear hl
    go_enter Tryz.func126, Tryz.ntmps126
    go_wp2_with fail
    exact ret_cz Tryz.results126 (Row.new w 60 _ (czF cz0 pl0) 6 rfl (six rfl rfl rfl rfl rfl rfl)) rfl rfl ⟨cz0, pl0, 2, rfl, CzL.none _ _, Or.inl ⟨unhide hp, rfl, rfl⟩, (Below.refl _ _).alloc (Nat.le_refl _) _⟩
  · have d1 : decide ((4096 : Int) < (t.length : Int)) = false := decide_eq_false (by omega)
    have HL : Hid (t.length ≤ 4096) := hide (by omega)
    clear hl
    obtain ⟨w3, hw3⟩ : ∃ w3, w3 = ((w.alloc (.cells #[.int .i64 0, .string ⟨#[]⟩, .slice none 0 0, .slice none 0 0, .slice none 0 0, .int .i64 0] 60)).alloc (.cells #[.string ⟨t.toArray⟩, .bool false] 205)).alloc (.cells #[.int .i64 0, .string ⟨#[]⟩, .slice none 0 0, .slice none 0 0, .slice none 0 0, .int .i64 0] 60) := ⟨_, rfl⟩
    have hP := PM.start w t
    rw [← hw3] at hP
    have HW3 := hide hw3
    clear hw3
    go_enter Tryz.func126, Tryz.ntmps126
    go_wp2_with fail
    rw [← unhide HW3]
    clear HW3
    refine (must_any (w.heap.size + 1) 123 t false _ hP.rd).mono ?_
    rintro e w4 ⟨⟨v4, rfl⟩, hR4, hB4⟩
    have hP4 := hP.gr (Gr.ofBut hB4) hR4
    have hsk := skipB_le t
    have hu4 : ((seesS 123 t).getD (skipB t)).length ≤ t.length := by
      cases h : seesS 123 t with
      | none => exact hsk
      | some u => exact Nat.le_of_lt (seesS_lt h)
    have hF4 : FInv t 5 (fun _ => false) cm0 [] ((seesS 123 t).getD (skipB t)) (false || (seesS 123 t).isNone) := by
      cases h : seesS 123 t with
      | none => exact Or.inr ⟨rfl, by unfold objS; rw [h]; rfl⟩
      | some u => exact Or.inl ⟨rfl, SeenOk.start, by unfold objS; rw [h]; rfl⟩
    generalize (seesS 123 t).getD (skipB t) = u4 at *
    generalize (false || (seesS 123 t).isNone) = b4 at *
    have HF4 := hide hF4
    clear hP hB4 hR4 hsk hF4
    go_wp2_with fail
    go_loopg [6, 7] 6 (fun q s i wr => ∃ (k : Nat) (m : Nat → Bool) (c : Cm) (p : Pl) (seen u : List UInt8) (b : Bool), k + q = 6 ∧ s = .string ⟨seen.toArray⟩ ∧ i = .int .i64 (k : Nat) ∧ PM w wr u b c p ∧ PBd c ∧ u.length ≤ t.length ∧ seen.length ≤ k * 16384 ∧ ((k = 0 ∧ FInv t 5 m c seen u b) ∨ (0 < k ∧ MInv t (6 - k) m c seen u b)))
    case atStart => exact ⟨0, fun _ => false, cm0, pl0, [], u4, b4, rfl, rfl, rfl, hP4, PBd.start, hu4, Nat.le_refl _, Or.inl ⟨rfl, unhide HF4⟩⟩
    case round =>
      clear hP4 hu4 HF4
      obtain ⟨k, m, c, p, seen, u, b, hk, rfl, rfl, hP, hBd, hu, hsn, hI⟩ := hrel
      have HBd := hide hBd
      have hc1 := hP.rd.c1
      clear hBd
      by_cases hend : k = 6 ∨ b = true
      · have hM : MInv t 0 m c seen u b := by
          rcases hI with ⟨rfl, h⟩ | ⟨h0, h⟩
          · rcases h with ⟨h, _⟩ | h
            · rcases hend with h2 | h2
              · omega
              · rw [h] at h2; cases h2
            · exact Or.inr h
          · rcases hend with rfl | rfl
            · exact h
            · exact h.bad _ _ _ _ _
        have HM := hide (hM.fin (unhide HL))
        clear hM hI
        have hgd : (k = 6) ∨ (k < 6 ∧ b = true) := by
          by_cases h6 : k = 6
          · exact Or.inl h6
          · exact Or.inr ⟨by omega, hend.resolve_left h6⟩
        clear hend
        rcases hgd with rfl | ⟨hk6, rfl⟩
        all_goals
          go_wp2_with fail
          refine (must_any (w.heap.size + 1) 125 u _ _ hP.rd).mono ?_
          rintro e w5 ⟨⟨v5, rfl⟩, hR5, hB5⟩
          have hP5 := hP.gr (Gr.ofBut hB5) hR5
          clear hP hR5 hB5
          generalize (seesS 125 u).getD (skipB u) = u5 at *
          generalize (_ || (seesS 125 u).isNone) = b5 at *
          go_wp2_with fail
          refine (blank_any (w.heap.size + 1) u5 b5 _ hP5.rd).mono ?_
          rintro e w6 ⟨⟨v6, rfl⟩, hR6, hB6⟩
          have hP6 := hP5.gr (Gr.ofBut hB6) hR6
          clear hP5 hR6 hB6
          generalize skipB u5 = u6 at *
          have r0 : w6.cell? ⟨w.heap.size + 1 + 1, 0, none⟩ = some (.int .i64 (c.id : Int)) := hP6.row.cell (by decide)
          have r1 : w6.cell? ⟨w.heap.size + 1 + 1, 1, none⟩ = some (.string ⟨c.sub.toArray⟩) := hP6.row.cell (by decide)
          have r2 : w6.cell? ⟨w.heap.size + 1 + 1, 2, none⟩ = some (.slice p.a2 c.scp.length p.c2) := hP6.row.cell (by decide)
          have r3 : w6.cell? ⟨w.heap.size + 1 + 1, 3, none⟩ = some (.slice p.a3 c.aud.length p.c3) := hP6.row.cell (by decide)
          have r4 : w6.cell? ⟨w.heap.size + 1 + 1, 4, none⟩ = some (.slice p.a4 c.act.length p.c4) := hP6.row.cell (by decide)
          have r5 : w6.cell? ⟨w.heap.size + 1 + 1, 5, none⟩ = some (.int .i64 (c.exp : Int)) := hP6.row.cell (by decide)
          go_wp2_with fail
          refine (Right_any c.z p _ _ (Nat.le_refl _) (unhide HBd).z hP6.lists).mono ?_
          rintro e w7 ⟨rfl, hb7⟩
          have hP7 := hP6.gr (Gr.ofBelow _ hb7) (hP6.rd.below hb7)
          clear hP6 r0 r1 r2 r3 r4 r5 hb7
          have q0 := hP7.rd.c0
          have q1 := hP7.rd.c1
          have s0 : w7.cell? ⟨w.heap.size, 0, none⟩ = some (.int .i64 0) := hP7.res.cell (by decide)
          have s1 : w7.cell? ⟨w.heap.size, 1, none⟩ = some (.string ⟨#[]⟩) := hP7.res.cell (by decide)
          have s2 : w7.cell? ⟨w.heap.size, 2, none⟩ = some (.slice none 0 0) := hP7.res.cell (by decide)
          have s3 : w7.cell? ⟨w.heap.size, 3, none⟩ = some (.slice none 0 0) := hP7.res.cell (by decide)
          have s4 : w7.cell? ⟨w.heap.size, 4, none⟩ = some (.slice none 0 0) := hP7.res.cell (by decide)
          have s5 : w7.cell? ⟨w.heap.size, 5, none⟩ = some (.int .i64 0) := hP7.res.cell (by decide)
          have z0 := hP7.res.frozen 0
          have z1 := hP7.res.frozen 1
          have z2 := hP7.res.frozen 2
          have z3 := hP7.res.frozen 3
          have z4 := hP7.res.frozen 4
          have z5 := hP7.res.frozen 5
          generalize hrt : rightB c.z = rt at *
          by_cases hbad : b5 = true ∨ u6 ≠ [] ∨ rt = false
          · have HN : Hid (parseS t = none) := by have h := unhide HM; rw [if_pos hbad] at h; exact h
            have hcs : b5 = true ∨ (b5 = false ∧ ∃ x xs, u6 = x :: xs) ∨ (b5 = false ∧ u6 = [] ∧ rt = false) := by
              cases b5 with
              | true => exact Or.inl rfl
              | false =>
                cases u6 with
                | cons x xs => exact Or.inr (Or.inl ⟨rfl, x, xs, rfl⟩)
                | nil => rcases hbad with h | h | h
                         · cases h
                         · exact absurd rfl h
                         · exact Or.inr (Or.inr ⟨rfl, rfl, h⟩)
            clear hbad HM
            rcases hcs with rfl | ⟨rfl, x, xs, rfl⟩ | ⟨rfl, rfl, rfl⟩
            all_goals
              go_wp2_with fail
              exact ret_cz Tryz.results126 (st6_row hP7.res cz0 pl0) rfl rfl ⟨cz0, pl0, 2, rfl, CzL.none _ _, Or.inl ⟨unhide HN, rfl, rfl⟩, hP7.bel.trans ((st6_but w7 w.heap.size cz0 pl0).below (Nat.le_refl _))⟩
          · have h1 : b5 = false := Bool.eq_false_iff.2 (fun h => hbad (Or.inl h))
            have h2 : u6 = [] := Classical.byContradiction (fun h => hbad (Or.inr (Or.inl h)))
            have h3 : rt = true := by
              cases rt with
              | true => rfl
              | false => exact absurd (Or.inr (Or.inr rfl)) hbad
            have HN : Hid (parseS t = some c) := by have h := unhide HM; rw [if_neg hbad] at h; exact h
            subst h1 h2 h3
            clear hbad HM
            have r0 : w7.cell? ⟨w.heap.size + 1 + 1, 0, none⟩ = some (.int .i64 (c.id : Int)) := hP7.row.cell (by decide)
            have r1 : w7.cell? ⟨w.heap.size + 1 + 1, 1, none⟩ = some (.string ⟨c.sub.toArray⟩) := hP7.row.cell (by decide)
            have r2 : w7.cell? ⟨w.heap.size + 1 + 1, 2, none⟩ = some (.slice p.a2 c.scp.length p.c2) := hP7.row.cell (by decide)
            have r3 : w7.cell? ⟨w.heap.size + 1 + 1, 3, none⟩ = some (.slice p.a3 c.aud.length p.c3) := hP7.row.cell (by decide)
            have r4 : w7.cell? ⟨w.heap.size + 1 + 1, 4, none⟩ = some (.slice p.a4 c.act.length p.c4) := hP7.row.cell (by decide)
            have r5 : w7.cell? ⟨w.heap.size + 1 + 1, 5, none⟩ = some (.int .i64 (c.exp : Int)) := hP7.row.cell (by decide)
            go_wp2_with fail
            exact ret_cz Tryz.results126 (st6_row hP7.res c.z p) rfl rfl ⟨c.z, p, 0, rfl, hP7.lists' (st6_but w7 w.heap.size c.z p), Or.inr ⟨c, unhide HN, rfl, rfl⟩, hP7.bel.trans ((st6_but w7 w.heap.size c.z p).below (Nat.le_refl _))⟩
      · have hk6 : k < 6 := Nat.lt_of_le_of_ne (by omega) (fun h => hend (Or.inl h))
        have hb : b = false := Bool.eq_false_iff.2 (fun h => hend (Or.inr h))
        clear hend
        subst hb
        have hkI : (k : Int) < 6 := by omega
        have HWK : Hid (wrap64 ((k : Int) + 1) = (k : Int) + 1) := hide (w64 _ (by omega) (by omega))
        have H65 : Hid (6 - (k + 1) = 5 - k) := hide (by omega)
        have HSL : Hid (∀ kk : List UInt8, kk.length ≤ 16384 → (seen ++ kk).length ≤ (k + 1) * 16384 ∧ (seen ++ kk).length ≤ 16777216) := hide (fun kk h => by rw [List.length_append]; omega)
        have HKK : Hid (k + gk = 6 ∧ k < 6) := hide ⟨hk, hk6⟩
        have HW3 : Hid (∀ n : Nat, n ≤ seen.length / 3 → wrap64 (((3 * n : Nat) : Int) + 3) = ((3 * n : Nat) : Int) + 3) := hide (fun n h => w64 _ (by omega) (by omega))
        clear hk hk6
        rcases hI with ⟨hk00, hF1⟩ | ⟨h0, hM⟩
        rotate_left
        · obtain ⟨n, hn⟩ : ∃ n, 6 - k = n + 1 := ⟨5 - k, by have := unhide HKK; omega⟩
          rw [hn] at hM
          have hk0 : (0 : Int) < (k : Int) := by omega
          have h5 : n = 5 - k := by omega
          subst h5
          have hF1 := hM.comma
          have hu1 : ((seesS 44 u).getD (skipB u)).length ≤ t.length := sees_le hu
          have HF1 := hide hF1
          clear hM hn hF1
          go_wp2_with fail
          refine (must_any (w.heap.size + 1) 44 u false _ hP.rd).mono ?_
          rintro e w1 ⟨⟨v1, rfl⟩, hR1, hB1⟩
          have hP1 := hP.gr (Gr.ofBut hB1) hR1
          clear hP hR1 hB1 hc1 hu
          generalize (seesS 44 u).getD (skipB u) = u1 at *
          generalize (false || (seesS 44 u).isNone) = b1 at *
          go_wp2_with fail
          refine (text_any (w.heap.size + 1) _ _ _ (bM hu1 (unhide HL)) hP1.rd).mono ?_
          rintro e w2 ⟨kk, u2, b2, rfl, hkl, hR2, hl2, hO2, hG2⟩
          have hP2 := hP1.gr hG2 hR2
          have HN := hide ((unhide HF1).name hO2)
          have HNo := hide ((unhide HF1).noName hO2)
          have hu2 : u2.length ≤ t.length := Nat.le_trans hl2 hu1
          have hkl2 : kk.length ≤ 16384 := b16 hkl hu1 (unhide HL)
          clear hP1 hG2 hR2 hO2 hl2 hkl hu1 HF1
          go_wp2_with fail
          refine (must_any (w.heap.size + 1) 58 u2 b2 _ hP2.rd).mono ?_
          rintro e w3 ⟨⟨v3, rfl⟩, hR3, hB3⟩
          have hP3 := hP2.gr (Gr.ofBut hB3) hR3
          have hu3 : ((seesS 58 u2).getD (skipB u2)).length ≤ t.length := sees_le hu2
          clear hP2 hR3 hB3
          generalize (seesS 58 u2).getD (skipB u2) = u3 at *
          generalize (b2 || (seesS 58 u2).isNone) = b3 at *
          obtain ⟨gO, hgO⟩ : ∃ q, q = gk := ⟨_, rfl⟩
          have HGO := hide hgO
          have HKO : Hid (k + gO = 6 ∧ k < 6) := by rw [hgO]; exact unhide HKK
          clear hgO
          go_wp2_with fail
          go_loopg [9] (seen.length / 3) (fun q j wr2 => ∃ n : Nat, n + q = seen.length / 3 ∧ j = .int .i64 ((3 * n : Nat) : Int) ∧ PM w wr2 u3 (b3 || dupQ seen kk n) c p)
          case atStart => exact ⟨0, Nat.zero_add _, rfl, by rw [show dupQ seen kk 0 = false from rfl, Bool.or_false]; exact hP3⟩
          case round =>
            clear hP3
            obtain ⟨n, hn, rfl, hPn⟩ := hrel
            by_cases hlt : n < seen.length / 3
            · have hw3 := unhide HW3 n (by omega)
              have hle : ((3 * n : Nat) : Int) + 3 ≤ (seen.length : Int) := by omega
              have hmid := fun u => mid_any seen (3 * n) 3 (by omega) u ((3 * n : Nat) : Int) (((3 * n : Nat) : Int) + 3) rfl (by omega)
              have q1 := hPn.rd.c1
              have z1 := hPn.rd.frozen 1
              have hdq := dupQ_succ seen kk n
              generalize (seen.drop (3 * n)).take 3 = mm at *
              generalize hj : ((3 * n : Nat) : Int) = jj at *
              have HJ := hide hj
              have HDQ := hide hdq
              clear hj hdq
              go_wp2_with fail
              · rename_i heq
                go_roundg (gk - 1)
                case measure => exact (m3 hn hlt).1
                case rel =>
                  refine ⟨n + 1, (m3 hn hlt).2, congrArg (Value.int .i64) (vj3 (unhide HJ) hw3), ?_⟩
                  rw [unhide HDQ, heq, Bool.or_true, Bool.or_true]
                  exact hPn.bad
              · rename_i heq
                go_roundg (gk - 1)
                case measure => exact (m3 hn hlt).1
                case rel =>
                  refine ⟨n + 1, (m3 hn hlt).2, congrArg (Value.int .i64) (vj3 (unhide HJ) hw3), ?_⟩
                  rw [unhide HDQ, heq, Bool.or_false]
                  exact hPn
            · have hne : n = seen.length / 3 := by omega
              have hw3 := unhide HW3 n (by omega)
              have hle : ¬ ((3 * n : Nat) : Int) + 3 ≤ (seen.length : Int) := by omega
              rw [hne] at hPn
              have HV : Hid (VInv t (5 - k) m c seen kk u3 (b3 || dupQ seen kk (seen.length / 3))) := unhide HN
              generalize (b3 || dupQ seen kk (seen.length / 3)) = b4 at *
              have hcat := cat_str seen kk (seen ++ kk) rfl (unhide HSL kk hkl2).2
              have hl3 : u3.length ≤ 1048576 := bM hu3 (unhide HL)
              have HL3 := hide hl3
              generalize ((3 * n : Nat) : Int) = jj at *
              have q1 := hPn.rd.c1
              have z1 := hPn.rd.frozen 1
              have hsz := hPn.sz
              have HSZ := hide hsz
              clear hl3 hsn hlt hn hne hsz
              go_wp2_with fail
              · have h1 : (kk == [106, 116, 105]) = true := by assumption
                have hkk : fieldS kk = some 0 := by rw [show kk = jtiL from eq_of_beq h1]; rfl
                refine (number_any (w.heap.size + 1) u3 b4 _ (unhide HL3) hPn.rd).mono ?_
                rintro e w5 ⟨x, u5, b5, rfl, hx, hR5, hl5, hO5, hG5⟩
                have hP5 := hPn.gr hG5 hR5
                have r0 : w5.cell? ⟨w.heap.size + 1 + 1, 0, none⟩ = some (.int .i64 (c.id : Int)) := hP5.row.cell (by decide)
                have y0 : w5.frozen? ⟨w.heap.size + 1 + 1, 0, none⟩ = false := hP5.row.frozen 0
                have HM := hide ((unhide HV).num hkk (Or.inl rfl) hO5)
                clear hO5 hx
                go_wp2_with fail
                go_roundg (gO - 1)
                case measure => rw [← unhide HGO]; exact measP (unhide HKO).1 (unhide HKO).2
                case rel => exact ⟨k + 1, upd m 0, c.setN 0 x, p, seen ++ kk, u5, b5, relP (unhide HKO).1 (unhide HKO).2, rfl, by first | exact num1 (unhide HWK) | rfl, hP5.setId x, (unhide HBd).setN 0 x, Nat.le_trans hl5 hu3, (unhide HSL kk hkl2).1, Or.inr ⟨Nat.succ_pos k, by rw [unhide H65]; exact unhide HM⟩⟩
              · have h1 : (kk == [115, 117, 98]) = true := by assumption
                have hkk : fieldS kk = some 1 := by rw [show kk = subL from eq_of_beq h1]; rfl
                refine (text_any (w.heap.size + 1) u3 b4 _ (unhide HL3) hPn.rd).mono ?_
                rintro e w5 ⟨x, u5, b5, rfl, hx, hR5, hl5, hO5, hG5⟩
                have hP5 := hPn.gr hG5 hR5
                have r0 : w5.cell? ⟨w.heap.size + 1 + 1, 1, none⟩ = some (.string ⟨c.sub.toArray⟩) := hP5.row.cell (by decide)
                have y0 : w5.frozen? ⟨w.heap.size + 1 + 1, 1, none⟩ = false := hP5.row.frozen 1
                have HM := hide ((unhide HV).txt hkk hO5)
                have hx2 : x.length ≤ 16384 := b16 hx hu3 (unhide HL)
                clear hO5
                go_wp2_with fail
                go_roundg (gO - 1)
                case measure => rw [← unhide HGO]; exact measP (unhide HKO).1 (unhide HKO).2
                case rel => exact ⟨k + 1, upd m 1, c.setT x, p, seen ++ kk, u5, b5, relP (unhide HKO).1 (unhide HKO).2, rfl, by first | exact num1 (unhide HWK) | rfl, hP5.setSub x, (unhide HBd).setT x hx2, Nat.le_trans hl5 hu3, (unhide HSL kk hkl2).1, Or.inr ⟨Nat.succ_pos k, by rw [unhide H65]; exact unhide HM⟩⟩
              · have h1 : (kk == [115, 99, 112]) = true := by assumption
                have hkk : fieldS kk = some 2 := by rw [show kk = scpL from eq_of_beq h1]; rfl
                refine (list_any (w.heap.size + 1) u3 b4 _ (unhide HL3) hPn.rd).mono ?_
                rintro e w5 ⟨l, x, u5, b5, rfl, hx, hll, hlf, hR5, hl5, hO5, hG5⟩
                obtain ⟨xa, xk, rfl⟩ := hx.form
                have hP5 := hPn.gr hG5 hR5
                have r0 : w5.cell? ⟨w.heap.size + 1 + 1, 2, none⟩ = some (.slice p.a2 c.scp.length p.c2) := hP5.row.cell (by decide)
                have y0 : w5.frozen? ⟨w.heap.size + 1 + 1, 2, none⟩ = false := hP5.row.frozen 2
                have HM := hide ((unhide HV).lst hkk (by decide) hO5)
                obtain ⟨p', hP6⟩ := hP5.setScp (hx.down (unhide HSZ))
                have HB6 := hide ((unhide HBd).setL 2 l (b40 hll hu3 (unhide HL)) (fun s hs => b16 (hlf s hs) hu3 (unhide HL)))
                clear hO5 hlf hx
                go_wp2_with fail
                go_roundg (gO - 1)
                case measure => rw [← unhide HGO]; exact measP (unhide HKO).1 (unhide HKO).2
                case rel => exact ⟨k + 1, upd m 2, c.setL 2 l, p', seen ++ kk, u5, b5, relP (unhide HKO).1 (unhide HKO).2, rfl, by first | exact num1 (unhide HWK) | rfl, hP6, unhide HB6, Nat.le_trans hl5 hu3, (unhide HSL kk hkl2).1, Or.inr ⟨Nat.succ_pos k, by rw [unhide H65]; exact unhide HM⟩⟩
              · have h1 : (kk == [97, 117, 100]) = true := by assumption
                have hkk : fieldS kk = some 3 := by rw [show kk = audL from eq_of_beq h1]; rfl
                refine (list_any (w.heap.size + 1) u3 b4 _ (unhide HL3) hPn.rd).mono ?_
                rintro e w5 ⟨l, x, u5, b5, rfl, hx, hll, hlf, hR5, hl5, hO5, hG5⟩
                obtain ⟨xa, xk, rfl⟩ := hx.form
                have hP5 := hPn.gr hG5 hR5
                have r0 : w5.cell? ⟨w.heap.size + 1 + 1, 3, none⟩ = some (.slice p.a3 c.aud.length p.c3) := hP5.row.cell (by decide)
                have y0 : w5.frozen? ⟨w.heap.size + 1 + 1, 3, none⟩ = false := hP5.row.frozen 3
                have HM := hide ((unhide HV).lst hkk (by decide) hO5)
                obtain ⟨p', hP6⟩ := hP5.setAud (hx.down (unhide HSZ))
                have HB6 := hide ((unhide HBd).setL 3 l (b40 hll hu3 (unhide HL)) (fun s hs => b16 (hlf s hs) hu3 (unhide HL)))
                clear hO5 hlf hx
                go_wp2_with fail
                go_roundg (gO - 1)
                case measure => rw [← unhide HGO]; exact measP (unhide HKO).1 (unhide HKO).2
                case rel => exact ⟨k + 1, upd m 3, c.setL 3 l, p', seen ++ kk, u5, b5, relP (unhide HKO).1 (unhide HKO).2, rfl, by first | exact num1 (unhide HWK) | rfl, hP6, unhide HB6, Nat.le_trans hl5 hu3, (unhide HSL kk hkl2).1, Or.inr ⟨Nat.succ_pos k, by rw [unhide H65]; exact unhide HM⟩⟩
              · have h1 : (kk == [97, 99, 116]) = true := by assumption
                have hkk : fieldS kk = some 4 := by rw [show kk = actL from eq_of_beq h1]; rfl
                refine (list_any (w.heap.size + 1) u3 b4 _ (unhide HL3) hPn.rd).mono ?_
                rintro e w5 ⟨l, x, u5, b5, rfl, hx, hll, hlf, hR5, hl5, hO5, hG5⟩
                obtain ⟨xa, xk, rfl⟩ := hx.form
                have hP5 := hPn.gr hG5 hR5
                have r0 : w5.cell? ⟨w.heap.size + 1 + 1, 4, none⟩ = some (.slice p.a4 c.act.length p.c4) := hP5.row.cell (by decide)
                have y0 : w5.frozen? ⟨w.heap.size + 1 + 1, 4, none⟩ = false := hP5.row.frozen 4
                have HM := hide ((unhide HV).lst hkk (by decide) hO5)
                obtain ⟨p', hP6⟩ := hP5.setAct (hx.down (unhide HSZ))
                have HB6 := hide ((unhide HBd).setL 4 l (b40 hll hu3 (unhide HL)) (fun s hs => b16 (hlf s hs) hu3 (unhide HL)))
                clear hO5 hlf hx
                go_wp2_with fail
                go_roundg (gO - 1)
                case measure => rw [← unhide HGO]; exact measP (unhide HKO).1 (unhide HKO).2
                case rel => exact ⟨k + 1, upd m 4, c.setL 4 l, p', seen ++ kk, u5, b5, relP (unhide HKO).1 (unhide HKO).2, rfl, by first | exact num1 (unhide HWK) | rfl, hP6, unhide HB6, Nat.le_trans hl5 hu3, (unhide HSL kk hkl2).1, Or.inr ⟨Nat.succ_pos k, by rw [unhide H65]; exact unhide HM⟩⟩
              · have h1 : (kk == [101, 120, 112]) = true := by assumption
                have hkk : fieldS kk = some 5 := by rw [show kk = expL from eq_of_beq h1]; rfl
                refine (number_any (w.heap.size + 1) u3 b4 _ (unhide HL3) hPn.rd).mono ?_
                rintro e w5 ⟨x, u5, b5, rfl, hx, hR5, hl5, hO5, hG5⟩
                have hP5 := hPn.gr hG5 hR5
                have r0 : w5.cell? ⟨w.heap.size + 1 + 1, 5, none⟩ = some (.int .i64 (c.exp : Int)) := hP5.row.cell (by decide)
                have y0 : w5.frozen? ⟨w.heap.size + 1 + 1, 5, none⟩ = false := hP5.row.frozen 5
                have HM := hide ((unhide HV).num hkk (Or.inr rfl) hO5)
                clear hO5 hx
                go_wp2_with fail
                go_roundg (gO - 1)
                case measure => rw [← unhide HGO]; exact measP (unhide HKO).1 (unhide HKO).2
                case rel => exact ⟨k + 1, upd m 5, c.setN 5 x, p, seen ++ kk, u5, b5, relP (unhide HKO).1 (unhide HKO).2, rfl, by first | exact num1 (unhide HWK) | rfl, hP5.setExp x, (unhide HBd).setN 5 x, Nat.le_trans hl5 hu3, (unhide HSL kk hkl2).1, Or.inr ⟨Nat.succ_pos k, by rw [unhide H65]; exact unhide HM⟩⟩
              · have h1 : (kk == [106, 116, 105]) = false := by assumption
                have h2 : (kk == [115, 117, 98]) = false := by assumption
                have h3 : (kk == [115, 99, 112]) = false := by assumption
                have h4 : (kk == [97, 117, 100]) = false := by assumption
                have h5 : (kk == [97, 99, 116]) = false := by assumption
                have h6 : (kk == [101, 120, 112]) = false := by assumption
                have hkk : fieldS kk = none := by
                  unfold fieldS
                  rw [if_neg (show kk ≠ jtiL from ne_of_beq_false h1), if_neg (show kk ≠ subL from ne_of_beq_false h2), if_neg (show kk ≠ scpL from ne_of_beq_false h3), if_neg (show kk ≠ audL from ne_of_beq_false h4), if_neg (show kk ≠ actL from ne_of_beq_false h5), if_neg (show kk ≠ expL from ne_of_beq_false h6)]
                go_roundg (gO - 1)
                case measure => rw [← unhide HGO]; exact measP (unhide HKO).1 (unhide HKO).2
                case rel => exact ⟨k + 1, m, c, p, seen ++ kk, u3, true, relP (unhide HKO).1 (unhide HKO).2, rfl, by first | exact num1 (unhide HWK) | rfl, hPn.bad, unhide HBd, hu3, (unhide HSL kk hkl2).1, Or.inr ⟨Nat.succ_pos k, Or.inr ⟨rfl, unhide HNo hkk⟩⟩⟩
        · rw [show 5 = 5 - k by omega] at hF1
          have hk0 : ¬ (0 : Int) < (k : Int) := by omega
          have HF1 := hide hF1
          have hP1 := hP
          have hu1 := hu
          clear hP hu hF1 hk00
          go_wp2_with fail
          refine (text_any (w.heap.size + 1) _ _ _ (bM hu1 (unhide HL)) hP1.rd).mono ?_
          rintro e w2 ⟨kk, u2, b2, rfl, hkl, hR2, hl2, hO2, hG2⟩
          have hP2 := hP1.gr hG2 hR2
          have HN := hide ((unhide HF1).name hO2)
          have HNo := hide ((unhide HF1).noName hO2)
          have hu2 : u2.length ≤ t.length := Nat.le_trans hl2 hu1
          have hkl2 : kk.length ≤ 16384 := b16 hkl hu1 (unhide HL)
          clear hP1 hG2 hR2 hO2 hl2 hkl hu1 HF1
          go_wp2_with fail
          refine (must_any (w.heap.size + 1) 58 u2 b2 _ hP2.rd).mono ?_
          rintro e w3 ⟨⟨v3, rfl⟩, hR3, hB3⟩
          have hP3 := hP2.gr (Gr.ofBut hB3) hR3
          have hu3 : ((seesS 58 u2).getD (skipB u2)).length ≤ t.length := sees_le hu2
          clear hP2 hR3 hB3
          generalize (seesS 58 u2).getD (skipB u2) = u3 at *
          generalize (b2 || (seesS 58 u2).isNone) = b3 at *
          obtain ⟨gO, hgO⟩ : ∃ q, q = gk := ⟨_, rfl⟩
          have HGO := hide hgO
          have HKO : Hid (k + gO = 6 ∧ k < 6) := by rw [hgO]; exact unhide HKK
          clear hgO
          go_wp2_with fail
          go_loopg [9] (seen.length / 3) (fun q j wr2 => ∃ n : Nat, n + q = seen.length / 3 ∧ j = .int .i64 ((3 * n : Nat) : Int) ∧ PM w wr2 u3 (b3 || dupQ seen kk n) c p)
          case atStart => exact ⟨0, Nat.zero_add _, rfl, by rw [show dupQ seen kk 0 = false from rfl, Bool.or_false]; exact hP3⟩
          case round =>
            clear hP3
            obtain ⟨n, hn, rfl, hPn⟩ := hrel
            by_cases hlt : n < seen.length / 3
            · have hw3 := unhide HW3 n (by omega)
              have hle : ((3 * n : Nat) : Int) + 3 ≤ (seen.length : Int) := by omega
              have hmid := fun u => mid_any seen (3 * n) 3 (by omega) u ((3 * n : Nat) : Int) (((3 * n : Nat) : Int) + 3) rfl (by omega)
              have q1 := hPn.rd.c1
              have z1 := hPn.rd.frozen 1
              have hdq := dupQ_succ seen kk n
              generalize (seen.drop (3 * n)).take 3 = mm at *
              generalize hj : ((3 * n : Nat) : Int) = jj at *
              have HJ := hide hj
              have HDQ := hide hdq
              clear hj hdq
              go_wp2_with fail
            · have hne : n = seen.length / 3 := by omega
              have hw3 := unhide HW3 n (by omega)
              have hle : ¬ ((3 * n : Nat) : Int) + 3 ≤ (seen.length : Int) := by omega
              rw [hne] at hPn
              have HV : Hid (VInv t (5 - k) m c seen kk u3 (b3 || dupQ seen kk (seen.length / 3))) := unhide HN
              generalize (b3 || dupQ seen kk (seen.length / 3)) = b4 at *
              have hcat := cat_str seen kk (seen ++ kk) rfl (unhide HSL kk hkl2).2
              have hl3 : u3.length ≤ 1048576 := bM hu3 (unhide HL)
              have HL3 := hide hl3
              generalize ((3 * n : Nat) : Int) = jj at *
              have q1 := hPn.rd.c1
              have z1 := hPn.rd.frozen 1
              have hsz := hPn.sz
              have HSZ := hide hsz
              clear hl3 hsn hlt hn hne hsz
              go_wp2_with fail
              · have h1 : (kk == [106, 116, 105]) = true := by assumption
                have hkk : fieldS kk = some 0 := by rw [show kk = jtiL from eq_of_beq h1]; rfl
                refine (number_any (w.heap.size + 1) u3 b4 _ (unhide HL3) hPn.rd).mono ?_
                rintro e w5 ⟨x, u5, b5, rfl, hx, hR5, hl5, hO5, hG5⟩
                have hP5 := hPn.gr hG5 hR5
                have r0 : w5.cell? ⟨w.heap.size + 1 + 1, 0, none⟩ = some (.int .i64 (c.id : Int)) := hP5.row.cell (by decide)
                have y0 : w5.frozen? ⟨w.heap.size + 1 + 1, 0, none⟩ = false := hP5.row.frozen 0
                have HM := hide ((unhide HV).num hkk (Or.inl rfl) hO5)
                clear hO5 hx
                go_wp2_with fail
                go_roundg (gO - 1)
                case measure => rw [← unhide HGO]; exact measP (unhide HKO).1 (unhide HKO).2
                case rel => exact ⟨k + 1, upd m 0, c.setN 0 x, p, seen ++ kk, u5, b5, relP (unhide HKO).1 (unhide HKO).2, rfl, by first | exact num1 (unhide HWK) | rfl, hP5.setId x, (unhide HBd).setN 0 x, Nat.le_trans hl5 hu3, (unhide HSL kk hkl2).1, Or.inr ⟨Nat.succ_pos k, by rw [unhide H65]; exact unhide HM⟩⟩
              · have h1 : (kk == [115, 117, 98]) = true := by assumption
                have hkk : fieldS kk = some 1 := by rw [show kk = subL from eq_of_beq h1]; rfl
                refine (text_any (w.heap.size + 1) u3 b4 _ (unhide HL3) hPn.rd).mono ?_
                rintro e w5 ⟨x, u5, b5, rfl, hx, hR5, hl5, hO5, hG5⟩
                have hP5 := hPn.gr hG5 hR5
                have r0 : w5.cell? ⟨w.heap.size + 1 + 1, 1, none⟩ = some (.string ⟨c.sub.toArray⟩) := hP5.row.cell (by decide)
                have y0 : w5.frozen? ⟨w.heap.size + 1 + 1, 1, none⟩ = false := hP5.row.frozen 1
                have HM := hide ((unhide HV).txt hkk hO5)
                have hx2 : x.length ≤ 16384 := b16 hx hu3 (unhide HL)
                clear hO5
                go_wp2_with fail
                go_roundg (gO - 1)
                case measure => rw [← unhide HGO]; exact measP (unhide HKO).1 (unhide HKO).2
                case rel => exact ⟨k + 1, upd m 1, c.setT x, p, seen ++ kk, u5, b5, relP (unhide HKO).1 (unhide HKO).2, rfl, by first | exact num1 (unhide HWK) | rfl, hP5.setSub x, (unhide HBd).setT x hx2, Nat.le_trans hl5 hu3, (unhide HSL kk hkl2).1, Or.inr ⟨Nat.succ_pos k, by rw [unhide H65]; exact unhide HM⟩⟩
              · have h1 : (kk == [115, 99, 112]) = true := by assumption
                have hkk : fieldS kk = some 2 := by rw [show kk = scpL from eq_of_beq h1]; rfl
                refine (list_any (w.heap.size + 1) u3 b4 _ (unhide HL3) hPn.rd).mono ?_
                rintro e w5 ⟨l, x, u5, b5, rfl, hx, hll, hlf, hR5, hl5, hO5, hG5⟩
                obtain ⟨xa, xk, rfl⟩ := hx.form
                have hP5 := hPn.gr hG5 hR5
                have r0 : w5.cell? ⟨w.heap.size + 1 + 1, 2, none⟩ = some (.slice p.a2 c.scp.length p.c2) := hP5.row.cell (by decide)
                have y0 : w5.frozen? ⟨w.heap.size + 1 + 1, 2, none⟩ = false := hP5.row.frozen 2
                have HM := hide ((unhide HV).lst hkk (by decide) hO5)
                obtain ⟨p', hP6⟩ := hP5.setScp (hx.down (unhide HSZ))
                have HB6 := hide ((unhide HBd).setL 2 l (b40 hll hu3 (unhide HL)) (fun s hs => b16 (hlf s hs) hu3 (unhide HL)))
                clear hO5 hlf hx
                go_wp2_with fail
                go_roundg (gO - 1)
                case measure => rw [← unhide HGO]; exact measP (unhide HKO).1 (unhide HKO).2
                case rel => exact ⟨k + 1, upd m 2, c.setL 2 l, p', seen ++ kk, u5, b5, relP (unhide HKO).1 (unhide HKO).2, rfl, by first | exact num1 (unhide HWK) | rfl, hP6, unhide HB6, Nat.le_trans hl5 hu3, (unhide HSL kk hkl2).1, Or.inr ⟨Nat.succ_pos k, by rw [unhide H65]; exact unhide HM⟩⟩
              · have h1 : (kk == [97, 117, 100]) = true := by assumption
                have hkk : fieldS kk = some 3 := by rw [show kk = audL from eq_of_beq h1]; rfl
                refine (list_any (w.heap.size + 1) u3 b4 _ (unhide HL3) hPn.rd).mono ?_
                rintro e w5 ⟨l, x, u5, b5, rfl, hx, hll, hlf, hR5, hl5, hO5, hG5⟩
                obtain ⟨xa, xk, rfl⟩ := hx.form
                have hP5 := hPn.gr hG5 hR5
                have r0 : w5.cell? ⟨w.heap.size + 1 + 1, 3, none⟩ = some (.slice p.a3 c.aud.length p.c3) := hP5.row.cell (by decide)
                have y0 : w5.frozen? ⟨w.heap.size + 1 + 1, 3, none⟩ = false := hP5.row.frozen 3
                have HM := hide ((unhide HV).lst hkk (by decide) hO5)
                obtain ⟨p', hP6⟩ := hP5.setAud (hx.down (unhide HSZ))
                have HB6 := hide ((unhide HBd).setL 3 l (b40 hll hu3 (unhide HL)) (fun s hs => b16 (hlf s hs) hu3 (unhide HL)))
                clear hO5 hlf hx
                go_wp2_with fail
                go_roundg (gO - 1)
                case measure => rw [← unhide HGO]; exact measP (unhide HKO).1 (unhide HKO).2
                case rel => exact ⟨k + 1, upd m 3, c.setL 3 l, p', seen ++ kk, u5, b5, relP (unhide HKO).1 (unhide HKO).2, rfl, by first | exact num1 (unhide HWK) | rfl, hP6, unhide HB6, Nat.le_trans hl5 hu3, (unhide HSL kk hkl2).1, Or.inr ⟨Nat.succ_pos k, by rw [unhide H65]; exact unhide HM⟩⟩
              · have h1 : (kk == [97, 99, 116]) = true := by assumption
                have hkk : fieldS kk = some 4 := by rw [show kk = actL from eq_of_beq h1]; rfl
                refine (list_any (w.heap.size + 1) u3 b4 _ (unhide HL3) hPn.rd).mono ?_
                rintro e w5 ⟨l, x, u5, b5, rfl, hx, hll, hlf, hR5, hl5, hO5, hG5⟩
                obtain ⟨xa, xk, rfl⟩ := hx.form
                have hP5 := hPn.gr hG5 hR5
                have r0 : w5.cell? ⟨w.heap.size + 1 + 1, 4, none⟩ = some (.slice p.a4 c.act.length p.c4) := hP5.row.cell (by decide)
                have y0 : w5.frozen? ⟨w.heap.size + 1 + 1, 4, none⟩ = false := hP5.row.frozen 4
                have HM := hide ((unhide HV).lst hkk (by decide) hO5)
                obtain ⟨p', hP6⟩ := hP5.setAct (hx.down (unhide HSZ))
                have HB6 := hide ((unhide HBd).setL 4 l (b40 hll hu3 (unhide HL)) (fun s hs => b16 (hlf s hs) hu3 (unhide HL)))
                clear hO5 hlf hx
                go_wp2_with fail
                go_roundg (gO - 1)
                case measure => rw [← unhide HGO]; exact measP (unhide HKO).1 (unhide HKO).2
                case rel => exact ⟨k + 1, upd m 4, c.setL 4 l, p', seen ++ kk, u5, b5, relP (unhide HKO).1 (unhide HKO).2, rfl, by first | exact num1 (unhide HWK) | rfl, hP6, unhide HB6, Nat.le_trans hl5 hu3, (unhide HSL kk hkl2).1, Or.inr ⟨Nat.succ_pos k, by rw [unhide H65]; exact unhide HM⟩⟩
              · have h1 : (kk == [101, 120, 112]) = true := by assumption
                have hkk : fieldS kk = some 5 := by rw [show kk = expL from eq_of_beq h1]; rfl
                refine (number_any (w.heap.size + 1) u3 b4 _ (unhide HL3) hPn.rd).mono ?_
                rintro e w5 ⟨x, u5, b5, rfl, hx, hR5, hl5, hO5, hG5⟩
                have hP5 := hPn.gr hG5 hR5
                have r0 : w5.cell? ⟨w.heap.size + 1 + 1, 5, none⟩ = some (.int .i64 (c.exp : Int)) := hP5.row.cell (by decide)
                have y0 : w5.frozen? ⟨w.heap.size + 1 + 1, 5, none⟩ = false := hP5.row.frozen 5
                have HM := hide ((unhide HV).num hkk (Or.inr rfl) hO5)
                clear hO5 hx
                go_wp2_with fail
                go_roundg (gO - 1)
                case measure => rw [← unhide HGO]; exact measP (unhide HKO).1 (unhide HKO).2
                case rel => exact ⟨k + 1, upd m 5, c.setN 5 x, p, seen ++ kk, u5, b5, relP (unhide HKO).1 (unhide HKO).2, rfl, by first | exact num1 (unhide HWK) | rfl, hP5.setExp x, (unhide HBd).setN 5 x, Nat.le_trans hl5 hu3, (unhide HSL kk hkl2).1, Or.inr ⟨Nat.succ_pos k, by rw [unhide H65]; exact unhide HM⟩⟩
              · have h1 : (kk == [106, 116, 105]) = false := by assumption
                have h2 : (kk == [115, 117, 98]) = false := by assumption
                have h3 : (kk == [115, 99, 112]) = false := by assumption
                have h4 : (kk == [97, 117, 100]) = false := by assumption
                have h5 : (kk == [97, 99, 116]) = false := by assumption
                have h6 : (kk == [101, 120, 112]) = false := by assumption
                have hkk : fieldS kk = none := by
                  unfold fieldS
                  rw [if_neg (show kk ≠ jtiL from ne_of_beq_false h1), if_neg (show kk ≠ subL from ne_of_beq_false h2), if_neg (show kk ≠ scpL from ne_of_beq_false h3), if_neg (show kk ≠ audL from ne_of_beq_false h4), if_neg (show kk ≠ actL from ne_of_beq_false h5), if_neg (show kk ≠ expL from ne_of_beq_false h6)]
                go_roundg (gO - 1)
                case measure => rw [← unhide HGO]; exact measP (unhide HKO).1 (unhide HKO).2
                case rel => exact ⟨k + 1, m, c, p, seen ++ kk, u3, true, relP (unhide HKO).1 (unhide HKO).2, rfl, by first | exact num1 (unhide HWK) | rfl, hPn.bad, unhide HBd, hu3, (unhide HSL kk hkl2).1, Or.inr ⟨Nat.succ_pos k, Or.inr ⟨rfl, unhide HNo hkk⟩⟩⟩
end Go.Proofs.YtkmkkmdpjliifaaGreatDoor
