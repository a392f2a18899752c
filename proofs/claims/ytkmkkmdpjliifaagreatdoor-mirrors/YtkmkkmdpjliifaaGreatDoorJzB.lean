import Derived.Test.YtkmkkmdpjliifaaGreatDoorJyA
namespace Go.Proofs.YtkmkkmdpjliifaaGreatDoor
open Go.ChangeShapes Go.WideShapes Go.ChangeAt Go.RowKit

set_option maxRecDepth 20000 in
set_option maxHeartbeats 2000000 in
theorem appendList_any (v vl : Value) (l : List UInt8) (ls : List (List UInt8)) (w : World) (base B : Nat) (hB : base ≤ w.heap.size) (hBB : B ≤ base) (hl : l.length ≤ 16384) (hN : Names ls) (hO : OwnU w base v l) (hv : Ls w B vl ls) :
    Calls Tryz.prog 103 #[v, vl] w (ApR base (l ++ listP ls) w) := by
  obtain ⟨a, c, rfl, hle, hv⟩ := hv
  clear hle
  have HV := hide hv
  have HN := hide hN
  have HJ := hide (joinK_length ls hN.2)
  have hl6 := hN.1
  have HL := hide hl
  clear hl hv hN
  go_enter Tryz.func103, Tryz.ntmps103
  go_wp2_with (at_builtin; refine appU (m := 1) rfl _ _ rfl base v l [91] rfl rfl (hO.alloc _) _ rfl (news1 w 91 _ rfl) (by have := unhide HL; omega) (by simp; omega) ?_; intro v1 w1 hO1 hg1)
  have hb1 := apB (Below.refl base w) hB hO hg1
  clear hg1
  go_loopg [0, 12] ls.length (fun q o i wr => ∃ (k : Nat), k + q = ls.length ∧ i = .int .i64 (k : Nat) ∧ OwnU wr base o (l ++ ([91] ++ joinK ls k)) ∧ Below base w wr)
  case atStart => exact ⟨0, Nat.zero_add _, rfl, hO1, hb1⟩
  case round =>
    clear hO1 hb1 hO
    obtain ⟨k, hk, rfl, hO, hb⟩ := hrel
    have hBr : base ≤ wr.heap.size := Nat.le_trans hB hb.size
    have hol : (l ++ ([91] ++ joinK ls k)).length ≤ 20000 := by
      have h1 := unhide HJ k (by omega)
      have h2 := unhide HL
      simp only [List.length_append, List.length_singleton]
      omega
    by_cases hlt : k < ls.length
    · have hw : wrap64 ((k : Int) + 1) = (k : Int) + 1 := w64 _ (by omega) (by omega)
      have hkl : (k : Int) < ls.length := by omega
      obtain ⟨g, o, rfl, hg, hC⟩ := unhide HV (by omega)
      have hc := (hb.cell (p := ⟨g, o + k, none⟩) (by show g < _; omega)).trans (hC k hlt)
      have hfit := (unhide HN).2 k hlt
      have HS : Hid (∀ x, x = (if k = 0 then [] else [44]) ++ quotS (ls.getD k []) → l ++ ([91] ++ joinK ls (k + 1)) = (l ++ ([91] ++ joinK ls k)) ++ x) := fun x hx => by
        rw [hx, joinK]; simp only [List.append_assoc]
      clear hC
      generalize ls.getD k [] = y at *
      rw [sv_def] at hc
      generalize l ++ ([91] ++ joinK ls k) = out at *
      by_cases h0 : k = 0
      · have hk0 : ¬ (0 : Int) < (k : Int) := by omega
        have HS2 : Hid (l ++ ([91] ++ joinK ls (k + 1)) = out ++ quotS y) := unhide HS _ (by rw [if_pos h0]; rfl)
        clear HS h0
        go_wp2_with (go_at_call 102; refine (appendText_any u0 out y _ base hBr (by omega) (by omega) hO).mono ?_; rintro e w2 ⟨v2, rfl, hO2, hb2⟩)
        go_roundg (gk - 1)
        case measure => omega
        case rel => exact ⟨k + 1, by omega, by first | exact num1 hw | rfl, by rw [unhide HS2]; exact hO2, hb.trans hb2⟩
      · have hk0 : (0 : Int) < (k : Int) := by omega
        have HS2 : Hid (l ++ ([91] ++ joinK ls (k + 1)) = (out ++ [44]) ++ quotS y) := by have h := unhide HS _ rfl; rw [if_neg h0] at h; unfold Hid; rw [h, List.append_assoc]
        clear HS h0
        go_wp2_with (first
          | (at_builtin; refine appU (m := 1) rfl _ _ rfl base u0 out [44] rfl rfl (hO.alloc _) _ rfl (news1 wr 44 _ rfl) (by omega) (by simp; omega) ?_; intro v2 w2 hO2 hg2)
          | (go_at_call 102; refine (appendText_any v2 (out ++ [44]) y _ base (by have := hg2.size; simp at this; omega) (by rw [List.length_append, List.length_singleton]; omega) (by omega) hO2).mono ?_; rintro e w3 ⟨v3, rfl, hO3, hb3⟩))
        go_roundg (gk - 1)
        case measure => omega
        case rel => exact ⟨k + 1, by omega, by first | exact num1 hw | rfl, by rw [unhide HS2]; exact hO3, (apB hb hBr hO hg2).trans hb3⟩
    · have hke : k = ls.length := by omega
      have HQS : Hid (l ++ listP ls = l ++ ([91] ++ joinK ls k) ++ [93]) := by rw [hke]; unfold listP Hid; simp
      generalize l ++ ([91] ++ joinK ls k) = out at *
      clear hke
      go_wp2_with (at_builtin; refine appU (m := 1) rfl _ _ rfl base u0 out [93] rfl rfl (hO.alloc _) _ rfl (news1 wr 93 _ rfl) (by omega) (by simp; omega) ?_; intro v2 w2 hO2 hg2)
      go_ret
      exact ⟨v2, rfl, by rw [unhide HQS]; exact hO2, apB hb hBr hO hg2⟩

theorem IsNumber_any (n : Int) (w : World) : Calls Tryz.prog 139 #[.int .i64 n] w fun e w' => e = .returned (.bool (decide (0 ≤ n) && decide (n ≤ 999999999999))) ∧ w' = w := by
  generalize hd1 : decide (0 ≤ n) = d1
  generalize hd2 : decide (n ≤ 999999999999) = d2
  cases d1 with
  | false =>
    go_enter Tryz.func139, Tryz.ntmps139
    go_wp2_with fail
    go_ret
    exact ⟨rfl, rfl⟩
  | true =>
    cases d2 with
    | false =>
      go_enter Tryz.func139, Tryz.ntmps139
      go_wp2_with fail
      go_ret
      exact ⟨rfl, rfl⟩
    | true =>
      go_enter Tryz.func139, Tryz.ntmps139
      go_wp2_with fail
      go_ret
      exact ⟨rfl, rfl⟩

theorem rightB_eq2 (c : Cz) : rightB c = ((decide (0 ≤ c.id) && decide (c.id ≤ 999999999999)) && (nameN c.sub && ((decide (0 ≤ c.exp) && decide (c.exp ≤ 999999999999)) && (listB c.scp && (listB c.aud && listB c.act))))) := by
  unfold rightB
  generalize nameN c.sub = a
  generalize listB c.scp = b
  generalize listB c.aud = d
  generalize listB c.act = e
  generalize decide (0 ≤ c.id) = f
  generalize decide (c.id ≤ 999999999999) = g
  generalize decide (0 ≤ c.exp) = h
  generalize decide (c.exp ≤ 999999999999) = i
  revert a b d e f g h i
  decide

set_option maxRecDepth 20000 in
set_option maxHeartbeats 2000000 in
theorem areClaims_any (c : Cz) (p : Pl) (w : World) (B : Nat) (hB : B ≤ w.heap.size) (hS : CzS c) (hL : CzL w B c p) (hT : UT w) :
    Calls Tryz.prog 100 #[.agg (czA c p)] w fun e w' => e = .returned (.bool (rightB c)) ∧ Below w.heap.size w w' := by
  generalize hr : rightB c = r
  rw [rightB_eq2] at hr
  have HR := hide hr
  clear hr
  unfold czA
  have HS := hide hS
  obtain ⟨wa, hwa⟩ : ∃ wa, wa = w.alloc (.cells #[.int .i64 c.id, .string ⟨c.sub.toArray⟩, .slice p.a2 c.scp.length p.c2, .slice p.a3 c.aud.length p.c3, .slice p.a4 c.act.length p.c4, .int .i64 c.exp] 60) := ⟨_, rfl⟩
  have hba : Below w.heap.size w wa := by rw [hwa]; exact (Below.refl _ _).alloc (Nat.le_refl _) _
  have hsa : wa.heap.size = w.heap.size + 1 := by rw [hwa]; simp
  have HLa := hide (hL.below (hba.mono hB))
  have HT := hide (hT.below hT.lt hba)
  have g0 : wa.cell? ⟨w.heap.size, 0, none⟩ = some (.int .i64 c.id) := by rw [hwa]; simp
  have g1 : wa.cell? ⟨w.heap.size, 1, none⟩ = some (.string ⟨c.sub.toArray⟩) := by rw [hwa]; simp
  have g2 : wa.cell? ⟨w.heap.size, 2, none⟩ = some (.slice p.a2 c.scp.length p.c2) := by rw [hwa]; simp
  have g3 : wa.cell? ⟨w.heap.size, 3, none⟩ = some (.slice p.a3 c.aud.length p.c3) := by rw [hwa]; simp
  have g4 : wa.cell? ⟨w.heap.size, 4, none⟩ = some (.slice p.a4 c.act.length p.c4) := by rw [hwa]; simp
  have g5 : wa.cell? ⟨w.heap.size, 5, none⟩ = some (.int .i64 c.exp) := by rw [hwa]; simp
  have HWA := hide hwa
  clear hS hL hwa hT
  go_enter Tryz.func100, Tryz.ntmps100
  go_wp2_with fail
  rw [← unhide HWA]
  clear HWA
  refine (IsNumber_any c.id _).mono ?_
  rintro e w0 ⟨rfl, rfl⟩
  generalize (decide (0 ≤ c.id) && decide (c.id ≤ 999999999999)) = d1 at HR ⊢
  cases d1 with
  | false => go_wp2_with fail; go_ret; exact ⟨by rw [← unhide HR]; rfl, hba⟩
  | true =>
  go_wp2_with fail
  refine (IsName_any c.sub _ (unhide HS).sub (unhide HT)).mono ?_
  rintro e w1 ⟨rfl, hb1⟩
  have hs1 := hb1.size
  have u : ∀ j, w1.cell? ⟨w.heap.size, j, none⟩ = w0.cell? ⟨w.heap.size, j, none⟩ := fun j => hb1.cell (p := ⟨w.heap.size, j, none⟩) (by show w.heap.size < _; omega)
  have HL1 := hide ((unhide HLa).below (hb1.mono (by omega)))
  have HT1 := hide ((unhide HT).belowS hb1)
  have hbb1 := hba.trans (hb1.mono (by omega))
  rw [← u 2] at g2
  rw [← u 3] at g3
  rw [← u 4] at g4
  rw [← u 5] at g5
  clear u g1 g0 HLa hb1 hba HT
  generalize nameN c.sub = n1 at HR ⊢
  cases n1 with
  | false => go_wp2_with fail; go_ret; exact ⟨by rw [← unhide HR]; rfl, hbb1⟩
  | true =>
  go_wp2_with fail
  refine (IsNumber_any c.exp _).mono ?_
  rintro e w9 ⟨rfl, rfl⟩
  generalize (decide (0 ≤ c.exp) && decide (c.exp ≤ 999999999999)) = d2 at HR ⊢
  cases d2 with
  | false => go_wp2_with fail; go_ret; exact ⟨by rw [← unhide HR]; rfl, hbb1⟩
  | true =>
  go_wp2_with fail
  refine (IsList_any _ c.scp _ B (by omega) (unhide HS).l2 (unhide HS).f2 (unhide HL1).k2 (unhide HT1)).mono ?_
  rintro e w2 ⟨rfl, hb2⟩
  have hs2 := hb2.size
  have u : ∀ j, w2.cell? ⟨w.heap.size, j, none⟩ = w9.cell? ⟨w.heap.size, j, none⟩ := fun j => hb2.cell (p := ⟨w.heap.size, j, none⟩) (by show w.heap.size < _; omega)
  have HL2 := hide ((unhide HL1).below (hb2.mono (by omega)))
  have HT2 := hide ((unhide HT1).belowS hb2)
  have hbb2 := hbb1.trans (hb2.mono (by omega))
  rw [← u 3] at g3
  rw [← u 4] at g4
  clear u g2 g5 HL1 hb2 hbb1 HT1
  generalize listB c.scp = n2 at HR ⊢
  cases n2 with
  | false => go_wp2_with fail; go_ret; exact ⟨by rw [← unhide HR]; rfl, hbb2⟩
  | true =>
  go_wp2_with fail
  refine (IsList_any _ c.aud _ B (by omega) (unhide HS).l3 (unhide HS).f3 (unhide HL2).k3 (unhide HT2)).mono ?_
  rintro e w3 ⟨rfl, hb3⟩
  have hs3 := hb3.size
  have u : ∀ j, w3.cell? ⟨w.heap.size, j, none⟩ = w2.cell? ⟨w.heap.size, j, none⟩ := fun j => hb3.cell (p := ⟨w.heap.size, j, none⟩) (by show w.heap.size < _; omega)
  have HL3 := hide ((unhide HL2).below (hb3.mono (by omega)))
  have HT3 := hide ((unhide HT2).belowS hb3)
  have hbb3 := hbb2.trans (hb3.mono (by omega))
  rw [← u 4] at g4
  clear u g3 HL2 hb3 hbb2 HT2
  generalize listB c.aud = n3 at HR ⊢
  cases n3 with
  | false => go_wp2_with fail; go_ret; exact ⟨by rw [← unhide HR]; rfl, hbb3⟩
  | true =>
  go_wp2_with fail
  refine (IsList_any _ c.act _ B (by omega) (unhide HS).l4 (unhide HS).f4 (unhide HL3).k4 (unhide HT3)).mono ?_
  rintro e w4 ⟨rfl, hb4⟩
  have hbb4 := hbb3.trans (hb4.mono (by omega))
  generalize listB c.act = n4 at HR ⊢
  go_wp2_with fail
  go_ret
  exact ⟨by rw [← unhide HR]; rfl, hbb4⟩
end Go.Proofs.YtkmkkmdpjliifaaGreatDoor
namespace Go.Proofs.YtkmkkmdpjliifaaGreatDoor
open Go.ChangeShapes Go.WideShapes Go.ChangeAt Go.RowKit

theorem conv_ownU {w : World} {base : Nat} {v : Value} {l : List UInt8} (h : OwnU w base v l) : (convert 110 9 v).run Tryz.prog w = .ok (.string ⟨l.toArray⟩) w := by
  rcases owns_cells h with ⟨rfl, hn⟩ | ⟨g, cap, rfl, _, _, _, hc⟩
  · obtain rfl : l = [] := List.length_eq_zero_iff.1 hn
    exact run_convert_bytes_nil w 110 5 Tryz.underlying110 Tryz.underlying5 0 0 9 Tryz.underlying9
  · have := run_convert_bytes_arg (P := Tryz.prog) w 110 5 Tryz.underlying110 Tryz.underlying5 g 0 l.length cap (l.map (fun b => (b.toNat : Int))) (by simp)
      (fun i hi => by rw [Nat.zero_add]; exact hc i _ (by unfold Lib.byteCells; simp [List.getD, hi])) 9 Tryz.underlying9
    have e : strOfNums (l.map (fun b => (b.toNat : Int))) = ⟨l.toArray⟩ := by
      simp only [strOfNums, List.map_map, Function.comp_def, Int.toNat_natCast]
      simp
    rw [this, e]
theorem itoa_nat (n : Nat) : Lib.itoa (n : Int) = Lib.decDigits n := by
  unfold Lib.itoa
  rw [if_neg (by omega), Int.toNat_natCast]
theorem apS {base : Nat} {w wr w' : World} {v : Value} {l : List UInt8} (hb : Below base w wr) (hB : base ≤ wr.heap.size) (hO : OwnU wr base v l) (hg : wr.grownBy w' v.ownBlock) : Below base w w' :=
  below_grown hb (v := v) (base := base) hg hB (fun k hk => hO.lt k hk) (Nat.le_refl _)
/-- the table of powers of ten -/
def PT (B : Nat) (w : World) : Prop := Lib.TabBelow Tryz.prog B w "internal/strconv.uint64pow10" .u64 Lib.pow10Tab
theorem PT.on {B : Nat} {w w' : World} (h : PT B w) (hb : Below B w w') : PT B w' := Lib.TabBelow.on h hb
theorem PT.up {B B' : Nat} {w : World} (h : PT B w) (hb : B ≤ B') : PT B' w := fun w' h' => h w' (h'.mono hb)
theorem appendInt_any (v : Value) (l : List UInt8) (n : Nat) (w : World) (base : Nat) (hB : base ≤ w.heap.size) (hl : l.length ≤ 65536) (hn : n ≤ 999999999999) (hO : OwnU w base v l) (hP : PT base w) :
    Calls Tryz.prog 101 #[v, .int .i64 (n : Nat), .int .i64 10] w (ApR base (l ++ Lib.decDigits n) w) := by
  refine (Tryz.appendInt base l.length (n : Nat) (by omega) (by omega) v _ w hO hB (by omega) hP).mono ?_
  rintro e w' ⟨v', rfl, ho, hb, _⟩
  rw [itoa_nat] at ho
  exact ⟨v', rfl, OwnU.of ho, hb⟩

set_option maxRecDepth 20000 in
set_option maxHeartbeats 4000000 in
theorem PrintC_any (c : Cz) (p : Pl) (w : World) (B : Nat) (hB : B ≤ w.heap.size) (hS : CzS c) (hL : CzL w B c p) (hT : UT w) (hP : PT B w) :
    Calls Tryz.prog 62 #[.agg (czA c p)] w fun e w' => PrnR c e ∧ Below w.heap.size w w' := by
  have HS := hide hS
  obtain ⟨wa, hwa⟩ : ∃ wa, wa = w.alloc (.cells #[.int .i64 c.id, .string ⟨c.sub.toArray⟩, .slice p.a2 c.scp.length p.c2, .slice p.a3 c.aud.length p.c3, .slice p.a4 c.act.length p.c4, .int .i64 c.exp] 60) := ⟨_, rfl⟩
  have hba : Below w.heap.size w wa := by rw [hwa]; exact (Below.refl _ _).alloc (Nat.le_refl _) _
  have hsa : wa.heap.size = w.heap.size + 1 := by rw [hwa]; simp
  have HLa := hide (hL.below (hba.mono hB))
  have HT := hide (hT.belowS hba)
  have HPa := hide (hP.on (hba.mono hB))
  have g0 : wa.cell? ⟨w.heap.size, 0, none⟩ = some (.int .i64 c.id) := by rw [hwa]; simp
  have g1 : wa.cell? ⟨w.heap.size, 1, none⟩ = some (.string ⟨c.sub.toArray⟩) := by rw [hwa]; simp
  have g2 : wa.cell? ⟨w.heap.size, 2, none⟩ = some (.slice p.a2 c.scp.length p.c2) := by rw [hwa]; simp
  have g3 : wa.cell? ⟨w.heap.size, 3, none⟩ = some (.slice p.a3 c.aud.length p.c3) := by rw [hwa]; simp
  have g4 : wa.cell? ⟨w.heap.size, 4, none⟩ = some (.slice p.a4 c.act.length p.c4) := by rw [hwa]; simp
  have g5 : wa.cell? ⟨w.heap.size, 5, none⟩ = some (.int .i64 c.exp) := by rw [hwa]; simp
  have HWA := hide hwa
  unfold czA
  clear hS hL hwa hT hP
  go_enter Tryz.func62, Tryz.ntmps62
  go_wp2_with fail
  rw [← unhide HWA]
  clear HWA
  refine (areClaims_any c p _ B (by omega) (unhide HS) (unhide HLa) (unhide HT)).mono ?_
  rintro e w1 ⟨rfl, hb1⟩
  have hs1 := hb1.size
  have HL1 := hide ((unhide HLa).below (hb1.mono (by omega)))
  have HP1 := hide ((unhide HPa).on (hb1.mono (by omega)))
  have hbb1 := hba.trans (hb1.mono (by omega))
  have u : ∀ j, w1.cell? ⟨w.heap.size, j, none⟩ = wa.cell? ⟨w.heap.size, j, none⟩ := fun j => hb1.cell (p := ⟨w.heap.size, j, none⟩) (by show w.heap.size < _; omega)
  rw [← u 0] at g0
  rw [← u 1] at g1
  rw [← u 2] at g2
  rw [← u 3] at g3
  rw [← u 4] at g4
  rw [← u 5] at g5
  clear u HLa hb1 hba HT HPa
  cases hr : rightB c with
  | false =>
    have HR := hide hr
    clear hr
    go_wp2_with fail
    go_ret2
    exact ⟨Or.inl ⟨unhide HR, rfl⟩, hbb1⟩
  | true =>
    obtain ⟨m, rfl, hi, he, hsub, n2, n3, n4⟩ := right_nums hr
    have HR := hide hr
    have HI := hide hi
    have HE := hide he
    have HSB := hide hsub
    have HN2 := hide n2
    have HN3 := hide n3
    have HN4 := hide n4
    have G0 : Hid (w1.cell? ⟨w.heap.size, 0, none⟩ = some (.int .i64 (m.id : Int))) := g0
    have G1 : Hid (w1.cell? ⟨w.heap.size, 1, none⟩ = some (.string ⟨m.sub.toArray⟩)) := g1
    have G2 : Hid (w1.cell? ⟨w.heap.size, 2, none⟩ = some (.slice p.a2 m.scp.length p.c2)) := g2
    have G3 : Hid (w1.cell? ⟨w.heap.size, 3, none⟩ = some (.slice p.a3 m.aud.length p.c3)) := g3
    have G4 : Hid (w1.cell? ⟨w.heap.size, 4, none⟩ = some (.slice p.a4 m.act.length p.c4)) := g4
    have G5 : Hid (w1.cell? ⟨w.heap.size, 5, none⟩ = some (.int .i64 (m.exp : Int))) := g5
    have hdl1 : (Lib.decDigits m.id).length ≤ 20 := dd_len _ (unhide HI)
    have hq1 : (quotS m.sub).length ≤ 98 := by have h1 := quotS_length m.sub; have h2 := unhide HSB; omega
    have hl2 := listP_length m.scp (unhide HN2).2 (unhide HN2).1
    have hl3 := listP_length m.aud (unhide HN3).2 (unhide HN3).1
    have hl4 := listP_length m.act (unhide HN4).2 (unhide HN4).1
    have hdl2 : (Lib.decDigits m.exp).length ≤ 20 := dd_len _ (unhide HE)
    have HQ : Hid ((Lib.decDigits m.id).length ≤ 20 ∧ (quotS m.sub).length ≤ 98 ∧ (listP m.scp).length ≤ 600 ∧ (listP m.aud).length ≤ 600 ∧ (listP m.act).length ≤ 600 ∧ (Lib.decDigits m.exp).length ≤ 20) := ⟨hdl1, hq1, hl2, hl3, hl4, hdl2⟩
    have HBASE : Hid (w.heap.size + 1 ≤ w1.heap.size ∧ B ≤ w.heap.size) := ⟨by omega, hB⟩
    clear hr hi he hsub n2 n3 n4 HS g0 g1 g2 g3 g4 g5 hdl1 hq1 hl2 hl3 hl4 hdl2
    obtain ⟨y0, hy0⟩ : ∃ y : List UInt8, y = [] := ⟨_, rfl⟩
    have hO0 : OwnU w1 (w.heap.size + 1) (.slice none 0 0) y0 := by rw [hy0]; exact OwnU.nil w1 (w.heap.size + 1)
    have hz0 : y0.length ≤ 0 := by rw [hy0]; exact Nat.le_refl _
    have hc0 := Below.refl (w.heap.size + 1) w1
    have hb0 := (unhide HBASE).1
    have HY0 : Hid (y0 = []) := hy0
    clear hy0
    go_wp2_with (at_builtin; refine appUS rfl _ _ rfl (w.heap.size + 1) (Value.slice none 0 0) y0 [123, 34, 106, 116, 105, 34, 58] rfl hO0 rfl (by show y0.length + 7 ≤ 16777216; omega) hb0 ?_; intro v1 x1 hO1 hg1; have hc1 := apS hc0 hb0 hO0 hg1; have f1 := (hc1.cell (p := ⟨w.heap.size, 0, none⟩) (Nat.lt_succ_self _)).trans (unhide G0))
    obtain ⟨y1, hy1⟩ : ∃ y, y = y0 ++ [123, 34, 106, 116, 105, 34, 58] := ⟨_, rfl⟩
    rw [← hy1] at hO1
    have hz1 : y1.length ≤ 7 := by rw [hy1, List.length_append]; have hq := unhide HQ; simp only [List.length_cons, List.length_nil] at *; omega
    have HY1 : Hid (y1 = y0 ++ [123, 34, 106, 116, 105, 34, 58]) := hy1
    have hb1 : w.heap.size + 1 ≤ x1.heap.size := Nat.le_trans (unhide HBASE).1 hc1.size
    clear hy1 hO0 hz0 hb0 hc0
    clear hg1
    refine (appendInt_any v1 y1 m.id _ (w.heap.size + 1) hb1 (by omega) (unhide HI) hO1 (((unhide HP1).on (hc1.mono (by have := unhide HBASE; omega))).up (by have := unhide HBASE; omega))).mono ?_
    rintro e x2 ⟨v2, rfl, hO2, hd2⟩
    have hc2 := hc1.trans hd2
    clear hd2 f1
    obtain ⟨y2, hy2⟩ : ∃ y, y = y1 ++ Lib.decDigits m.id := ⟨_, rfl⟩
    rw [← hy2] at hO2
    have hz2 : y2.length ≤ 27 := by rw [hy2, List.length_append]; have hq := unhide HQ; omega
    have HY2 : Hid (y2 = y1 ++ Lib.decDigits m.id) := hy2
    have hb2 : w.heap.size + 1 ≤ x2.heap.size := Nat.le_trans (unhide HBASE).1 hc2.size
    clear hy2 hO1 hz1 hb1 hc1
    go_wp2_with (at_builtin; refine appUS rfl _ _ rfl (w.heap.size + 1) v2 y2 [44, 34, 115, 117, 98, 34, 58] rfl hO2 rfl (by show y2.length + 7 ≤ 16777216; omega) hb2 ?_; intro v3 x3 hO3 hg3; have hc3 := apS hc2 hb2 hO2 hg3; have f3 := (hc3.cell (p := ⟨w.heap.size, 1, none⟩) (Nat.lt_succ_self _)).trans (unhide G1))
    obtain ⟨y3, hy3⟩ : ∃ y, y = y2 ++ [44, 34, 115, 117, 98, 34, 58] := ⟨_, rfl⟩
    rw [← hy3] at hO3
    have hz3 : y3.length ≤ 34 := by rw [hy3, List.length_append]; have hq := unhide HQ; simp only [List.length_cons, List.length_nil] at *; omega
    have HY3 : Hid (y3 = y2 ++ [44, 34, 115, 117, 98, 34, 58]) := hy3
    have hb3 : w.heap.size + 1 ≤ x3.heap.size := Nat.le_trans (unhide HBASE).1 hc3.size
    clear hy3 hO2 hz2 hb2 hc2
    clear hg3
    refine (appendText_any v3 y3 m.sub _ (w.heap.size + 1) hb3 (by omega) (by have := unhide HSB; omega) hO3).mono ?_
    rintro e x4 ⟨v4, rfl, hO4, hd4⟩
    have hc4 := hc3.trans hd4
    clear hd4 f3
    obtain ⟨y4, hy4⟩ : ∃ y, y = y3 ++ quotS m.sub := ⟨_, rfl⟩
    rw [← hy4] at hO4
    have hz4 : y4.length ≤ 132 := by rw [hy4, List.length_append]; have hq := unhide HQ; omega
    have HY4 : Hid (y4 = y3 ++ quotS m.sub) := hy4
    have hb4 : w.heap.size + 1 ≤ x4.heap.size := Nat.le_trans (unhide HBASE).1 hc4.size
    clear hy4 hO3 hz3 hb3 hc3
    go_wp2_with (at_builtin; refine appUS rfl _ _ rfl (w.heap.size + 1) v4 y4 [44, 34, 115, 99, 112, 34, 58] rfl hO4 rfl (by show y4.length + 7 ≤ 16777216; omega) hb4 ?_; intro v5 x5 hO5 hg5; have hc5 := apS hc4 hb4 hO4 hg5; have f5 := (hc5.cell (p := ⟨w.heap.size, 2, none⟩) (Nat.lt_succ_self _)).trans (unhide G2))
    obtain ⟨y5, hy5⟩ : ∃ y, y = y4 ++ [44, 34, 115, 99, 112, 34, 58] := ⟨_, rfl⟩
    rw [← hy5] at hO5
    have hz5 : y5.length ≤ 139 := by rw [hy5, List.length_append]; have hq := unhide HQ; simp only [List.length_cons, List.length_nil] at *; omega
    have HY5 : Hid (y5 = y4 ++ [44, 34, 115, 99, 112, 34, 58]) := hy5
    have hb5 : w.heap.size + 1 ≤ x5.heap.size := Nat.le_trans (unhide HBASE).1 hc5.size
    clear hy5 hO4 hz4 hb4 hc4
    clear hg5
    refine (appendList_any v5 _ y5 m.scp _ (w.heap.size + 1) B hb5 (by have := unhide HBASE; omega) (by omega) (unhide HN2) hO5 ((unhide HL1).k2.below (hc5.mono (by have := unhide HBASE; omega)))).mono ?_
    rintro e x6 ⟨v6, rfl, hO6, hd6⟩
    have hc6 := hc5.trans hd6
    clear hd6 f5
    obtain ⟨y6, hy6⟩ : ∃ y, y = y5 ++ listP m.scp := ⟨_, rfl⟩
    rw [← hy6] at hO6
    have hz6 : y6.length ≤ 739 := by rw [hy6, List.length_append]; have hq := unhide HQ; omega
    have HY6 : Hid (y6 = y5 ++ listP m.scp) := hy6
    have hb6 : w.heap.size + 1 ≤ x6.heap.size := Nat.le_trans (unhide HBASE).1 hc6.size
    clear hy6 hO5 hz5 hb5 hc5
    go_wp2_with (at_builtin; refine appUS rfl _ _ rfl (w.heap.size + 1) v6 y6 [44, 34, 97, 117, 100, 34, 58] rfl hO6 rfl (by show y6.length + 7 ≤ 16777216; omega) hb6 ?_; intro v7 x7 hO7 hg7; have hc7 := apS hc6 hb6 hO6 hg7; have f7 := (hc7.cell (p := ⟨w.heap.size, 3, none⟩) (Nat.lt_succ_self _)).trans (unhide G3))
    obtain ⟨y7, hy7⟩ : ∃ y, y = y6 ++ [44, 34, 97, 117, 100, 34, 58] := ⟨_, rfl⟩
    rw [← hy7] at hO7
    have hz7 : y7.length ≤ 746 := by rw [hy7, List.length_append]; have hq := unhide HQ; simp only [List.length_cons, List.length_nil] at *; omega
    have HY7 : Hid (y7 = y6 ++ [44, 34, 97, 117, 100, 34, 58]) := hy7
    have hb7 : w.heap.size + 1 ≤ x7.heap.size := Nat.le_trans (unhide HBASE).1 hc7.size
    clear hy7 hO6 hz6 hb6 hc6
    clear hg7
    refine (appendList_any v7 _ y7 m.aud _ (w.heap.size + 1) B hb7 (by have := unhide HBASE; omega) (by omega) (unhide HN3) hO7 ((unhide HL1).k3.below (hc7.mono (by have := unhide HBASE; omega)))).mono ?_
    rintro e x8 ⟨v8, rfl, hO8, hd8⟩
    have hc8 := hc7.trans hd8
    clear hd8 f7
    obtain ⟨y8, hy8⟩ : ∃ y, y = y7 ++ listP m.aud := ⟨_, rfl⟩
    rw [← hy8] at hO8
    have hz8 : y8.length ≤ 1346 := by rw [hy8, List.length_append]; have hq := unhide HQ; omega
    have HY8 : Hid (y8 = y7 ++ listP m.aud) := hy8
    have hb8 : w.heap.size + 1 ≤ x8.heap.size := Nat.le_trans (unhide HBASE).1 hc8.size
    clear hy8 hO7 hz7 hb7 hc7
    go_wp2_with (at_builtin; refine appUS rfl _ _ rfl (w.heap.size + 1) v8 y8 [44, 34, 97, 99, 116, 34, 58] rfl hO8 rfl (by show y8.length + 7 ≤ 16777216; omega) hb8 ?_; intro v9 x9 hO9 hg9; have hc9 := apS hc8 hb8 hO8 hg9; have f9 := (hc9.cell (p := ⟨w.heap.size, 4, none⟩) (Nat.lt_succ_self _)).trans (unhide G4))
    obtain ⟨y9, hy9⟩ : ∃ y, y = y8 ++ [44, 34, 97, 99, 116, 34, 58] := ⟨_, rfl⟩
    rw [← hy9] at hO9
    have hz9 : y9.length ≤ 1353 := by rw [hy9, List.length_append]; have hq := unhide HQ; simp only [List.length_cons, List.length_nil] at *; omega
    have HY9 : Hid (y9 = y8 ++ [44, 34, 97, 99, 116, 34, 58]) := hy9
    have hb9 : w.heap.size + 1 ≤ x9.heap.size := Nat.le_trans (unhide HBASE).1 hc9.size
    clear hy9 hO8 hz8 hb8 hc8
    clear hg9
    refine (appendList_any v9 _ y9 m.act _ (w.heap.size + 1) B hb9 (by have := unhide HBASE; omega) (by omega) (unhide HN4) hO9 ((unhide HL1).k4.below (hc9.mono (by have := unhide HBASE; omega)))).mono ?_
    rintro e x10 ⟨v10, rfl, hO10, hd10⟩
    have hc10 := hc9.trans hd10
    clear hd10 f9
    obtain ⟨y10, hy10⟩ : ∃ y, y = y9 ++ listP m.act := ⟨_, rfl⟩
    rw [← hy10] at hO10
    have hz10 : y10.length ≤ 1953 := by rw [hy10, List.length_append]; have hq := unhide HQ; omega
    have HY10 : Hid (y10 = y9 ++ listP m.act) := hy10
    have hb10 : w.heap.size + 1 ≤ x10.heap.size := Nat.le_trans (unhide HBASE).1 hc10.size
    clear hy10 hO9 hz9 hb9 hc9
    go_wp2_with (at_builtin; refine appUS rfl _ _ rfl (w.heap.size + 1) v10 y10 [44, 34, 101, 120, 112, 34, 58] rfl hO10 rfl (by show y10.length + 7 ≤ 16777216; omega) hb10 ?_; intro v11 x11 hO11 hg11; have hc11 := apS hc10 hb10 hO10 hg11; have f11 := (hc11.cell (p := ⟨w.heap.size, 5, none⟩) (Nat.lt_succ_self _)).trans (unhide G5))
    obtain ⟨y11, hy11⟩ : ∃ y, y = y10 ++ [44, 34, 101, 120, 112, 34, 58] := ⟨_, rfl⟩
    rw [← hy11] at hO11
    have hz11 : y11.length ≤ 1960 := by rw [hy11, List.length_append]; have hq := unhide HQ; simp only [List.length_cons, List.length_nil] at *; omega
    have HY11 : Hid (y11 = y10 ++ [44, 34, 101, 120, 112, 34, 58]) := hy11
    have hb11 : w.heap.size + 1 ≤ x11.heap.size := Nat.le_trans (unhide HBASE).1 hc11.size
    clear hy11 hO10 hz10 hb10 hc10
    clear hg11
    refine (appendInt_any v11 y11 m.exp _ (w.heap.size + 1) hb11 (by omega) (unhide HE) hO11 (((unhide HP1).on (hc11.mono (by have := unhide HBASE; omega))).up (by have := unhide HBASE; omega))).mono ?_
    rintro e x12 ⟨v12, rfl, hO12, hd12⟩
    have hc12 := hc11.trans hd12
    clear hd12 f11
    obtain ⟨y12, hy12⟩ : ∃ y, y = y11 ++ Lib.decDigits m.exp := ⟨_, rfl⟩
    rw [← hy12] at hO12
    have hz12 : y12.length ≤ 1980 := by rw [hy12, List.length_append]; have hq := unhide HQ; omega
    have HY12 : Hid (y12 = y11 ++ Lib.decDigits m.exp) := hy12
    have hb12 : w.heap.size + 1 ≤ x12.heap.size := Nat.le_trans (unhide HBASE).1 hc12.size
    clear hy12 hO11 hz11 hb11 hc11
    go_wp2_with (at_builtin; refine appU (m := 1) rfl _ _ rfl (w.heap.size + 1) v12 y12 [125] rfl rfl (hO12.alloc _) _ rfl (news1 x12 125 _ rfl) (by omega) (by simp; omega) ?_; intro v13 x13 hO13 hg13; have hcv := conv_ownU hO13)
    go_ret2
    have hc13 := apB hc12 hb12 hO12 hg13
    refine ⟨Or.inr ⟨m, rfl, unhide HR, ?_⟩, hbb1.trans (hc13.mono (by omega))⟩
    have hfin : y12 ++ [125] = plainS m := by
      rw [unhide HY12, unhide HY11, unhide HY10, unhide HY9, unhide HY8, unhide HY7, unhide HY6, unhide HY5, unhide HY4, unhide HY3, unhide HY2, unhide HY1, unhide HY0]
      rfl
    rw [← hfin]
    rfl

set_option maxRecDepth 20000 in
set_option maxHeartbeats 1000000 in
theorem PrintM_any (c : Cz) (p : Pl) (w : World) (B : Nat) (hB : B ≤ w.heap.size) (hS : CzS c) (hL : CzL w B c p) (hT : UT w) (hP : PT B w) :
    Calls Tryz.prog 19 #[.agg (czA c p)] w fun e w' => PrnR c e ∧ Below w.heap.size w w' := by
  obtain ⟨wa, hwa⟩ : ∃ wa, wa = w.alloc (.cells #[.int .i64 c.id, .string ⟨c.sub.toArray⟩, .slice p.a2 c.scp.length p.c2, .slice p.a3 c.aud.length p.c3, .slice p.a4 c.act.length p.c4, .int .i64 c.exp] 60) := ⟨_, rfl⟩
  have hba : Below w.heap.size w wa := by rw [hwa]; exact (Below.refl _ _).alloc (Nat.le_refl _) _
  have hsa : wa.heap.size = w.heap.size + 1 := by rw [hwa]; simp
  have HC := hide (PrintC_any c p wa B (by omega) hS (hL.below (hba.mono hB)) (hT.belowS hba) (hP.on (hba.mono hB)))
  have HWA := hide hwa
  clear hS hL hT hP hwa
  unfold czA at *
  go_enter Tryz.func19, Tryz.ntmps19
  go_wp2_with fail
  rw [← unhide HWA]
  clear HWA
  refine (unhide HC).mono ?_
  rintro e w1 ⟨hp, hb1⟩
  have hbb := hba.trans (hb1.mono (by omega))
  have HPp := hide hp
  rcases hp with ⟨h1, rfl⟩ | ⟨m, h1, h2, rfl⟩
  · clear h1
    go_wp2_with fail
    go_ret2
    exact ⟨unhide HPp, hbb⟩
  · clear h1 h2
    go_wp2_with fail
    go_ret2
    exact ⟨unhide HPp, hbb⟩
end Go.Proofs.YtkmkkmdpjliifaaGreatDoor
