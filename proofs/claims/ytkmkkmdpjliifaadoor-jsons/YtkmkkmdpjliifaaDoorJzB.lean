import Derived.Test.YtkmkkmdpjliifaaDoorJzA
namespace Go.Proofs.YtkmkkmdpjliifaaDoor
open Go.ChangeShapes Go.WideShapes Go.ChangeAt Go.RowKit

set_option maxRecDepth 20000 in
set_option maxHeartbeats 2000000 in
theorem appendList_any (v vl : Value) (l : List UInt8) (ls : List (List UInt8)) (w : World) (base B : Nat) (hB : base ≤ w.heap.size) (hBB : B ≤ base) (hl : l.length ≤ 16384) (hN : Names ls) (hO : OwnU w base v l) (hv : Ls w B vl ls) :
    Calls Tryd.prog 67 #[v, vl] w (ApR base (l ++ listP ls) w) := by
  obtain ⟨a, c, rfl, hle, hv⟩ := hv
  clear hle
  have HV := hide hv
  have HN := hide hN
  have HJ := hide (joinK_length ls hN.2)
  have hl6 := hN.1
  have HL := hide hl
  clear hl hv hN
  go_enter Tryd.func67, Tryd.ntmps67
  go_wp2_with (at_builtin; refine appU (m := 1) rfl _ _ rfl base v l [91] rfl rfl (hO.alloc _) _ rfl (news1 w 91 _ rfl) (by have := unhide HL; omega) (by simp; omega) ?_; intro v1 w1 hO1 hg1)
  have hb1 := apB (Below.refl base w) hB hO hg1
  clear hg1
  go_loopg [0, 12] ls.length (fun q o i wr => ∃ (k : Nat), k + q = ls.length ∧ i = .int .i64 (k : Nat) ∧ OwnU wr base o (l ++ ([91] ++ joinK ls k)) ∧ Below base w wr)
  case atStart => exact ⟨0, Nat.zero_add _, rfl, hO1, hb1⟩
  case round =>
    clear hO1 hb1 hO
    obtain ⟨k, hk, rfl, hO, hb⟩ := hrel
    have hBr : base ≤ wr.heap.size := Nat.le_trans hB hb.size
    have hol : (l ++ ([91] ++ joinK ls k)).length ≤ 20000 := by
      have h1 := unhide HJ k (by omega)
      have h2 := unhide HL
      simp only [List.length_append, List.length_singleton]
      omega
    by_cases hlt : k < ls.length
    · have hw : wrap64 ((k : Int) + 1) = (k : Int) + 1 := w64 _ (by omega) (by omega)
      have hkl : (k : Int) < ls.length := by omega
      obtain ⟨g, o, rfl, hg, hC⟩ := unhide HV (by omega)
      have hc := (hb.cell (p := ⟨g, o + k, none⟩) (by show g < _; omega)).trans (hC k hlt)
      have hfit := (unhide HN).2 k hlt
      have HS : Hid (∀ x, x = (if k = 0 then [] else [44]) ++ quotS (ls.getD k []) → l ++ ([91] ++ joinK ls (k + 1)) = (l ++ ([91] ++ joinK ls k)) ++ x) := fun x hx => by
        rw [hx, joinK]; simp only [List.append_assoc]
      clear hC
      generalize ls.getD k [] = y at *
      rw [sv_def] at hc
      generalize l ++ ([91] ++ joinK ls k) = out at *
      by_cases h0 : k = 0
      · have hk0 : ¬ (0 : Int) < (k : Int) := by omega
        have HS2 : Hid (l ++ ([91] ++ joinK ls (k + 1)) = out ++ quotS y) := unhide HS _ (by rw [if_pos h0]; rfl)
        clear HS h0
        go_wp2_with (go_at_call 66; refine (appendText_any u0 out y _ base hBr (by omega) (by omega) hO).mono ?_; rintro e w2 ⟨v2, rfl, hO2, hb2⟩)
        go_roundg (gk - 1)
        case measure => omega
        case rel => exact ⟨k + 1, by omega, by first | exact num1 hw | rfl, by rw [unhide HS2]; exact hO2, hb.trans hb2⟩
      · have hk0 : (0 : Int) < (k : Int) := by omega
        have HS2 : Hid (l ++ ([91] ++ joinK ls (k + 1)) = (out ++ [44]) ++ quotS y) := by have h := unhide HS _ rfl; rw [if_neg h0] at h; unfold Hid; rw [h, List.append_assoc]
        clear HS h0
        go_wp2_with (first
          | (at_builtin; refine appU (m := 1) rfl _ _ rfl base u0 out [44] rfl rfl (hO.alloc _) _ rfl (news1 wr 44 _ rfl) (by omega) (by simp; omega) ?_; intro v2 w2 hO2 hg2)
          | (go_at_call 66; refine (appendText_any v2 (out ++ [44]) y _ base (by have := hg2.size; simp at this; omega) (by rw [List.length_append, List.length_singleton]; omega) (by omega) hO2).mono ?_; rintro e w3 ⟨v3, rfl, hO3, hb3⟩))
        go_roundg (gk - 1)
        case measure => omega
        case rel => exact ⟨k + 1, by omega, by first | exact num1 hw | rfl, by rw [unhide HS2]; exact hO3, (apB hb hBr hO hg2).trans hb3⟩
    · have hke : k = ls.length := by omega
      have HQS : Hid (l ++ listP ls = l ++ ([91] ++ joinK ls k) ++ [93]) := by rw [hke]; unfold listP Hid; simp
      generalize l ++ ([91] ++ joinK ls k) = out at *
      clear hke
      go_wp2_with (at_builtin; refine appU (m := 1) rfl _ _ rfl base u0 out [93] rfl rfl (hO.alloc _) _ rfl (news1 wr 93 _ rfl) (by omega) (by simp; omega) ?_; intro v2 w2 hO2 hg2)
      go_ret
      exact ⟨v2, rfl, by rw [unhide HQS]; exact hO2, apB hb hBr hO hg2⟩

theorem IsNumber_any (n : Int) (w : World) : Calls Tryd.prog 86 #[.int .i64 n] w fun e w' => e = .returned (.bool (decide (0 ≤ n) && decide (n ≤ 999999999999))) ∧ w' = w := by
  generalize hd1 : decide (0 ≤ n) = d1
  generalize hd2 : decide (n ≤ 999999999999) = d2
  cases d1 with
  | false =>
    go_enter Tryd.func86, Tryd.ntmps86
    go_wp2_with fail
    go_ret
    exact ⟨rfl, rfl⟩
  | true =>
    cases d2 with
    | false =>
      go_enter Tryd.func86, Tryd.ntmps86
      go_wp2_with fail
      go_ret
      exact ⟨rfl, rfl⟩
    | true =>
      go_enter Tryd.func86, Tryd.ntmps86
      go_wp2_with fail
      go_ret
      exact ⟨rfl, rfl⟩

theorem rightB_eq2 (c : Cz) : rightB c = ((decide (0 ≤ c.id) && decide (c.id ≤ 999999999999)) && (nameN c.sub && ((decide (0 ≤ c.exp) && decide (c.exp ≤ 999999999999)) && (listB c.scp && (listB c.aud && listB c.act))))) := by
  unfold rightB
  generalize nameN c.sub = a
  generalize listB c.scp = b
  generalize listB c.aud = d
  generalize listB c.act = e
  generalize decide (0 ≤ c.id) = f
  generalize decide (c.id ≤ 999999999999) = g
  generalize decide (0 ≤ c.exp) = h
  generalize decide (c.exp ≤ 999999999999) = i
  revert a b d e f g h i
  decide

set_option maxRecDepth 20000 in
set_option maxHeartbeats 2000000 in
theorem areClaims_any (c : Cz) (p : Pl) (w : World) (B : Nat) (hB : B ≤ w.heap.size) (hS : CzS c) (hL : CzL w B c p) (hT : UT w) :
    Calls Tryd.prog 64 #[.agg (czA c p)] w fun e w' => e = .returned (.bool (rightB c)) ∧ Below w.heap.size w w' := by
  generalize hr : rightB c = r
  rw [rightB_eq2] at hr
  have HR := hide hr
  clear hr
  unfold czA
  have HS := hide hS
  obtain ⟨wa, hwa⟩ : ∃ wa, wa = w.alloc (.cells #[.int .i64 c.id, .string ⟨c.sub.toArray⟩, .slice p.a2 c.scp.length p.c2, .slice p.a3 c.aud.length p.c3, .slice p.a4 c.act.length p.c4, .int .i64 c.exp] 37) := ⟨_, rfl⟩
  have hba : Below w.heap.size w wa := by rw [hwa]; exact (Below.refl _ _).alloc (Nat.le_refl _) _
  have hsa : wa.heap.size = w.heap.size + 1 := by rw [hwa]; simp
  have HLa := hide (hL.below (hba.mono hB))
  have HT := hide (hT.below hT.lt hba)
  have g0 : wa.cell? ⟨w.heap.size, 0, none⟩ = some (.int .i64 c.id) := by rw [hwa]; simp
  have g1 : wa.cell? ⟨w.heap.size, 1, none⟩ = some (.string ⟨c.sub.toArray⟩) := by rw [hwa]; simp
  have g2 : wa.cell? ⟨w.heap.size, 2, none⟩ = some (.slice p.a2 c.scp.length p.c2) := by rw [hwa]; simp
  have g3 : wa.cell? ⟨w.heap.size, 3, none⟩ = some (.slice p.a3 c.aud.length p.c3) := by rw [hwa]; simp
  have g4 : wa.cell? ⟨w.heap.size, 4, none⟩ = some (.slice p.a4 c.act.length p.c4) := by rw [hwa]; simp
  have g5 : wa.cell? ⟨w.heap.size, 5, none⟩ = some (.int .i64 c.exp) := by rw [hwa]; simp
  have HWA := hide hwa
  clear hS hL hwa hT
  go_enter Tryd.func64, Tryd.ntmps64
  go_wp2_with fail
  rw [← unhide HWA]
  clear HWA
  refine (IsNumber_any c.id _).mono ?_
  rintro e w0 ⟨rfl, rfl⟩
  generalize (decide (0 ≤ c.id) && decide (c.id ≤ 999999999999)) = d1 at HR ⊢
  cases d1 with
  | false => go_wp2_with fail; go_ret; exact ⟨by rw [← unhide HR]; rfl, hba⟩
  | true =>
  go_wp2_with fail
  refine (IsName_any c.sub _ (unhide HS).sub (unhide HT)).mono ?_
  rintro e w1 ⟨rfl, hb1⟩
  have hs1 := hb1.size
  have u : ∀ j, w1.cell? ⟨w.heap.size, j, none⟩ = w0.cell? ⟨w.heap.size, j, none⟩ := fun j => hb1.cell (p := ⟨w.heap.size, j, none⟩) (by show w.heap.size < _; omega)
  have HL1 := hide ((unhide HLa).below (hb1.mono (by omega)))
  have HT1 := hide ((unhide HT).belowS hb1)
  have hbb1 := hba.trans (hb1.mono (by omega))
  rw [← u 2] at g2
  rw [← u 3] at g3
  rw [← u 4] at g4
  rw [← u 5] at g5
  clear u g1 g0 HLa hb1 hba HT
  generalize nameN c.sub = n1 at HR ⊢
  cases n1 with
  | false => go_wp2_with fail; go_ret; exact ⟨by rw [← unhide HR]; rfl, hbb1⟩
  | true =>
  go_wp2_with fail
  refine (IsNumber_any c.exp _).mono ?_
  rintro e w9 ⟨rfl, rfl⟩
  generalize (decide (0 ≤ c.exp) && decide (c.exp ≤ 999999999999)) = d2 at HR ⊢
  cases d2 with
  | false => go_wp2_with fail; go_ret; exact ⟨by rw [← unhide HR]; rfl, hbb1⟩
  | true =>
  go_wp2_with fail
  refine (IsList_any _ c.scp _ B (by omega) (unhide HS).l2 (unhide HS).f2 (unhide HL1).k2 (unhide HT1)).mono ?_
  rintro e w2 ⟨rfl, hb2⟩
  have hs2 := hb2.size
  have u : ∀ j, w2.cell? ⟨w.heap.size, j, none⟩ = w9.cell? ⟨w.heap.size, j, none⟩ := fun j => hb2.cell (p := ⟨w.heap.size, j, none⟩) (by show w.heap.size < _; omega)
  have HL2 := hide ((unhide HL1).below (hb2.mono (by omega)))
  have HT2 := hide ((unhide HT1).belowS hb2)
  have hbb2 := hbb1.trans (hb2.mono (by omega))
  rw [← u 3] at g3
  rw [← u 4] at g4
  clear u g2 g5 HL1 hb2 hbb1 HT1
  generalize listB c.scp = n2 at HR ⊢
  cases n2 with
  | false => go_wp2_with fail; go_ret; exact ⟨by rw [← unhide HR]; rfl, hbb2⟩
  | true =>
  go_wp2_with fail
  refine (IsList_any _ c.aud _ B (by omega) (unhide HS).l3 (unhide HS).f3 (unhide HL2).k3 (unhide HT2)).mono ?_
  rintro e w3 ⟨rfl, hb3⟩
  have hs3 := hb3.size
  have u : ∀ j, w3.cell? ⟨w.heap.size, j, none⟩ = w2.cell? ⟨w.heap.size, j, none⟩ := fun j => hb3.cell (p := ⟨w.heap.size, j, none⟩) (by show w.heap.size < _; omega)
  have HL3 := hide ((unhide HL2).below (hb3.mono (by omega)))
  have HT3 := hide ((unhide HT2).belowS hb3)
  have hbb3 := hbb2.trans (hb3.mono (by omega))
  rw [← u 4] at g4
  clear u g3 HL2 hb3 hbb2 HT2
  generalize listB c.aud = n3 at HR ⊢
  cases n3 with
  | false => go_wp2_with fail; go_ret; exact ⟨by rw [← unhide HR]; rfl, hbb3⟩
  | true =>
  go_wp2_with fail
  refine (IsList_any _ c.act _ B (by omega) (unhide HS).l4 (unhide HS).f4 (unhide HL3).k4 (unhide HT3)).mono ?_
  rintro e w4 ⟨rfl, hb4⟩
  have hbb4 := hbb3.trans (hb4.mono (by omega))
  generalize listB c.act = n4 at HR ⊢
  go_wp2_with fail
  go_ret
  exact ⟨by rw [← unhide HR]; rfl, hbb4⟩
end Go.Proofs.YtkmkkmdpjliifaaDoor
