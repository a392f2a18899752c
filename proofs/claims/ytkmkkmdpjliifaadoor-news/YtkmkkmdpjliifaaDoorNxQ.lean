import Derived.Test.YtkmkkmdpjliifaaDoorNxP
namespace Go.Proofs.YtkmkkmdpjliifaaDoor
open Go.ChangeShapes Go.WideShapes Go.ChangeAt Go.RowKit

theorem spK_step (F : Nat → Value) (k j : Nat) :
    (if j = k * 2 + 1 then .string ⟨#[115, 112, 111, 105, 108, 116]⟩ else if j = k * 2 then .string ⟨#[115, 112, 111, 105, 108, 116]⟩ else if j / 2 < k then sv spoiltL else F j) = if j / 2 < k + 1 then sv spoiltL else F j := by
  by_cases h : j / 2 = k
  · rw [if_pos (show j / 2 < k + 1 by omega)]
    rcases (show j = k * 2 ∨ j = k * 2 + 1 by omega) with e | e
    · rw [if_neg (by omega), if_pos e]; rfl
    · rw [if_pos e]; rfl
  · rw [if_neg (by omega), if_neg (by omega)]
    have e : (j / 2 < k + 1) ↔ j / 2 < k := by omega
    simp only [e]

theorem div2_0 (k : Nat) : k * 2 / 2 = k := by omega
theorem div2_1 (k : Nat) : (k * 2 + 1) / 2 = k := by omega
theorem none_eq {po qo : Option Addr} (h : po.isSome = qo.isSome) : (po.isNone == qo.isNone) = true := by
  cases po <;> cases qo <;> simp_all
theorem lists_below {w w' : World} {G : Nat} {cs : List Cl} (h : ∀ i, i < cs.length → ListsAt w G i (cs.getD i default)) (hb : Below w.heap.size w w') (hG : G + 1 + 3 * cs.length ≤ w.heap.size) : ∀ i, i < cs.length → ListsAt w' G i (cs.getD i default) := by
  intro i hi
  obtain ⟨r1, r2, r3⟩ := h i hi
  exact ⟨r1.below hb (by omega), r2.below hb (by omega), r3.below hb (by omega)⟩

set_option maxRecDepth 20000 in
set_option maxHeartbeats 2000000 in
theorem opened_any (h : Value) (hh : ∃ a n c a2 n2 c2, h = .agg #[.slice a n c, .slice a2 n2 c2]) (v vc : Value) (ks : List Ky) (cs : List Cl) (w : World) (B : Nat) (hB : B ≤ w.heap.size) (hl : ks.length ≤ 4398046511104) (hF : KFits ks) (hv : Ks w B v ks) (hcl : cs.length ≤ 1353245080301) (hCF : CFits cs) (hC : Cs w B vc cs) (hT : UT w) :
    Calls Tryd.prog 24 #[h, v, vc] w fun e w' => (∃ po qo, e = .returned (.tuple #[.pointer po, .pointer qo, .bool true]) ∧ po.isSome = newB ks cs) ∧ Below w.heap.size w w' := by
  obtain ⟨ha, hna, hca, hb_, hnb, hcb, rfl⟩ := hh
  have hv' := hv
  have hC' := hC
  obtain ⟨a, c, rfl, hvx⟩ := hv'
  obtain ⟨a2, c2, rfl, _⟩ := hC'
  have hadd : wrap64 ((ks.length : Int) + 4) = (ks.length : Int) + 4 := w64 _ (by omega) (by omega)
  have hmk := make52 ((ks.length : Int) + 4) ((ks.length : Int) + 4) (by omega) (by omega) (by omega)
  have htn : ((ks.length : Int) + 4).toNat = ks.length + 4 := by omega
  rw [htn] at hmk
  clear htn
  have HL := hide hl
  have HL2 : Hid (ks.length ≤ 8796093022208) := show ks.length ≤ 8796093022208 by omega
  have HF := hide hF
  have HCL := hide hcl
  have HCF := hide hCF
  have HT := hide hT
  obtain ⟨w0, hw0⟩ : ∃ w0, w0 = w.alloc (.cells #[.slice ha hna hca, .slice hb_ hnb hcb] 24) := ⟨_, rfl⟩
  have hb0 : Below w.heap.size w w0 := by rw [hw0]; exact (Below.refl _ _).alloc (Nat.le_refl _) _
  have hs0 : w0.heap.size = w.heap.size + 1 := by rw [hw0]; simp
  have hH0 : w0.cell? ⟨w.heap.size, 0, none⟩ = some (.slice ha hna hca) := by rw [hw0]; simp
  have hH1 : w0.cell? ⟨w.heap.size, 1, none⟩ = some (.slice hb_ hnb hcb) := by rw [hw0]; simp
  obtain ⟨w1, hrun, hKR, hs1, hb1⟩ := copy_keys (ty := 3) (by omega) (hv.below (hb0.mono hB))
  have hKs0 := hide (hv.below (hb0.mono hB))
  have HV := hide hv
  have HC := hide hC
  rw [hs0, hw0] at hrun
  rw [hs0] at hKR hs1
  clear hw0 hv hC hl hF hcl hCF hT hvx
  go_enter Tryd.func24, Tryd.ntmps24
  go_wp2_with (at_builtin; refine copyLaw rfl _ _ rfl rfl rfl hrun ?_)
  have hbw1 : Below w.heap.size w w1 := hb0.trans (hb1.mono (by omega))
  have hH0 := (hb1.cell (p := ⟨w.heap.size, 0, none⟩) (by show w.heap.size < _; omega)).trans hH0
  have hH1 := (hb1.cell (p := ⟨w.heap.size, 1, none⟩) (by show w.heap.size < _; omega)).trans hH1
  clear hrun hb1 hb0 hs0 hadd hmk
  refine (lentClients_any _ cs w1 B (by omega) (unhide HCL) (fun i hi => (unhide HCF i hi).1) ((unhide HC).below (hbw1.mono hB))).mono ?_
  rintro e w2 ⟨rfl, hCR, hCL, hs2, hb2⟩
  have hbw2 : Below w.heap.size w w2 := hbw1.trans (hb2.mono (by omega))
  have hH0 := (hb2.cell (p := ⟨w.heap.size, 0, none⟩) (by show w.heap.size < _; omega)).trans hH0
  have hH1 := (hb2.cell (p := ⟨w.heap.size, 1, none⟩) (by show w.heap.size < _; omega)).trans hH1
  have hKR2 := hKR.below hb2 (by omega)
  rw [hs1] at hCR hCL
  have HKR2 := hide hKR2
  have HCR := hide hCR
  have HCLs := hide hCL
  clear hKR hKR2 hCR hCL hb2 hbw1
  have hle4 : ((ks.length : Nat) : Int) ≤ ((ks.length + 4 : Nat) : Int) := by omega
  go_wp2_with fail
  refine (NewP_any _ _ ks cs w2 w2.heap.size (Nat.le_refl _) (unhide HL2) (unhide HF) (row_Ks (c := ks.length + 4) rfl (unhide HKR2)) (unhide HCF) (row_Cs (unhide HCR) (unhide HCLs)) ((unhide HT).belowS hbw2)).mono ?_
  rintro e w3 ⟨⟨po, rfl, hpo⟩, hb3⟩
  have hs3 := hb3.size
  have hbw3 : Below w.heap.size w w3 := hbw2.trans (hb3.mono (by omega))
  have hH0 := (hb3.cell (p := ⟨w.heap.size, 0, none⟩) (by show w.heap.size < _; omega)).trans hH0
  have hH1 := (hb3.cell (p := ⟨w.heap.size, 1, none⟩) (by show w.heap.size < _; omega)).trans hH1
  have HKR3 := hide ((unhide HKR2).below hb3 (by omega))
  have HCR3 := hide ((unhide HCR).below hb3 (by omega))
  have HCL3 := hide (lists_below (unhide HCLs) hb3 (by omega))
  have HPO := hide hpo
  clear HKR2 HCR HCLs hpo hb3
  go_wp2_with fail
  refine (NewR_any _ ⟨_, _, _, _, _, _, rfl⟩ _ _ ks cs w3 B (by omega) (unhide HL) (unhide HF) ((unhide HV).below (hbw3.mono hB)) (unhide HCL) (unhide HCF) ((unhide HC).below (hbw3.mono hB))).mono ?_
  rintro e w4 ⟨⟨qo, rfl, hqo⟩, hb4⟩
  have hs4 := hb4.size
  have hbw4 : Below w.heap.size w w4 := hbw3.trans (hb4.mono (by omega))
  have HKR4 := hide ((unhide HKR3).below hb4 (by omega))
  have HCR4 := hide ((unhide HCR3).below hb4 (by omega))
  have HCL4 := hide (lists_below (unhide HCL3) hb4 (by omega))
  have HQO := hide hqo
  clear HKR3 HCR3 HCL3 hqo hb4 hH0 hH1
  generalize herr : errOf (newB ks cs) = er
  clear herr
  go_wp2_with fail
  refine (clientsStay_any _ cs w4 B (w.heap.size + 1 + 1) (by omega) (unhide HCL) (fun i hi => (unhide HCF i hi).1) ((unhide HC).below (hbw4.mono hB)) (unhide HCR4) (unhide HCL4)).mono ?_
  rintro e w5 ⟨rfl, hb5⟩
  have hbw5 : Below w.heap.size w w5 := hbw4.trans (hb5.below (by omega))
  have HKR5 := hide ((unhide HKR4).below (hb5.below (B := w.heap.size + 1 + 1) (Nat.le_refl _)) (by omega))
  clear HKR4 HCR4 HCL4
  have HPQ := hide (none_eq ((unhide HPO).trans (unhide HQO).symm))
  clear HQO
  go_wp2
  go_loopg [15, 16] (ks.length + 4) (fun q b i wr => ∃ k n : Nat, k + q = ks.length + 4 ∧ b = .bool true ∧ i = .int .i64 (k : Nat) ∧ Row wr (w.heap.size + 1) 59 (2 * (ks.length + 4)) (fun j => if j / 2 < k then sv spoiltL else keyF ks j) ∧ But (w.heap.size + 1) (w5.drewN n) wr)
  case atStart => exact ⟨0, 0, Nat.zero_add _, rfl, rfl, (unhide HKR5).congr (fun j hj => by rw [if_neg (Nat.not_lt_zero _)]), But.refl _ _⟩
  case round =>
    obtain ⟨k, nd, hk, rfl, rfl, hR, hb⟩ := hrel
    have hw : wrap64 ((k : Int) + 1) = (k : Int) + 1 := w64 _ (by omega) (by have := unhide HL; omega)
    by_cases hlt : k < ks.length + 4
    · have c0 := hR.cell (j := k * 2) (by omega)
      have c1 := hR.cell (j := k * 2 + 1) (by omega)
      rw [div2_0, if_neg (Nat.lt_irrefl k)] at c0
      rw [div2_1, if_neg (Nat.lt_irrefl k)] at c1
      have z0 := hR.frozen (k * 2)
      have z1 := hR.frozen (k * 2 + 1)
      have HR := hide hR
      clear hR
      by_cases h1 : k < ks.length
      · rw [keyF_0 ks k h1] at c0
        rw [keyF_1 ks k h1] at c1
        obtain ⟨a1, c1', he, hx⟩ := unhide HV
        obtain ⟨g, o, e, hg, hC⟩ := hx (Nat.lt_of_le_of_lt (Nat.zero_le k) h1)
        have hgne : g ≠ w.heap.size + 1 := Nat.ne_of_lt (Nat.lt_of_lt_of_le hg (Nat.le_succ_of_le hB))
        injection he with e1 e2 e3
        subst e1
        subst e
        have hxk := (hC k h1).below (hbw5.mono hB) hg
        have d0 : wr.cell? ⟨g, o + k * 2, none⟩ = some (sv (ks.getD k default).name) := (hb.cell (a := ⟨g, o + k * 2, none⟩) hgne).trans hxk.1
        have d1 : wr.cell? ⟨g, o + k * 2 + 1, none⟩ = some (sv (ks.getD k default).secret) := (hb.cell (a := ⟨g, o + k * 2 + 1, none⟩) hgne).trans hxk.2
        generalize (ks.getD k default).name = y at c0 d0
        generalize (ks.getD k default).secret = s at c1 d1
        rw [sv_def] at c0 c1 d0 d1
        clear hC hxk hx e2 e3
        have hkl : (k : Int) < ks.length := Int.ofNat_lt.2 h1
        go_wp2
        go_quiet (fail)
        go_wp2
        go_roundg (gk - 1)
        case measure => exact meas1 hk hlt
        case rel => exact ⟨k + 1, nd, meas2 hk hlt, rfl, by first | exact num1 hw | rfl, ((((unhide HR).drewN nq).set (k * 2) _).set (k * 2 + 1) _).congr (fun j hj => spK_step (keyF ks) k j), ((hb.drewN nq).setCell _ _).setCell _ _⟩
      · rw [keyF_out ks _ (by rw [div2_0]; exact h1)] at c0
        rw [keyF_out ks _ (by rw [div2_1]; exact h1)] at c1
        rw [sv_def] at c0 c1
        have hkl : ¬ (k : Int) < ks.length := fun h => h1 (Int.ofNat_lt.1 h)
        go_wp2
        go_roundg (gk - 1)
        case measure => exact meas1 hk hlt
        case rel => exact ⟨k + 1, nd, meas2 hk hlt, rfl, by first | exact num1 hw | rfl, (((unhide HR).set (k * 2) _).set (k * 2 + 1) _).congr (fun j hj => spK_step (keyF ks) k j), (hb.setCell _ _).setCell _ _⟩
    · go_wp2
      go_ret3
      refine ⟨⟨po, qo, ?_, unhide HPO⟩, (below_drewN' hbw5 nd).trans (hb.below (Nat.le_succ _))⟩
      exact congrArg (fun b => Ending.returned (.tuple #[.pointer po, .pointer qo, .bool b])) (unhide HPQ)

def k1 : List Ky := [⟨[107], []⟩]
theorem newB_k1 : newB k1 [] = true := by decide +kernel

set_option maxRecDepth 20000 in
set_option maxHeartbeats 2000000 in
theorem News_any (v vc : Value) (ks : List Ky) (cs : List Cl) (w : World) (B : Nat) (hB : B ≤ w.heap.size) (hl : ks.length ≤ 4398046511104) (hF : KFits ks) (hv : Ks w B v ks) (hcl : cs.length ≤ 1353245080301) (hCF : CFits cs) (hC : Cs w B vc cs) (hT : UT w) :
    Calls Tryd.prog 5 #[v, vc] w fun e w' => e = .returned (.bool true) ∧ Below w.heap.size w w' := by
  have HL := hide hl
  have HF := hide hF
  have HV := hide hv
  have HCL := hide hcl
  have HCF := hide hCF
  have HC := hide hC
  have HT := hide hT
  obtain ⟨a, c, rfl, _⟩ := hv
  obtain ⟨a2, c2, rfl, _⟩ := hC
  clear hl hF hcl hCF hT
  go_enter Tryd.func5, Tryd.ntmps5
  go_wp2_with fail
  refine (Known_any _).mono ?_
  rintro e w1 ⟨⟨ha, hna, hca, hb_, hnb, hcb, rfl⟩, hb1⟩
  have hs1 := hb1.size
  have hba : Below w.heap.size w (w1.alloc (.cells #[.slice ha hna hca, .slice hb_ hnb hcb] 24)) := hb1.alloc hs1 _
  have hH0 : (w1.alloc (.cells #[.slice ha hna hca, .slice hb_ hnb hcb] 24)).cell? ⟨w1.heap.size, 0, none⟩ = some (.slice ha hna hca) := by simp
  have hH1 : (w1.alloc (.cells #[.slice ha hna hca, .slice hb_ hnb hcb] 24)).cell? ⟨w1.heap.size, 1, none⟩ = some (.slice hb_ hnb hcb) := by simp
  have hsa : (w1.alloc (.cells #[.slice ha hna hca, .slice hb_ hnb hcb] 24)).heap.size = w1.heap.size + 1 := by simp
  go_wp2_with fail
  refine (opened_any _ ⟨_, _, _, _, _, _, rfl⟩ _ _ ks cs _ B (by rw [hsa]; omega) (unhide HL) (unhide HF) ((unhide HV).below (hba.mono hB)) (unhide HCL) (unhide HCF) ((unhide HC).below (hba.mono hB)) ((unhide HT).belowS hba)).mono ?_
  rintro e w2 ⟨⟨po, qo, rfl, _⟩, hb2⟩
  have hs2 := hb2.size
  rw [hsa] at hs2
  have hbw2 : Below w.heap.size w w2 := hba.trans (hb2.mono (by rw [hsa]; omega))
  have g0 := (hb2.cell (p := ⟨w1.heap.size, 0, none⟩) (by show w1.heap.size < _; rw [hsa]; omega)).trans hH0
  have g1 := (hb2.cell (p := ⟨w1.heap.size, 1, none⟩) (by show w1.heap.size < _; rw [hsa]; omega)).trans hH1
  clear hH0 hH1 hb2 hba hsa
  obtain ⟨w3, hw3⟩ : ∃ w3, w3 = w2.alloc (.cells #[.string ⟨#[107]⟩, .string ⟨#[]⟩] 59) := ⟨_, rfl⟩
  have hb3 : Below w2.heap.size w2 w3 := by rw [hw3]; exact (Below.refl _ _).alloc (Nat.le_refl _) _
  have hs3 : w3.heap.size = w2.heap.size + 1 := by rw [hw3]; simp
  have hbw3 : Below w.heap.size w w3 := hbw2.trans (hb3.mono (by omega))
  have hK3 : Ks w3 w3.heap.size (.slice (some ⟨w2.heap.size, 0, none⟩) 1 1) k1 := by
    refine ⟨_, 1, rfl, fun _ => ⟨w2.heap.size, 0, rfl, by omega, fun i hi => ?_⟩⟩
    obtain rfl : i = 0 := by have : k1.length = 1 := rfl; omega
    rw [hw3]
    exact ⟨by simp [sv, k1], by simp [sv, k1]⟩
  have hC3 : Cs w3 w3.heap.size (.slice none 0 0) [] := ⟨none, 0, rfl, fun h => absurd h (by simp)⟩
  have HW3 := hide hw3
  have HK3 := hide hK3
  have HC3 := hide hC3
  clear hw3 hK3 hC3
  go_wp2_with (go_at_call 24; rw [← unhide HW3])
  refine (opened_any _ ⟨_, _, _, _, _, _, rfl⟩ _ _ k1 [] w3 w3.heap.size (Nat.le_refl _) (by show 1 ≤ _; omega) (fun i hi => by
      obtain rfl : i = 0 := by have : k1.length = 1 := rfl; omega
      exact ⟨by decide, by decide⟩) (unhide HK3) (by simp) (fun i hi => absurd hi (by simp)) (unhide HC3) ((unhide HT).belowS hbw3)).mono ?_
  rintro e w4 ⟨⟨po2, qo2, rfl, hpo2⟩, hb4⟩
  rw [newB_k1] at hpo2
  obtain ⟨ad, rfl⟩ := Option.isSome_iff_exists.1 hpo2
  have hbw4 : Below w.heap.size w w4 := hbw3.trans (hb4.mono (by omega))
  clear hpo2 HW3 HK3 HC3
  go_wp2
  go_ret
  exact ⟨rfl, hbw4⟩
end Go.Proofs.YtkmkkmdpjliifaaDoor
