import Derived.Test.YtkmkkmdpjliifaaGreatDoorNxE
import Derived.Deep.AppendLies
import Derived.Deep.RegionHeld3
import Derived.Deep.RegionLaw
namespace Go.Proofs.YtkmkkmdpjliifaaGreatDoor
open Go.ChangeShapes Go.WideShapes Go.ChangeAt Go.RowKit

def kvs (ks : List Ky) : List Value := ks.flatMap fun k => [sv k.name, sv k.secret]
theorem kvs_get : ∀ (ks : List Ky) (i : Nat), i < ks.length → (kvs ks)[i * 2]? = some (sv (ks.getD i default).name) ∧ (kvs ks)[i * 2 + 1]? = some (sv (ks.getD i default).secret)
  | [], i, h => by simp at h
  | x :: ks, 0, _ => ⟨rfl, rfl⟩
  | x :: ks, i + 1, h => by
    have := kvs_get ks i (by simpa using h)
    have e : kvs (x :: ks) = sv x.name :: sv x.secret :: kvs ks := rfl
    rw [e, show (i + 1) * 2 = i * 2 + 1 + 1 by omega]
    simpa [List.getElem?_cons_succ] using this
theorem kvs_snoc (ks : List Ky) (k : Nat) (h : k < ks.length) : kvs (ks.take k) ++ [sv (ks.getD k default).name, sv (ks.getD k default).secret] = kvs (ks.take (k + 1)) := by
  rw [List.take_add_one]
  unfold kvs
  rw [List.flatMap_append]
  simp [List.getD, List.getElem?_eq_getElem h]
theorem owns_Ks {w : World} {base : Nat} {v : Value} {ks : List Ky} {n : Nat} (hn : n = ks.length) (h : w.ownsRow base 34 2 v n (kvs ks)) : Ks w w.heap.size v ks := by
  subst hn
  rcases owns_cells h with ⟨rfl, hn⟩ | ⟨g, cap, rfl, hc, hg, hl, hcell⟩
  · exact ⟨none, 0, by rw [hn], fun hp => by omega⟩
  · refine ⟨_, cap, rfl, fun _ => ⟨g, 0, rfl, hl, fun i hi => ?_⟩⟩
    rw [Nat.zero_add]
    exact ⟨hcell _ _ (kvs_get ks i hi).1, hcell _ _ (kvs_get ks i hi).2⟩
theorem info34 : (Tryz.prog.info? 34).map (fun i => (i.zero, i.size, i.bytes)) = some (some (.agg #[.string ⟨#[]⟩, .string ⟨#[]⟩]), 2, 32) := by kernel_rfl
/-- a pair of cells -/
def pr2 (a b : Value) (j : Nat) : Value := if j = 0 then a else b

theorem kyName_take (ks : List Ky) (k j : Nat) (h : j < k) : kyName (ks.take k) j = kyName ks j := by
  unfold kyName
  simp [List.getD, h]
theorem found_ge {ks : List Ky} {k : Nat} {y : List UInt8} {r : Int} (hk : k < ks.length) (h : Found (ks.take k) y r) (hr : 0 ≤ r) : (List.range k).all (fun j => kyName ks j != y) = false := by
  rcases h with ⟨rfl, _⟩ | ⟨m, rfl, hm, he, _⟩
  · omega
  · rw [List.length_take] at hm
    have hmk : m < k := by omega
    refine all_false hmk ?_
    rw [kyName_take ks k m hmk] at he
    simp at he
    simp [he]
theorem found_lt {ks : List Ky} {k : Nat} {y : List UInt8} {r : Int} (hk : k < ks.length) (h : Found (ks.take k) y r) (hr : r < 0) : (List.range k).all (fun j => kyName ks j != y) = true := by
  rcases h with ⟨rfl, hA⟩ | ⟨m, rfl, _⟩
  · refine all_true (fun j hj => ?_)
    have := hA j (by rw [List.length_take]; omega)
    rwa [kyName_take ks k j hj] at this
  · omega
theorem ok_more {ok : Nat → Bool} {k : Nat} (hA : ∀ j, j < k → ok j = true) (h : ok k = true) : ∀ j, j < k + 1 → ok j = true := by
  intro j hj
  by_cases e : j = k
  · rw [e]; exact h
  · exact hA j (by omega)
theorem two_news {w : World} {b : Nat} {x y : Value} (hx : w.cell? ⟨b, 0, none⟩ = some x) (hy : w.cell? ⟨b, 1, none⟩ = some y) : ∀ j u, [x, y][j]? = some u → w.cell? ((⟨b, 0, none⟩ : Addr).add j) = some u := by
  intro j u hu
  rw [add_plain, Nat.zero_add]
  match j with
  | 0 => simp at hu; rw [hx, hu]
  | 1 => simp at hu; rw [hy, hu]
  | j + 2 => simp at hu
theorem two_one {x y : List UInt8} : ∀ u ∈ [Value.string ⟨x.toArray⟩, .string ⟨y.toArray⟩], u.oneCell' = true := by
  intro u hu
  simp at hu
  rcases hu with rfl | rfl <;> rfl

theorem rowGrown {w w' : World} {g n : Nat} {t : TypeId} {f : Nat → Value} {row : Option Nat} (h : Row w g t n f) (hg : w.grownBy w' row) (hne : some g ≠ row) : Row w' g t n f := by
  have hl := h.lt
  obtain ⟨cs, h1, h2, h3⟩ := h
  exact ⟨cs, by rw [hg.block g hl hne]; exact h1, h2, h3⟩
theorem ring_step {w w2 w4 : World} {ks : List Ky} {k g4 c4 : Nat} {vk x y : Value} {ob : Obj} (hsn : kvs (ks.take k) ++ [x, y] = kvs (ks.take (k + 1))) (hs : w.heap.size + 1 ≤ w2.heap.size) (hb : Below w.heap.size w w2)
    (hR : Row w2 w.heap.size 173 2 (pr2 vk (.int .i64 0))) (hlt : ∀ j, vk.ownBlock = some j → w.heap.size + 1 ≤ j)
    (ho : w4.ownsRow (w.heap.size + 1) 34 2 (.slice (some ⟨g4, 0, none⟩) (k + 1) c4) (k + 1) (kvs (ks.take k) ++ [x, y])) (hg : (w2.alloc ob).drew.grownBy w4 vk.ownBlock) :
    Row (w4.setCell ⟨w.heap.size, 0, none⟩ (.slice (some ⟨g4, 0, none⟩) (k + 1) c4)) w.heap.size 173 2 (pr2 (.slice (some ⟨g4, 0, none⟩) (k + 1) c4) (.int .i64 0)) ∧
    (w4.setCell ⟨w.heap.size, 0, none⟩ (.slice (some ⟨g4, 0, none⟩) (k + 1) c4)).ownsRow (w.heap.size + 1) 34 2 (.slice (some ⟨g4, 0, none⟩) (k + 1) c4) (k + 1) (kvs (ks.take (k + 1))) ∧
    w.heap.size + 1 ≤ (w4.setCell ⟨w.heap.size, 0, none⟩ (.slice (some ⟨g4, 0, none⟩) (k + 1) c4)).heap.size ∧ Below w.heap.size w (w4.setCell ⟨w.heap.size, 0, none⟩ (.slice (some ⟨g4, 0, none⟩) (k + 1) c4)) := by
  have hne : some w.heap.size ≠ vk.ownBlock := fun e => by have := hlt _ e.symm; omega
  have hsz := hg.size
  have hs4 : w2.heap.size + 1 ≤ w4.heap.size := by simpa using hsz
  have h1 : Row w4 w.heap.size 173 2 (pr2 vk (.int .i64 0)) := rowGrown ((hR.alloc ob).drew) hg hne
  refine ⟨(h1.set 0 _).congr (fun j hj => ?_), ?_, by simp [World.setCell]; omega, ?_⟩
  · rcases (show j = 0 ∨ j = 1 by omega) with rfl | rfl <;> rfl
  · rw [← hsn]
    exact ownsRow_setCell_below ho (by simp) _
  · refine Below.setCell (Below.grown ((hb.alloc (by omega) ob).drew) hg (by simp; omega) (fun j hj => ?_)) (Nat.le_refl _) _
    have := hlt j hj; omega

set_option maxRecDepth 20000 in
set_option maxHeartbeats 2000000 in
theorem NewRing_any (v : Value) (ks : List Ky) (w : World) (B : Nat) (hB : B ≤ w.heap.size) (hl : ks.length ≤ 8796093022208) (hF : KFits ks) (hv : Ks w B v ks) :
    Calls Tryz.prog 79 #[v] w fun e w' => Below w.heap.size w w' ∧
      ((keysB ks = false ∧ e = .returned (.tuple #[.pointer none, .int .i64 1])) ∨
       (keysB ks = true ∧ ∃ R vk, e = .returned (.tuple #[.pointer (some ⟨R, 0, none⟩), .int .i64 0]) ∧ w.heap.size ≤ R ∧ Row w' R 173 2 (pr2 vk (.int .i64 0)) ∧ w'.ownsRow (R + 1) 34 2 vk ks.length (kvs ks))) := by
  obtain ⟨a, c, rfl, hv⟩ := hv
  have HL := hide hl
  have HV := hide hv
  have HF := hide hF
  clear hl hv hF
  by_cases hn : 1 ≤ ks.length ∧ ks.length ≤ 8
  · obtain ⟨hn1, hn8⟩ := hn
    have p1 : ¬ (ks.length : Int) < 1 := by omega
    have p8 : ¬ (8 : Int) < (ks.length : Int) := by omega
    go_enter Tryz.func79, Tryz.ntmps79
    go_wp2
    go_loopg [19] ks.length (fun q i wr => ∃ (k : Nat) (vk : Value), k + q = ks.length ∧ i = .int .i64 (k : Nat) ∧ (∀ j, j < k → kyOk ks j = true) ∧ Row wr w.heap.size 173 2 (pr2 vk (.int .i64 0)) ∧
      wr.ownsRow (w.heap.size + 1) 34 2 vk k (kvs (ks.take k)) ∧ w.heap.size + 1 ≤ wr.heap.size ∧ Below w.heap.size w wr)
    case atStart =>
      refine ⟨0, .slice none 0 0, Nat.zero_add _, rfl, fun j hj => absurd hj (Nat.not_lt_zero _), Row.new w 173 _ _ 2 rfl (fun j hj => by rcases (show j = 0 ∨ j = 1 by omega) with rfl | rfl <;> rfl), World.ownsRow_nil _ _ _ _, by simp, (Below.refl _ _).alloc (Nat.le_refl _) _⟩
    case round =>
      obtain ⟨k, vk, hk, rfl, hA, hR, hown, hZ, hb⟩ := hrel
      have HA := hide hA
      clear hA
      by_cases hlt : k < ks.length
      · have hw : wrap64 ((k : Int) + 1) = (k : Int) + 1 := w64 _ (by omega) (by omega)
        obtain ⟨g, o, rfl, hg, hC⟩ := unhide HV (by omega)
        have hx := (hC k hlt).below (hb.mono hB) hg
        have hc := hx.1
        have hc' := hx.2
        clear hC hx
        have hok : kyOk ks k = ((plainB (ks.getD k default).name && decide ((ks.getD k default).secret.length ≤ 64)) && (List.range k).all (fun j => kyName ks j != (ks.getD k default).name)) := rfl
        have hfit := unhide HF k hlt
        have hsn := kvs_snoc ks k hlt
        generalize hy : (ks.getD k default).name = y at hc hok hfit hsn
        generalize hs : (ks.getD k default).secret = s at hc' hok hfit hsn
        have HO := hide hok
        have HFt := hide hfit
        have HSN := hide hsn
        clear hok hy hfit hs hsn
        rw [sv_def] at hc hc'
        generalize hn : plainB y = b1 at HO
        have HN := hide hn
        clear hn
        have hkl : (k : Int) < ks.length := by omega
        have HR := hide hR
        have HOW := hide hown
        clear hR hown
        have hRa : Row (wr.alloc (.cells #[.string ⟨y.toArray⟩, .string ⟨s.toArray⟩] 34)) w.heap.size 173 2 (pr2 vk (.int .i64 0)) := (unhide HR).alloc _
        have hKa : Ks (wr.alloc (.cells #[.string ⟨y.toArray⟩, .string ⟨s.toArray⟩] 34)) wr.heap.size vk (ks.take k) := (owns_Ks (by rw [List.length_take]; omega) (unhide HOW)).below ((Below.refl wr.heap.size wr).alloc (Nat.le_refl _) _)
        have hba : Below w.heap.size w (wr.alloc (.cells #[.string ⟨y.toArray⟩, .string ⟨s.toArray⟩] 34)) := hb.alloc (by omega) _
        have HRa := hide hRa
        have HKa := hide hKa
        have hca : (wr.alloc (.cells #[.string ⟨y.toArray⟩, .string ⟨s.toArray⟩] 34)).heap.size = wr.heap.size + 1 := by simp
        clear hRa hKa
        go_wp2_with (first
          | (go_at_call 112; refine (IsPlain_any y _ (unhide HFt).1).mono ?_; rintro e w1 ⟨rfl, rfl⟩; rw [unhide HN])
          | (go_at_call 113; refine (find_any vk (ks.take k) y w.heap.size _ wr.heap.size (by simp) (by rw [List.length_take]; omega) (unhide HKa) ((unhide HRa).cell (j := 0) (by omega)) (by simp; omega)).mono ?_; rintro e w2 ⟨⟨r, rfl, hr⟩, hb2⟩))
        · rename_i q1 q2 q3
          go_ret2
          refine ⟨hba.trans (hb2.mono (by simp; omega)), Or.inl ⟨keysB_bad (all_false hlt ?_), rfl⟩⟩
          rw [unhide HO, found_ge hlt hr (by omega)]; simp
        · rename_i q1 q2 q3
          have hokk : kyOk ks k = true := by rw [unhide HO, found_lt hlt hr q3.2, q1, decide_eq_true (p := s.length ≤ 64) (by omega)]; rfl
          have hs2 := hb2.size
          rw [hca] at hs2
          have hR2 := (unhide HRa).below hb2 (by rw [hca]; omega)
          have ho2 := ownsRow_below ((unhide HOW).alloc (.cells #[.string ⟨y.toArray⟩, .string ⟨s.toArray⟩] 34)) hb2 (Nat.le_refl _)
          have hl0 : w2.cell? ⟨wr.heap.size, 0, none⟩ = some (.string ⟨y.toArray⟩) := (hb2.cell (p := ⟨wr.heap.size, 0, none⟩) (by show wr.heap.size < _; rw [hca]; omega)).trans (by simp)
          have hl1 : w2.cell? ⟨wr.heap.size, 1, none⟩ = some (.string ⟨s.toArray⟩) := (hb2.cell (p := ⟨wr.heap.size, 1, none⟩) (by show wr.heap.size < _; rw [hca]; omega)).trans (by simp)
          have hb2' := hba.trans (hb2.mono (by rw [hca]; omega))
          have hr0 : w2.cell? ⟨w.heap.size, 0, none⟩ = some vk := hR2.cell (j := 0) (by omega)
          have hz0 := hR2.frozen 0
          obtain ⟨i0, hi, iz0, iz1, iz2⟩ := info_parts info34
          have HI := hide hi
          have HI0 := hide iz0
          have HI1 := hide iz1
          have HI2 := hide iz2
          have hne : some w.heap.size ≠ vk.ownBlock := fun e => by have := ho2.lt _ e.symm; omega
          have hr0a : ∀ ob, (w2.alloc ob).cell? ⟨w.heap.size, 0, none⟩ = some vk := fun ob => (hR2.alloc ob).cell (j := 0) (by omega)
          have hz0a : ∀ ob, (w2.alloc ob).frozen? ⟨w.heap.size, 0, none⟩ = false := fun ob => (hR2.alloc ob).frozen 0
          have HR0 := hide hr0a
          have HZ0 := hide hz0a
          have HNE := hide hne
          have HO2 := hide ho2
          have HR2 := hide hR2
          clear hne hz0a
          clear hr hb2 hca hi iz0 iz1 iz2 ho2 hR2 hba HRa HKa q3
          go_region_law (refine step_append_lies _ rfl _ _ 22 rfl (w.heap.size + 1) 34 i0 _ 2 32 Tryz.underlying22 (unhide HI) (unhide HI0) (unhide HI1) (unhide HI2) rfl (by decide) vk k (kvs (ks.take k)) rfl (by first | exact ((unhide HO2).alloc _).drew | exact (unhide HO2).drew.alloc _) ⟨w2.heap.size, 0, none⟩ 1 1 [.string ⟨y.toArray⟩, .string ⟨s.toArray⟩] rfl rfl (two_news (by simp) (by simp)) two_one (by decide) (by unfold maxLen; omega) (by omega) (by simp; omega) _ rfl ?_; intro g4 c4 w4 ho4 hg4 hat4 hlt4; have r4 := (hg4.cell_far ⟨w.heap.size, 0, none⟩ (by simp; omega) (unhide HNE)).trans (unhide HR0 _); have z4 := (hg4.frozen_far ⟨w.heap.size, 0, none⟩ (by simp; omega) (unhide HNE)).trans (unhide HZ0 _))
          all_goals
            go_wp2
            go_roundg (gk - 1)
            case measure => omega
            case rel => exact ⟨k + 1, _, by omega, by first | exact num1 hw | rfl, ok_more (unhide HA) hokk, ring_step (unhide HSN) (by omega) hb2' (unhide HR2) (fun j hj => ((unhide HO2).lt j hj).1) ho4 hg4⟩
        · rename_i q1 q2
          go_ret2
          refine ⟨hba, Or.inl ⟨keysB_bad (all_false hlt ?_), rfl⟩⟩
          rw [unhide HO, decide_eq_false (p := s.length ≤ 64) (by omega)]; simp
        · rename_i q1
          go_ret2
          refine ⟨hba, Or.inl ⟨keysB_bad (all_false hlt ?_), rfl⟩⟩
          rw [unhide HO, Bool.eq_false_iff.2 q1]; simp
      · go_wp2
        go_ret2
        have hkk : k = ks.length := by omega
        subst hkk
        rw [List.take_length] at hown
        refine ⟨hb, Or.inr ⟨?_, w.heap.size, vk, rfl, Nat.le_refl _, hR, hown⟩⟩
        unfold keysB
        rw [all_true (unhide HA), decide_eq_true hn1, decide_eq_true hn8]; rfl
  · have hbad : keysB ks = false := by
      unfold keysB
      by_cases h1 : 1 ≤ ks.length
      · rw [decide_eq_false (p := ks.length ≤ 8) (by omega)]; simp
      · rw [decide_eq_false (p := 1 ≤ ks.length) h1]; simp
    have HB := hide hbad
    clear hbad
    go_enter Tryz.func79, Tryz.ntmps79
    by_cases h1 : 1 ≤ ks.length
    · have p1 : ¬ (ks.length : Int) < 1 := by omega
      have p8 : (8 : Int) < (ks.length : Int) := by omega
      go_wp2
      go_ret2
      exact ⟨Below.refl _ _, Or.inl ⟨unhide HB, rfl⟩⟩
    · have p1 : (ks.length : Int) < 1 := by omega
      go_wp2
      go_ret2
      exact ⟨Below.refl _ _, Or.inl ⟨unhide HB, rfl⟩⟩
end Go.Proofs.YtkmkkmdpjliifaaGreatDoor
namespace Go.Proofs.YtkmkkmdpjliifaaGreatDoor
open Go.ChangeShapes Go.WideShapes Go.ChangeAt Go.RowKit

end Go.Proofs.YtkmkkmdpjliifaaGreatDoor
namespace Go.Proofs.YtkmkkmdpjliifaaGreatDoor
open Go.ChangeShapes Go.WideShapes Go.ChangeAt Go.RowKit

theorem ret_bool {b c : Bool} (h : b = c) : Ending.returned (.bool b) = .returned (.bool c) := by rw [h]
set_option maxRecDepth 20000 in
set_option maxHeartbeats 2000000 in
theorem isClient_any (x : Cl) (a2 a3 a4 : Option Addr) (c2 c3 c4 : Nat) (w : World) (B : Nat) (hB : B ≤ w.heap.size) (hS : Small x) (hF : ClFits x) (k2 : Ls w B (.slice a2 x.sc.length c2) x.sc) (k3 : Ls w B (.slice a3 x.tg.length c3) x.tg) (k4 : Ls w B (.slice a4 x.ac.length c4) x.ac) (hT : UT w) :
    Calls Tryz.prog 114 #[.agg #[.string ⟨x.name.toArray⟩, .string ⟨x.secret.toArray⟩, .slice a2 x.sc.length c2, .slice a3 x.tg.length c3, .slice a4 x.ac.length c4]] w fun e w' => e = .returned (.bool (clGood x)) ∧ Below w.heap.size w w' := by
  have HS := hide hS
  have HF := hide hF
  obtain ⟨wa, hwa⟩ : ∃ wa, wa = w.alloc (.cells #[.string ⟨x.name.toArray⟩, .string ⟨x.secret.toArray⟩, .slice a2 x.sc.length c2, .slice a3 x.tg.length c3, .slice a4 x.ac.length c4] 37) := ⟨_, rfl⟩
  have hba : Below w.heap.size w wa := by rw [hwa]; exact (Below.refl _ _).alloc (Nat.le_refl _) _
  have hTa := hT.belowS hba
  have k2a := k2.below (hba.mono hB)
  have k3a := k3.below (hba.mono hB)
  have k4a := k4.below (hba.mono hB)
  have hsa : wa.heap.size = w.heap.size + 1 := by rw [hwa]; simp
  have g0 : wa.cell? ⟨w.heap.size, 0, none⟩ = some (.string ⟨x.name.toArray⟩) := by rw [hwa]; simp
  have g1 : wa.cell? ⟨w.heap.size, 1, none⟩ = some (.string ⟨x.secret.toArray⟩) := by rw [hwa]; simp
  have g2 : wa.cell? ⟨w.heap.size, 2, none⟩ = some (.slice a2 x.sc.length c2) := by rw [hwa]; simp
  have g3 : wa.cell? ⟨w.heap.size, 3, none⟩ = some (.slice a3 x.tg.length c3) := by rw [hwa]; simp
  have g4 : wa.cell? ⟨w.heap.size, 4, none⟩ = some (.slice a4 x.ac.length c4) := by rw [hwa]; simp
  have hGd : clGood x = (plainB x.name && decide (x.secret.length ≤ 64) && listB x.sc && listB x.tg && listB x.ac) := rfl
  have HG := hide hGd
  have HTa := hide hTa
  have HWA := hide hwa
  clear hS hF hT k2 k3 k4 hGd hTa hwa
  generalize hn0 : plainB x.name = b0
  generalize hn2 : listB x.sc = b2
  generalize hn3 : listB x.tg = b3
  generalize hn4 : listB x.ac = b4
  have HN0 := hide hn0
  have HN2 := hide hn2
  have HN3 := hide hn3
  have HN4 := hide hn4
  clear hn0 hn2 hn3 hn4
  go_enter Tryz.func114, Tryz.ntmps114
  go_wp2_with (go_at_call 112; rw [← unhide HWA])
  clear HWA
  refine (IsPlain_any x.name _ (unhide HF).1).mono ?_
  rintro e w0 ⟨rfl, rfl⟩
  rw [unhide HN0]
  have hGG : clGood x = (b0 && decide (x.secret.length ≤ 64) && b2 && b3 && b4) := by rw [unhide HG, unhide HN0, unhide HN2, unhide HN3, unhide HN4]
  have HGG := hide hGG
  clear hGG HG
  cases b0 with
  | false =>
    go_wp2
    go_ret
    exact ⟨ret_bool (by rw [unhide HGG]; rfl), hba⟩
  | true =>
  by_cases hsec : x.secret.length ≤ 64
  · have p64 : (x.secret.length : Int) ≤ 64 := by omega
    go_wp2_with fail
    refine (IsList_any _ x.sc _ B (by omega) (unhide HS).1 (unhide HF).2.2.1 k2a (unhide HTa)).mono ?_
    rintro e w1 ⟨rfl, hb1⟩
    rw [unhide HN2]
    have hs1 := hb1.size
    have t1 := hb1.mono (show B ≤ w0.heap.size by omega)
    have u3 := (hb1.cell (p := ⟨w.heap.size, 3, none⟩) (by show w.heap.size < _; omega)).trans g3
    have u4 := (hb1.cell (p := ⟨w.heap.size, 4, none⟩) (by show w.heap.size < _; omega)).trans g4
    have k3b := k3a.below t1
    have k4b := k4a.below t1
    have HT1 := hide ((unhide HTa).belowS hb1)
    clear g0 g1 g2 g3 g4 k2a k3a k4a
    have hbb1 := hba.trans (hb1.mono (by omega))
    cases b2 with
    | false =>
      go_wp2
      go_ret
      exact ⟨ret_bool (by rw [unhide HGG]; simp), hbb1⟩
    | true =>
    go_wp2_with fail
    refine (IsList_any _ x.tg _ B (by omega) (unhide HS).2.1 (unhide HF).2.2.2.1 k3b (unhide HT1)).mono ?_
    rintro e w2 ⟨rfl, hb2⟩
    rw [unhide HN3]
    have hs2 := hb2.size
    have t2 := hb2.mono (show B ≤ w1.heap.size by omega)
    have g4 := (hb2.cell (p := ⟨w.heap.size, 4, none⟩) (by show w.heap.size < _; omega)).trans u4
    have k4c := k4b.below t2
    have HT2 := hide ((unhide HT1).belowS hb2)
    clear u3 u4 k3b k4b
    have hbb2 := hbb1.trans (hb2.mono (by omega))
    cases b3 with
    | false =>
      go_wp2
      go_ret
      exact ⟨ret_bool (by rw [unhide HGG]; simp), hbb2⟩
    | true =>
    go_wp2_with fail
    refine (IsList_any _ x.ac _ B (by omega) (unhide HS).2.2 (unhide HF).2.2.2.2 k4c (unhide HT2)).mono ?_
    rintro e w3 ⟨rfl, hb3⟩
    rw [unhide HN4]
    have hbb3 := hbb2.trans (hb3.mono (by omega))
    go_wp2
    go_ret
    exact ⟨ret_bool (by rw [unhide HGG, decide_eq_true hsec]; simp), hbb3⟩
  · have p64 : ¬ (x.secret.length : Int) ≤ 64 := by omega
    go_wp2
    go_ret
    exact ⟨ret_bool (by rw [unhide HGG, decide_eq_false hsec]; simp), hba⟩

/-- the clients' places -/
def ptrs (Qs : List Nat) : List Value := Qs.map fun q => .pointer (some ⟨q, 0, none⟩)
/-- what a search for a client's name tells -/
def FoundC (cs : List Cl) (k : Nat) (x : List UInt8) (p : Value) (Qs : List Nat) : Prop :=
  (p = .pointer none ∧ ∀ j, j < k → (clName cs j != x) = true) ∨ ∃ m q, p = .pointer (some ⟨q, 0, none⟩) ∧ m < k ∧ Qs[m]? = some q ∧ (clName cs m == x) = true ∧ ∀ j, j < m → (clName cs j != x) = true

set_option maxRecDepth 20000 in
set_option maxHeartbeats 1000000 in
theorem findC_any (v : Value) (cs : List Cl) (Qs : List Nat) (k : Nat) (x : List UInt8) (R : Nat) (w : World) (base : Nat) (hk8 : k ≤ 8) (hQ : Qs.length = k) (ho : w.ownsRow base 120 1 v k (ptrs Qs)) (hN : ∀ j q, Qs[j]? = some q → w.cell? ⟨q, 0, none⟩ = some (sv (clName cs j)))
    (hR : w.cell? ⟨R, 0, none⟩ = some v) :
    Calls Tryz.prog 115 #[.pointer (some ⟨R, 0, none⟩), .string ⟨x.toArray⟩] w fun e w' => (∃ p, e = .returned p ∧ FoundC cs k x p Qs) ∧ w' = w := by
  have HN := hide hN
  have HO := hide (owns_cells ho)
  have hshape : ∃ a c, v = .slice a k c := by
    rcases owns_cells ho with ⟨rfl, hn⟩ | ⟨g, cap, rfl, _⟩
    · exact ⟨none, 0, by rw [hn]⟩
    · exact ⟨_, cap, rfl⟩
  obtain ⟨a, c, rfl⟩ := hshape
  clear hN ho
  go_enter Tryz.func115, Tryz.ntmps115
  go_wp2
  go_loopg [12] k (fun q i wr => ∃ m : Nat, m + q = k ∧ i = .int .i64 (m : Nat) ∧ (∀ j, j < m → (clName cs j != x) = true) ∧ wr = w)
  case atStart => exact ⟨0, Nat.zero_add _, rfl, fun j hj => absurd hj (Nat.not_lt_zero _), rfl⟩
  case round =>
    obtain ⟨m, hm, rfl, hA, rfl⟩ := hrel
    have HA := hide hA
    clear hA
    by_cases hlt : m < k
    · have hw : wrap64 ((m : Int) + 1) = (m : Int) + 1 := w64 _ (by omega) (by omega)
      have hql : m < Qs.length := by omega
      have hqe : Qs[m]? = some (Qs[m]'hql) := List.getElem?_eq_getElem hql
      generalize Qs[m]'hql = q at hqe
      have hc2 := unhide HN m q hqe
      rcases unhide HO with ⟨_, hn⟩ | ⟨g, cap, he, _, _, _, hcell⟩
      · omega
      injection he with e1 e2 e3
      subst e1
      have hc1 := hcell m (.pointer (some ⟨q, 0, none⟩)) (by unfold ptrs; rw [List.getElem?_map, hqe]; rfl)
      clear hcell e2 e3
      generalize hy : clName cs m = y at hc2
      have HY := hide hy
      have HQE := hide hqe
      clear hy hqe
      rw [sv_def] at hc2
      go_wp2
      · rename_i h1
        go_ret
        refine ⟨⟨_, rfl, Or.inr ⟨m, q, rfl, hlt, unhide HQE, ?_, unhide HA⟩⟩, rfl⟩
        rw [unhide HY]; exact h1
      · rename_i h1
        go_roundg (gk - 1)
        case measure => omega
        case rel => exact ⟨m + 1, by omega, by first | exact num1 hw | rfl, nest_more (unhide HA) (unhide HY) h1, rfl⟩
    · go_wp2
      go_ret
      exact ⟨⟨_, rfl, Or.inl ⟨rfl, fun j hj => unhide HA j (by omega)⟩⟩, rfl⟩
end Go.Proofs.YtkmkkmdpjliifaaGreatDoor
namespace Go.Proofs.YtkmkkmdpjliifaaGreatDoor
open Go.ChangeShapes Go.WideShapes Go.ChangeAt Go.RowKit

/-- a slice of strings that lies in a block of N -/
def LsN (w : World) (N : Nat → Prop) (v : Value) (l : List (List UInt8)) : Prop :=
  ∃ a c, v = .slice a l.length c ∧ l.length ≤ c ∧ (0 < l.length → ∃ g o, a = some ⟨g, o, none⟩ ∧ N g ∧ ∀ j, j < l.length → w.cell? ⟨g, o + j, none⟩ = some (sv (l.getD j [])))
theorem LsN.ls {w : World} {N : Nat → Prop} {B : Nat} {v : Value} {l : List (List UInt8)} (h : LsN w N v l) (hN : ∀ k, N k → k < B) : Ls w B v l := by
  obtain ⟨a, c, rfl, hle, h⟩ := h
  refine ⟨a, c, rfl, hle, fun hp => ?_⟩
  obtain ⟨g, o, rfl, hg, h⟩ := h hp
  exact ⟨g, o, rfl, hN g hg, h⟩
theorem LsN.keep {w w' : World} {N N' : Nat → Prop} {v : Value} {l : List (List UInt8)} (h : LsN w N v l) (hN : ∀ k, N k → w'.heap[k]? = w.heap[k]? ∧ N' k) : LsN w' N' v l := by
  obtain ⟨a, c, rfl, hle, h⟩ := h
  refine ⟨a, c, rfl, hle, fun hp => ?_⟩
  obtain ⟨g, o, rfl, hg, h⟩ := h hp
  exact ⟨g, o, rfl, (hN g hg).2, fun j hj => (World.cell?_of_block (a := ⟨g, o + j, none⟩) (hN g hg).1).trans (h j hj)⟩
theorem owns_LsN {w : World} {base : Nat} {v : Value} {l : List (List UInt8)} (h : w.ownsRow base 9 1 v l.length (svs l)) : LsN w (fun k => base ≤ k ∧ k < w.heap.size) v l := by
  rcases owns_cells h with ⟨rfl, hn⟩ | ⟨g, cap, rfl, hc, hg, hl, hcell⟩
  · exact ⟨none, 0, by rw [hn], by omega, fun hp => by omega⟩
  · exact ⟨_, cap, rfl, hc, fun _ => ⟨g, 0, rfl, ⟨hg, hl⟩, fun j hj => by rw [Nat.zero_add]; exact hcell j _ (svs_get l j hj)⟩⟩
theorem append_listN {w : World} {v0 : Value} {b0 : Nat} (hb0 : b0 ≤ w.heap.size) (h0 : w.ownsRow b0 9 1 v0 0 []) {a : Option Addr} {l : List (List UInt8)} {c : Nat} {B : Nat} (hl : l.length ≤ 8796093022208) (hv : Ls w B (.slice a l.length c) l) (hp : 0 < l.length) (ty : TypeId) :
    ∃ v' w', (Builtin.append_ #[35, 35] ty #[v0, .slice a l.length c]).run Tryz.prog w = .ok v' w' ∧ LsN w' (fun k => b0 ≤ k ∧ k < w'.heap.size) v' l ∧ w.grownBy w' v0.ownBlock := by
  obtain ⟨a1, c1, he, hle, hv⟩ := hv
  obtain ⟨g, o, rfl, hg, hc⟩ := hv hp
  injection he with e1 e2 e3
  subst e1
  obtain ⟨i0, hi, hz0, hz1, hz2⟩ := info_parts info9
  obtain ⟨v', w', hrun, ho, hgr, _⟩ := run_append_own (P := Tryz.prog) w b0 35 ty 9 i0 _ 1 16 Tryz.underlying35 hi hz0 hz1 hz2 rfl (by decide) v0 0 [] h0 ⟨g, o, none⟩ l.length c (svs l) (by simp [svs]) (fun j u hu => by
      have hj : j < l.length := by
        rcases Nat.lt_or_ge j l.length with h | h
        · exact h
        · rw [List.getElem?_eq_none (by simp [svs]; exact h)] at hu; cases hu
      rw [svs_get l j hj] at hu
      rw [add_plain, hc j hj, hu]) (fun u hu => by
      obtain ⟨x, _, rfl⟩ := List.mem_map.1 hu
      rfl) (by unfold maxLen; omega) (by omega) hb0
  rw [Nat.zero_add, List.nil_append] at ho
  exact ⟨v', w', hrun, owns_LsN ho, hgr⟩
/-- blocks that a call has made -/
def New (w w' : World) (k : Nat) : Prop := w.heap.size ≤ k ∧ k < w'.heap.size

set_option maxRecDepth 20000 in
set_option maxHeartbeats 1000000 in
theorem CloneN_any (v : Value) (l : List (List UInt8)) (w : World) (B : Nat) (hB : B ≤ w.heap.size) (hl : l.length ≤ 8796093022208) (hv : Ls w B v l) :
    Calls Tryz.prog 145 #[v] w fun e w' => ∃ a' c', e = .returned (.slice a' l.length c') ∧ LsN w' (New w w') (.slice a' l.length c') l ∧ Below w.heap.size w w' := by
  have hv' := hv
  obtain ⟨a, c, rfl, hle, hx⟩ := hv'
  have q35 : ∀ (w : World) (a : Option Addr) (n c n' c' : Nat), (binOp .eql 35 (.slice a n c) (.slice none n' c')).run Tryz.prog w = .ok (.bool a.isNone) w := fun w a n c n' c' => Lib.run_eql_slice_nil w _ _ a n c n' c' Tryz.underlying35
  by_cases hp : 0 < l.length
  · obtain ⟨g, o, rfl, hg, hcell⟩ := hx hp
    have hown : (w.alloc (.cells #[] 9)).ownsRow w.heap.size 9 1 (.slice (some ⟨w.heap.size, 0, none⟩) 0 0) 0 [] :=
      ⟨rfl, Or.inr ⟨w.heap.size, 0, #[], rfl, Nat.le_refl _, heap_alloc_new w _, Nat.le_refl _, Nat.zero_le _, rfl, rfl⟩⟩
    have hva := hv.below (((Below.refl w.heap.size w).alloc (Nat.le_refl _) (.cells #[] 9)).mono hB)
    obtain ⟨v', w', hrun, hL, hgr⟩ := append_listN (show w.heap.size ≤ (w.alloc (.cells #[] 9)).heap.size by simp) hown hl hva hp 35
    have hb : Below w.heap.size w w' := ((Below.refl w.heap.size w).alloc (Nat.le_refl _) _).grown hgr (by simp) (fun k hk => by simp [Value.ownBlock] at hk; omega)
    obtain ⟨a', c', rfl, hrest⟩ := hL
    have HL : Hid (LsN w' (New w w') (.slice a' l.length c') l) := ⟨a', c', rfl, hrest⟩
    clear hl hx hrest hv hva hcell
    go_enter Tryz.func145, Tryz.ntmps145
    go_wp2_with (at_builtin; refine appLaw rfl _ _ rfl rfl rfl hrun ?_)
    go_ret
    exact ⟨_, _, rfl, unhide HL, hb⟩
  · have : l = [] := List.length_eq_zero_iff.1 (by omega)
    subst this
    clear hl hv hx
    cases a with
    | none =>
      go_enter Tryz.func145, Tryz.ntmps145
      go_wp2
      go_ret
      exact ⟨_, _, rfl, ⟨_, _, rfl, Nat.zero_le _, fun h => absurd h (by simp)⟩, Below.refl _ _⟩
    | some ad =>
      have hrun : (Builtin.append_ #[35, 35] 35 #[.slice (some ⟨w.heap.size, 0, none⟩) 0 0, .slice (some ad) 0 c]).run Tryz.prog (w.alloc (.cells #[] 9)) = .ok (.slice (some ⟨w.heap.size, 0, none⟩) 0 0) (w.alloc (.cells #[] 9)) := by
        obtain ⟨i0, hi, hz0, hz1, hz2⟩ := info_parts info9
        have hl0 := run_loadCells_list (P := Tryz.prog) (w.alloc (.cells #[] 9)) ad [] (fun j v hv => by simp at hv)
        rw [List.length_nil] at hl0
        simp [Builtin.append_, run_underlying Tryz.underlying35, sizeOf, typeInfo, hi, Builtin.lenOf, Builtin.firstCells, hl0, storeCells]
      go_enter Tryz.func145, Tryz.ntmps145
      go_wp2_with (at_builtin; refine appLaw rfl _ _ rfl rfl rfl hrun ?_)
      go_ret
      exact ⟨_, _, rfl, ⟨_, _, rfl, Nat.zero_le _, fun h => absurd h (by simp)⟩, (Below.refl _ _).alloc (Nat.le_refl _) _⟩

/-- a list that a closure holds: its cell and what that leads to, all in blocks of N -/
def LsP (w : World) (N : Nat → Prop) (p : Nat) (l : List (List UInt8)) : Prop := N p ∧ ∃ a c, w.cell? ⟨p, 0, none⟩ = some (.slice a l.length c) ∧ LsN w N (.slice a l.length c) l
theorem LsP.keep {w w' : World} {N N' : Nat → Prop} {p : Nat} {l : List (List UInt8)} (h : LsP w N p l) (hN : ∀ k, N k → w'.heap[k]? = w.heap[k]? ∧ N' k) : LsP w' N' p l := by
  obtain ⟨h1, a, c, h2, h3⟩ := h
  exact ⟨(hN p h1).2, a, c, (World.cell?_of_block (a := ⟨p, 0, none⟩) (hN p h1).1).trans h2, h3.keep hN⟩
theorem New.below {w w1 w2 : World} (hb : Below w1.heap.size w1 w2) : ∀ k, New w w1 k → w2.heap[k]? = w1.heap[k]? ∧ New w w2 k := fun k h => ⟨hb.block k h.2, h.1, Nat.lt_of_lt_of_le h.2 hb.size⟩

set_option maxRecDepth 20000 in
set_option maxHeartbeats 1000000 in
theorem isAmongN_any (v : Value) (l : List (List UInt8)) (w : World) (B : Nat) (hB : B ≤ w.heap.size) (hl : l.length ≤ 8796093022208) (hv : Ls w B v l) :
    Calls Tryz.prog 153 #[v] w fun e w' => ∃ p, e = .returned (.func (.func 188) #[] #[.pointer (some ⟨p, 0, none⟩)]) ∧ LsP w' (New w w') p l ∧ Below w.heap.size w w' := by
  have hC := CloneN_any v l w B hB hl hv
  have HC := hide hC
  clear hC hl
  obtain ⟨a, c, rfl, _⟩ := hv
  have hmf : ∀ (fn : Fn) (first cap : Array Value) (w : World), (Instr.makeFunc fn first cap).run Tryz.prog w = .ok (.func fn first cap) w := fun _ _ _ _ => rfl
  go_enter Tryz.func153, Tryz.ntmps153
  go_wp2_with (go_at_call 145; refine (unhide HC).mono ?_; rintro e w1 ⟨a1, c1, rfl, hL, hb1⟩; have HL := hide hL; clear hL)
  go_ret
  have hs := hb1.size
  refine ⟨w1.heap.size, rfl, ⟨⟨hs, by simp⟩, a1, c1, by simp, ?_⟩, hb1.alloc (by omega) _⟩
  exact (unhide HL).keep (New.below ((Below.refl w1.heap.size w1).alloc (Nat.le_refl _) _))

/-- a client, cell by cell -/
def cliF (x : Cl) (p2 p3 p4 : Nat) (j : Nat) : Value :=
  if j = 0 then .string ⟨x.name.toArray⟩ else if j = 1 then .func (.func 188) #[] #[.pointer (some ⟨p2, 0, none⟩)] else if j = 2 then .func (.func 188) #[] #[.pointer (some ⟨p3, 0, none⟩)]
  else if j = 3 then .func (.func 188) #[] #[.pointer (some ⟨p4, 0, none⟩)] else .string ⟨x.secret.toArray⟩
/-- a client that lies at q, all of it in blocks of N -/
def ClX (w : World) (N : Nat → Prop) (x : Cl) (q : Nat) : Prop :=
  N q ∧ ∃ p2 p3 p4, (∀ j, j < 5 → w.cell? ⟨q, j, none⟩ = some (cliF x p2 p3 p4 j)) ∧ LsP w N p2 x.sc ∧ LsP w N p3 x.tg ∧ LsP w N p4 x.ac ∧ ∃ ca, w.heap[q]? = some (.cells ca 152 (0, 0))
theorem ClX.keep {w w' : World} {N N' : Nat → Prop} {x : Cl} {q : Nat} (h : ClX w N x q) (hN : ∀ k, N k → w'.heap[k]? = w.heap[k]? ∧ N' k) : ClX w' N' x q := by
  obtain ⟨h1, p2, p3, p4, h2, h3, h4, h5, ca, h6⟩ := h
  exact ⟨(hN q h1).2, p2, p3, p4, fun j hj => (World.cell?_of_block (a := ⟨q, j, none⟩) (hN q h1).1).trans (h2 j hj), h3.keep hN, h4.keep hN, h5.keep hN, ca, (hN q h1).1.trans h6⟩
theorem ClX.name {w : World} {N : Nat → Prop} {x : Cl} {q : Nat} (h : ClX w N x q) : w.cell? ⟨q, 0, none⟩ = some (.string ⟨x.name.toArray⟩) := by
  obtain ⟨_, p2, p3, p4, h2, _⟩ := h
  exact h2 0 (by decide)
end Go.Proofs.YtkmkkmdpjliifaaGreatDoor
