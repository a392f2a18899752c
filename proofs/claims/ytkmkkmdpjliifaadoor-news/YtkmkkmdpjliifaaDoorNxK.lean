import Derived.Test.YtkmkkmdpjliifaaDoorNxJ
import Derived.Deep.AppendLies
import Derived.Deep.RegionHeld3
import Derived.Deep.RegionLaw
namespace Go.Proofs.YtkmkkmdpjliifaaDoor
open Go.ChangeShapes Go.WideShapes Go.ChangeAt Go.RowKit

def kvs (ks : List Ky) : List Value := ks.flatMap fun k => [sv k.name, sv k.secret]
theorem kvs_get : ∀ (ks : List Ky) (i : Nat), i < ks.length → (kvs ks)[i * 2]? = some (sv (ks.getD i default).name) ∧ (kvs ks)[i * 2 + 1]? = some (sv (ks.getD i default).secret)
  | [], i, h => by simp at h
  | x :: ks, 0, _ => ⟨rfl, rfl⟩
  | x :: ks, i + 1, h => by
    have := kvs_get ks i (by simpa using h)
    have e : kvs (x :: ks) = sv x.name :: sv x.secret :: kvs ks := rfl
    rw [e, show (i + 1) * 2 = i * 2 + 1 + 1 by omega]
    simpa [List.getElem?_cons_succ] using this
theorem kvs_length (ks : List Ky) : (kvs ks).length = ks.length * 2 := by
  induction ks with
  | nil => rfl
  | cons x ks ih => show (sv x.name :: sv x.secret :: kvs ks).length = _; simp [ih]; omega
theorem kvs_snoc (ks : List Ky) (k : Nat) (h : k < ks.length) : kvs (ks.take k) ++ [sv (ks.getD k default).name, sv (ks.getD k default).secret] = kvs (ks.take (k + 1)) := by
  rw [List.take_add_one]
  unfold kvs
  rw [List.flatMap_append]
  simp [List.getD, List.getElem?_eq_getElem h]
theorem owns_Ks {w : World} {base : Nat} {v : Value} {ks : List Ky} {n : Nat} (hn : n = ks.length) (h : w.ownsRow base 59 2 v n (kvs ks)) : Ks w w.heap.size v ks := by
  subst hn
  rcases owns_cells h with ⟨rfl, hn⟩ | ⟨g, cap, rfl, hc, hg, hl, hcell⟩
  · exact ⟨none, 0, by rw [hn], fun hp => by omega⟩
  · refine ⟨_, cap, rfl, fun _ => ⟨g, 0, rfl, hl, fun i hi => ?_⟩⟩
    rw [Nat.zero_add]
    exact ⟨hcell _ _ (kvs_get ks i hi).1, hcell _ _ (kvs_get ks i hi).2⟩
theorem info59 : (Tryd.prog.info? 59).map (fun i => (i.zero, i.size, i.bytes)) = some (some (.agg #[.string ⟨#[]⟩, .string ⟨#[]⟩]), 2, 32) := by kernel_rfl
/-- a pair of cells -/
def pr2 (a b : Value) (j : Nat) : Value := if j = 0 then a else b

theorem kyName_take (ks : List Ky) (k j : Nat) (h : j < k) : kyName (ks.take k) j = kyName ks j := by
  unfold kyName
  simp [List.getD, h]
theorem found_ge {ks : List Ky} {k : Nat} {y : List UInt8} {r : Int} (hk : k < ks.length) (h : Found (ks.take k) y r) (hr : 0 ≤ r) : (List.range k).all (fun j => kyName ks j != y) = false := by
  rcases h with ⟨rfl, _⟩ | ⟨m, rfl, hm, he, _⟩
  · omega
  · rw [List.length_take] at hm
    have hmk : m < k := by omega
    refine all_false hmk ?_
    rw [kyName_take ks k m hmk] at he
    simp at he
    simp [he]
theorem found_lt {ks : List Ky} {k : Nat} {y : List UInt8} {r : Int} (hk : k < ks.length) (h : Found (ks.take k) y r) (hr : r < 0) : (List.range k).all (fun j => kyName ks j != y) = true := by
  rcases h with ⟨rfl, hA⟩ | ⟨m, rfl, _⟩
  · refine all_true (fun j hj => ?_)
    have := hA j (by rw [List.length_take]; omega)
    rwa [kyName_take ks k j hj] at this
  · omega
theorem ok_more {ok : Nat → Bool} {k : Nat} (hA : ∀ j, j < k → ok j = true) (h : ok k = true) : ∀ j, j < k + 1 → ok j = true := by
  intro j hj
  by_cases e : j = k
  · rw [e]; exact h
  · exact hA j (by omega)
theorem two_news {w : World} {b : Nat} {x y : Value} (hx : w.cell? ⟨b, 0, none⟩ = some x) (hy : w.cell? ⟨b, 1, none⟩ = some y) : ∀ j u, [x, y][j]? = some u → w.cell? ((⟨b, 0, none⟩ : Addr).add j) = some u := by
  intro j u hu
  rw [add_plain, Nat.zero_add]
  match j with
  | 0 => simp at hu; rw [hx, hu]
  | 1 => simp at hu; rw [hy, hu]
  | j + 2 => simp at hu
theorem two_one {x y : List UInt8} : ∀ u ∈ [Value.string ⟨x.toArray⟩, .string ⟨y.toArray⟩], u.oneCell' = true := by
  intro u hu
  simp at hu
  rcases hu with rfl | rfl <;> rfl

theorem rowGrown {w w' : World} {g n : Nat} {t : TypeId} {f : Nat → Value} {row : Option Nat} (h : Row w g t n f) (hg : w.grownBy w' row) (hne : some g ≠ row) : Row w' g t n f := by
  have hl := h.lt
  obtain ⟨cs, h1, h2, h3⟩ := h
  exact ⟨cs, by rw [hg.block g hl hne]; exact h1, h2, h3⟩
theorem ring_step {w w2 w4 : World} {ks : List Ky} {k g4 c4 : Nat} {vk x y : Value} {ob : Obj} (hsn : kvs (ks.take k) ++ [x, y] = kvs (ks.take (k + 1))) (hs : w.heap.size + 1 ≤ w2.heap.size) (hb : Below w.heap.size w w2)
    (hR : Row w2 w.heap.size 132 2 (pr2 vk (.int .i64 0))) (hlt : ∀ j, vk.ownBlock = some j → w.heap.size + 1 ≤ j)
    (ho : w4.ownsRow (w.heap.size + 1) 59 2 (.slice (some ⟨g4, 0, none⟩) (k + 1) c4) (k + 1) (kvs (ks.take k) ++ [x, y])) (hg : (w2.alloc ob).drew.grownBy w4 vk.ownBlock) :
    Row (w4.setCell ⟨w.heap.size, 0, none⟩ (.slice (some ⟨g4, 0, none⟩) (k + 1) c4)) w.heap.size 132 2 (pr2 (.slice (some ⟨g4, 0, none⟩) (k + 1) c4) (.int .i64 0)) ∧
    (w4.setCell ⟨w.heap.size, 0, none⟩ (.slice (some ⟨g4, 0, none⟩) (k + 1) c4)).ownsRow (w.heap.size + 1) 59 2 (.slice (some ⟨g4, 0, none⟩) (k + 1) c4) (k + 1) (kvs (ks.take (k + 1))) ∧
    w.heap.size + 1 ≤ (w4.setCell ⟨w.heap.size, 0, none⟩ (.slice (some ⟨g4, 0, none⟩) (k + 1) c4)).heap.size ∧ Below w.heap.size w (w4.setCell ⟨w.heap.size, 0, none⟩ (.slice (some ⟨g4, 0, none⟩) (k + 1) c4)) := by
  have hne : some w.heap.size ≠ vk.ownBlock := fun e => by have := hlt _ e.symm; omega
  have hsz := hg.size
  have hs4 : w2.heap.size + 1 ≤ w4.heap.size := by simpa using hsz
  have h1 : Row w4 w.heap.size 132 2 (pr2 vk (.int .i64 0)) := rowGrown ((hR.alloc ob).drew) hg hne
  refine ⟨(h1.set 0 _).congr (fun j hj => ?_), ?_, by simp [World.setCell]; omega, ?_⟩
  · rcases (show j = 0 ∨ j = 1 by omega) with rfl | rfl <;> rfl
  · rw [← hsn]
    exact ownsRow_setCell_below ho (by simp) _
  · refine Below.setCell (Below.grown ((hb.alloc (by omega) ob).drew) hg (by simp; omega) (fun j hj => ?_)) (Nat.le_refl _) _
    have := hlt j hj; omega

set_option maxRecDepth 20000 in
set_option maxHeartbeats 2000000 in
theorem NewRing_any (v : Value) (ks : List Ky) (w : World) (B : Nat) (hB : B ≤ w.heap.size) (hl : ks.length ≤ 8796093022208) (hF : KFits ks) (hv : Ks w B v ks) :
    Calls Tryd.prog 74 #[v] w fun e w' => Below w.heap.size w w' ∧
      ((keysB ks = false ∧ e = .returned (.tuple #[.pointer none, .int .i64 1])) ∨
       (keysB ks = true ∧ ∃ R vk, e = .returned (.tuple #[.pointer (some ⟨R, 0, none⟩), .int .i64 0]) ∧ w.heap.size ≤ R ∧ Row w' R 132 2 (pr2 vk (.int .i64 0)) ∧ w'.ownsRow (R + 1) 59 2 vk ks.length (kvs ks))) := by
  obtain ⟨a, c, rfl, hv⟩ := hv
  have HL := hide hl
  have HV := hide hv
  have HF := hide hF
  clear hl hv hF
  by_cases hn : 1 ≤ ks.length ∧ ks.length ≤ 8
  · obtain ⟨hn1, hn8⟩ := hn
    have p1 : ¬ (ks.length : Int) < 1 := by omega
    have p8 : ¬ (8 : Int) < (ks.length : Int) := by omega
    go_enter Tryd.func74, Tryd.ntmps74
    go_wp2
    go_loopg [19] ks.length (fun q i wr => ∃ (k : Nat) (vk : Value), k + q = ks.length ∧ i = .int .i64 (k : Nat) ∧ (∀ j, j < k → kyOk ks j = true) ∧ Row wr w.heap.size 132 2 (pr2 vk (.int .i64 0)) ∧
      wr.ownsRow (w.heap.size + 1) 59 2 vk k (kvs (ks.take k)) ∧ w.heap.size + 1 ≤ wr.heap.size ∧ Below w.heap.size w wr)
    case atStart =>
      refine ⟨0, .slice none 0 0, Nat.zero_add _, rfl, fun j hj => absurd hj (Nat.not_lt_zero _), Row.new w 132 _ _ 2 rfl (fun j hj => by rcases (show j = 0 ∨ j = 1 by omega) with rfl | rfl <;> rfl), World.ownsRow_nil _ _ _ _, by simp, (Below.refl _ _).alloc (Nat.le_refl _) _⟩
    case round =>
      obtain ⟨k, vk, hk, rfl, hA, hR, hown, hZ, hb⟩ := hrel
      have HA := hide hA
      clear hA
      by_cases hlt : k < ks.length
      · have hw : wrap64 ((k : Int) + 1) = (k : Int) + 1 := w64 _ (by omega) (by omega)
        obtain ⟨g, o, rfl, hg, hC⟩ := unhide HV (by omega)
        have hx := (hC k hlt).below (hb.mono hB) hg
        have hc := hx.1
        have hc' := hx.2
        clear hC hx
        have hok : kyOk ks k = ((plainB (ks.getD k default).name && decide ((ks.getD k default).secret.length ≤ 64)) && (List.range k).all (fun j => kyName ks j != (ks.getD k default).name)) := rfl
        have hfit := unhide HF k hlt
        have hsn := kvs_snoc ks k hlt
        generalize hy : (ks.getD k default).name = y at hc hok hfit hsn
        generalize hs : (ks.getD k default).secret = s at hc' hok hfit hsn
        have HO := hide hok
        have HFt := hide hfit
        have HSN := hide hsn
        clear hok hy hfit hs hsn
        rw [sv_def] at hc hc'
        generalize hn : plainB y = b1 at HO
        have HN := hide hn
        clear hn
        have hkl : (k : Int) < ks.length := by omega
        have HR := hide hR
        have HOW := hide hown
        clear hR hown
        have hRa : Row (wr.alloc (.cells #[.string ⟨y.toArray⟩, .string ⟨s.toArray⟩] 59)) w.heap.size 132 2 (pr2 vk (.int .i64 0)) := (unhide HR).alloc _
        have hKa : Ks (wr.alloc (.cells #[.string ⟨y.toArray⟩, .string ⟨s.toArray⟩] 59)) wr.heap.size vk (ks.take k) := (owns_Ks (by rw [List.length_take]; omega) (unhide HOW)).below ((Below.refl wr.heap.size wr).alloc (Nat.le_refl _) _)
        have hba : Below w.heap.size w (wr.alloc (.cells #[.string ⟨y.toArray⟩, .string ⟨s.toArray⟩] 59)) := hb.alloc (by omega) _
        have HRa := hide hRa
        have HKa := hide hKa
        have hca : (wr.alloc (.cells #[.string ⟨y.toArray⟩, .string ⟨s.toArray⟩] 59)).heap.size = wr.heap.size + 1 := by simp
        clear hRa hKa
        go_wp2_with (first
          | (go_at_call 94; refine (IsPlain_any y _ (unhide HFt).1).mono ?_; rintro e w1 ⟨rfl, rfl⟩; rw [unhide HN])
          | (go_at_call 95; refine (find_any vk (ks.take k) y w.heap.size _ wr.heap.size (by simp) (by rw [List.length_take]; omega) (unhide HKa) ((unhide HRa).cell (j := 0) (by omega)) (by simp; omega)).mono ?_; rintro e w2 ⟨⟨r, rfl, hr⟩, hb2⟩))
        · rename_i q1 q2 q3
          go_ret2
          refine ⟨hba.trans (hb2.mono (by simp; omega)), Or.inl ⟨keysB_bad (all_false hlt ?_), rfl⟩⟩
          rw [unhide HO, found_ge hlt hr (by omega)]; simp
        · rename_i q1 q2 q3
          have hokk : kyOk ks k = true := by rw [unhide HO, found_lt hlt hr q3.2, q1, decide_eq_true (p := s.length ≤ 64) (by omega)]; rfl
          have hs2 := hb2.size
          rw [hca] at hs2
          have hR2 := (unhide HRa).below hb2 (by rw [hca]; omega)
          have ho2 := ownsRow_below ((unhide HOW).alloc (.cells #[.string ⟨y.toArray⟩, .string ⟨s.toArray⟩] 59)) hb2 (Nat.le_refl _)
          have hl0 : w2.cell? ⟨wr.heap.size, 0, none⟩ = some (.string ⟨y.toArray⟩) := (hb2.cell (p := ⟨wr.heap.size, 0, none⟩) (by show wr.heap.size < _; rw [hca]; omega)).trans (by simp)
          have hl1 : w2.cell? ⟨wr.heap.size, 1, none⟩ = some (.string ⟨s.toArray⟩) := (hb2.cell (p := ⟨wr.heap.size, 1, none⟩) (by show wr.heap.size < _; rw [hca]; omega)).trans (by simp)
          have hb2' := hba.trans (hb2.mono (by rw [hca]; omega))
          have hr0 : w2.cell? ⟨w.heap.size, 0, none⟩ = some vk := hR2.cell (j := 0) (by omega)
          have hz0 := hR2.frozen 0
          obtain ⟨i0, hi, iz0, iz1, iz2⟩ := info_parts info59
          have HI := hide hi
          have HI0 := hide iz0
          have HI1 := hide iz1
          have HI2 := hide iz2
          have hne : some w.heap.size ≠ vk.ownBlock := fun e => by have := ho2.lt _ e.symm; omega
          have hr0a : ∀ ob, (w2.alloc ob).cell? ⟨w.heap.size, 0, none⟩ = some vk := fun ob => (hR2.alloc ob).cell (j := 0) (by omega)
          have hz0a : ∀ ob, (w2.alloc ob).frozen? ⟨w.heap.size, 0, none⟩ = false := fun ob => (hR2.alloc ob).frozen 0
          have HR0 := hide hr0a
          have HZ0 := hide hz0a
          have HNE := hide hne
          have HO2 := hide ho2
          have HR2 := hide hR2
          clear hne hz0a
          clear hr hb2 hca hi iz0 iz1 iz2 ho2 hR2 hba HRa HKa q3
          go_region_law (refine step_append_lies _ rfl _ _ 52 rfl (w.heap.size + 1) 59 i0 _ 2 32 Tryd.underlying52 (unhide HI) (unhide HI0) (unhide HI1) (unhide HI2) rfl (by decide) vk k (kvs (ks.take k)) rfl (by first | exact ((unhide HO2).alloc _).drew | exact (unhide HO2).drew.alloc _) ⟨w2.heap.size, 0, none⟩ 1 1 [.string ⟨y.toArray⟩, .string ⟨s.toArray⟩] rfl rfl (two_news (by simp) (by simp)) two_one (by decide) (by unfold maxLen; omega) (by omega) (by simp; omega) _ rfl ?_; intro g4 c4 w4 ho4 hg4 hat4 hlt4; have r4 := (hg4.cell_far ⟨w.heap.size, 0, none⟩ (by simp; omega) (unhide HNE)).trans (unhide HR0 _); have z4 := (hg4.frozen_far ⟨w.heap.size, 0, none⟩ (by simp; omega) (unhide HNE)).trans (unhide HZ0 _))
          all_goals
            go_wp2
            go_roundg (gk - 1)
            case measure => omega
            case rel => exact ⟨k + 1, _, by omega, by first | exact num1 hw | rfl, ok_more (unhide HA) hokk, ring_step (unhide HSN) (by omega) hb2' (unhide HR2) (fun j hj => ((unhide HO2).lt j hj).1) ho4 hg4⟩
        · rename_i q1 q2
          go_ret2
          refine ⟨hba, Or.inl ⟨keysB_bad (all_false hlt ?_), rfl⟩⟩
          rw [unhide HO, decide_eq_false (p := s.length ≤ 64) (by omega)]; simp
        · rename_i q1
          go_ret2
          refine ⟨hba, Or.inl ⟨keysB_bad (all_false hlt ?_), rfl⟩⟩
          rw [unhide HO, Bool.eq_false_iff.2 q1]; simp
      · go_wp2
        go_ret2
        have hkk : k = ks.length := by omega
        subst hkk
        rw [List.take_length] at hown
        refine ⟨hb, Or.inr ⟨?_, w.heap.size, vk, rfl, Nat.le_refl _, hR, hown⟩⟩
        unfold keysB
        rw [all_true (unhide HA), decide_eq_true hn1, decide_eq_true hn8]; rfl
  · have hbad : keysB ks = false := by
      unfold keysB
      by_cases h1 : 1 ≤ ks.length
      · rw [decide_eq_false (p := ks.length ≤ 8) (by omega)]; simp
      · rw [decide_eq_false (p := 1 ≤ ks.length) h1]; simp
    have HB := hide hbad
    clear hbad
    go_enter Tryd.func74, Tryd.ntmps74
    by_cases h1 : 1 ≤ ks.length
    · have p1 : ¬ (ks.length : Int) < 1 := by omega
      have p8 : (8 : Int) < (ks.length : Int) := by omega
      go_wp2
      go_ret2
      exact ⟨Below.refl _ _, Or.inl ⟨unhide HB, rfl⟩⟩
    · have p1 : (ks.length : Int) < 1 := by omega
      go_wp2
      go_ret2
      exact ⟨Below.refl _ _, Or.inl ⟨unhide HB, rfl⟩⟩
end Go.Proofs.YtkmkkmdpjliifaaDoor
