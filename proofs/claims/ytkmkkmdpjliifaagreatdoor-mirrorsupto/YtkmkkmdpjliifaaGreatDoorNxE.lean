import Derived.Test.YtkmkkmdpjliifaaGreatDoorNxB
import Derived.Test.YtkmkkmdpjliifaaGreatDoorSv
namespace Go.Proofs.YtkmkkmdpjliifaaGreatDoor
open Go.ChangeShapes Go.WideShapes Go.ChangeAt Go.RowKit

/-- the two tables of unicode/utf8 -/
def UT (w : World) : Prop := Lib.Utf8Tabs 0 1 w ∧ 2 < w.heap.size
theorem UT.lt {w : World} (h : UT w) : 2 < w.heap.size := h.2
theorem UT.below {w w' : World} {B : Nat} (h : UT w) (hB : 2 < B) (hb : Below B w w') : UT w' :=
  ⟨⟨fun c hc => (hb.cell (p := ⟨0, c, none⟩) (by show 0 < B; omega)).trans (h.1.1 c hc), fun i hi => ⟨(hb.cell (p := ⟨1, 2 * i, none⟩) (by show 1 < B; omega)).trans (h.1.2 i hi).1, (hb.cell (p := ⟨1, 2 * i + 1, none⟩) (by show 1 < B; omega)).trans (h.1.2 i hi).2⟩⟩, Nat.lt_of_lt_of_le h.2 hb.size⟩
theorem UT.belowS {w w' : World} (h : UT w) (hb : Below w.heap.size w w') : UT w' := h.below h.lt hb
theorem valid_any (l : List UInt8) (w : World) (hl : l.length ≤ 9223372036854775807) (hT : UT w) :
    Calls Tryz.prog 134 #[.string ⟨l.toArray⟩] w fun e w' => e = .returned (.bool (vN l)) ∧ Below w.heap.size w w' := by
  have h : Calls Tryz.prog 134 #[.string ⟨l.toArray⟩] w _ := Any.utf8_ValidString Tryz.laysValid ⟨l.toArray⟩ w (by simpa [ByteArray.size] using hl) hT.1
  refine h.mono ?_
  rintro e w' ⟨rfl, hb⟩
  rw [vN_valid]
  exact ⟨by simp, hb⟩

theorem IsName_any (l : List UInt8) (w : World) (hl : l.length ≤ 9223372036854775807) (hT : UT w) :
    Calls Tryz.prog 94 #[.string ⟨l.toArray⟩] w fun e w' => e = .returned (.bool (nameN l)) ∧ Below w.heap.size w w' := by
  have HL := hide hl
  have HT := hide hT
  clear hl hT
  go_enter Tryz.func94, Tryz.ntmps94
  go_wp2_with (go_at_call 134; refine (valid_any l _ (unhide HL) (unhide HT)).mono ?_; rintro e w1 ⟨rfl, hb1⟩; generalize hv : vN l = v; have HV := hide hv; clear hv)
  all_goals go_ret
  all_goals refine ⟨congrArg (fun b => Ending.returned (Value.bool b)) ?_, by first | exact Below.refl _ _ | exact hb1⟩
  all_goals unfold nameN
  · rw [unhide HV, decide_eq_true (p := l.length ≤ 16) (by omega), decide_eq_true (p := 1 ≤ l.length) (by omega)]; simp
  · rw [decide_eq_false (p := l.length ≤ 16) (by omega)]; simp
  · rw [decide_eq_false (p := 1 ≤ l.length) (by omega)]; simp

theorem all_true {n : Nat} {f : Nat → Bool} (h : ∀ i, i < n → f i = true) : (List.range n).all f = true := by
  rw [List.all_eq_true]; exact fun i hi => h i (List.mem_range.1 hi)
theorem all_false {n k : Nat} {f : Nat → Bool} (hk : k < n) (h : f k = false) : (List.range n).all f = false := by
  rw [List.all_eq_false]; exact ⟨k, List.mem_range.2 hk, by rw [h]; decide⟩
/-- name i of a list is one, and none that came ahead of it -/
def okAt (l : List (List UInt8)) (i : Nat) : Bool := nameN (l.getD i []) && (List.range i).all (fun k => l.getD k [] != l.getD i [])
def listB (l : List (List UInt8)) : Bool := decide (l.length ≤ 6) && (List.range l.length).all (okAt l)

set_option maxRecDepth 20000 in
set_option maxHeartbeats 1000000 in
theorem Index_any (v : Value) (l : List (List UInt8)) (x : List UInt8) (w : World) (B : Nat) (hl : l.length ≤ 8796093022208) (hv : Ls w B v l) :
    Calls Tryz.prog 170 #[v, .string ⟨x.toArray⟩] w fun e w' => (∃ r : Int, e = .returned (.int .i64 r) ∧ (0 ≤ r ∧ (List.range l.length).all (fun k => l.getD k [] != x) = false ∨ r < 0 ∧ (List.range l.length).all (fun k => l.getD k [] != x) = true)) ∧ w' = w := by
  obtain ⟨a, c, rfl, hle, hv⟩ := hv
  have HL := hide hl
  have HV := hide hv
  clear hl hv hle
  go_enter Tryz.func170, Tryz.ntmps170
  go_wp2
  go_loopg [8] l.length (fun q i wr => ∃ k : Nat, k + q = l.length ∧ i = .int .i64 (k : Nat) ∧ (∀ j, j < k → (l.getD j [] != x) = true) ∧ wr = w)
  case atStart => exact ⟨0, Nat.zero_add _, rfl, fun j hj => absurd hj (Nat.not_lt_zero _), rfl⟩
  case round =>
    obtain ⟨k, hk, rfl, hA, rfl⟩ := hrel
    have HA := hide hA
    clear hA
    have hw : wrap64 ((k : Int) + 1) = (k : Int) + 1 := w64 _ (by omega) (by have := unhide HL; omega)
    by_cases hlt : k < l.length
    · obtain ⟨g, o, rfl, hg, hC⟩ := unhide HV (by omega)
      have hc := hC k hlt
      clear hC
      generalize hy : l.getD k [] = y at hc
      have HY := hide hy
      clear hy
      rw [sv_def] at hc
      go_wp2
      · rename_i he
        go_ret
        refine ⟨⟨_, rfl, Or.inl ⟨by omega, all_false hlt ?_⟩⟩, rfl⟩
        rw [unhide HY]
        simp only [beq_iff_eq] at he
        rw [he]; simp
      · rename_i he
        go_roundg (gk - 1)
        case measure => omega
        case rel =>
          refine ⟨k + 1, by omega, by go_num, fun j hj => ?_, rfl⟩
          by_cases e : j = k
          · subst e
            rw [unhide HY]
            simp only [beq_eq_false_iff_ne, ne_eq] at he
            simpa using fun h => he h.symm
          · exact unhide HA j (by omega)
    · go_wp2
      go_ret
      refine ⟨⟨_, rfl, Or.inr ⟨by omega, all_true (fun j hj => unhide HA j (by omega))⟩⟩, rfl⟩

theorem Contains_any (v : Value) (l : List (List UInt8)) (x : List UInt8) (w : World) (B : Nat) (hl : l.length ≤ 8796093022208) (hv : Ls w B v l) :
    Calls Tryz.prog 135 #[v, .string ⟨x.toArray⟩] w fun e w' => e = .returned (.bool (!(List.range l.length).all (fun k => l.getD k [] != x))) ∧ w' = w := by
  have hI := Index_any v l x w B hl hv
  obtain ⟨a, c, rfl, hle, hv⟩ := hv
  have HI := hide hI
  clear hI hl hv hle
  generalize hb : (List.range l.length).all (fun k => l.getD k [] != x) = b at HI ⊢
  clear hb
  go_enter Tryz.func135, Tryz.ntmps135
  go_wp2_with (go_at_call 170; refine (unhide HI).mono ?_; rintro e w1 ⟨⟨r, rfl, hr⟩, rfl⟩)
  go_ret
  refine ⟨?_, rfl⟩
  rcases hr with ⟨h1, rfl⟩ | ⟨h1, rfl⟩
  · simp [h1]
  · simp [h1]

theorem Ls.take {w : World} {B g o n c' : Nat} {l : List (List UInt8)} (h : ∀ j, j < l.length → w.cell? ⟨g, o + j, none⟩ = some (sv (l.getD j []))) (hg : g < B) (hn : n ≤ l.length) (hc : n ≤ c') : Ls w B (.slice (some ⟨g, o, none⟩) n c') (l.take n) := by
  have hl : (l.take n).length = n := by rw [List.length_take]; omega
  refine ⟨_, c', by rw [hl], by rw [hl]; exact hc, fun _ => ⟨g, o, rfl, hg, fun j hj => ?_⟩⟩
  rw [hl] at hj
  rw [h j (by omega)]
  simp [List.getD, hj]
theorem okAt_take (l : List (List UInt8)) (i : Nat) (h : i < l.length) : okAt l i = (nameN (l.getD i []) && (List.range (l.take i).length).all (fun k => (l.take i).getD k [] != l.getD i [])) := by
  unfold okAt
  have hl : (l.take i).length = i := by rw [List.length_take]; omega
  rw [hl]
  congr 1
  rw [Bool.eq_iff_iff, List.all_eq_true, List.all_eq_true]
  have e : ∀ k, k ∈ List.range i → (l.take i).getD k [] = l.getD k [] := fun k hk => by
    have := List.mem_range.1 hk
    simp [List.getD, this]
  exact ⟨fun hh k hk => by rw [e k hk]; exact hh k hk, fun hh k hk => by rw [← e k hk]; exact hh k hk⟩

/-- the lengths of a list's names fit -/
def Fits (l : List (List UInt8)) : Prop := ∀ i, i < l.length → (l.getD i []).length ≤ 9223372036854775807

set_option maxRecDepth 20000 in
set_option maxHeartbeats 1000000 in
theorem IsList_any (v : Value) (l : List (List UInt8)) (w : World) (B : Nat) (hB : B ≤ w.heap.size) (hl : l.length ≤ 8796093022208) (hF : Fits l) (hv : Ls w B v l) (hT : UT w) :
    Calls Tryz.prog 95 #[v] w fun e w' => e = .returned (.bool (listB l)) ∧ Below w.heap.size w w' := by
  obtain ⟨a, c, rfl, hle, hv⟩ := hv
  have HL := hide hl
  have HV := hide hv
  have HT := hide hT
  have HF := hide hF
  clear hl hv hT hF
  by_cases h6 : 6 < l.length
  · go_enter Tryz.func95, Tryz.ntmps95
    go_wp2
    go_ret
    refine ⟨congrArg (fun b => Ending.returned (Value.bool b)) ?_, Below.refl _ _⟩
    unfold listB
    rw [decide_eq_false (p := l.length ≤ 6) (by omega)]; rfl
  go_enter Tryz.func95, Tryz.ntmps95
  go_wp2
  go_loopg [10] l.length (fun q i wr => ∃ k : Nat, k + q = l.length ∧ i = .int .i64 (k : Nat) ∧ (∀ j, j < k → okAt l j = true) ∧ Below w.heap.size w wr)
  case atStart => exact ⟨0, Nat.zero_add _, rfl, fun j hj => absurd hj (Nat.not_lt_zero _), Below.refl _ _⟩
  case round =>
    obtain ⟨k, hk, rfl, hA, hb⟩ := hrel
    have HA := hide hA
    clear hA
    have hw : wrap64 ((k : Int) + 1) = (k : Int) + 1 := w64 _ (by omega) (by have := unhide HL; omega)
    by_cases hlt : k < l.length
    · have hkc : k ≤ c := by omega
      obtain ⟨g, o, rfl, hg, hC⟩ := unhide HV (by omega)
      have hC' : ∀ j, j < l.length → wr.cell? ⟨g, o + j, none⟩ = some (sv (l.getD j [])) := fun j hj => (hb.cell (p := ⟨g, o + j, none⟩) (by show g < _; omega)).trans (hC j hj)
      have hc := hC' k hlt
      have HC := hide hC'
      clear hC hC'
      have hok := okAt_take l k hlt
      have hfit := unhide HF k hlt
      generalize hy : l.getD k [] = y at hc hok hfit
      have HO := hide hok
      have HFt := hide hfit
      clear hok hy hfit
      rw [sv_def] at hc
      have hsz := hb.size
      generalize hn : nameN y = b1 at HO
      have HN := hide hn
      clear hn
      go_wp2_with (first
        | (go_at_call 94; refine (IsName_any y _ (unhide HFt) ((unhide HT).belowS hb)).mono ?_; rintro e w1 ⟨rfl, hb1⟩; rw [unhide HN]; have hb' := hb.trans (hb1.mono hsz); have HC1 : Hid (∀ j, j < l.length → w1.cell? ⟨g, o + j, none⟩ = some (sv (l.getD j []))) := fun j hj => (hb1.cell (p := ⟨g, o + j, none⟩) (by show g < _; omega)).trans (unhide HC j hj))
        | (go_at_call 135; refine (Contains_any _ (l.take k) y _ B (by rw [List.length_take]; have := unhide HL; omega) (Ls.take (unhide HC1) hg (by omega) (by omega))).mono ?_; rintro e w2 ⟨rfl, rfl⟩; generalize hb2 : (List.range (l.take k).length).all (fun j => (l.take k).getD j [] != y) = b2; have HB2 := hide hb2; clear hb2))
      · rename_i h1 h2
        go_ret
        refine ⟨congrArg (fun b => Ending.returned (Value.bool b)) ?_, hb'⟩
        unfold listB
        have hf : okAt l k = false := by rw [unhide HO, unhide HB2]; simp at h2; rw [h2]; simp
        rw [all_false hlt hf]; simp
      · rename_i h1 h2
        go_roundg (gk - 1)
        case measure => omega
        case rel =>
          refine ⟨k + 1, by omega, by go_num, fun j hj => ?_, hb'⟩
          by_cases e : j = k
          · subst e
            rw [unhide HO, unhide HB2, h1]
            simp at h2; rw [h2]; rfl
          · exact unhide HA j (by omega)
      · rename_i h1
        go_ret
        refine ⟨congrArg (fun b => Ending.returned (Value.bool b)) ?_, hb'⟩
        unfold listB
        have hf : okAt l k = false := by rw [unhide HO]; simp at h1; rw [h1]; simp
        rw [all_false hlt hf]; simp
    · go_wp2
      go_ret
      refine ⟨congrArg (fun b => Ending.returned (Value.bool b)) ?_, hb⟩
      unfold listB
      rw [all_true (fun j hj => unhide HA j (by omega)), decide_eq_true (by omega)]; rfl
end Go.Proofs.YtkmkkmdpjliifaaGreatDoor
namespace Go.Proofs.YtkmkkmdpjliifaaGreatDoor
open Go.ChangeShapes Go.WideShapes Go.ChangeAt Go.RowKit

theorem num1 {k : Nat} (h : wrap64 ((k : Int) + 1) = (k : Int) + 1) : Value.int .i64 (wrap64 ((k : Int) + 1)) = Value.int .i64 ((k + 1 : Nat) : Int) := congrArg (Value.int .i64) (h.trans rfl)
theorem listR_next {l : List (List UInt8)} {k m q : Nat} {y : List UInt8} {b1 : Bool} (hO : okAt l k = (b1 && (List.range k).all fun j => l.getD j [] != y)) (h1 : (!b1) = false) (hA : ∀ j, j < k → okAt l j = true)
    (hA2 : ∀ j, j < m → (l.getD j [] != y) = true) (hm : m + q = k) (hlt : ¬ m < k) : ∀ j, j < k + 1 → okAt l j = true := by
  intro j hj
  have hmk : m = k := by omega
  subst hmk
  by_cases e : j = m
  · rw [e, hO, all_true hA2]
    simp at h1
    rw [h1]; rfl
  · exact hA j (by omega)
theorem listR_bad {l : List (List UInt8)} {k m : Nat} {y z : List UInt8} {b1 : Bool} (hk : k < l.length) (hO : okAt l k = (b1 && (List.range k).all fun j => l.getD j [] != y)) (hm : m < k) (hz : l.getD m [] = z) (h2 : (z == y) = true) : listB l = false := by
  have hf : okAt l k = false := by
    rw [hO, all_false hm]
    · simp
    · rw [hz]; simp at h2; rw [h2]; simp
  unfold listB
  rw [all_false hk hf]; simp
theorem listR_more {l : List (List UInt8)} {m : Nat} {y z : List UInt8} (hA2 : ∀ j, j < m → (l.getD j [] != y) = true) (hz : l.getD m [] = z) (h2 : (z == y) = false) : ∀ j, j < m + 1 → (l.getD j [] != y) = true := by
  intro j hj
  by_cases e : j = m
  · rw [e, hz]
    simp at h2
    simpa using h2
  · exact hA2 j (by omega)

set_option maxRecDepth 20000 in
set_option maxHeartbeats 1000000 in
theorem ListR_any (v : Value) (l : List (List UInt8)) (w : World) (B : Nat) (hB : B ≤ w.heap.size) (hl : l.length ≤ 8796093022208) (hF : Fits l) (hv : Ls w B v l) :
    Calls Tryz.prog 77 #[v] w fun e w' => e = .returned (.bool (listB l)) ∧ Below w.heap.size w w' := by
  obtain ⟨a, c, rfl, hle, hv⟩ := hv
  clear hle
  have HL := hide hl
  have HV := hide hv
  have HF := hide hF
  clear hl hv hF
  go_enter Tryz.func77, Tryz.ntmps77
  go_wp2
  go_loopg [3] l.length (fun q i wr => ∃ k : Nat, k + q = l.length ∧ i = .int .i64 (k : Nat) ∧ (∀ j, j < k → okAt l j = true) ∧ Below w.heap.size w wr)
  case atStart => exact ⟨0, Nat.zero_add _, rfl, fun j hj => absurd hj (Nat.not_lt_zero _), Below.refl _ _⟩
  case round =>
    obtain ⟨k, hk, rfl, hA, hb⟩ := hrel
    have HA := hide hA
    clear hA
    have hw : wrap64 ((k : Int) + 1) = (k : Int) + 1 := w64 _ (by omega) (by have := unhide HL; omega)
    by_cases hlt : k < l.length
    · obtain ⟨g, o, rfl, hg, hC⟩ := unhide HV (by omega)
      have hC' : ∀ j, j < l.length → wr.cell? ⟨g, o + j, none⟩ = some (sv (l.getD j [])) := fun j hj => (hb.cell (p := ⟨g, o + j, none⟩) (by show g < _; omega)).trans (hC j hj)
      have hc := hC' k hlt
      have HC := hide hC'
      clear hC hC'
      have hok : okAt l k = (nameN (l.getD k []) && (List.range k).all (fun j => l.getD j [] != l.getD k [])) := rfl
      have hfit := unhide HF k hlt
      generalize hy : l.getD k [] = y at hc hok hfit
      have HO := hide hok
      have HFt := hide hfit
      have HY := hide hy
      clear hok hy hfit
      rw [sv_def] at hc
      have hsz := hb.size
      generalize hn : nameN y = b1 at HO
      have HN := hide hn
      clear hn
      go_wp2_with (go_at_call 111; refine (Name_any y _ (unhide HFt)).mono ?_; rintro e w1 ⟨rfl, hb1⟩; rw [unhide HN]; have hb' := hb.trans (hb1.mono hsz); have HC1 : Hid (∀ j, j < l.length → w1.cell? ⟨g, o + j, none⟩ = some (sv (l.getD j []))) := fun j hj => (hb1.cell (p := ⟨g, o + j, none⟩) (by show g < _; omega)).trans (unhide HC j hj))
      · rename_i h1
        go_ret
        refine ⟨congrArg (fun b => Ending.returned (Value.bool b)) ?_, hb'⟩
        unfold listB
        have hf : okAt l k = false := by rw [unhide HO]; simp at h1; rw [h1]; simp
        rw [all_false hlt hf]; simp
      · rename_i h1
        have hc1 := unhide HC1 k hlt
        rw [unhide HY, sv_def] at hc1
        obtain ⟨gO, hgO⟩ : ∃ q, q = gk := ⟨_, rfl⟩
        have HW := hide hw
        clear hw
        go_loopg [5] k (fun q i wq => ∃ (m n : Nat), m + q = k ∧ i = .int .i64 (m : Nat) ∧ (∀ j, j < m → (l.getD j [] != y) = true) ∧ wq = w1.drewN n)
        case atStart => exact ⟨0, 0, Nat.zero_add _, rfl, fun j hj => absurd hj (Nat.not_lt_zero _), rfl⟩
        case round =>
          obtain ⟨m, n, hm, rfl, hA2, rfl⟩ := hrel
          have HA2 := hide hA2
          clear hA2
          have hw2 : wrap64 ((m : Int) + 1) = (m : Int) + 1 := w64 _ (by omega) (by have := unhide HL; omega)
          by_cases hlt2 : m < k
          · have hc2 := unhide HC1 m (by omega)
            generalize hz : l.getD m [] = z at hc2
            have HZ := hide hz
            clear hz
            rw [sv_def] at hc2
            have hml : (m : Int) < l.length := by omega
            have hml2 : m < l.length := by omega
            have hkl : (k : Int) < l.length := by omega
            go_wp2
            go_quiet (fail)
            go_wp2
            · rename_i h2
              go_ret
              exact ⟨congrArg (fun b => Ending.returned (Value.bool b)) (listR_bad hlt (unhide HO) hlt2 (unhide HZ) h2).symm, below_drewN' (below_drewN' hb' _) _⟩
            · rename_i h2
              go_roundg (gk - 1)
              case measure => omega
              case rel => exact ⟨m + 1, _, by omega, num1 hw2, listR_more (unhide HA2) (unhide HZ) h2, rfl⟩
          · clear hw2
            have hw := unhide HW
            go_wp2
            go_roundg (gO - 1)
            case measure => omega
            case rel =>
              exact ⟨k + 1, by omega, num1 hw, listR_next (unhide HO) h1 (unhide HA) (unhide HA2) hm hlt2, below_drewN' hb' _⟩
    · go_wp2
      go_ret
      refine ⟨congrArg (fun b => Ending.returned (Value.bool b)) ?_, hb⟩
      unfold listB
      rw [all_true (fun j hj => unhide HA j (by omega)), Bool.and_true]
      simp
      omega
end Go.Proofs.YtkmkkmdpjliifaaGreatDoor
namespace Go.Proofs.YtkmkkmdpjliifaaGreatDoor
open Go.ChangeShapes Go.WideShapes Go.ChangeAt Go.RowKit

theorem isDigit_any (c : Nat) (w : World) : Calls Tryz.prog 149 #[.int .u8 (c : Int)] w fun e w' => e = .returned (.bool (decide (48 ≤ c) && decide (c ≤ 57))) ∧ w' = w := by
  go_enter Tryz.func149, Tryz.ntmps149
  go_wp2
  all_goals go_ret
  all_goals refine ⟨congrArg (fun b => Ending.returned (Value.bool b)) ?_, rfl⟩
  · rename_i h
    rw [decide_eq_true (p := 48 ≤ c) (by omega), Bool.true_and]
    first | (rw [decide_eq_decide]; omega) | (simp; omega) | simp
  · rw [decide_eq_false (p := 48 ≤ c) (by omega)]; rfl
theorem isSmall_any (c : Nat) (w : World) : Calls Tryz.prog 150 #[.int .u8 (c : Int)] w fun e w' => e = .returned (.bool (decide (97 ≤ c) && decide (c ≤ 122))) ∧ w' = w := by
  go_enter Tryz.func150, Tryz.ntmps150
  go_wp2
  all_goals go_ret
  all_goals refine ⟨congrArg (fun b => Ending.returned (Value.bool b)) ?_, rfl⟩
  · rename_i h
    rw [decide_eq_true (p := 97 ≤ c) (by omega), Bool.true_and]
    first | (rw [decide_eq_decide]; omega) | (simp; omega) | simp
  · rw [decide_eq_false (p := 97 ≤ c) (by omega)]; rfl
/-- is a sign one of a to z and 0 to 9? -/
def digB (c : Nat) : Bool := decide (48 ≤ c) && decide (c ≤ 57)
def lowB (c : Nat) : Bool := decide (97 ≤ c) && decide (c ≤ 122)
def plainB (l : List UInt8) : Bool := (List.range l.length).all (fun i => digB (by_ l i) || lowB (by_ l i)) && decide (1 ≤ l.length) && decide (l.length ≤ 16)
theorem plain_more {l : List UInt8} {k : Nat} {b : Bool} (hA : ∀ j, j < k → (digB (by_ l j) || lowB (by_ l j)) = true) (h : (digB (by_ l k) || lowB (by_ l k)) = b) (hb : b = true) : ∀ j, j < k + 1 → (digB (by_ l j) || lowB (by_ l j)) = true := by
  intro j hj
  by_cases e : j = k
  · rw [e, h, hb]
  · exact hA j (by omega)
theorem plain_bad {l : List UInt8} {k : Nat} (hk : k < l.length) (h : (digB (by_ l k) || lowB (by_ l k)) = false) : plainB l = false := by
  unfold plainB
  rw [all_false hk h]; simp
theorem plain_all {l : List UInt8} (hA : ∀ j, j < l.length → (digB (by_ l j) || lowB (by_ l j)) = true) : plainB l = (decide (1 ≤ l.length) && decide (l.length ≤ 16)) := by
  unfold plainB
  rw [all_true hA, Bool.true_and]
theorem len16 (n : Nat) : (decide ((1 : Int) ≤ (n : Int)) && decide ((n : Int) ≤ 16)) = (decide (1 ≤ n) && decide (n ≤ 16)) := by
  congr 1 <;> rw [decide_eq_decide] <;> omega

set_option maxRecDepth 20000 in
set_option maxHeartbeats 1000000 in
theorem IsPlain_any (l : List UInt8) (w : World) (hl : l.length ≤ 9223372036854775807) :
    Calls Tryz.prog 112 #[.string ⟨l.toArray⟩] w fun e w' => e = .returned (.bool (plainB l)) ∧ w' = w := by
  have HL := hide hl
  clear hl
  go_enter Tryz.func112, Tryz.ntmps112
  go_wp2
  go_loopg [6] l.length (fun q i wr => ∃ k : Nat, k + q = l.length ∧ i = .int .i64 (k : Nat) ∧ (∀ j, j < k → (digB (by_ l j) || lowB (by_ l j)) = true) ∧ wr = w)
  case atStart => exact ⟨0, Nat.zero_add _, rfl, fun j hj => absurd hj (Nat.not_lt_zero _), rfl⟩
  case round =>
    obtain ⟨k, hk, rfl, hA, rfl⟩ := hrel
    have HA := hide hA
    clear hA
    by_cases hlt : k < l.length
    · have hw : wrap64 ((k : Int) + 1) = (k : Int) + 1 := w64 _ (by omega) (by have := unhide HL; omega)
      have hix : ∀ u, _ := ix_any l k hlt
      generalize hc : by_ l k = c at hix
      have HC := hide hc
      clear hc
      generalize hd : digB c = d
      generalize hs : lowB c = s
      have HD := hide hd
      have HS := hide hs
      clear hd hs
      go_wp2_with (first | (go_at_call 149; refine (isDigit_any c _).mono ?_; rintro e w1 ⟨rfl, rfl⟩; rw [show (decide (48 ≤ c) && decide (c ≤ 57)) = d from unhide HD]) | (go_at_call 150; refine (isSmall_any c _).mono ?_; rintro e w1 ⟨rfl, rfl⟩; rw [show (decide (97 ≤ c) && decide (c ≤ 122)) = s from unhide HS]))
      · rename_i h1
        go_roundg (gk - 1)
        case measure => omega
        case rel => exact ⟨k + 1, by omega, by first | exact num1 hw | rfl, plain_more (unhide HA) rfl (by rw [unhide HC, unhide HD, h1]; rfl), rfl⟩
      · rename_i h1
        go_ret
        refine ⟨congrArg (fun b => Ending.returned (Value.bool b)) (plain_bad hlt ?_).symm, rfl⟩
        rw [unhide HC, unhide HD, unhide HS]
        simp at h1
        rw [h1, Bool.or_false]
        exact Bool.eq_false_iff.2 (by assumption)
      · rename_i h1
        go_roundg (gk - 1)
        case measure => omega
        case rel =>
          simp at h1
          exact ⟨k + 1, by omega, by first | exact num1 hw | rfl, plain_more (unhide HA) rfl (by rw [unhide HC, unhide HS, h1, Bool.or_true]), rfl⟩
    · go_wp2
      all_goals go_ret
      all_goals refine ⟨congrArg (fun b => Ending.returned (Value.bool b)) ?_, rfl⟩
      all_goals rw [plain_all (fun j hj => unhide HA j (by omega)), ← len16]
      · rw [decide_eq_true (p := (1 : Int) ≤ (l.length : Int)) (by assumption), Bool.true_and]
      · rw [decide_eq_false (p := (1 : Int) ≤ (l.length : Int)) (by omega), Bool.false_and]

set_option maxRecDepth 20000 in
set_option maxHeartbeats 1000000 in
theorem plainR_any (l : List UInt8) (w : World) (hl : l.length ≤ 9223372036854775807) :
    Calls Tryz.prog 76 #[.string ⟨l.toArray⟩] w fun e w' => e = .returned (.bool (plainB l)) ∧ w' = w := by
  have HL := hide hl
  clear hl
  go_enter Tryz.func76, Tryz.ntmps76
  go_wp2
  go_loopg [3] l.length (fun q i wr => ∃ k : Nat, k + q = l.length ∧ i = .int .i64 (k : Nat) ∧ (∀ j, j < k → (digB (by_ l j) || lowB (by_ l j)) = true) ∧ wr = w)
  case atStart => exact ⟨0, Nat.zero_add _, rfl, fun j hj => absurd hj (Nat.not_lt_zero _), rfl⟩
  case round =>
    obtain ⟨k, hk, rfl, hA, rfl⟩ := hrel
    have HA := hide hA
    clear hA
    by_cases hlt : k < l.length
    · have hw : wrap64 ((k : Int) + 1) = (k : Int) + 1 := w64 _ (by omega) (by have := unhide HL; omega)
      have hix : ∀ u, _ := ix_any l k hlt
      generalize hc : by_ l k = c at hix
      have HC := hide hc
      clear hc
      have hsum : (digB c || lowB c) = true ∨ (digB c || lowB c) = false := by cases (digB c || lowB c) <;> simp
      unfold digB lowB at hsum
      have HSM := hide hsum
      clear hsum
      by_cases q1 : 97 ≤ c
      · by_cases q2 : c ≤ 122
        · have p1 : (97 : Int) ≤ c := by omega
          have p2 : (c : Int) ≤ 122 := by omega
          by_cases q3 : 48 ≤ c
          · by_cases q4 : c ≤ 57
            · omega
            · have p3 : (48 : Int) ≤ c := by omega
              have p4 : ¬ (c : Int) ≤ 57 := by omega
              go_wp2
              go_roundg (gk - 1)
              case measure => omega
              case rel => exact ⟨k + 1, by omega, by first | exact num1 hw | rfl, plain_more (unhide HA) rfl (by rw [unhide HC]; unfold digB lowB; simp [q1, q2]), rfl⟩
          · omega
        · have p1 : (97 : Int) ≤ c := by omega
          have p2 : ¬ (c : Int) ≤ 122 := by omega
          have p3 : (48 : Int) ≤ c := by omega
          have p4 : ¬ (c : Int) ≤ 57 := by omega
          go_wp2
          go_ret
          refine ⟨congrArg (fun b => Ending.returned (Value.bool b)) (plain_bad hlt ?_).symm, rfl⟩
          rw [unhide HC]; unfold digB lowB
          rw [decide_eq_false (p := c ≤ 57) (by omega), decide_eq_false (p := c ≤ 122) q2]; simp
      · have p1 : ¬ (97 : Int) ≤ c := by omega
        by_cases q3 : 48 ≤ c
        · have p3 : (48 : Int) ≤ c := by omega
          by_cases q4 : c ≤ 57
          · have p4 : (c : Int) ≤ 57 := by omega
            go_wp2
            go_roundg (gk - 1)
            case measure => omega
            case rel => exact ⟨k + 1, by omega, by first | exact num1 hw | rfl, plain_more (unhide HA) rfl (by rw [unhide HC]; unfold digB lowB; simp [q3, q4]), rfl⟩
          · have p4 : ¬ (c : Int) ≤ 57 := by omega
            go_wp2
            go_ret
            refine ⟨congrArg (fun b => Ending.returned (Value.bool b)) (plain_bad hlt ?_).symm, rfl⟩
            rw [unhide HC]; unfold digB lowB
            rw [decide_eq_false (p := c ≤ 57) q4, decide_eq_false (p := 97 ≤ c) q1]; simp
        · have p3 : ¬ (48 : Int) ≤ c := by omega
          go_wp2
          go_ret
          refine ⟨congrArg (fun b => Ending.returned (Value.bool b)) (plain_bad hlt ?_).symm, rfl⟩
          rw [unhide HC]; unfold digB lowB
          rw [decide_eq_false (p := 48 ≤ c) q3, decide_eq_false (p := 97 ≤ c) q1]; simp
    · go_wp2
      all_goals go_ret
      all_goals refine ⟨congrArg (fun b => Ending.returned (Value.bool b)) ?_, rfl⟩
      all_goals rw [plain_all (fun j hj => unhide HA j (by omega)), ← len16]
      · rw [decide_eq_true (p := (1 : Int) ≤ (l.length : Int)) (by assumption), Bool.true_and]
      · rw [decide_eq_false (p := (1 : Int) ≤ (l.length : Int)) (by omega), Bool.false_and]
end Go.Proofs.YtkmkkmdpjliifaaGreatDoor
