import Derived.Test.YtkmkkmdpjliifaaDoorNxB
import Derived.Test.YtkmkkmdpjliifaaDoorJxB
import Derived.Test.YtkmkkmdpjliifaaDoorSv
namespace Go.Proofs.YtkmkkmdpjliifaaDoor
open Go.ChangeShapes Go.WideShapes Go.ChangeAt Go.RowKit

/-- the two tables of unicode/utf8 -/
def UT (w : World) : Prop := Lib.Utf8Tabs 1 2 w
theorem UT.lt {w : World} (h : UT w) : 2 < w.heap.size := by
  have hc := (h.2 0 (by omega)).1
  rcases Nat.lt_or_ge 2 w.heap.size with h' | h'
  · exact h'
  · simp [World.cell?, Array.getElem?_eq_none h'] at hc
theorem UT.below {w w' : World} {B : Nat} (h : UT w) (hB : 2 < B) (hb : Below B w w') : UT w' :=
  ⟨fun c hc => (hb.cell (p := ⟨1, c, none⟩) (by show 1 < B; omega)).trans (h.1 c hc), fun i hi => ⟨(hb.cell (p := ⟨2, 2 * i, none⟩) hB).trans (h.2 i hi).1, (hb.cell (p := ⟨2, 2 * i + 1, none⟩) hB).trans (h.2 i hi).2⟩⟩
theorem UT.belowS {w w' : World} (h : UT w) (hb : Below w.heap.size w w') : UT w' := h.below h.lt hb
theorem valid_any (l : List UInt8) (w : World) (hl : l.length ≤ 9223372036854775807) (hT : UT w) :
    Calls Tryd.prog 103 #[.string ⟨l.toArray⟩] w fun e w' => e = .returned (.bool (vN l)) ∧ Below w.heap.size w w' := by
  have h : Calls Tryd.prog 103 #[.string ⟨l.toArray⟩] w _ := Any.utf8_ValidString Tryd.laysValid ⟨l.toArray⟩ w (by simpa [ByteArray.size] using hl) hT
  refine h.mono ?_
  rintro e w' ⟨rfl, hb⟩
  rw [vN_valid]
  exact ⟨by simp, hb⟩

theorem IsName_any (l : List UInt8) (w : World) (hl : l.length ≤ 9223372036854775807) (hT : UT w) :
    Calls Tryd.prog 87 #[.string ⟨l.toArray⟩] w fun e w' => e = .returned (.bool (nameN l)) ∧ Below w.heap.size w w' := by
  have HL := hide hl
  have HT := hide hT
  clear hl hT
  go_enter Tryd.func87, Tryd.ntmps87
  go_wp2_with (go_at_call 103; refine (valid_any l _ (unhide HL) (unhide HT)).mono ?_; rintro e w1 ⟨rfl, hb1⟩; generalize hv : vN l = v; have HV := hide hv; clear hv)
  all_goals go_ret
  all_goals refine ⟨congrArg (fun b => Ending.returned (Value.bool b)) ?_, by first | exact Below.refl _ _ | exact hb1⟩
  all_goals unfold nameN
  · rw [unhide HV, decide_eq_true (p := l.length ≤ 16) (by omega), decide_eq_true (p := 1 ≤ l.length) (by omega)]; simp
  · rw [decide_eq_false (p := l.length ≤ 16) (by omega)]; simp
  · rw [decide_eq_false (p := 1 ≤ l.length) (by omega)]; simp

theorem all_true {n : Nat} {f : Nat → Bool} (h : ∀ i, i < n → f i = true) : (List.range n).all f = true := by
  rw [List.all_eq_true]; exact fun i hi => h i (List.mem_range.1 hi)
theorem all_false {n k : Nat} {f : Nat → Bool} (hk : k < n) (h : f k = false) : (List.range n).all f = false := by
  rw [List.all_eq_false]; exact ⟨k, List.mem_range.2 hk, by rw [h]; decide⟩
/-- name i of a list is one, and none that came ahead of it -/
def okAt (l : List (List UInt8)) (i : Nat) : Bool := nameN (l.getD i []) && (List.range i).all (fun k => l.getD k [] != l.getD i [])
def listB (l : List (List UInt8)) : Bool := decide (l.length ≤ 6) && (List.range l.length).all (okAt l)

set_option maxRecDepth 20000 in
set_option maxHeartbeats 1000000 in
theorem Index_any (v : Value) (l : List (List UInt8)) (x : List UInt8) (w : World) (B : Nat) (hl : l.length ≤ 8796093022208) (hv : Ls w B v l) :
    Calls Tryd.prog 121 #[v, .string ⟨x.toArray⟩] w fun e w' => (∃ r : Int, e = .returned (.int .i64 r) ∧ (0 ≤ r ∧ (List.range l.length).all (fun k => l.getD k [] != x) = false ∨ r < 0 ∧ (List.range l.length).all (fun k => l.getD k [] != x) = true)) ∧ w' = w := by
  obtain ⟨a, c, rfl, hle, hv⟩ := hv
  have HL := hide hl
  have HV := hide hv
  clear hl hv hle
  go_enter Tryd.func121, Tryd.ntmps121
  go_wp2
  go_loopg [8] l.length (fun q i wr => ∃ k : Nat, k + q = l.length ∧ i = .int .i64 (k : Nat) ∧ (∀ j, j < k → (l.getD j [] != x) = true) ∧ wr = w)
  case atStart => exact ⟨0, Nat.zero_add _, rfl, fun j hj => absurd hj (Nat.not_lt_zero _), rfl⟩
  case round =>
    obtain ⟨k, hk, rfl, hA, rfl⟩ := hrel
    have HA := hide hA
    clear hA
    have hw : wrap64 ((k : Int) + 1) = (k : Int) + 1 := w64 _ (by omega) (by have := unhide HL; omega)
    by_cases hlt : k < l.length
    · obtain ⟨g, o, rfl, hg, hC⟩ := unhide HV (by omega)
      have hc := hC k hlt
      clear hC
      generalize hy : l.getD k [] = y at hc
      have HY := hide hy
      clear hy
      rw [sv_def] at hc
      go_wp2
      · rename_i he
        go_ret
        refine ⟨⟨_, rfl, Or.inl ⟨by omega, all_false hlt ?_⟩⟩, rfl⟩
        rw [unhide HY]
        simp only [beq_iff_eq] at he
        rw [he]; simp
      · rename_i he
        go_roundg (gk - 1)
        case measure => omega
        case rel =>
          refine ⟨k + 1, by omega, by go_num, fun j hj => ?_, rfl⟩
          by_cases e : j = k
          · subst e
            rw [unhide HY]
            simp only [beq_eq_false_iff_ne, ne_eq] at he
            simpa using fun h => he h.symm
          · exact unhide HA j (by omega)
    · go_wp2
      go_ret
      refine ⟨⟨_, rfl, Or.inr ⟨by omega, all_true (fun j hj => unhide HA j (by omega))⟩⟩, rfl⟩

theorem Contains_any (v : Value) (l : List (List UInt8)) (x : List UInt8) (w : World) (B : Nat) (hl : l.length ≤ 8796093022208) (hv : Ls w B v l) :
    Calls Tryd.prog 104 #[v, .string ⟨x.toArray⟩] w fun e w' => e = .returned (.bool (!(List.range l.length).all (fun k => l.getD k [] != x))) ∧ w' = w := by
  have hI := Index_any v l x w B hl hv
  obtain ⟨a, c, rfl, hle, hv⟩ := hv
  have HI := hide hI
  clear hI hl hv hle
  generalize hb : (List.range l.length).all (fun k => l.getD k [] != x) = b at HI ⊢
  clear hb
  go_enter Tryd.func104, Tryd.ntmps104
  go_wp2_with (go_at_call 121; refine (unhide HI).mono ?_; rintro e w1 ⟨⟨r, rfl, hr⟩, rfl⟩)
  go_ret
  refine ⟨?_, rfl⟩
  rcases hr with ⟨h1, rfl⟩ | ⟨h1, rfl⟩
  · simp [h1]
  · simp [h1]

theorem Ls.take {w : World} {B g o n c' : Nat} {l : List (List UInt8)} (h : ∀ j, j < l.length → w.cell? ⟨g, o + j, none⟩ = some (sv (l.getD j []))) (hg : g < B) (hn : n ≤ l.length) (hc : n ≤ c') : Ls w B (.slice (some ⟨g, o, none⟩) n c') (l.take n) := by
  have hl : (l.take n).length = n := by rw [List.length_take]; omega
  refine ⟨_, c', by rw [hl], by rw [hl]; exact hc, fun _ => ⟨g, o, rfl, hg, fun j hj => ?_⟩⟩
  rw [hl] at hj
  rw [h j (by omega)]
  simp [List.getD, hj]
theorem okAt_take (l : List (List UInt8)) (i : Nat) (h : i < l.length) : okAt l i = (nameN (l.getD i []) && (List.range (l.take i).length).all (fun k => (l.take i).getD k [] != l.getD i [])) := by
  unfold okAt
  have hl : (l.take i).length = i := by rw [List.length_take]; omega
  rw [hl]
  congr 1
  rw [Bool.eq_iff_iff, List.all_eq_true, List.all_eq_true]
  have e : ∀ k, k ∈ List.range i → (l.take i).getD k [] = l.getD k [] := fun k hk => by
    have := List.mem_range.1 hk
    simp [List.getD, this]
  exact ⟨fun hh k hk => by rw [e k hk]; exact hh k hk, fun hh k hk => by rw [← e k hk]; exact hh k hk⟩

/-- the lengths of a list's names fit -/
def Fits (l : List (List UInt8)) : Prop := ∀ i, i < l.length → (l.getD i []).length ≤ 9223372036854775807

set_option maxRecDepth 20000 in
set_option maxHeartbeats 1000000 in
theorem IsList_any (v : Value) (l : List (List UInt8)) (w : World) (B : Nat) (hB : B ≤ w.heap.size) (hl : l.length ≤ 8796093022208) (hF : Fits l) (hv : Ls w B v l) (hT : UT w) :
    Calls Tryd.prog 88 #[v] w fun e w' => e = .returned (.bool (listB l)) ∧ Below w.heap.size w w' := by
  obtain ⟨a, c, rfl, hle, hv⟩ := hv
  have HL := hide hl
  have HV := hide hv
  have HT := hide hT
  have HF := hide hF
  clear hl hv hT hF
  by_cases h6 : 6 < l.length
  · go_enter Tryd.func88, Tryd.ntmps88
    go_wp2
    go_ret
    refine ⟨congrArg (fun b => Ending.returned (Value.bool b)) ?_, Below.refl _ _⟩
    unfold listB
    rw [decide_eq_false (p := l.length ≤ 6) (by omega)]; rfl
  go_enter Tryd.func88, Tryd.ntmps88
  go_wp2
  go_loopg [10] l.length (fun q i wr => ∃ k : Nat, k + q = l.length ∧ i = .int .i64 (k : Nat) ∧ (∀ j, j < k → okAt l j = true) ∧ Below w.heap.size w wr)
  case atStart => exact ⟨0, Nat.zero_add _, rfl, fun j hj => absurd hj (Nat.not_lt_zero _), Below.refl _ _⟩
  case round =>
    obtain ⟨k, hk, rfl, hA, hb⟩ := hrel
    have HA := hide hA
    clear hA
    have hw : wrap64 ((k : Int) + 1) = (k : Int) + 1 := w64 _ (by omega) (by have := unhide HL; omega)
    by_cases hlt : k < l.length
    · have hkc : k ≤ c := by omega
      obtain ⟨g, o, rfl, hg, hC⟩ := unhide HV (by omega)
      have hC' : ∀ j, j < l.length → wr.cell? ⟨g, o + j, none⟩ = some (sv (l.getD j [])) := fun j hj => (hb.cell (p := ⟨g, o + j, none⟩) (by show g < _; omega)).trans (hC j hj)
      have hc := hC' k hlt
      have HC := hide hC'
      clear hC hC'
      have hok := okAt_take l k hlt
      have hfit := unhide HF k hlt
      generalize hy : l.getD k [] = y at hc hok hfit
      have HO := hide hok
      have HFt := hide hfit
      clear hok hy hfit
      rw [sv_def] at hc
      have hsz := hb.size
      generalize hn : nameN y = b1 at HO
      have HN := hide hn
      clear hn
      go_wp2_with (first
        | (go_at_call 87; refine (IsName_any y _ (unhide HFt) ((unhide HT).belowS hb)).mono ?_; rintro e w1 ⟨rfl, hb1⟩; rw [unhide HN]; have hb' := hb.trans (hb1.mono hsz); have HC1 : Hid (∀ j, j < l.length → w1.cell? ⟨g, o + j, none⟩ = some (sv (l.getD j []))) := fun j hj => (hb1.cell (p := ⟨g, o + j, none⟩) (by show g < _; omega)).trans (unhide HC j hj))
        | (go_at_call 104; refine (Contains_any _ (l.take k) y _ B (by rw [List.length_take]; have := unhide HL; omega) (Ls.take (unhide HC1) hg (by omega) (by omega))).mono ?_; rintro e w2 ⟨rfl, rfl⟩; generalize hb2 : (List.range (l.take k).length).all (fun j => (l.take k).getD j [] != y) = b2; have HB2 := hide hb2; clear hb2))
      · rename_i h1 h2
        go_ret
        refine ⟨congrArg (fun b => Ending.returned (Value.bool b)) ?_, hb'⟩
        unfold listB
        have hf : okAt l k = false := by rw [unhide HO, unhide HB2]; simp at h2; rw [h2]; simp
        rw [all_false hlt hf]; simp
      · rename_i h1 h2
        go_roundg (gk - 1)
        case measure => omega
        case rel =>
          refine ⟨k + 1, by omega, by go_num, fun j hj => ?_, hb'⟩
          by_cases e : j = k
          · subst e
            rw [unhide HO, unhide HB2, h1]
            simp at h2; rw [h2]; rfl
          · exact unhide HA j (by omega)
      · rename_i h1
        go_ret
        refine ⟨congrArg (fun b => Ending.returned (Value.bool b)) ?_, hb'⟩
        unfold listB
        have hf : okAt l k = false := by rw [unhide HO]; simp at h1; rw [h1]; simp
        rw [all_false hlt hf]; simp
    · go_wp2
      go_ret
      refine ⟨congrArg (fun b => Ending.returned (Value.bool b)) ?_, hb⟩
      unfold listB
      rw [all_true (fun j hj => unhide HA j (by omega)), decide_eq_true (by omega)]; rfl
end Go.Proofs.YtkmkkmdpjliifaaDoor
