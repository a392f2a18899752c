import Derived.Test.YtkmkkmdpjliifaaGreatDoorTxJ
import Derived.Test.YtkmkkmdpjliifaaGreatDoorSv
import Derived.RegionTactic
import Derived.BigRegion
import Derived.WalkSpells
import Derived.Laws.ResultCell
namespace Go.Proofs.YtkmkkmdpjliifaaGreatDoor
open Go.ChangeShapes Go.WideShapes Go.ChangeAt Go.RowKit

/-- the two tables of unicode/utf8 -/
def UT (w : World) : Prop := Lib.Utf8Tabs 0 1 w ∧ 2 < w.heap.size
theorem UT.lt {w : World} (h : UT w) : 2 < w.heap.size := h.2
theorem UT.below {w w' : World} {B : Nat} (h : UT w) (hB : 2 < B) (hb : Below B w w') : UT w' :=
  ⟨⟨fun c hc => (hb.cell (p := ⟨0, c, none⟩) (by show 0 < B; omega)).trans (h.1.1 c hc), fun i hi => ⟨(hb.cell (p := ⟨1, 2 * i, none⟩) (by show 1 < B; omega)).trans (h.1.2 i hi).1, (hb.cell (p := ⟨1, 2 * i + 1, none⟩) (by show 1 < B; omega)).trans (h.1.2 i hi).2⟩⟩, Nat.lt_of_lt_of_le h.2 hb.size⟩
theorem UT.belowS {w w' : World} (h : UT w) (hb : Below w.heap.size w w') : UT w' := h.below h.lt hb
theorem valid_any (l : List UInt8) (w : World) (hl : l.length ≤ 9223372036854775807) (hT : UT w) :
    Calls Tryz.prog 134 #[.string ⟨l.toArray⟩] w fun e w' => e = .returned (.bool (vN l)) ∧ Below w.heap.size w w' := by
  have h : Calls Tryz.prog 134 #[.string ⟨l.toArray⟩] w _ := Any.utf8_ValidString Tryz.laysValid ⟨l.toArray⟩ w (by simpa [ByteArray.size] using hl) hT.1
  refine h.mono ?_
  rintro e w' ⟨rfl, hb⟩
  rw [vN_valid]
  exact ⟨by simp, hb⟩

theorem IsName_any (l : List UInt8) (w : World) (hl : l.length ≤ 9223372036854775807) (hT : UT w) :
    Calls Tryz.prog 94 #[.string ⟨l.toArray⟩] w fun e w' => e = .returned (.bool (nameN l)) ∧ Below w.heap.size w w' := by
  have HL := hide hl
  have HT := hide hT
  clear hl hT
  go_enter Tryz.func94, Tryz.ntmps94
  go_wp2_with (go_at_call 134; refine (valid_any l _ (unhide HL) (unhide HT)).mono ?_; rintro e w1 ⟨rfl, hb1⟩; generalize hv : vN l = v; have HV := hide hv; clear hv)
  all_goals go_ret
  all_goals refine ⟨congrArg (fun b => Ending.returned (Value.bool b)) ?_, by first | exact Below.refl _ _ | exact hb1⟩
  all_goals unfold nameN
  · rw [unhide HV, decide_eq_true (p := l.length ≤ 16) (by omega), decide_eq_true (p := 1 ≤ l.length) (by omega)]; simp
  · rw [decide_eq_false (p := l.length ≤ 16) (by omega)]; simp
  · rw [decide_eq_false (p := 1 ≤ l.length) (by omega)]; simp

theorem all_true {n : Nat} {f : Nat → Bool} (h : ∀ i, i < n → f i = true) : (List.range n).all f = true := by
  rw [List.all_eq_true]; exact fun i hi => h i (List.mem_range.1 hi)
theorem all_false {n k : Nat} {f : Nat → Bool} (hk : k < n) (h : f k = false) : (List.range n).all f = false := by
  rw [List.all_eq_false]; exact ⟨k, List.mem_range.2 hk, by rw [h]; decide⟩
/-- name i of a list is one, and none that came ahead of it -/
def okAt (l : List (List UInt8)) (i : Nat) : Bool := nameN (l.getD i []) && (List.range i).all (fun k => l.getD k [] != l.getD i [])
def listB (l : List (List UInt8)) : Bool := decide (l.length ≤ 6) && (List.range l.length).all (okAt l)

set_option maxRecDepth 20000 in
set_option maxHeartbeats 1000000 in
theorem Index_any (v : Value) (l : List (List UInt8)) (x : List UInt8) (w : World) (B : Nat) (hl : l.length ≤ 8796093022208) (hv : Ls w B v l) :
    Calls Tryz.prog 170 #[v, .string ⟨x.toArray⟩] w fun e w' => (∃ r : Int, e = .returned (.int .i64 r) ∧ (0 ≤ r ∧ (List.range l.length).all (fun k => l.getD k [] != x) = false ∨ r < 0 ∧ (List.range l.length).all (fun k => l.getD k [] != x) = true)) ∧ w' = w := by
  obtain ⟨a, c, rfl, hle, hv⟩ := hv
  have HL := hide hl
  have HV := hide hv
  clear hl hv hle
  go_enter Tryz.func170, Tryz.ntmps170
  go_wp2
  go_loopg [8] l.length (fun q i wr => ∃ k : Nat, k + q = l.length ∧ i = .int .i64 (k : Nat) ∧ (∀ j, j < k → (l.getD j [] != x) = true) ∧ wr = w)
  case atStart => exact ⟨0, Nat.zero_add _, rfl, fun j hj => absurd hj (Nat.not_lt_zero _), rfl⟩
  case round =>
    obtain ⟨k, hk, rfl, hA, rfl⟩ := hrel
    have HA := hide hA
    clear hA
    have hw : wrap64 ((k : Int) + 1) = (k : Int) + 1 := w64 _ (by omega) (by have := unhide HL; omega)
    by_cases hlt : k < l.length
    · obtain ⟨g, o, rfl, hg, hC⟩ := unhide HV (by omega)
      have hc := hC k hlt
      clear hC
      generalize hy : l.getD k [] = y at hc
      have HY := hide hy
      clear hy
      rw [sv_def] at hc
      go_wp2
      · rename_i he
        go_ret
        refine ⟨⟨_, rfl, Or.inl ⟨by omega, all_false hlt ?_⟩⟩, rfl⟩
        rw [unhide HY]
        simp only [beq_iff_eq] at he
        rw [he]; simp
      · rename_i he
        go_roundg (gk - 1)
        case measure => omega
        case rel =>
          refine ⟨k + 1, by omega, by go_num, fun j hj => ?_, rfl⟩
          by_cases e : j = k
          · subst e
            rw [unhide HY]
            simp only [beq_eq_false_iff_ne, ne_eq] at he
            simpa using fun h => he h.symm
          · exact unhide HA j (by omega)
    · go_wp2
      go_ret
      refine ⟨⟨_, rfl, Or.inr ⟨by omega, all_true (fun j hj => unhide HA j (by omega))⟩⟩, rfl⟩

theorem Contains_any (v : Value) (l : List (List UInt8)) (x : List UInt8) (w : World) (B : Nat) (hl : l.length ≤ 8796093022208) (hv : Ls w B v l) :
    Calls Tryz.prog 135 #[v, .string ⟨x.toArray⟩] w fun e w' => e = .returned (.bool (!(List.range l.length).all (fun k => l.getD k [] != x))) ∧ w' = w := by
  have hI := Index_any v l x w B hl hv
  obtain ⟨a, c, rfl, hle, hv⟩ := hv
  have HI := hide hI
  clear hI hl hv hle
  generalize hb : (List.range l.length).all (fun k => l.getD k [] != x) = b at HI ⊢
  clear hb
  go_enter Tryz.func135, Tryz.ntmps135
  go_wp2_with (go_at_call 170; refine (unhide HI).mono ?_; rintro e w1 ⟨⟨r, rfl, hr⟩, rfl⟩)
  go_ret
  refine ⟨?_, rfl⟩
  rcases hr with ⟨h1, rfl⟩ | ⟨h1, rfl⟩
  · simp [h1]
  · simp [h1]

theorem Ls.take {w : World} {B g o n c' : Nat} {l : List (List UInt8)} (h : ∀ j, j < l.length → w.cell? ⟨g, o + j, none⟩ = some (sv (l.getD j []))) (hg : g < B) (hn : n ≤ l.length) (hc : n ≤ c') : Ls w B (.slice (some ⟨g, o, none⟩) n c') (l.take n) := by
  have hl : (l.take n).length = n := by rw [List.length_take]; omega
  refine ⟨_, c', by rw [hl], by rw [hl]; exact hc, fun _ => ⟨g, o, rfl, hg, fun j hj => ?_⟩⟩
  rw [hl] at hj
  rw [h j (by omega)]
  simp [List.getD, hj]
theorem okAt_take (l : List (List UInt8)) (i : Nat) (h : i < l.length) : okAt l i = (nameN (l.getD i []) && (List.range (l.take i).length).all (fun k => (l.take i).getD k [] != l.getD i [])) := by
  unfold okAt
  have hl : (l.take i).length = i := by rw [List.length_take]; omega
  rw [hl]
  congr 1
  rw [Bool.eq_iff_iff, List.all_eq_true, List.all_eq_true]
  have e : ∀ k, k ∈ List.range i → (l.take i).getD k [] = l.getD k [] := fun k hk => by
    have := List.mem_range.1 hk
    simp [List.getD, this]
  exact ⟨fun hh k hk => by rw [e k hk]; exact hh k hk, fun hh k hk => by rw [← e k hk]; exact hh k hk⟩

/-- the lengths of a list's names fit -/
def Fits (l : List (List UInt8)) : Prop := ∀ i, i < l.length → (l.getD i []).length ≤ 9223372036854775807

set_option maxRecDepth 20000 in
set_option maxHeartbeats 1000000 in
theorem IsList_any (v : Value) (l : List (List UInt8)) (w : World) (B : Nat) (hB : B ≤ w.heap.size) (hl : l.length ≤ 8796093022208) (hF : Fits l) (hv : Ls w B v l) (hT : UT w) :
    Calls Tryz.prog 95 #[v] w fun e w' => e = .returned (.bool (listB l)) ∧ Below w.heap.size w w' := by
  obtain ⟨a, c, rfl, hle, hv⟩ := hv
  have HL := hide hl
  have HV := hide hv
  have HT := hide hT
  have HF := hide hF
  clear hl hv hT hF
  by_cases h6 : 6 < l.length
  · go_enter Tryz.func95, Tryz.ntmps95
    go_wp2
    go_ret
    refine ⟨congrArg (fun b => Ending.returned (Value.bool b)) ?_, Below.refl _ _⟩
    unfold listB
    rw [decide_eq_false (p := l.length ≤ 6) (by omega)]; rfl
  go_enter Tryz.func95, Tryz.ntmps95
  go_wp2
  go_loopg [10] l.length (fun q i wr => ∃ k : Nat, k + q = l.length ∧ i = .int .i64 (k : Nat) ∧ (∀ j, j < k → okAt l j = true) ∧ Below w.heap.size w wr)
  case atStart => exact ⟨0, Nat.zero_add _, rfl, fun j hj => absurd hj (Nat.not_lt_zero _), Below.refl _ _⟩
  case round =>
    obtain ⟨k, hk, rfl, hA, hb⟩ := hrel
    have HA := hide hA
    clear hA
    have hw : wrap64 ((k : Int) + 1) = (k : Int) + 1 := w64 _ (by omega) (by have := unhide HL; omega)
    by_cases hlt : k < l.length
    · have hkc : k ≤ c := by omega
      obtain ⟨g, o, rfl, hg, hC⟩ := unhide HV (by omega)
      have hC' : ∀ j, j < l.length → wr.cell? ⟨g, o + j, none⟩ = some (sv (l.getD j [])) := fun j hj => (hb.cell (p := ⟨g, o + j, none⟩) (by show g < _; omega)).trans (hC j hj)
      have hc := hC' k hlt
      have HC := hide hC'
      clear hC hC'
      have hok := okAt_take l k hlt
      have hfit := unhide HF k hlt
      generalize hy : l.getD k [] = y at hc hok hfit
      have HO := hide hok
      have HFt := hide hfit
      clear hok hy hfit
      rw [sv_def] at hc
      have hsz := hb.size
      generalize hn : nameN y = b1 at HO
      have HN := hide hn
      clear hn
      go_wp2_with (first
        | (go_at_call 94; refine (IsName_any y _ (unhide HFt) ((unhide HT).belowS hb)).mono ?_; rintro e w1 ⟨rfl, hb1⟩; rw [unhide HN]; have hb' := hb.trans (hb1.mono hsz); have HC1 : Hid (∀ j, j < l.length → w1.cell? ⟨g, o + j, none⟩ = some (sv (l.getD j []))) := fun j hj => (hb1.cell (p := ⟨g, o + j, none⟩) (by show g < _; omega)).trans (unhide HC j hj))
        | (go_at_call 135; refine (Contains_any _ (l.take k) y _ B (by rw [List.length_take]; have := unhide HL; omega) (Ls.take (unhide HC1) hg (by omega) (by omega))).mono ?_; rintro e w2 ⟨rfl, rfl⟩; generalize hb2 : (List.range (l.take k).length).all (fun j => (l.take k).getD j [] != y) = b2; have HB2 := hide hb2; clear hb2))
      · rename_i h1 h2
        go_ret
        refine ⟨congrArg (fun b => Ending.returned (Value.bool b)) ?_, hb'⟩
        unfold listB
        have hf : okAt l k = false := by rw [unhide HO, unhide HB2]; simp at h2; rw [h2]; simp
        rw [all_false hlt hf]; simp
      · rename_i h1 h2
        go_roundg (gk - 1)
        case measure => omega
        case rel =>
          refine ⟨k + 1, by omega, by go_num, fun j hj => ?_, hb'⟩
          by_cases e : j = k
          · subst e
            rw [unhide HO, unhide HB2, h1]
            simp at h2; rw [h2]; rfl
          · exact unhide HA j (by omega)
      · rename_i h1
        go_ret
        refine ⟨congrArg (fun b => Ending.returned (Value.bool b)) ?_, hb'⟩
        unfold listB
        have hf : okAt l k = false := by rw [unhide HO]; simp at h1; rw [h1]; simp
        rw [all_false hlt hf]; simp
    · go_wp2
      go_ret
      refine ⟨congrArg (fun b => Ending.returned (Value.bool b)) ?_, hb⟩
      unfold listB
      rw [all_true (fun j hj => unhide HA j (by omega)), decide_eq_true (by omega)]; rfl
end Go.Proofs.YtkmkkmdpjliifaaGreatDoor
namespace Go.Proofs.YtkmkkmdpjliifaaGreatDoor
open Go.ChangeShapes Go.WideShapes Go.ChangeAt Go.RowKit

theorem num1 {k : Nat} (h : wrap64 ((k : Int) + 1) = (k : Int) + 1) : Value.int .i64 (wrap64 ((k : Int) + 1)) = Value.int .i64 ((k + 1 : Nat) : Int) := congrArg (Value.int .i64) (h.trans rfl)
end Go.Proofs.YtkmkkmdpjliifaaGreatDoor
namespace Go.Proofs.YtkmkkmdpjliifaaGreatDoor
open Go.ChangeShapes Go.WideShapes Go.ChangeAt Go.RowKit

theorem isDigit_any (c : Nat) (w : World) : Calls Tryz.prog 149 #[.int .u8 (c : Int)] w fun e w' => e = .returned (.bool (decide (48 ≤ c) && decide (c ≤ 57))) ∧ w' = w := by
  go_enter Tryz.func149, Tryz.ntmps149
  go_wp2
  all_goals go_ret
  all_goals refine ⟨congrArg (fun b => Ending.returned (Value.bool b)) ?_, rfl⟩
  · rename_i h
    rw [decide_eq_true (p := 48 ≤ c) (by omega), Bool.true_and]
    first | (rw [decide_eq_decide]; omega) | (simp; omega) | simp
  · rw [decide_eq_false (p := 48 ≤ c) (by omega)]; rfl
theorem isSmall_any (c : Nat) (w : World) : Calls Tryz.prog 150 #[.int .u8 (c : Int)] w fun e w' => e = .returned (.bool (decide (97 ≤ c) && decide (c ≤ 122))) ∧ w' = w := by
  go_enter Tryz.func150, Tryz.ntmps150
  go_wp2
  all_goals go_ret
  all_goals refine ⟨congrArg (fun b => Ending.returned (Value.bool b)) ?_, rfl⟩
  · rename_i h
    rw [decide_eq_true (p := 97 ≤ c) (by omega), Bool.true_and]
    first | (rw [decide_eq_decide]; omega) | (simp; omega) | simp
  · rw [decide_eq_false (p := 97 ≤ c) (by omega)]; rfl
/-- is a sign one of a to z and 0 to 9? -/
def digB (c : Nat) : Bool := decide (48 ≤ c) && decide (c ≤ 57)
def lowB (c : Nat) : Bool := decide (97 ≤ c) && decide (c ≤ 122)
def plainB (l : List UInt8) : Bool := (List.range l.length).all (fun i => digB (by_ l i) || lowB (by_ l i)) && decide (1 ≤ l.length) && decide (l.length ≤ 16)
theorem plain_more {l : List UInt8} {k : Nat} {b : Bool} (hA : ∀ j, j < k → (digB (by_ l j) || lowB (by_ l j)) = true) (h : (digB (by_ l k) || lowB (by_ l k)) = b) (hb : b = true) : ∀ j, j < k + 1 → (digB (by_ l j) || lowB (by_ l j)) = true := by
  intro j hj
  by_cases e : j = k
  · rw [e, h, hb]
  · exact hA j (by omega)
theorem plain_bad {l : List UInt8} {k : Nat} (hk : k < l.length) (h : (digB (by_ l k) || lowB (by_ l k)) = false) : plainB l = false := by
  unfold plainB
  rw [all_false hk h]; simp
theorem plain_all {l : List UInt8} (hA : ∀ j, j < l.length → (digB (by_ l j) || lowB (by_ l j)) = true) : plainB l = (decide (1 ≤ l.length) && decide (l.length ≤ 16)) := by
  unfold plainB
  rw [all_true hA, Bool.true_and]
theorem len16 (n : Nat) : (decide ((1 : Int) ≤ (n : Int)) && decide ((n : Int) ≤ 16)) = (decide (1 ≤ n) && decide (n ≤ 16)) := by
  congr 1 <;> rw [decide_eq_decide] <;> omega

set_option maxRecDepth 20000 in
set_option maxHeartbeats 1000000 in
theorem IsPlain_any (l : List UInt8) (w : World) (hl : l.length ≤ 9223372036854775807) :
    Calls Tryz.prog 112 #[.string ⟨l.toArray⟩] w fun e w' => e = .returned (.bool (plainB l)) ∧ w' = w := by
  have HL := hide hl
  clear hl
  go_enter Tryz.func112, Tryz.ntmps112
  go_wp2
  go_loopg [6] l.length (fun q i wr => ∃ k : Nat, k + q = l.length ∧ i = .int .i64 (k : Nat) ∧ (∀ j, j < k → (digB (by_ l j) || lowB (by_ l j)) = true) ∧ wr = w)
  case atStart => exact ⟨0, Nat.zero_add _, rfl, fun j hj => absurd hj (Nat.not_lt_zero _), rfl⟩
  case round =>
    obtain ⟨k, hk, rfl, hA, rfl⟩ := hrel
    have HA := hide hA
    clear hA
    by_cases hlt : k < l.length
    · have hw : wrap64 ((k : Int) + 1) = (k : Int) + 1 := w64 _ (by omega) (by have := unhide HL; omega)
      have hix : ∀ u, _ := ix_any l k hlt
      generalize hc : by_ l k = c at hix
      have HC := hide hc
      clear hc
      generalize hd : digB c = d
      generalize hs : lowB c = s
      have HD := hide hd
      have HS := hide hs
      clear hd hs
      go_wp2_with (first | (go_at_call 149; refine (isDigit_any c _).mono ?_; rintro e w1 ⟨rfl, rfl⟩; rw [show (decide (48 ≤ c) && decide (c ≤ 57)) = d from unhide HD]) | (go_at_call 150; refine (isSmall_any c _).mono ?_; rintro e w1 ⟨rfl, rfl⟩; rw [show (decide (97 ≤ c) && decide (c ≤ 122)) = s from unhide HS]))
      · rename_i h1
        go_roundg (gk - 1)
        case measure => omega
        case rel => exact ⟨k + 1, by omega, by first | exact num1 hw | rfl, plain_more (unhide HA) rfl (by rw [unhide HC, unhide HD, h1]; rfl), rfl⟩
      · rename_i h1
        go_ret
        refine ⟨congrArg (fun b => Ending.returned (Value.bool b)) (plain_bad hlt ?_).symm, rfl⟩
        rw [unhide HC, unhide HD, unhide HS]
        simp at h1
        rw [h1, Bool.or_false]
        exact Bool.eq_false_iff.2 (by assumption)
      · rename_i h1
        go_roundg (gk - 1)
        case measure => omega
        case rel =>
          simp at h1
          exact ⟨k + 1, by omega, by first | exact num1 hw | rfl, plain_more (unhide HA) rfl (by rw [unhide HC, unhide HS, h1, Bool.or_true]), rfl⟩
    · go_wp2
      all_goals go_ret
      all_goals refine ⟨congrArg (fun b => Ending.returned (Value.bool b)) ?_, rfl⟩
      all_goals rw [plain_all (fun j hj => unhide HA j (by omega)), ← len16]
      · rw [decide_eq_true (p := (1 : Int) ≤ (l.length : Int)) (by assumption), Bool.true_and]
      · rw [decide_eq_false (p := (1 : Int) ≤ (l.length : Int)) (by omega), Bool.false_and]

end Go.Proofs.YtkmkkmdpjliifaaGreatDoor
namespace Go.Proofs.YtkmkkmdpjliifaaGreatDoor
open Go.ChangeShapes Go.WideShapes Go.ChangeAt Go.RowKit

/-- a client, as the document tells it -/
structure Cl where
  name : List UInt8
  secret : List UInt8
  sc : List (List UInt8)
  tg : List (List UInt8)
  ac : List (List UInt8)
instance : Inhabited Cl := ⟨⟨[], [], [], [], []⟩⟩
/-- A cell that holds a slice of strings. -/
def LsAt (w : World) (B g p : Nat) (l : List (List UInt8)) : Prop := ∃ a c, w.cell? ⟨g, p, none⟩ = some (.slice a l.length c) ∧ Ls w B (.slice a l.length c) l
theorem LsAt.below {w w' : World} {B g p : Nat} {l : List (List UInt8)} (h : LsAt w B g p l) (hb : Below B w w') (hg : g < B) : LsAt w' B g p l := by
  obtain ⟨a, c, h1, h2⟩ := h
  exact ⟨a, c, (hb.cell (p := ⟨g, p, none⟩) hg).trans h1, h2.below hb⟩
/-- A client's five cells from p on. -/
def ClAt (w : World) (B g p : Nat) (x : Cl) : Prop :=
  w.cell? ⟨g, p, none⟩ = some (sv x.name) ∧ w.cell? ⟨g, p + 1, none⟩ = some (sv x.secret) ∧ LsAt w B g (p + 2) x.sc ∧ LsAt w B g (p + 3) x.tg ∧ LsAt w B g (p + 4) x.ac
theorem ClAt.below {w w' : World} {B g p : Nat} {x : Cl} (h : ClAt w B g p x) (hb : Below B w w') (hg : g < B) : ClAt w' B g p x := by
  obtain ⟨h0, h1, h2, h3, h4⟩ := h
  have hc : ∀ q, w'.cell? ⟨g, q, none⟩ = w.cell? ⟨g, q, none⟩ := fun q => hb.cell (p := ⟨g, q, none⟩) hg
  exact ⟨(hc _).trans h0, (hc _).trans h1, h2.below hb hg, h3.below hb hg, h4.below hb hg⟩
/-- A slice of clients, to be read. -/
def Cs (w : World) (B : Nat) (v : Value) (cs : List Cl) : Prop :=
  ∃ a c, v = .slice a cs.length c ∧ (0 < cs.length → ∃ g o, a = some ⟨g, o, none⟩ ∧ g < B ∧ ∀ i, i < cs.length → ClAt w B g (o + i * 5) (cs.getD i default))
theorem Cs.below {w w' : World} {B : Nat} {v : Value} {l : List Cl} (h : Cs w B v l) (hb : Below B w w') : Cs w' B v l := by
  obtain ⟨a, c, rfl, h⟩ := h
  refine ⟨a, c, rfl, fun hp => ?_⟩
  obtain ⟨g, o, rfl, hg, h⟩ := h hp
  exact ⟨g, o, rfl, hg, fun j hj => (h j hj).below hb hg⟩

/-- a client without anything -/
def c0 (f : Nat) : Value := if f < 2 then sv [] else .slice none 0 0
def Small (x : Cl) : Prop := x.sc.length ≤ 8796093022208 ∧ x.tg.length ≤ 8796093022208 ∧ x.ac.length ≤ 8796093022208

end Go.Proofs.YtkmkkmdpjliifaaGreatDoor
namespace Go.Proofs.YtkmkkmdpjliifaaGreatDoor
open Go.ChangeShapes Go.WideShapes Go.ChangeAt Go.RowKit

theorem nest_more {nm : Nat → List UInt8} {m : Nat} {y z : List UInt8} (hA2 : ∀ j, j < m → (nm j != y) = true) (hz : nm m = z) (h2 : (z == y) = false) : ∀ j, j < m + 1 → (nm j != y) = true := by
  intro j hj
  by_cases e : j = m
  · rw [e, hz]
    simp at h2
    simpa using h2
  · exact hA2 j (by omega)

/-- a key -/
structure Ky where
  name : List UInt8
  secret : List UInt8
instance : Inhabited Ky := ⟨⟨[], []⟩⟩
def KyAt (w : World) (g p : Nat) (x : Ky) : Prop := w.cell? ⟨g, p, none⟩ = some (sv x.name) ∧ w.cell? ⟨g, p + 1, none⟩ = some (sv x.secret)
/-- A slice of keys, to be read. -/
def Ks (w : World) (B : Nat) (v : Value) (ks : List Ky) : Prop :=
  ∃ a c, v = .slice a ks.length c ∧ (0 < ks.length → ∃ g o, a = some ⟨g, o, none⟩ ∧ g < B ∧ ∀ i, i < ks.length → KyAt w g (o + i * 2) (ks.getD i default))
theorem KyAt.below {w w' : World} {B g p : Nat} {x : Ky} (h : KyAt w g p x) (hb : Below B w w') (hg : g < B) : KyAt w' g p x :=
  ⟨(hb.cell (p := ⟨g, p, none⟩) hg).trans h.1, (hb.cell (p := ⟨g, p + 1, none⟩) hg).trans h.2⟩
theorem Ks.below {w w' : World} {B : Nat} {v : Value} {l : List Ky} (h : Ks w B v l) (hb : Below B w w') : Ks w' B v l := by
  obtain ⟨a, c, rfl, h⟩ := h
  refine ⟨a, c, rfl, fun hp => ?_⟩
  obtain ⟨g, o, rfl, hg, h⟩ := h hp
  exact ⟨g, o, rfl, hg, fun j hj => (h j hj).below hb hg⟩
def kyName (ks : List Ky) (i : Nat) : List UInt8 := (ks.getD i default).name
def kyOk (ks : List Ky) (i : Nat) : Bool := (plainB (ks.getD i default).name && decide ((ks.getD i default).secret.length ≤ 64)) && (List.range i).all (fun k => kyName ks k != (ks.getD i default).name)
def keysB (ks : List Ky) : Bool := (List.range ks.length).all (kyOk ks) && decide (1 ≤ ks.length) && decide (ks.length ≤ 8)
def KFits (ks : List Ky) : Prop := ∀ i, i < ks.length → (ks.getD i default).name.length ≤ 9223372036854775807 ∧ (ks.getD i default).secret.length ≤ 9223372036854775807

theorem keysB_bad {ks : List Ky} (h : (List.range ks.length).all (kyOk ks) = false) : keysB ks = false := by
  unfold keysB
  rw [h]; simp
def clName (cs : List Cl) (i : Nat) : List UInt8 := (cs.getD i default).name
def clGood (x : Cl) : Bool := plainB x.name && decide (x.secret.length ≤ 64) && listB x.sc && listB x.tg && listB x.ac
def clOk (cs : List Cl) (i : Nat) : Bool := clGood (cs.getD i default) && (List.range i).all (fun k => clName cs k != (cs.getD i default).name)
def clientsB (cs : List Cl) : Bool := (List.range cs.length).all (clOk cs) && decide (cs.length ≤ 8)
def ClFits (x : Cl) : Prop := x.name.length ≤ 9223372036854775807 ∧ x.secret.length ≤ 9223372036854775807 ∧ Fits x.sc ∧ Fits x.tg ∧ Fits x.ac
def CFits (cs : List Cl) : Prop := ∀ i, i < cs.length → Small (cs.getD i default) ∧ ClFits (cs.getD i default)
theorem clientsB_bad {cs : List Cl} (h : (List.range cs.length).all (clOk cs) = false) : clientsB cs = false := by
  unfold clientsB
  rw [h]; simp

end Go.Proofs.YtkmkkmdpjliifaaGreatDoor
namespace Go.Proofs.YtkmkkmdpjliifaaGreatDoor
open Go.ChangeShapes Go.WideShapes Go.ChangeAt Go.RowKit

theorem appLaw {w : World} {ops : Array Oper} {rest : List Oper} {o : Oper} {a : Act} {Q : Exit → Act → World → Prop} (hgd : o.guard = none) (s x : Operand) {t : TypeId}
    (ho : o.op = .call { callee := .builtin .append, args := #[s, x], argTypes := #[t, t] }) {vs vx v' : Value} {w' : World} (hs : a.eval s = vs) (hx : a.eval x = vx)
    (hrun : (Builtin.append_ #[t, t] o.type #[vs, vx]).run Tryz.prog w = .ok v' w')
    (h : wpList Tryz.prog ops Q rest (a.put o.dst v') w') : wpList Tryz.prog ops Q (o :: rest) a w := by
  refine wpList_plain hgd fun K hK' => ?_
  unfold Oper.wp
  simp [execOp, ho, resolve, invoke, builtin, hs, hx, hrun, Result.andThen]
  exact hK' _ _ h
/-- what a row that the call owns holds, cell by cell -/
theorem owns_cells {w : World} {base size : Nat} {e : TypeId} {v : Value} {n : Nat} {xs : List Value} (h : w.ownsRow base e size v n xs) :
    (v = .slice none 0 0 ∧ n = 0) ∨ ∃ g cap, v = .slice (some ⟨g, 0, none⟩) n cap ∧ n ≤ cap ∧ base ≤ g ∧ g < w.heap.size ∧ ∀ j u, xs[j]? = some u → w.cell? ⟨g, j, none⟩ = some u := by
  obtain ⟨h1, h2⟩ := h
  rcases h2 with h2 | ⟨g, cap, cur, hv, hg, hh, hc, hm, hs, ht⟩
  · exact Or.inl h2
  · refine Or.inr ⟨g, cap, hv, hc, hg, ?_, fun j u hu => ?_⟩
    · rcases Nat.lt_or_ge g w.heap.size with h | h
      · exact h
      · rw [Array.getElem?_eq_none h] at hh; cases hh
    · rw [cell_of_row w g _ cur e _ hh]
      have hj : j < xs.length := by
        rcases Nat.lt_or_ge j xs.length with h | h
        · exact h
        · rw [List.getElem?_eq_none h] at hu; cases hu
      rw [← ht] at hu
      rw [List.getElem?_take_of_lt (by omega)] at hu
      simpa using hu
def svs (l : List (List UInt8)) : List Value := l.map sv
theorem svs_get (l : List (List UInt8)) (j : Nat) (hj : j < l.length) : (svs l)[j]? = some (sv (l.getD j [])) := by simp [svs, List.getD, hj]
theorem owns_Ls {w : World} {base : Nat} {v : Value} {l : List (List UInt8)} (h : w.ownsRow base 9 1 v l.length (svs l)) : Ls w w.heap.size v l := by
  rcases owns_cells h with ⟨rfl, hn⟩ | ⟨g, cap, rfl, hc, hg, hl, hcell⟩
  · exact ⟨none, 0, by rw [hn], by omega, fun hp => by omega⟩
  · exact ⟨_, cap, rfl, hc, fun _ => ⟨g, 0, rfl, hl, fun j hj => by rw [Nat.zero_add]; exact hcell j _ (svs_get l j hj)⟩⟩
/-- a result that lies in a row -/
theorem ret_rowN {fn : Func} {p : Tmp} {ty : TypeId} (h : fn.results = #[.cell p ty]) {a : Act} {w : World} {R : Ending → World → Prop} {g n : Nat} {t : TypeId} {f : Nat → Value} (d : TypeDesc) (hRow : Row w g t n f)
    (hp : a.tmps.getD p undef = .pointer (some ⟨g, 0, none⟩)) (hu : Tryz.prog.underlying ty = some d) (hd : ∃ fs, d = .struct fs)
    (hi : (Tryz.prog.info? ty).map (·.size) = some n) (hdef : a.defers = []) (hR : R (.returned (.agg (arrOf n f))) w) : bodyPost Tryz.prog fn R Exit.ret a w :=
  bodyPost_ret (v := .agg (arrOf n f)) (results_cell_row h a.tmps w g t (arrOf n f) (0, 0) d hp hRow.whole hu (by rcases hd with ⟨_, rfl⟩; rfl) (by rw [arrOf_size]; exact hi)) hdef hR
theorem Ls.drew {w : World} {B : Nat} {v : Value} {l : List (List UInt8)} (h : Ls w B v l) : Ls w.drew B v l := h
end Go.Proofs.YtkmkkmdpjliifaaGreatDoor
namespace Go.Proofs.YtkmkkmdpjliifaaGreatDoor
open Go.ChangeShapes Go.WideShapes Go.ChangeAt Go.RowKit

end Go.Proofs.YtkmkkmdpjliifaaGreatDoor
namespace Go.Proofs.YtkmkkmdpjliifaaGreatDoor
open Go.ChangeShapes Go.WideShapes Go.ChangeAt Go.RowKit

theorem find1_any (y s x : List UInt8) (p : Nat) (w : World) (hp : w.cell? ⟨p, 0, none⟩ = some (.string ⟨x.toArray⟩)) (hl : p < w.heap.size) :
    Calls Tryz.prog 152 #[.agg #[.string ⟨y.toArray⟩, .string ⟨s.toArray⟩], .pointer (some ⟨p, 0, none⟩)] w fun e w' => e = .returned (.bool (y == x)) ∧ Below w.heap.size w w' := by
  have hp2 : ∀ o, (w.alloc o).cell? ⟨p, 0, none⟩ = some (.string ⟨x.toArray⟩) := fun o => (((Below.refl w.heap.size w).alloc (Nat.le_refl _) o).cell (p := ⟨p, 0, none⟩) hl).trans hp
  go_enter Tryz.func152, Tryz.ntmps152
  go_wp2
  go_ret
  exact ⟨rfl, (Below.refl _ _).alloc (Nat.le_refl _) _⟩

/-- what a search for a name tells -/
def Found (ks : List Ky) (x : List UInt8) (r : Int) : Prop :=
  (r = -1 ∧ ∀ j, j < ks.length → (kyName ks j != x) = true) ∨ ∃ k : Nat, r = k ∧ k < ks.length ∧ (kyName ks k == x) = true ∧ ∀ j, j < k → (kyName ks j != x) = true

set_option maxRecDepth 20000 in
set_option maxHeartbeats 1000000 in
theorem IndexFunc_any (v : Value) (ks : List Ky) (x : List UInt8) (p : Nat) (w : World) (B : Nat) (hB : B ≤ w.heap.size) (hl : ks.length ≤ 8796093022208) (hv : Ks w B v ks) (hp : w.cell? ⟨p, 0, none⟩ = some (.string ⟨x.toArray⟩)) (hpl : p < w.heap.size) :
    Calls Tryz.prog 151 #[v, .func (.func 152) #[] #[.pointer (some ⟨p, 0, none⟩)]] w fun e w' => (∃ r, e = .returned (.int .i64 r) ∧ Found ks x r) ∧ Below w.heap.size w w' := by
  obtain ⟨a, c, rfl, hv⟩ := hv
  have HL := hide hl
  have HV := hide hv
  clear hl hv
  go_enter Tryz.func151, Tryz.ntmps151
  go_wp2
  go_loopg [8] ks.length (fun q i wr => ∃ k : Nat, k + q = ks.length ∧ i = .int .i64 (k : Nat) ∧ (∀ j, j < k → (kyName ks j != x) = true) ∧ Below w.heap.size w wr)
  case atStart => exact ⟨0, Nat.zero_add _, rfl, fun j hj => absurd hj (Nat.not_lt_zero _), Below.refl _ _⟩
  case round =>
    obtain ⟨k, hk, rfl, hA, hb⟩ := hrel
    have HA := hide hA
    clear hA
    by_cases hlt : k < ks.length
    · have hw : wrap64 ((k : Int) + 1) = (k : Int) + 1 := w64 _ (by omega) (by have := unhide HL; omega)
      obtain ⟨g, o, rfl, hg, hC⟩ := unhide HV (by omega)
      have hx := (hC k hlt).below (hb.mono hB) hg
      have hc := hx.1
      have hc' := hx.2
      clear hC hx
      have hyy : kyName ks k = (ks.getD k default).name := rfl
      generalize (ks.getD k default).name = y at hc hyy
      generalize (ks.getD k default).secret = s at hc'
      have HY := hide hyy
      clear hyy
      rw [sv_def] at hc hc'
      have hsz := hb.size
      have hp' := (hb.cell (p := ⟨p, 0, none⟩) hpl).trans hp
      generalize hq : (y == x) = b
      have HQ := hide hq
      clear hq
      go_wp2_with (go_at_call 152; refine (find1_any y s x p _ hp' (by omega)).mono ?_; rintro e w1 ⟨rfl, hb1⟩; rw [unhide HQ])
      · rename_i h1
        go_ret
        refine ⟨⟨_, rfl, Or.inr ⟨k, rfl, hlt, ?_, unhide HA⟩⟩, hb.trans (hb1.mono hsz)⟩
        rw [unhide HY, unhide HQ, h1]
      · rename_i h1
        go_roundg (gk - 1)
        case measure => omega
        case rel => exact ⟨k + 1, by omega, by first | exact num1 hw | rfl, nest_more (unhide HA) (unhide HY) ((unhide HQ).trans (by simpa using h1)), hb.trans (hb1.mono hsz)⟩
    · go_wp2
      go_ret
      exact ⟨⟨_, rfl, Or.inl ⟨rfl, fun j hj => unhide HA j (by omega)⟩⟩, hb⟩

theorem find_any (v : Value) (ks : List Ky) (x : List UInt8) (R : Nat) (w : World) (B : Nat) (hB : B ≤ w.heap.size) (hl : ks.length ≤ 8796093022208) (hv : Ks w B v ks) (hR : w.cell? ⟨R, 0, none⟩ = some v) (hRl : R < w.heap.size) :
    Calls Tryz.prog 113 #[.pointer (some ⟨R, 0, none⟩), .string ⟨x.toArray⟩] w fun e w' => (∃ r, e = .returned (.int .i64 r) ∧ Found ks x r) ∧ Below w.heap.size w w' := by
  have hI := IndexFunc_any v ks x w.heap.size (w.alloc (.cells #[.string ⟨x.toArray⟩] 9)) B (by simp; omega) hl (hv.below (((Below.refl w.heap.size w).alloc (Nat.le_refl _) _).mono hB)) (by simp) (by simp)
  obtain ⟨a, c, rfl, _⟩ := hv
  have HI := hide hI
  have hR2 : ∀ o, (w.alloc o).cell? ⟨R, 0, none⟩ = some (.slice a ks.length c) := fun o => (((Below.refl w.heap.size w).alloc (Nat.le_refl _) o).cell (p := ⟨R, 0, none⟩) hRl).trans hR
  clear hI hl
  have hmf : ∀ (fn : Fn) (first cap : Array Value) (w : World), (Instr.makeFunc fn first cap).run Tryz.prog w = .ok (.func fn first cap) w := fun _ _ _ _ => rfl
  go_enter Tryz.func113, Tryz.ntmps113
  go_wp2_with (go_at_call 151; refine (unhide HI).mono ?_; rintro e w1 ⟨⟨r, rfl, hr⟩, hb1⟩)
  go_ret
  exact ⟨⟨_, rfl, hr⟩, ((Below.refl _ _).alloc (Nat.le_refl _) _).trans (hb1.mono (by simp))⟩
end Go.Proofs.YtkmkkmdpjliifaaGreatDoor
