import Derived.Test.YtkmkkmdpjliifaaDoorJyE
import Derived.Test.YtkmkkmdpjliifaaDoorJxY
import Derived.Test.YtkmkkmdpjliifaaDoorNxA
import Derived.ArgAppend
import Derived.Deep.AppendLies
namespace Go.Proofs.YtkmkkmdpjliifaaDoor
open Go.ChangeShapes Go.WideShapes Go.ChangeAt Go.RowKit

/-- a text of its own for each number -/
def markR : Nat → Nat → List UInt8 → List UInt8
  | 0, _, s => s
  | f + 1, n, s => if n = 0 then s else markR f (n / 10) (s ++ [UInt8.ofNat (48 + n % 10)])
def markS (n : Nat) : List UInt8 := markR n n [109, 97, 114, 107]
theorem markR_more : ∀ (f n : Nat) (s : List UInt8), n ≤ f → markR f n s = markR n n s
  | 0, n, s, h => by
    obtain rfl : n = 0 := by omega
    rfl
  | f + 1, 0, s, _ => rfl
  | f + 1, n + 1, s, h => by
    rw [markR, markR, if_neg (by omega), if_neg (by omega), markR_more f _ _ (by omega), markR_more n _ _ (by omega)]
theorem numM (n : Nat) (hn : n ≤ 1048576) : wrap64 (48 + (n : Int) % 10) = 48 + (n : Int) % 10 ∧ (48 + (n : Int) % 10) % 256 = 48 + (n : Int) % 10 ∧ (n : Int).tmod 10 = (n : Int) % 10 ∧ wrap64 ((n : Int).tdiv 10) = ((n / 10 : Nat) : Int) ∧ UInt8.ofNat (48 + (n : Int) % 10).toNat = UInt8.ofNat (48 + n % 10) := by
  refine ⟨w64 _ (by omega) (by omega), by omega, Int.tmod_eq_emod_of_nonneg (by omega), ?_, ?_⟩
  · rw [Int.tdiv_eq_ediv_of_nonneg (by omega), w64 _ (by omega) (by omega)]; omega
  · rw [show (48 + (n : Int) % 10).toNat = 48 + n % 10 by omega]

set_option maxRecDepth 20000 in
set_option maxHeartbeats 1000000 in
theorem marked_any (n : Nat) (w : World) (hn : n ≤ 1048576) (x : Int) (hx : x = (n : Nat)) :
    Calls Tryd.prog 47 #[.int .i64 x] w fun e w' => e = .returned (.string ⟨(markS n).toArray⟩) ∧ Below w.heap.size w w' := by
  subst hx
  have HN := hide hn
  clear hn
  go_enter Tryd.func47, Tryd.ntmps47
  go_wp2_with fail
  go_loopg [0, 3] n (fun q x o wr => ∃ (r : Nat) (s : List UInt8), r ≤ q ∧ r ≤ n ∧ s.length + 2 * r ≤ 2 * n + 4 ∧ x = .int .i64 (r : Nat) ∧ o = .string ⟨s.toArray⟩ ∧ markS n = markR r r s ∧ Below w.heap.size w wr)
  case atStart => exact ⟨n, [109, 97, 114, 107], Nat.le_refl _, Nat.le_refl _, by simp; omega, rfl, rfl, rfl, Below.refl _ _⟩
  case round =>
    obtain ⟨r, s, hq, hr, hs, rfl, rfl, hm, hb⟩ := hrel
    have HM := hide hm
    clear hm
    by_cases h0 : r = 0
    · subst h0
      go_wp2_with fail
      go_ret
      exact ⟨by rw [unhide HM]; rfl, hb⟩
    · have hr0 : (0 : Int) < (r : Int) := by omega
      obtain ⟨e1, e2, e3, e4, e5⟩ := numM r (by have := unhide HN; omega)
      have l1 := lit1
      have hcat := cat_str s [UInt8.ofNat (48 + (r : Int) % 10).toNat] _ rfl (by rw [List.length_append, List.length_singleton]; have := unhide HN; omega)
      have HS : Hid (markR r r s = markR (r / 10) (r / 10) (s ++ [UInt8.ofNat (48 + (r : Int) % 10).toNat])) := by
        unfold Hid
        obtain ⟨q, rfl⟩ : ∃ q, r = q + 1 := ⟨r - 1, by omega⟩
        rw [e5, markR, if_neg (by omega), markR_more q _ _ (by omega)]
      have HQ : Hid (0 < r ∧ r ≤ gk ∧ r ≤ n ∧ s.length + 2 * r ≤ 2 * n + 4) := ⟨by omega, hq, hr, hs⟩
      have hsz := hb.size
      clear e5 hq hr hs h0
      generalize ((r : Nat) : Int) = z at *
      go_wp2_with fail
      go_roundg (gk - 1)
      case measure => have := unhide HQ; omega
      case rel => exact ⟨r / 10, s ++ [UInt8.ofNat (48 + z % 10).toNat], by have := unhide HQ; omega, by have := unhide HQ; omega, by rw [List.length_append, List.length_singleton]; have := unhide HQ; omega, by first | rfl | exact congrArg (Value.int .i64) e4, rfl, by rw [unhide HM]; exact unhide HS, hb.alloc hsz _⟩
end Go.Proofs.YtkmkkmdpjliifaaDoor
namespace Go.Proofs.YtkmkkmdpjliifaaDoor
open Go.ChangeShapes Go.WideShapes Go.ChangeAt Go.RowKit

/-- an entry of the book: a list, and how long it is -/
structure En where
  v : Value
  n : Nat
instance : Inhabited En := ⟨⟨undef, 0⟩⟩
/-- the book: what it holds can be read, each entry has its mark -/
structure Bk (w : World) (B o : Nat) (E : List En) : Prop where
  ob : o < B
  cell : ∃ a cap, w.cell? ⟨o, 0, none⟩ = some (.slice a E.length cap) ∧ (0 < E.length → ∃ q, a = some ⟨q, 0, none⟩ ∧ q < B ∧ ∀ i, i < E.length → w.cell? ⟨q, i, none⟩ = some (E.getD i default).v)
  ent : ∀ i, i < E.length → Ls w B (E.getD i default).v (List.replicate (E.getD i default).n (markS (i / 4 + 1)))
  small : ∀ i, i < E.length → (E.getD i default).n ≤ 1048576
theorem Bk.below {w w' : World} {B o : Nat} {E : List En} (h : Bk w B o E) (hb : Below B w w') : Bk w' B o E := by
  obtain ⟨a, cap, hc, hq⟩ := h.cell
  refine ⟨h.ob, ⟨a, cap, (hb.cell (p := ⟨o, 0, none⟩) h.ob).trans hc, fun hp => ?_⟩, fun i hi => (h.ent i hi).below hb, h.small⟩
  obtain ⟨q, h1, h2, h3⟩ := hq hp
  exact ⟨q, h1, h2, fun i hi => (hb.cell (p := ⟨q, i, none⟩) h2).trans (h3 i hi)⟩

theorem numK (k : Nat) (hk : k < 65536) : wrap64 ((k : Int) + 1) = (k : Int) + 1 ∧ wrap64 ((k : Int) / 4) = ((k / 4 : Nat) : Int) ∧ wrap64 (((k / 4 : Nat) : Int) + 1) = ((k / 4 + 1 : Nat) : Int) := by
  refine ⟨w64 _ (by omega) (by omega), ?_, ?_⟩
  · rw [w64 _ (by omega) (by omega)]; omega
  · rw [w64 _ (by omega) (by omega)]; omega
theorem numJ (k : Nat) (hk : k < 1048576) : wrap64 ((k : Int) + 1) = (k : Int) + 1 := w64 _ (by omega) (by omega)
set_option maxRecDepth 20000 in
set_option maxHeartbeats 2000000 in
theorem kept_any (w : World) (B o : Nat) (E : List En) (hB : B ≤ w.heap.size) (hE : E.length ≤ 65536) (hK : Bk w B o E) :
    Calls Tryd.prog 22 #[.pointer (some ⟨o, 0, none⟩)] w fun e w' => e = .returned (.bool true) ∧ Below w.heap.size w w' := by
  have HE := hide hE
  clear hE
  go_enter Tryd.func22, Tryd.ntmps22
  go_wp2_with fail
  go_loopg [3] E.length (fun q i wr => ∃ k : Nat, k + q = E.length ∧ i = .int .i64 (k : Nat) ∧ Below w.heap.size w wr)
  case atStart => exact ⟨0, Nat.zero_add _, rfl, Below.refl _ _⟩
  case round =>
    obtain ⟨k, hk, rfl, hb⟩ := hrel
    have hK1 := hK.below (hb.mono hB)
    obtain ⟨aB, cB, hc0, hq⟩ := hK1.cell
    by_cases hlt : k < E.length
    · have hkl : (k : Int) < E.length := by omega
      obtain ⟨q, rfl, hqB, hqc⟩ := hq (by omega)
      have hck := hqc k hlt
      have hen := hK1.ent k hlt
      have hsm := hK1.small k hlt
      generalize (E.getD k default).v = ev at *
      generalize (E.getD k default).n = en at *
      have hsz := hb.size
      obtain ⟨hw1, hq4, hq5⟩ := numK k (Nat.lt_of_lt_of_le hlt (unhide HE))
      have HW := hide hw1
      have HQ4 := hide hq4
      have HQ5 := hide hq5
      have HK5 : Hid (k / 4 + 1 ≤ 1048576) := hide (by have := unhide HE; clear hw1 hq4 hq5; omega)
      clear hw1 hq4 hq5
      have HMK := hide (fun w x hx => marked_any (k / 4 + 1) w (unhide HK5) x hx)
      obtain ⟨ea, ec, rfl, hle, hcell⟩ := hen
      rw [List.length_replicate] at hle hcell hck
      have hrep : ∀ j, j < en → (List.replicate en (markS (k / 4 + 1))).getD j [] = markS (k / 4 + 1) := fun j hj => by simp [List.getD, hj]
      have HC := hide hcell
      have HR := hide hrep
      generalize markS (k / 4 + 1) = mk at *
      generalize hmi : ((k / 4 + 1 : Nat) : Int) = mi at *
      have HMI := hide hmi
      have hq4 := unhide HQ4
      generalize ((k / 4 : Nat) : Int) = qi at *
      have hq5 := unhide HQ5
      clear hcell hrep hmi hle
      obtain ⟨gO, hgO⟩ : ∃ q, q = gk := ⟨_, rfl⟩
      have HGO : Hid (gO = gk ∧ k + gk = E.length ∧ k < E.length) := ⟨hgO, hk, hlt⟩
      clear hgO hk
      go_wp2_with (go_at_call 47; refine (unhide HMK _ _ rfl).mono ?_; rintro e w1 ⟨rfl, hb1⟩)
      have hbb := hb.trans (hb1.mono hsz)
      have hc0' := (hb1.cell (p := ⟨o, 0, none⟩) (by have := hK.ob; show o < _; omega)).trans hc0
      have hck' := (hb1.cell (p := ⟨q, k, none⟩) (by show q < _; omega)).trans hck
      have HC1 : Hid (∀ j, j < en → ∃ g off, ea = some ⟨g, off, none⟩ ∧ w1.cell? ⟨g, off + j, none⟩ = some (.string ⟨mk.toArray⟩)) := fun j hj => by
        obtain ⟨g, off, h1, h2, h3⟩ := unhide HC (by omega)
        refine ⟨g, off, h1, (hb1.cell (p := ⟨g, off + j, none⟩) (by show g < _; omega)).trans ((h3 j hj).trans ?_)⟩
        rw [unhide HR j hj]; rfl
      clear hc0 hck hqc hq4 hq5
      go_loopg [5] en (fun r i wq => ∃ j : Nat, j + r = en ∧ i = .int .i64 (j : Nat) ∧ wq = w1)
      case atStart => exact ⟨0, Nat.zero_add _, rfl, rfl⟩
      case round =>
        obtain ⟨j, hj, rfl, rfl⟩ := hrel
        by_cases hjl : j < en
        · have hjI : (j : Int) < (en : Int) := by omega
          obtain ⟨g, off, rfl, hcj⟩ := unhide HC1 j hjl
          have hwj := numJ j (by omega)
          go_wp2_with fail
          go_roundg (gk - 1)
          case measure => omega
          case rel => exact ⟨j + 1, by omega, by first | exact num1 hwj | rfl, rfl⟩
        · go_wp2_with fail
          go_roundg (gO - 1)
          case measure => have := unhide HGO; omega
          case rel => exact ⟨k + 1, by have := unhide HGO; omega, by first | exact num1 (unhide HW) | rfl, hbb⟩
    · go_wp2_with fail
      go_ret
      exact ⟨rfl, hb⟩
end Go.Proofs.YtkmkkmdpjliifaaDoor
namespace Go.Proofs.YtkmkkmdpjliifaaDoor
open Go.ChangeShapes Go.WideShapes Go.ChangeAt Go.RowKit

/-- marks put behind a row whose first n cells are marks: in place, or in a row that is new -/
theorem appMark {w : World} {g cap n m h : Nat} {f : Nat → Value} {s : List UInt8} (hRow : Row w g 9 cap f) (hn : n ≤ cap) (hf : ∀ j, j < n → f j = sv s) (hm : 0 < m) (hh : ∀ j, j < m → w.cell? ⟨h, j, none⟩ = some (sv s)) (hb : n + m ≤ 1048576) (ty : TypeId) :
    ∃ v' w' f', (Builtin.append_ #[35, 35] ty #[.slice (some ⟨g, 0, none⟩) n cap, .slice (some ⟨h, 0, none⟩) m m]).run Tryd.prog w = .ok v' w' ∧ Row w' g 9 cap f' ∧ (∀ j, f j = sv s → f' j = sv s) ∧ w.grownBy w' (some g) ∧
      ∃ g' cap', v' = .slice (some ⟨g', 0, none⟩) (n + m) cap' ∧ n + m ≤ cap' ∧ ((g' = g ∧ cap' = cap ∧ ∀ j, j < n + m → f' j = sv s) ∨ (w.heap.size ≤ g' ∧ g' < w'.heap.size ∧ ∀ j, j < n + m → w'.cell? ⟨g', j, none⟩ = some (sv s))) := by
  obtain ⟨i0, hi, hz0, hz1, hz2⟩ := info_parts info9
  have hnews : ∀ j u, (List.replicate m (sv s))[j]? = some u → w.cell? ((⟨h, 0, none⟩ : Addr).add j) = some u := fun j u hu => by
    rw [add_plain, Nat.zero_add]
    have hj : j < m := by
      rcases Nat.lt_or_ge j m with h' | h'
      · exact h'
      · rw [List.getElem?_eq_none (by simpa using h')] at hu; cases hu
    rw [hh j hj, ← hu]
    simp [hj]
  have h1 : ∀ u ∈ List.replicate m (sv s), u.oneCell' = true := fun u hu => by
    rw [(List.mem_replicate.1 hu).2]; rfl
  by_cases hroom : n + m ≤ cap
  · have hrun := run_append_room_cells (P := Tryd.prog) w 35 ty 9 i0 Tryd.underlying35 hi g 0 n cap ⟨h, 0, none⟩ m m (List.replicate m (sv s)) (by rw [hz1]; simp) hnews h1 hroom
      (fun j hj => by rw [hz1, Nat.mul_one, Nat.zero_add, hRow.cell (by simp at hj; omega)]; rfl) (fun j hj => hRow.frozen _)
    rw [hz1, Nat.mul_one, Nat.zero_add] at hrun
    refine ⟨_, _, _, hrun, Row.setCells (List.replicate m (sv s)) n w f hRow, fun j hj => ?_, grown_setCells g _ n w, g, cap, rfl, hroom, Or.inl ⟨rfl, rfl, fun j hj => ?_⟩⟩
    · simp only [List.length_replicate]
      by_cases e : n ≤ j ∧ j < n + m
      · rw [if_pos e]
        simp [List.getD, show j - n < m by omega]
      · rw [if_neg e]; exact hj
    · simp only [List.length_replicate]
      by_cases e : n ≤ j ∧ j < n + m
      · rw [if_pos e]
        simp [List.getD, show j - n < m by omega]
      · rw [if_neg e]; exact hf j (by omega)
  · obtain ⟨v', w', hrun, ho, hg⟩ := run_append_arg_grows (P := Tryd.prog) w 35 ty 9 i0 _ 1 16 Tryd.underlying35 hi hz0 hz1 hz2 rfl (by decide) ⟨g, 0, none⟩ n cap (List.replicate n (sv s)) (by simp) (fun j u hu => by
        rw [add_plain, Nat.zero_add]
        have hj : j < n := by
          rcases Nat.lt_or_ge j n with h' | h'
          · exact h'
          · rw [List.getElem?_eq_none (by simpa using h')] at hu; cases hu
        rw [hRow.cell (by omega), hf j hj, ← hu]
        simp [hj]) ⟨h, 0, none⟩ m m (List.replicate m (sv s)) (by simp) hnews (by omega) (by unfold maxLen; omega) (by omega)
    have hl := hRow.lt
    refine ⟨v', w', f, hrun, Row.keep hRow (hg.block g hl (by simp)), fun j hj => hj, ⟨hg.os, hg.tape, hg.output, hg.size, fun k hk hne => hg.block k hk (by simp)⟩, ?_⟩
    rcases owns_cells ho with ⟨_, h0⟩ | ⟨g', cap', rfl, hc', hb', hl', hcell⟩
    · omega
    · refine ⟨g', cap', rfl, hc', Or.inr ⟨hb', hl', fun j hj => hcell j _ ?_⟩⟩
      rw [List.replicate_append_replicate]
      simp [hj]
end Go.Proofs.YtkmkkmdpjliifaaDoor
namespace Go.Proofs.YtkmkkmdpjliifaaDoor
open Go.ChangeShapes Go.WideShapes Go.ChangeAt Go.RowKit

/-- a list of the call's own: none, or a row -/
theorem OwnS.row {w : World} {base : Nat} {v : Value} {l : List (List UInt8)} (h : OwnS w base v l) :
    (v = .slice none 0 0 ∧ l = []) ∨ ∃ g cap f, v = .slice (some ⟨g, 0, none⟩) l.length cap ∧ base ≤ g ∧ g < w.heap.size ∧ l.length ≤ cap ∧ Row w g 9 cap f ∧ ∀ j, j < l.length → f j = sv (l.getD j []) := by
  have hlt := h.lt
  obtain ⟨h1, h2⟩ := h
  rcases h2 with ⟨h2, h3⟩ | ⟨g, cap, cur, hv, hg, hh, hc, hm, hs, ht⟩
  · exact Or.inl ⟨h2, List.eq_nil_of_length_eq_zero h3⟩
  · rw [Nat.mul_one] at hs
    refine Or.inr ⟨g, cap, fun j => cur.getD j undef, hv, hg, (hlt g (by subst hv; rfl)).2, hc, ⟨cur, hh, hs, fun j hj => ?_⟩, fun j hj => ?_⟩
    · simp [Array.getD, show j < cur.size by omega]
    · have e := svs_get l j hj
      rw [← ht, List.getElem?_take_of_lt (by omega)] at e
      have e2 : cur[j]? = some (sv (l.getD j [])) := by simpa using e
      simp only [Array.getD_eq_getD_getElem?, e2]
      rfl
/-- marks put behind nothing -/
theorem appNone {w : World} {m h : Nat} {s : List UInt8} (hm : 0 < m) (hh : ∀ j, j < m → w.cell? ⟨h, j, none⟩ = some (sv s)) (hb : m ≤ 1048576) (ty : TypeId) :
    ∃ v' w', (Builtin.append_ #[35, 35] ty #[.slice none 0 0, .slice (some ⟨h, 0, none⟩) m m]).run Tryd.prog w = .ok v' w' ∧ w.grownBy w' none ∧
      ∃ g' cap', v' = .slice (some ⟨g', 0, none⟩) m cap' ∧ m ≤ cap' ∧ w.heap.size ≤ g' ∧ g' < w'.heap.size ∧ ∀ j, j < m → w'.cell? ⟨g', j, none⟩ = some (sv s) := by
  obtain ⟨i0, hi, hz0, hz1, hz2⟩ := info_parts info9
  have hnews : ∀ j u, (List.replicate m (sv s))[j]? = some u → w.cell? ((⟨h, 0, none⟩ : Addr).add j) = some u := fun j u hu => by
    rw [add_plain, Nat.zero_add]
    have hj : j < m := by
      rcases Nat.lt_or_ge j m with h' | h'
      · exact h'
      · rw [List.getElem?_eq_none (by simpa using h')] at hu; cases hu
    rw [hh j hj, ← hu]
    simp [hj]
  have h1 : ∀ u ∈ List.replicate m (sv s), u.oneCell' = true := fun u hu => by
    rw [(List.mem_replicate.1 hu).2]; rfl
  obtain ⟨v', w', hrun, ho, hg, _⟩ := run_append_own (P := Tryd.prog) w w.heap.size 35 ty 9 i0 _ 1 16 Tryd.underlying35 hi hz0 hz1 hz2 rfl (by decide) (.slice none 0 0) 0 [] (World.ownsRow_nil w _ 9 1) ⟨h, 0, none⟩ m m (List.replicate m (sv s)) (by simp) hnews h1 (by unfold maxLen; omega) (by omega) (Nat.le_refl _)
  refine ⟨v', w', hrun, hg, ?_⟩
  rw [Nat.zero_add, List.nil_append] at ho
  rcases owns_cells ho with ⟨_, h0⟩ | ⟨g', cap', rfl, hc', hb', hl', hcell⟩
  · omega
  · exact ⟨g', cap', rfl, hc', hb', hl', fun j hj => hcell j _ (by simp [hj])⟩
end Go.Proofs.YtkmkkmdpjliifaaDoor
namespace Go.Proofs.YtkmkkmdpjliifaaDoor
open Go.ChangeShapes Go.WideShapes Go.ChangeAt Go.RowKit

theorem Ls.at {w w' : World} {B B' : Nat} {v : Value} {l : List (List UInt8)} (h : Ls w B v l) (hB : B ≤ B') (hb : ∀ k, v.ownBlock = some k → k < B → w'.heap[k]? = w.heap[k]?) : Ls w' B' v l := by
  obtain ⟨a, c, rfl, hle, h⟩ := h
  refine ⟨a, c, rfl, hle, fun hp => ?_⟩
  obtain ⟨g, o, rfl, hg, h⟩ := h hp
  exact ⟨g, o, rfl, by omega, fun j hj => (World.cell?_of_block (a := ⟨g, o + j, none⟩) (hb g rfl hg)).trans (h j hj)⟩
/-- the book, as take has it: its cell, its row, its entries -/
structure Bo (w : World) (b o : Nat) (vB : Value) (E : List En) : Prop where
  row : Row w o 41 1 (fun _ => vB)
  own : w.ownsRow b 35 1 vB E.length (E.map En.v)
  bo : b ≤ o
  qo : vB.ownBlock ≠ some o
  ent : ∀ i, i < E.length → Ls w w.heap.size (E.getD i default).v (List.replicate (E.getD i default).n (markS (i / 4 + 1)))
  eo : ∀ i, i < E.length → (E.getD i default).v.ownBlock ≠ some o
  eq : ∀ i, i < E.length → ∀ q, vB.ownBlock = some q → (E.getD i default).v.ownBlock ≠ some q
  small : ∀ i, i < E.length → (E.getD i default).n ≤ 1048576
  el : ∀ i, i < E.length → ∀ k, (E.getD i default).v.ownBlock = some k → k < w.heap.size
/-- a block that the book does not use -/
structure Fr (o : Nat) (vB : Value) (E : List En) (k : Nat) : Prop where
  o : k ≠ o
  q : vB.ownBlock ≠ some k
  e : ∀ i, i < E.length → (E.getD i default).v.ownBlock ≠ some k
theorem Bo.lt {w : World} {b o : Nat} {vB : Value} {E : List En} (h : Bo w b o vB E) : o < w.heap.size := h.row.lt
/-- as kept has it -/
theorem Bo.bk {w : World} {b o : Nat} {vB : Value} {E : List En} (h : Bo w b o vB E) : Bk w w.heap.size o E := by
  refine ⟨h.lt, ?_, h.ent, h.small⟩
  have hc : w.cell? ⟨o, 0, none⟩ = some vB := h.row.cell (by decide)
  rcases owns_cells h.own with ⟨e, h0⟩ | ⟨g, cap, e, hle, hb, hl, hcell⟩
  · refine ⟨none, 0, by rw [hc, e, h0], fun hp => absurd hp (by omega)⟩
  · refine ⟨some ⟨g, 0, none⟩, cap, by rw [hc, e], fun hp => ⟨g, rfl, hl, fun i hi => hcell i _ ?_⟩⟩
    simp [List.getD, hi]
theorem Bo.keep {w w' : World} {b o : Nat} {vB : Value} {E : List En} (h : Bo w b o vB E) (hs : w.heap.size ≤ w'.heap.size) (hk : ∀ k, k < w.heap.size → ¬ Fr o vB E k → w'.heap[k]? = w.heap[k]?) : Bo w' b o vB E := by
  refine ⟨h.row.keep (hk o h.lt (fun f => f.o rfl)), ?_, h.bo, h.qo, fun i hi => (h.ent i hi).at hs (fun k e hl => hk k hl (fun f => f.e i hi e)), h.eo, h.eq, h.small, fun i hi k e => Nat.lt_of_lt_of_le (h.el i hi k e) hs⟩
  have hown := h.own
  have hlt := hown.lt
  obtain ⟨h1, h2⟩ := hown
  refine ⟨h1, ?_⟩
  rcases h2 with h2 | ⟨g, cap, cur, hv, hg, hh, r⟩
  · exact Or.inl h2
  · have e : vB.ownBlock = some g := by rw [hv]; rfl
    refine Or.inr ⟨g, cap, cur, hv, hg, ?_, r⟩
    rw [hk g (hlt g e).2 (fun f => f.q e)]
    exact hh
theorem Bo.below {w w' : World} {b o : Nat} {vB : Value} {E : List En} (h : Bo w b o vB E) (hb : Below w.heap.size w w') : Bo w' b o vB E := h.keep hb.size (fun k hk _ => hb.block k hk)

/-- marks stay: no other block than g turns, and in g no mark is lost -/
structure Kp (s : List UInt8) (g : Option Nat) (w w' : World) : Prop where
  os : w'.os = w.os
  tape : w'.tape = w.tape
  output : w'.output = w.output
  size : w.heap.size ≤ w'.heap.size
  block : ∀ k, k < w.heap.size → some k ≠ g → w'.heap[k]? = w.heap[k]?
  mark : ∀ k j, k < w.heap.size → w.cell? ⟨k, j, none⟩ = some (sv s) → w'.cell? ⟨k, j, none⟩ = some (sv s)
theorem Kp.trans {s : List UInt8} {g : Option Nat} {a b c : World} (h : Kp s g a b) (k : Kp s g b c) : Kp s g a c :=
  ⟨k.os.trans h.os, k.tape.trans h.tape, k.output.trans h.output, Nat.le_trans h.size k.size, fun i hi hn => (k.block i (Nat.lt_of_lt_of_le hi h.size) hn).trans (h.block i hi hn), fun i j hi hc => k.mark i j (Nat.lt_of_lt_of_le hi h.size) (h.mark i j hi hc)⟩
theorem Kp.ofBelow {s : List UInt8} {g : Option Nat} {w w' : World} (h : Below w.heap.size w w') : Kp s g w w' :=
  ⟨h.os, h.tape, h.output, h.size, fun k hk _ => h.block k hk, fun k j hk hc => (h.cell (p := ⟨k, j, none⟩) hk).trans hc⟩
theorem Row.size_of {w : World} {g n j : Nat} {t : TypeId} {f : Nat → Value} {v : Value} (h : Row w g t n f) (hc : w.cell? ⟨g, j, none⟩ = some v) : j < n := by
  obtain ⟨cs, h1, h2, h3⟩ := h
  rcases Nat.lt_or_ge j n with h | h
  · exact h
  · simp [World.cell?, h1] at hc
    rw [Array.getElem?_eq_none (by omega)] at hc
    cases hc
theorem Kp.ofRow {s : List UInt8} {g cap : Nat} {f f' : Nat → Value} {t : TypeId} {w w' : World} (hg : w.grownBy w' (some g)) (h : Row w g t cap f) (h' : Row w' g t cap f') (hf : ∀ j, f j = sv s → f' j = sv s) : Kp s (some g) w w' :=
  ⟨hg.os, hg.tape, hg.output, hg.size, hg.block, fun k j hk hc => by
    by_cases e : k = g
    · subst e
      have hj := h.size_of hc
      rw [h'.cell hj]
      rw [h.cell hj] at hc
      rw [hf j (Option.some.inj hc)]
    · rw [World.cell?_of_block (a := ⟨k, j, none⟩) (hg.block k hk (fun h => e (Option.some.inj h)))]
      exact hc⟩
/-- a list of n marks: in block g, or in one that was not there before -/
def Mk (w : World) (s : List UInt8) (g : Option Nat) (lo : Nat) (v : Value) (n : Nat) : Prop :=
  (v = .slice none 0 0 ∧ n = 0) ∨ ∃ q c, v = .slice (some ⟨q, 0, none⟩) n c ∧ n ≤ c ∧ q < w.heap.size ∧ (g = some q ∨ lo ≤ q) ∧ ∀ j, j < n → w.cell? ⟨q, j, none⟩ = some (sv s)
theorem Mk.on {w w' : World} {s : List UInt8} {g : Option Nat} {lo n : Nat} {v : Value} (h : Mk w s g lo v n) (hk : Kp s g w w') : Mk w' s g lo v n := by
  rcases h with h | ⟨q, c, h1, h2, h3, h4, h5⟩
  · exact Or.inl h
  · exact Or.inr ⟨q, c, h1, h2, Nat.lt_of_lt_of_le h3 hk.size, h4, fun j hj => hk.mark q j h3 (h5 j hj)⟩
theorem Mk.ls {w : World} {s : List UInt8} {g : Option Nat} {lo n : Nat} {v : Value} (h : Mk w s g lo v n) : Ls w w.heap.size v (List.replicate n s) := by
  rcases h with ⟨rfl, rfl⟩ | ⟨q, c, rfl, h2, h3, h4, h5⟩
  · exact ⟨none, 0, rfl, Nat.le_refl _, fun h => absurd h (by simp)⟩
  · refine ⟨some ⟨q, 0, none⟩, c, by simp, by simpa using h2, fun hp => ⟨q, 0, rfl, h3, fun j hj => ?_⟩⟩
    have hj' : j < n := by simpa using hj
    rw [Nat.zero_add, h5 j hj']
    simp [List.getD, hj']
theorem Mk.own {w : World} {s : List UInt8} {g : Option Nat} {lo n : Nat} {v : Value} (h : Mk w s g lo v n) : ∀ k, v.ownBlock = some k → g = some k ∨ lo ≤ k := by
  intro k hk
  rcases h with ⟨rfl, rfl⟩ | ⟨q, c, rfl, h2, h3, h4, h5⟩
  · cases hk
  · injection hk with hk
    subst hk
    exact h4
/-- a list of the call's own, all marks: one, two or three marks more behind it -/
theorem appMk {w : World} {s : List UInt8} {v : Value} {n m h : Nat} {g : Option Nat} {lo : Nat}
    (hv : (v = .slice none 0 0 ∧ n = 0 ∧ g = none) ∨ ∃ q cap f, v = .slice (some ⟨q, 0, none⟩) n cap ∧ g = some q ∧ n ≤ cap ∧ Row w q 9 cap f ∧ ∀ j, j < n → f j = sv s)
    (hm : 0 < m) (hh : ∀ j, j < m → w.cell? ⟨h, j, none⟩ = some (sv s)) (hb : n + m ≤ 1048576) (hlo : lo ≤ w.heap.size) (ty : TypeId) :
    ∃ v' w', (Builtin.append_ #[35, 35] ty #[v, .slice (some ⟨h, 0, none⟩) m m]).run Tryd.prog w = .ok v' w' ∧ Kp s g w w' ∧ Mk w' s g lo v' (n + m) ∧
      ((v = .slice none 0 0 ∧ n = 0 ∧ g = none) ∨ ∃ q cap f, v = .slice (some ⟨q, 0, none⟩) n cap ∧ g = some q ∧ n ≤ cap ∧ Row w' q 9 cap f ∧ ∀ j, j < n → f j = sv s) := by
  rcases hv with ⟨rfl, rfl, rfl⟩ | ⟨q, cap, f, rfl, rfl, hn, hR, hf⟩
  · obtain ⟨v', w', hrun, hg, g', cap', rfl, h1, h2, h3, h4⟩ := appNone hm hh (by omega) ty
    refine ⟨_, w', hrun, ⟨hg.os, hg.tape, hg.output, hg.size, hg.block, fun k j hk hc => (World.cell?_of_block (a := ⟨k, j, none⟩) (hg.block k hk (by simp))).trans hc⟩, Or.inr ⟨g', cap', by rw [Nat.zero_add], by omega, h3, Or.inr (by omega), fun j hj => h4 j (by omega)⟩, Or.inl ⟨rfl, rfl, rfl⟩⟩
  · obtain ⟨v', w', f', hrun, hR', hff, hg, g', cap', rfl, h1, h2⟩ := appMark hR hn hf hm hh hb ty
    refine ⟨_, w', hrun, Kp.ofRow hg hR hR' hff, ?_, Or.inr ⟨q, cap, f', rfl, rfl, hn, hR', fun j hj => hff j (hf j hj)⟩⟩
    rcases h2 with ⟨rfl, rfl, h3⟩ | ⟨h3, h4, h5⟩
    · exact Or.inr ⟨_, _, rfl, h1, hR'.lt, Or.inl rfl, fun j hj => by rw [hR'.cell (by omega), h3 j hj]⟩
    · exact Or.inr ⟨g', cap', rfl, h1, h4, Or.inr (by omega), h5⟩
end Go.Proofs.YtkmkkmdpjliifaaDoor
namespace Go.Proofs.YtkmkkmdpjliifaaDoor
open Go.ChangeShapes Go.WideShapes Go.ChangeAt Go.RowKit

theorem Kp.refl (s : List UInt8) (g : Option Nat) (w : World) : Kp s g w w := ⟨rfl, rfl, rfl, Nat.le_refl _, fun _ _ _ => rfl, fun _ _ _ h => h⟩
theorem Kp.set {s : List UInt8} {q cap j : Nat} {f : Nat → Value} {t : TypeId} {w : World} (h : Row w q t cap f) : Kp s (some q) w (w.setCell ⟨q, j, none⟩ (sv s)) :=
  Kp.ofRow ⟨rfl, rfl, rfl, by simp [World.setCell], fun k _ hn => Below.heap_setCell _ _ _ _ (fun e => hn (by rw [e]))⟩ h (h.set j (sv s)) (fun i hi => by
    by_cases e : i = j
    · rw [if_pos e]
    · rw [if_neg e]; exact hi)
/-- a list to be marked: k cells are -/
def LV (w : World) (s : List UInt8) (a : Option Addr) (n c k : Nat) : Prop :=
  (a = none ∧ n = 0 ∧ c = 0) ∨ ∃ q f, a = some ⟨q, 0, none⟩ ∧ n ≤ c ∧ Row w q 9 c f ∧ ∀ j, j < k → f j = sv s
theorem LV.mk {w : World} {s : List UInt8} {a : Option Addr} {n c lo : Nat} (h : LV w s a n c n) : Mk w s (a.map (·.block)) lo (.slice a n c) n := by
  rcases h with ⟨rfl, rfl, rfl⟩ | ⟨q, f, rfl, h1, h2, h3⟩
  · exact Or.inl ⟨rfl, rfl⟩
  · exact Or.inr ⟨q, c, rfl, h1, h2.lt, Or.inl rfl, fun j hj => by rw [h2.cell (by omega), h3 j hj]⟩
theorem LV.below {w w' : World} {s : List UInt8} {a : Option Addr} {n c k : Nat} (h : LV w s a n c k) (hb : Below w.heap.size w w') : LV w' s a n c k := by
  rcases h with h | ⟨q, f, h0, h1, h2, h3⟩
  · exact Or.inl h
  · exact Or.inr ⟨q, f, h0, h1, h2.below hb h2.lt, h3⟩
theorem LV.app {w : World} {s : List UInt8} {a : Option Addr} {n c m h lo : Nat} (hv : LV w s a n c n) (hm : 0 < m) (hh : ∀ j, j < m → w.cell? ⟨h, j, none⟩ = some (sv s)) (hb : n + m ≤ 1048576) (hlo : lo ≤ w.heap.size) (ty : TypeId) :
    ∃ v' w', (Builtin.append_ #[35, 35] ty #[.slice a n c, .slice (some ⟨h, 0, none⟩) m m]).run Tryd.prog w = .ok v' w' ∧ Kp s (a.map (·.block)) w w' ∧ Mk w' s (a.map (·.block)) lo v' (n + m) ∧ LV w' s a n c n := by
  rcases hv with ⟨rfl, rfl, rfl⟩ | ⟨q, f, rfl, h1, h2, h3⟩
  · obtain ⟨v', w', hr, h4, h5, _⟩ := appMk (g := none) (Or.inl ⟨rfl, rfl, rfl⟩) hm hh hb hlo ty
    exact ⟨v', w', hr, h4, h5, Or.inl ⟨rfl, rfl, rfl⟩⟩
  · obtain ⟨v', w', hr, h4, h5, h6⟩ := appMk (g := some q) (Or.inr ⟨q, c, f, rfl, rfl, h1, h2, h3⟩) hm hh hb hlo ty
    refine ⟨v', w', hr, h4, h5, ?_⟩
    rcases h6 with ⟨h6, _⟩ | ⟨q2, c2, f2, h6, h7, h8, h9, h10⟩
    · cases h6
    · injection h6 with e1 e2 e3
      injection e1 with e1
      injection e1 with e1
      subst e1 e3
      exact Or.inr ⟨q, f2, rfl, h8, h9, h10⟩

theorem getD_left {E F : List En} {i : Nat} (h : i < E.length) : (E ++ F).getD i default = E.getD i default := by simp [List.getD, List.getElem?_append_left h]
theorem getD_right {E F : List En} {i : Nat} (h : E.length ≤ i) : (E ++ F).getD i default = F.getD (i - E.length) default := by simp [List.getD, List.getElem?_append_right h]
theorem info35 : (Tryd.prog.info? 35).map (fun i => (i.zero, i.size, i.bytes)) = some (some (.slice none 0 0), 1, 24) := by kernel_rfl

/-- four entries more -/
theorem Bo.took {w w5 w6 : World} {b o n : Nat} {vB : Value} {E : List En} {s : List UInt8} {g : Option Nat} {v x y z : Value} {ob : Obj} {g6 c6 : Nat}
    (hB : Bo w b o vB E) (hb : b ≤ w.heap.size) (hF : ∀ k, g = some k → Fr o vB E k ∧ b ≤ k ∧ k < w.heap.size) (h4 : E.length % 4 = 0) (hs : s = markS (E.length / 4 + 1)) (hn : n ≤ 65536) (hK : Kp s g w w5)
    (m0 : Mk w5 s g w.heap.size v n) (m1 : Mk w5 s g w.heap.size x (n + 1)) (m2 : Mk w5 s g w.heap.size y (n + 2)) (m3 : Mk w5 s g w.heap.size z (n + 3))
    (ho : w6.ownsRow b 35 1 (.slice (some ⟨g6, 0, none⟩) (E.length + 4) c6) (E.length + 4) (E.map En.v ++ [v, x, y, z])) (hg : (w5.alloc ob).grownBy w6 vB.ownBlock) (hat : vB.ownBlock = some g6 ∨ g6 = (w5.alloc ob).heap.size) :
    ∃ F : List En, F.length = 4 ∧ Bo (w6.setCell ⟨o, 0, none⟩ (.slice (some ⟨g6, 0, none⟩) (E.length + 4) c6)) b o (.slice (some ⟨g6, 0, none⟩) (E.length + 4) c6) (E ++ F) ∧ Below b w (w6.setCell ⟨o, 0, none⟩ (.slice (some ⟨g6, 0, none⟩) (E.length + 4) c6)) ∧
      ∀ k, k < w.heap.size → Fr o vB E k → g ≠ some k → (w6.setCell ⟨o, 0, none⟩ (.slice (some ⟨g6, 0, none⟩) (E.length + 4) c6)).heap[k]? = w.heap[k]? ∧ Fr o (.slice (some ⟨g6, 0, none⟩) (E.length + 4) c6) (E ++ F) k := by
  generalize hv6 : Value.slice (some ⟨g6, 0, none⟩) (E.length + 4) c6 = v6 at *
  have hol := hB.lt
  have hq : ∀ k, vB.ownBlock = some k → b ≤ k ∧ k < w.heap.size := hB.own.lt
  have hsa : (w5.alloc ob).heap.size = w5.heap.size + 1 := by simp
  have hs5 := hK.size
  have hs6 : w5.heap.size + 1 ≤ w6.heap.size := by rw [← hsa]; exact hg.size
  have hv6b : v6.ownBlock = some g6 := by rw [← hv6]; rfl
  have hsw : (w6.setCell ⟨o, 0, none⟩ v6).heap.size = w6.heap.size := by simp [World.setCell]
  have hblk : ∀ k, k < w5.heap.size → k ≠ o → vB.ownBlock ≠ some k → (w6.setCell ⟨o, 0, none⟩ v6).heap[k]? = w5.heap[k]? := fun k hk h1 h2 => by
    rw [Below.heap_setCell _ _ _ _ h1, hg.block k (by omega) (fun e => h2 e.symm)]
    exact (Below.refl w5.heap.size w5).alloc (Nat.le_refl _) ob |>.block k hk
  have hfar : ∀ k, k < w.heap.size → k ≠ o → vB.ownBlock ≠ some k → g ≠ some k → (w6.setCell ⟨o, 0, none⟩ v6).heap[k]? = w.heap[k]? := fun k hk h1 h2 h3 =>
    (hblk k (by omega) h1 h2).trans (hK.block k hk (fun e => h3 e.symm))
  have hgo : g ≠ some o := fun e => (hF o e).1.o rfl
  have hM : ∀ {u : Value} {m : Nat}, Mk w5 s g w.heap.size u m → Ls (w6.setCell ⟨o, 0, none⟩ v6) (w6.setCell ⟨o, 0, none⟩ v6).heap.size u (List.replicate m s) ∧ u.ownBlock ≠ some o ∧ u.ownBlock ≠ some g6 ∧ (∀ k, u.ownBlock = some k → k < w5.heap.size) ∧ (∀ k, k < w.heap.size → g ≠ some k → u.ownBlock ≠ some k) := by
    intro u m hm
    have hown := hm.own
    have hlt5 : ∀ k, u.ownBlock = some k → k < w5.heap.size := fun k e => by
      rcases hm with ⟨rfl, _⟩ | ⟨q, c, rfl, _, h3, _⟩
      · cases e
      · injection e with e; subst e; exact h3
    refine ⟨hm.ls.at (by rw [hsw]; omega) (fun k e hk => hblk k hk (fun h => ?_) (fun h => ?_)), fun e => ?_, fun e => ?_, hlt5, fun k hk h1 e => ?_⟩
    · subst h
      rcases hown k e with h | h
      · exact hgo h
      · omega
    · rcases hown k e with h2 | h2
      · exact (hF k h2).1.q h
      · have := (hq k h).2; omega
    · rcases hown o e with h | h
      · exact hgo h
      · omega
    · have h5 := hlt5 g6 e
      rcases hat with h | h
      · rcases hown g6 e with h2 | h2
        · exact (hF g6 h2).1.q h
        · have := (hq g6 h).2; omega
      · omega
    · rcases hown k e with h | h
      · exact h1 h
      · omega
  refine ⟨[⟨v, n⟩, ⟨x, n + 1⟩, ⟨y, n + 2⟩, ⟨z, n + 3⟩], rfl, ?_, ?_, ?_⟩
  · have hlen : (E ++ [⟨v, n⟩, ⟨x, n + 1⟩, ⟨y, n + 2⟩, ⟨z, n + 3⟩] : List En).length = E.length + 4 := by simp
    have hR6 : Row w6 o 41 1 (fun _ => vB) := by
      refine hB.row.keep ?_
      rw [hg.block o (by omega) (fun e => hB.qo e.symm), ((Below.refl w5.heap.size w5).alloc (Nat.le_refl _) ob).block o (by omega), hK.block o hol (fun e => hgo e.symm)]
    have h6o : g6 ≠ o := by
      intro e
      subst e
      rcases hat with h | h
      · exact hB.qo h
      · omega
    have parts : ∀ (Q : Nat → En → Prop), (∀ i, i < E.length → Q i (E.getD i default)) → Q E.length ⟨v, n⟩ → Q (E.length + 1) ⟨x, n + 1⟩ → Q (E.length + 2) ⟨y, n + 2⟩ → Q (E.length + 3) ⟨z, n + 3⟩ → ∀ i, i < (E ++ [⟨v, n⟩, ⟨x, n + 1⟩, ⟨y, n + 2⟩, ⟨z, n + 3⟩] : List En).length → Q i ((E ++ [⟨v, n⟩, ⟨x, n + 1⟩, ⟨y, n + 2⟩, ⟨z, n + 3⟩] : List En).getD i default) := by
      intro Q q0 q1 q2 q3 q4 i hi
      rw [hlen] at hi
      by_cases hlt : i < E.length
      · rw [getD_left hlt]; exact q0 i hlt
      · rw [getD_right (by omega)]
        have : i = E.length ∨ i = E.length + 1 ∨ i = E.length + 2 ∨ i = E.length + 3 := by omega
        rcases this with rfl | rfl | rfl | rfl
        · rw [Nat.sub_self]; exact q1
        · rw [show E.length + 1 - E.length = 1 by omega]; exact q2
        · rw [show E.length + 2 - E.length = 2 by omega]; exact q3
        · rw [show E.length + 3 - E.length = 3 by omega]; exact q4
    refine ⟨(hR6.set 0 v6).congr (fun j hj => ?_), ?_, hB.bo, ?_, ?_, ?_, ?_, ?_, ?_⟩
    · rw [if_pos (by omega)]
    · rw [hlen, List.map_append]
      have := ho
      obtain ⟨h1, h2⟩ := ho
      refine ⟨h1, ?_⟩
      rcases h2 with h2 | ⟨g', cap, cur, hv, hge, hh, r⟩
      · exact Or.inl h2
      · refine Or.inr ⟨g', cap, cur, hv, hge, ?_, r⟩
        have : g' = g6 := by rw [hv] at hv6b; exact Option.some.inj hv6b
        rw [Below.heap_setCell _ _ _ _ (by rw [this]; exact h6o)]
        exact hh
    · rw [hv6b]; exact fun e => h6o (Option.some.inj e)
    · refine parts (fun i e => Ls _ _ e.v (List.replicate e.n (markS (i / 4 + 1)))) ?_ ?_ ?_ ?_ ?_
      · intro i hi
        refine (hB.ent i hi).at (by rw [hsw]; omega) (fun k e hk => hfar k hk (fun h => ?_) (fun h => hB.eq i hi k h e) (fun h => (hF k h).1.e i hi e))
        exact hB.eo i hi (h ▸ e)
      · rw [← hs]; exact (hM m0).1
      · rw [show (E.length + 1) / 4 = E.length / 4 by omega, ← hs]; exact (hM m1).1
      · rw [show (E.length + 2) / 4 = E.length / 4 by omega, ← hs]; exact (hM m2).1
      · rw [show (E.length + 3) / 4 = E.length / 4 by omega, ← hs]; exact (hM m3).1
    · exact parts (fun i e => e.v.ownBlock ≠ some o) hB.eo (hM m0).2.1 (hM m1).2.1 (hM m2).2.1 (hM m3).2.1
    · refine parts (fun i e => ∀ q, v6.ownBlock = some q → e.v.ownBlock ≠ some q) ?_ ?_ ?_ ?_ ?_
      · intro i hi q e h
        rw [hv6b] at e
        injection e with e
        subst e
        rcases hat with h2 | h2
        · exact hB.eq i hi _ h2 h
        · have := hB.el i hi _ h; omega
      all_goals (intro q e; rw [hv6b] at e; injection e with e; subst e)
      · exact (hM m0).2.2.1
      · exact (hM m1).2.2.1
      · exact (hM m2).2.2.1
      · exact (hM m3).2.2.1
    · exact parts (fun i e => e.n ≤ 1048576) hB.small (by show n ≤ _; omega) (by show n + 1 ≤ _; omega) (by show n + 2 ≤ _; omega) (by show n + 3 ≤ _; omega)
    · refine parts (fun i e => ∀ k, e.v.ownBlock = some k → k < (w6.setCell ⟨o, 0, none⟩ v6).heap.size) ?_ ?_ ?_ ?_ ?_
      · intro i hi k e; have := hB.el i hi k e; rw [hsw]; omega
      · intro k e; have := (hM m0).2.2.2.1 k e; rw [hsw]; omega
      · intro k e; have := (hM m1).2.2.2.1 k e; rw [hsw]; omega
      · intro k e; have := (hM m2).2.2.2.1 k e; rw [hsw]; omega
      · intro k e; have := (hM m3).2.2.2.1 k e; rw [hsw]; omega
  · refine ⟨hg.os.trans hK.os, hg.tape.trans hK.tape, hg.output.trans hK.output, by rw [hsw]; omega, fun k hk => ?_⟩
    refine hfar k (by omega) (fun h => ?_) (fun h => ?_) (fun h => ?_)
    · have := hB.bo; omega
    · have := (hq k h).1; omega
    · have := (hF k h).2.1; omega
  · intro k hk hf hgk
    refine ⟨hfar k hk hf.o hf.q hgk, hf.o, ?_, ?_⟩
    · rw [hv6b]
      intro e
      injection e with e
      subst e
      rcases hat with h | h
      · exact hf.q h
      · omega
    · intro i hi
      have hlen : (E ++ [⟨v, n⟩, ⟨x, n + 1⟩, ⟨y, n + 2⟩, ⟨z, n + 3⟩] : List En).length = E.length + 4 := by simp
      rw [hlen] at hi
      by_cases hlt : i < E.length
      · rw [getD_left hlt]; exact hf.e i hlt
      · rw [getD_right (by omega)]
        have : i = E.length ∨ i = E.length + 1 ∨ i = E.length + 2 ∨ i = E.length + 3 := by omega
        rcases this with rfl | rfl | rfl | rfl
        · rw [Nat.sub_self]; exact (hM m0).2.2.2.2 k hk hgk
        · rw [show E.length + 1 - E.length = 1 by omega]; exact (hM m1).2.2.2.2 k hk hgk
        · rw [show E.length + 2 - E.length = 2 by omega]; exact (hM m2).2.2.2.2 k hk hgk
        · rw [show E.length + 3 - E.length = 3 by omega]; exact (hM m3).2.2.2.2 k hk hgk
end Go.Proofs.YtkmkkmdpjliifaaDoor
namespace Go.Proofs.YtkmkkmdpjliifaaDoor
open Go.ChangeShapes Go.WideShapes Go.ChangeAt Go.RowKit

theorem OwnS.lv {w : World} {b n c : Nat} {s : List UInt8} {a : Option Addr} {l : List (List UInt8)} (h : OwnS w b (.slice a n c) l) : n = l.length ∧ LV w s a n c 0 := by
  rcases h.row with ⟨h1, h2⟩ | ⟨g, cap, f, h1, h2, h3, h4, h5, h6⟩
  · injection h1 with e1 e2 e3
    subst e1 e2 e3 h2
    exact ⟨rfl, Or.inl ⟨rfl, rfl, rfl⟩⟩
  · injection h1 with e1 e2 e3
    subst e1 e2 e3
    exact ⟨rfl, Or.inr ⟨g, f, rfl, h4, h5, fun j hj => absurd hj (Nat.not_lt_zero j)⟩⟩
/-- what take leaves -/
def Took (w : World) (b o : Nat) (vB : Value) (E : List En) (g : Option Nat) (w' : World) : Prop :=
  ∃ vB' F, F.length = 4 ∧ Bo w' b o vB' (E ++ F) ∧ Below b w w' ∧ ∀ k, k < w.heap.size → Fr o vB E k → g ≠ some k → w'.heap[k]? = w.heap[k]? ∧ Fr o vB' (E ++ F) k
theorem one_new (w : World) (s : List UInt8) : ∀ j, j < 1 → (w.alloc (.cells #[.string ⟨s.toArray⟩] 9)).cell? ⟨w.heap.size, j, none⟩ = some (sv s) := fun j hj => by
  obtain rfl : j = 0 := by omega
  simp [sv]
theorem two_new (w : World) (s : List UInt8) : ∀ j, j < 2 → (w.alloc (.cells #[.string ⟨s.toArray⟩, .string ⟨s.toArray⟩] 9)).cell? ⟨w.heap.size, j, none⟩ = some (sv s) := fun j hj => by
  match j, hj with
  | 0, _ => simp [sv]
  | 1, _ => simp [sv]
theorem three_new (w : World) (s : List UInt8) : ∀ j, j < 3 → (w.alloc (.cells #[.string ⟨s.toArray⟩, .string ⟨s.toArray⟩, .string ⟨s.toArray⟩] 9)).cell? ⟨w.heap.size, j, none⟩ = some (sv s) := fun j hj => by
  match j, hj with
  | 0, _ => simp [sv]
  | 1, _ => simp [sv]
  | 2, _ => simp [sv]
/-- an append's run -/
structure AppRun (w : World) (vs vx v' : Value) (w' : World) : Prop where
  run : (Builtin.append_ #[35, 35] 35 #[vs, vx]).run Tryd.prog w = .ok v' w'
theorem appLawR {w : World} {ops : Array Oper} {rest : List Oper} {o : Oper} {a : Act} {Q : Exit → Act → World → Prop} {vs vx v' : Value} {w' : World} (hr : AppRun w vs vx v' w') (hgd : o.guard = none) (hty : o.type = 35) (s x : Operand)
    (ho : o.op = .call { callee := .builtin .append, args := #[s, x], argTypes := #[35, 35] }) (hs : a.eval s = vs) (hx : a.eval x = vx)
    (h : wpList Tryd.prog ops Q rest (a.put o.dst v') w') : wpList Tryd.prog ops Q (o :: rest) a w :=
  appLaw hgd s x ho hs hx (by rw [hty]; exact hr.run) h
theorem Mk.form {w : World} {s : List UInt8} {g : Option Nat} {lo n : Nat} {v : Value} (h : Mk w s g lo v n) (hn : 0 < n) : ∃ q c, v = .slice (some ⟨q, 0, none⟩) n c := by
  rcases h with ⟨_, h⟩ | ⟨q, c, h, _⟩
  · omega
  · exact ⟨q, c, h⟩
theorem Mk.oneCell {w : World} {s : List UInt8} {g : Option Nat} {lo n : Nat} {v : Value} (h : Mk w s g lo v n) : v.oneCell' = true := by
  rcases h with ⟨rfl, _⟩ | ⟨q, c, rfl, _⟩ <;> rfl
theorem LV.set {w : World} {s : List UInt8} {a : Option Addr} {n c k : Nat} (h : LV w s a n c k) (hk : k < n) : ∃ q, a = some ⟨q, 0, none⟩ ∧ (∃ u, w.cell? ⟨q, k, none⟩ = some u) ∧ w.frozen? ⟨q, k, none⟩ = false ∧ LV (w.setCell ⟨q, k, none⟩ (sv s)) s a n c (k + 1) ∧ Kp s (a.map (·.block)) w (w.setCell ⟨q, k, none⟩ (sv s)) := by
  rcases h with ⟨_, h, _⟩ | ⟨q, f, rfl, h1, h2, h3⟩
  · omega
  · refine ⟨q, rfl, ⟨_, h2.cell (by omega)⟩, h2.frozen k, Or.inr ⟨q, _, rfl, h1, h2.set k (sv s), fun j hj => ?_⟩, Kp.set h2⟩
    by_cases e : j = k
    · rw [if_pos e]
    · rw [if_neg e]; exact h3 j (by omega)

set_option maxRecDepth 20000 in
set_option maxHeartbeats 2000000 in
theorem bookTake_any (w : World) (b o : Nat) (vB : Value) (E : List En) (a : Option Addr) (n c : Nat) (l : List (List UInt8)) (hb : b ≤ w.heap.size) (hB : Bo w b o vB E) (hO : OwnS w b (.slice a n c) l) (hF : ∀ k, a.map (·.block) = some k → Fr o vB E k)
    (hn : n ≤ 65536) (hE : E.length < 65536) (h4 : E.length % 4 = 0) :
    Calls Tryd.prog 46 #[.pointer (some ⟨o, 0, none⟩), .slice a n c] w fun e w' => (∃ u, e = .returned u) ∧ Took w b o vB E (a.map (·.block)) w' := by
  obtain ⟨mk, hmk⟩ : ∃ mk, mk = markS (E.length / 4 + 1) := ⟨_, rfl⟩
  have hlv : LV w mk a n c 0 := hO.lv.2
  have HF : Hid (∀ k, a.map (·.block) = some k → Fr o vB E k ∧ b ≤ k ∧ k < w.heap.size) := fun k e => ⟨hF k e, hO.lt k (by
    cases a with
    | none => cases e
    | some x => exact e)⟩
  obtain ⟨aB, cB, rfl⟩ : ∃ aB cB, vB = .slice aB E.length cB := by
    rcases owns_cells hB.own with ⟨e, h0⟩ | ⟨g, cap, e, _⟩
    · exact ⟨none, 0, by rw [e, h0]⟩
    · exact ⟨_, _, e⟩
  have hc0 : w.cell? ⟨o, 0, none⟩ = some (.slice aB E.length cB) := hB.row.cell (by decide)
  have hz0 := hB.row.frozen 0
  have hol := hB.lt
  obtain ⟨hw1, hq4, hq5⟩ := numK E.length hE
  have HMK := hide (fun w x hx => marked_any (E.length / 4 + 1) w (by omega) x hx)
  rw [← hmk] at HMK
  have HN := hide hn
  have HE := hide hE
  have H4 := hide h4
  have HB := hide hB
  have HBS := hide hb
  have HMK0 := hide hmk
  generalize hqi : ((E.length / 4 : Nat) : Int) = qi at *
  generalize hmi : ((E.length / 4 + 1 : Nat) : Int) = mi at *
  have HMI := hide hmi
  clear hn hE h4 hB hb hF hO hqi hmi hmk
  go_enter Tryd.func46, Tryd.ntmps46
  go_wp2_with fail
  refine (unhide HMK _ _ rfl).mono ?_
  rintro e w1 ⟨rfl, hb1⟩
  have hlv1 := hlv.below hb1
  have HK1 : Hid (Kp mk (a.map (·.block)) w w1) := Kp.ofBelow hb1
  clear hlv hb1 hc0 hz0 hw1 hq4 hq5 HMK HMI
  go_wp2_with fail
  go_loopg [5] n (fun q i wr => ∃ k : Nat, k + q = n ∧ i = .int .i64 (k : Nat) ∧ LV wr mk a n c k ∧ Kp mk (a.map (·.block)) w wr)
  case atStart => exact ⟨0, Nat.zero_add _, rfl, hlv1, unhide HK1⟩
  case round =>
    clear hlv1 HK1
    obtain ⟨k, hk, rfl, hLV, hKp⟩ := hrel
    by_cases hlt : k < n
    · have hwj := numJ k (by have := unhide HN; omega)
      have hkI : (k : Int) < (n : Int) := by omega
      obtain ⟨q, rfl, ⟨u, hcu⟩, hfz, hlv', hk'⟩ := hLV.set hlt
      have HL' := hide hlv'
      have HK' := hide (hKp.trans hk')
      clear hlv' hk' hLV hKp
      go_wp2_with fail
      go_roundg (gk - 1)
      case measure => omega
      case rel => exact ⟨k + 1, by omega, by first | exact num1 hwj | rfl, unhide HL', unhide HK'⟩
    · obtain rfl : k = n := by omega
      clear hk hlt
      have HN' : k ≤ 65536 := unhide HN
      obtain ⟨va, wa, ra, ka, ma, la⟩ := LV.app (lo := w.heap.size) (m := 1) (hLV.below ((Below.refl _ _).alloc (Nat.le_refl _) (.cells #[.string ⟨mk.toArray⟩] 9))) (by decide) (one_new wr mk) (by omega) (by have := hKp.size; simp; omega) 35
      obtain ⟨qa, ca, rfl⟩ := ma.form (by omega)
      have kA := hKp.trans ((Kp.ofBelow ((Below.refl _ _).alloc (Nat.le_refl _) _)).trans ka)
      have hsA := kA.size
      obtain ⟨vb, wb, rb, kb, mb, lb⟩ := LV.app (lo := w.heap.size) (m := 2) (la.below ((Below.refl _ _).alloc (Nat.le_refl _) (.cells #[.string ⟨mk.toArray⟩, .string ⟨mk.toArray⟩] 9))) (by decide) (two_new wa mk) (by omega) (by simp; omega) 35
      obtain ⟨qb, cb, rfl⟩ := mb.form (by omega)
      have kB := kA.trans ((Kp.ofBelow ((Below.refl _ _).alloc (Nat.le_refl _) _)).trans kb)
      have mA2 := ma.on ((Kp.ofBelow ((Below.refl _ _).alloc (Nat.le_refl _) _)).trans kb)
      have hsB := kB.size
      obtain ⟨vc, wc, rc, kc, mc, lc⟩ := LV.app (lo := w.heap.size) (m := 3) (lb.below ((Below.refl _ _).alloc (Nat.le_refl _) (.cells #[.string ⟨mk.toArray⟩, .string ⟨mk.toArray⟩, .string ⟨mk.toArray⟩] 9))) (by decide) (three_new wb mk) (by omega) (by simp; omega) 35
      obtain ⟨qc, cc, rfl⟩ := mc.form (by omega)
      have kC := kB.trans ((Kp.ofBelow ((Below.refl _ _).alloc (Nat.le_refl _) _)).trans kc)
      have mA3 := mA2.on ((Kp.ofBelow ((Below.refl _ _).alloc (Nat.le_refl _) _)).trans kc)
      have mB3 := mb.on ((Kp.ofBelow ((Below.refl _ _).alloc (Nat.le_refl _) _)).trans kc)
      have m0 : Mk wc mk (a.map (·.block)) w.heap.size (.slice a k c) k := lc.mk
      have hsC := kC.size
      have hgo : some o ≠ a.map (·.block) := fun e => ((unhide HF) o e.symm).1.o rfl
      have hRo := (unhide HB).row.keep (kC.block o hol hgo)
      have hcO : wc.cell? ⟨o, 0, none⟩ = some (.slice aB E.length cB) := hRo.cell (by decide)
      have hRoa : Row (wc.alloc (.cells #[.slice a k c, .slice (some ⟨qa, 0, none⟩) (k + 1) ca, .slice (some ⟨qb, 0, none⟩) (k + 2) cb, .slice (some ⟨qc, 0, none⟩) (k + 3) cc] 35)) o 41 1 (fun _ => .slice aB E.length cB) := hRo.below ((Below.refl _ _).alloc (Nat.le_refl _) _) hRo.lt
      have hcOa := hRoa.cell (j := 0) (by decide)
      have hzOa := hRoa.frozen 0
      have hown : wc.ownsRow b 35 1 (.slice aB E.length cB) E.length (E.map En.v) := by
        have h := (unhide HB).own
        have hlt := h.lt
        obtain ⟨h1, h2⟩ := h
        refine ⟨h1, ?_⟩
        rcases h2 with h2 | ⟨g, cap, cur, hv, hg, hh, r⟩
        · exact Or.inl h2
        · have e : (Value.slice aB E.length cB).ownBlock = some g := by rw [hv]; rfl
          refine Or.inr ⟨g, cap, cur, hv, hg, ?_, r⟩
          rw [kC.block g (hlt g e).2 (fun e2 => ((unhide HF) g e2.symm).1.q e)]
          exact hh
      have howna : (wc.alloc (.cells #[.slice a k c, .slice (some ⟨qa, 0, none⟩) (k + 1) ca, .slice (some ⟨qb, 0, none⟩) (k + 2) cb, .slice (some ⟨qc, 0, none⟩) (k + 3) cc] 35)).ownsRow b 35 1 (.slice aB E.length cB) E.length (E.map En.v) := ownsRow_below hown ((Below.refl _ _).alloc (Nat.le_refl _) _) (Nat.le_refl _)
      have h1s : ∀ u ∈ [Value.slice a k c, .slice (some ⟨qa, 0, none⟩) (k + 1) ca, .slice (some ⟨qb, 0, none⟩) (k + 2) cb, .slice (some ⟨qc, 0, none⟩) (k + 3) cc], u.oneCell' = true := fun u hu => by
        simp at hu
        rcases hu with rfl | rfl | rfl | rfl
        · rfl
        · exact mA3.oneCell
        · exact mB3.oneCell
        · exact mc.oneCell
      have hqo : some o ≠ (Value.slice aB E.length cB).ownBlock := fun e => (unhide HB).qo e.symm
      obtain ⟨i0, hi, iz0, iz1, iz2⟩ := info_parts info35
      have HI := hide hi
      have HI0 := hide iz0
      have HI1 := hide iz1
      have HI2 := hide iz2
      have HOA := hide howna
      have H1S := hide h1s
      have HQO := hide hqo
      have HCA := hide hcOa
      have HZA := hide hzOa
      have KC := hide kC
      have MA := hide mA3
      have MB := hide mB3
      have MC := hide mc
      have M0 := hide m0
      have Ra := AppRun.mk ra
      have Rb := AppRun.mk rb
      have Rc := AppRun.mk rc
      clear ra rb rc ka kb kc ma mb mc la lb lc kA kB kC mA2 mA3 mB3 m0 hLV hKp hsA hsB HN' hgo hRo hRoa hcOa hzOa hown howna h1s hqo hi iz0 iz1 iz2
      go_wp2_with (at_builtin; first
        | refine appLawR Ra rfl rfl _ _ rfl rfl rfl ?_
        | refine appLawR Rb rfl rfl _ _ rfl rfl rfl ?_
        | refine appLawR Rc rfl rfl _ _ rfl rfl rfl ?_
        | (refine wpList_append_lies _ rfl _ _ 39 rfl b 35 i0 _ 1 24 Tryd.underlying39 (unhide HI) (unhide HI0) (unhide HI1) (unhide HI2) rfl (by decide) _ E.length (E.map En.v) rfl (unhide HOA) ⟨wc.heap.size, 0, none⟩ 4 4 [.slice a k c, .slice (some ⟨qa, 0, none⟩) (k + 1) ca, .slice (some ⟨qb, 0, none⟩) (k + 2) cb, .slice (some ⟨qc, 0, none⟩) (k + 3) cc] rfl rfl (World.news_of_block (heap_alloc_new wc _)) (unhide H1S) (by decide) (by unfold maxLen; have := unhide HE; omega) (by have := unhide HE; omega) (by have := unhide HBS; simp; omega) _ rfl ?_; intro g6 c6 w6 ho6 hg6 hat6 hlt6; have r6 := (hg6.cell_far ⟨o, 0, none⟩ (by simp; omega) (unhide HQO)).trans (unhide HCA); have z6 := (hg6.frozen_far ⟨o, 0, none⟩ (by simp; omega) (unhide HQO)).trans (unhide HZA)))
      go_end0
      obtain ⟨F, hF4, hBo, hbel, hfar⟩ := (unhide HB).took (unhide HBS) (unhide HF) (unhide H4) (unhide HMK0) (unhide HN) (unhide KC) (unhide M0) (unhide MA) (unhide MB) (unhide MC) ho6 hg6 hat6
      exact ⟨⟨_, rfl⟩, _, F, hF4, hBo, hbel, hfar⟩
end Go.Proofs.YtkmkkmdpjliifaaDoor
