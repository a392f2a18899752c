import Derived.Test.YtkmkkmdpjliifaaGreatDoorRvA
import Derived.Lib.SliceRun
import Derived.Lib.AppendZerosOnto
namespace Go.Proofs.YtkmkkmdpjliifaaGreatDoor
open Go.ChangeShapes Go.WideShapes Go.ChangeAt Go.RowKit

/-- a list of the call's own: none, or a row -/
theorem OwnS.row {w : World} {base : Nat} {v : Value} {l : List (List UInt8)} (h : OwnS w base v l) :
    (v = .slice none 0 0 ∧ l = []) ∨ ∃ g cap f, v = .slice (some ⟨g, 0, none⟩) l.length cap ∧ base ≤ g ∧ g < w.heap.size ∧ l.length ≤ cap ∧ Row w g 9 cap f ∧ ∀ j, j < l.length → f j = sv (l.getD j []) := by
  have hlt := h.lt
  obtain ⟨h1, h2⟩ := h
  rcases h2 with ⟨h2, h3⟩ | ⟨g, cap, cur, hv, hg, hh, hc, hm, hs, ht⟩
  · exact Or.inl ⟨h2, List.eq_nil_of_length_eq_zero h3⟩
  · rw [Nat.mul_one] at hs
    refine Or.inr ⟨g, cap, fun j => cur.getD j undef, hv, hg, (hlt g (by subst hv; rfl)).2, hc, ⟨cur, hh, hs, fun j hj => ?_⟩, fun j hj => ?_⟩
    · simp [Array.getD, show j < cur.size by omega]
    · have e := svs_get l j hj
      rw [← ht, List.getElem?_take_of_lt (by omega)] at e
      have e2 : cur[j]? = some (sv (l.getD j [])) := by simpa using e
      simp only [Array.getD_eq_getD_getElem?, e2]
      rfl

/-- what is kept of the first k names -/
def keptK (L l : List (List UInt8)) (k : Nat) : List (List UInt8) := (l.take k).filter (hasB L)
theorem take_succD {l : List (List UInt8)} {k : Nat} (h : k < l.length) : l.take (k + 1) = l.take k ++ [l.getD k []] := by
  rw [List.take_add_one, List.getD_eq_getElem?_getD, List.getElem?_eq_getElem h]
  rfl
theorem keptK_yes {L l : List (List UInt8)} {k : Nat} (h : k < l.length) (hb : hasB L (l.getD k []) = true) : keptK L l (k + 1) = keptK L l k ++ [l.getD k []] := by
  unfold keptK
  rw [take_succD h, List.filter_append, List.filter_cons, if_pos hb, List.filter_nil]
theorem keptK_no {L l : List (List UInt8)} {k : Nat} (h : k < l.length) (hb : hasB L (l.getD k []) = false) : keptK L l (k + 1) = keptK L l k := by
  unfold keptK
  rw [take_succD h, List.filter_append, List.filter_cons, if_neg (by rw [hb]; decide), List.filter_nil, List.append_nil]
theorem keptK_all {L l : List (List UInt8)} {k : Nat} (hk : k ≤ l.length) (h : ∀ j, j < k → hasB L (l.getD j []) = true) : keptK L l k = l.take k := by
  unfold keptK
  rw [List.filter_eq_self]
  intro x hx
  obtain ⟨i, hi, rfl⟩ := List.mem_iff_getElem.1 hx
  have hi' : i < k ∧ i < l.length := by rw [List.length_take] at hi; omega
  have := h i hi'.1
  rw [List.getD_eq_getElem?_getD, List.getElem?_eq_getElem hi'.2] at this
  simpa using this
/-- what a row holds while names are taken out of it: i are kept of the first j -/
structure DelI (L l : List (List UInt8)) (f : Nat → Value) (i j : Nat) : Prop where
  len : i = (keptK L l j).length
  lt : i < j
  le : j ≤ l.length
  low : ∀ q, q < i → f q = sv ((keptK L l j).getD q [])
  high : ∀ q, j ≤ q → q < l.length → f q = sv (l.getD q [])
theorem DelI.start {L l : List (List UInt8)} {f : Nat → Value} {k : Nat} (hk : k < l.length) (hall : ∀ j, j < k → hasB L (l.getD j []) = true) (hb : hasB L (l.getD k []) = false) (hf : ∀ j, j < l.length → f j = sv (l.getD j [])) : DelI L l f k (k + 1) := by
  have e : keptK L l (k + 1) = l.take k := by rw [keptK_no hk hb, keptK_all (by omega) hall]
  refine ⟨by rw [e, List.length_take]; omega, by omega, by omega, fun q hq => ?_, fun q _ hq => hf q hq⟩
  rw [e, hf q (by omega)]
  rw [List.getD_eq_getElem?_getD, List.getD_eq_getElem?_getD, List.getElem?_take_of_lt hq]
theorem DelI.yes {L l : List (List UInt8)} {f : Nat → Value} {i j : Nat} (h : DelI L l f i j) (hj : j < l.length) (hb : hasB L (l.getD j []) = true) : DelI L l (fun q => if q = i then sv (l.getD j []) else f q) (i + 1) (j + 1) := by
  have e := keptK_yes hj hb
  have hl := h.len
  have h2 := h.lt
  refine ⟨by rw [e]; simp [← hl], by omega, by omega, fun q hq => ?_, fun q h1 hq => ?_⟩
  · rw [e]
    by_cases hqi : q = i
    · subst hqi
      rw [if_pos rfl]
      generalize l.getD j [] = y
      rw [List.getD_eq_getElem?_getD, List.getElem?_append_right (by omega), ← hl, Nat.sub_self]
      rfl
    · rw [if_neg hqi, h.low q (by omega), List.getD_eq_getElem?_getD, List.getD_eq_getElem?_getD, List.getElem?_append_left (by omega)]
  · rw [if_neg (by omega), h.high q (by omega) hq]
theorem DelI.no {L l : List (List UInt8)} {f : Nat → Value} {i j : Nat} (h : DelI L l f i j) (hj : j < l.length) (hb : hasB L (l.getD j []) = false) : DelI L l f i (j + 1) := by
  have e := keptK_no hj hb
  have hl := h.len
  have h2 := h.lt
  exact ⟨by rw [e]; exact hl, by omega, by omega, fun q hq => by rw [e]; exact h.low q hq, fun q h1 hq => h.high q (by omega) hq⟩

theorem w64j {j n : Nat} (h : j < n) (hn : n ≤ 8796093022208) : wrap64 ((j : Int) + 1) = (j : Int) + 1 := w64 _ (by omega) (by omega)
theorem But.setCells {g : Nat} {a w : World} (h : But g a w) (o : Nat) (vs : List Value) : But g a (w.setCells g o vs) := by
  induction vs generalizing o w with
  | nil => exact h
  | cons v vs ih => exact ih (h.setCell o v) (o + 1)
theorem zero9 : ∀ w : World, (zeroValue 9).run Tryz.prog w = .ok (.string ⟨#[]⟩) w := fun w => by
  obtain ⟨i0, hi, hz0, hz1, hz2⟩ := info_parts info9
  simp [zeroValue, typeInfo, hi, hz0]
theorem filter_all {L l : List (List UInt8)} (h : ∀ j, j < l.length → hasB L (l.getD j []) = true) : l.filter (hasB L) = l := by
  have e := keptK_all (Nat.le_refl l.length) h
  unfold keptK at e
  rw [List.take_length] at e
  exact e
theorem kept_end {L l : List (List UInt8)} : keptK L l l.length = l.filter (hasB L) := by unfold keptK; rw [List.take_length]

theorem del_lt {i n cap q : Nat} (h : i < n) (hc : n ≤ cap) (hq : q < n - i) : i + q < cap := by omega
/-- at the end: the rest of the row is made empty -/
theorem DelI.fin {L l : List (List UInt8)} {f : Nat → Value} {i g cap B : Nat} {w1 wr : World} (h : DelI L l f i l.length) (hR : Row wr g 9 cap f) (hlc : l.length ≤ cap) (hg : B ≤ g) (hgl : g < w1.heap.size) (hb : But g w1 wr) :
    LsN (wr.setCells g i (List.replicate (l.length - i) (.string ⟨#[]⟩))) (fun k => B ≤ k ∧ k < (wr.setCells g i (List.replicate (l.length - i) (.string ⟨#[]⟩))).heap.size) (.slice (some ⟨g, 0, none⟩) i cap) (l.filter (hasB L)) ∧ Below B w1 (wr.setCells g i (List.replicate (l.length - i) (.string ⟨#[]⟩))) := by
  have hR3 := Row.setCells (List.replicate (l.length - i) (.string ⟨#[]⟩)) i wr f hR
  have hB3 := hb.setCells i (List.replicate (l.length - i) (.string ⟨#[]⟩))
  have hlen := h.len
  have hlow := h.low
  have hlt := h.lt
  rw [kept_end] at hlen hlow
  refine ⟨⟨some ⟨g, 0, none⟩, cap, by rw [← hlen], by rw [← hlen]; omega, fun _ => ⟨g, 0, rfl, ⟨hg, by rw [hB3.size]; exact hgl⟩, fun j hj => ?_⟩⟩, hB3.below hg⟩
  rw [← hlen] at hj
  rw [Nat.zero_add, hR3.cell (by omega), if_neg (by omega), hlow j hj]

set_option maxRecDepth 20000 in
set_option maxHeartbeats 2000000 in
/-- the names of a list of the caller's own that may be -/
theorem DelF_any (v : Value) (l : List (List UInt8)) (b p : Nat) (L : List (List UInt8)) (w : World) (B : Nat) (N : Nat → Prop) (hN : ∀ k, N k → k < B) (hbB : b < B) (hB : B ≤ w.heap.size) (hl : l.length ≤ 8796093022208) (hL : L.length ≤ 8796093022208) (hv : OwnS w B v l) (h : LsP w N p L) (hb : w.cell? ⟨b, 0, none⟩ = some (.func (.func 188) #[] #[.pointer (some ⟨p, 0, none⟩)])) :
    Calls Tryz.prog 184 #[v, .func (.func 185) #[] #[.pointer (some ⟨b, 0, none⟩)]] w fun e w' => ∃ v', e = .returned v' ∧ LsN w' (fun k => B ≤ k ∧ k < w'.heap.size) v' (l.filter (hasB L)) ∧ Below B w w' := by
  have hI := idxF_any v l b p L w w.heap.size N (fun k hk => Nat.lt_of_lt_of_le (hN k hk) hB) hl hL hv.ls h hb
  have hA := fun (x : List UInt8) (w' : World) (hw : Below B w w') => notMay_any x b p L w' N (fun k hk => Nat.lt_of_lt_of_le (hN k hk) (Nat.le_trans hB hw.size)) hL (h.keep (fun k hk => ⟨hw.block k (hN k hk), hk⟩)) ((hw.cell (p := ⟨b, 0, none⟩) hbB).trans hb)
  have HI := hide hI
  have HA := hide hA
  have HL := hide hl
  have hrow := hv.row
  clear hI hA hb h hv hL hl hN
  rcases hrow with ⟨rfl, rfl⟩ | ⟨g, cap, f, rfl, hg, hgl, hlc, hR, hf⟩
  · go_enter Tryz.func184, Tryz.ntmps184
    go_wp2_with fail
    refine (unhide HI).mono ?_
    rintro e w1 ⟨rfl, ⟨_, rfl⟩ | ⟨k, hk, _⟩⟩
    · go_wp2_with fail
      go_ret
      exact ⟨_, rfl, ⟨none, 0, rfl, Nat.le_refl _, fun h => absurd h (Nat.not_lt_zero _)⟩, Below.refl _ _⟩
    · exact absurd hk (Nat.not_lt_zero _)
  · go_enter Tryz.func184, Tryz.ntmps184
    go_wp2_with fail
    refine (unhide HI).mono ?_
    rintro e w1 ⟨rfl, ⟨hall, rfl⟩ | ⟨k, hk, hbk, hall, rfl⟩⟩
    · have hfin : LsN w1 (fun k => B ≤ k ∧ k < w1.heap.size) (.slice (some ⟨g, 0, none⟩) l.length cap) (l.filter (hasB L)) := by
        rw [filter_all hall]
        exact ⟨_, _, rfl, hlc, fun _ => ⟨g, 0, rfl, ⟨hg, hgl⟩, fun j hj => by rw [Nat.zero_add, hR.cell (by omega), hf j hj]⟩⟩
      have HF := hide hfin
      clear hfin hall hR hf
      go_wp2_with fail
      go_ret
      exact ⟨_, rfl, unhide HF, Below.refl _ _⟩
    · have hD0 := DelI.start hk hall hbk hf
      have HD0 := hide hD0
      have HR := hide hR
      have HW0 := hide (w64j hk (unhide HL))
      have hkm : ¬ ((k : Int) = -1) := by omega
      clear hD0 hall hbk hf hR
      go_wp2_with fail
      go_loopg [5, 6] (l.length - (k + 1)) (fun q vi vj wr => ∃ (i j : Nat) (f : Nat → Value), vi = .int .i64 (i : Nat) ∧ vj = .int .i64 (j : Nat) ∧ j + q = l.length ∧ Row wr g 9 cap f ∧ DelI L l f i j ∧ But g w1 wr)
      case atStart =>
        have hkl : k + 1 + (l.length - (k + 1)) = l.length := Nat.add_sub_cancel' hk
        exact ⟨k, k + 1, f, rfl, num1 (unhide HW0), hkl, unhide HR, unhide HD0, But.refl _ _⟩
      case round =>
        clear HD0 HR HW0 hkm
        obtain ⟨i, j, f2, rfl, rfl, hq, hR2, hD, hBut⟩ := hrel
        have hij := hD.lt
        have hjl := hD.le
        have HD := hide hD
        by_cases hlt : j < l.length
        · have hjI : (j : Int) < (l.length : Int) := Int.ofNat_lt.2 hlt
          have hwj := w64j hlt (unhide HL)
          have hwi := w64j (Nat.lt_trans hij hlt) (unhide HL)
          have hc := hR2.cell (j := j) (Nat.lt_of_lt_of_le hlt hlc)
          rw [hD.high j (Nat.le_refl _) hlt, sv_def] at hc
          have hci := hR2.cell (j := i) (Nat.lt_of_lt_of_le (Nat.lt_trans hij hlt) hlc)
          have hfz := hR2.frozen i
          have hiI : (i : Int) < (l.length : Int) := Int.ofNat_lt.2 (Nat.lt_trans hij hlt)
          have HX := hide (unhide HA (l.getD j []) wr (hBut.below hg))
          have HR2 := hide hR2
          have HBut := hide hBut
          generalize hxx : l.getD j [] = x at hc HX
          have HXX := hide hxx
          clear hxx hD hR2 hBut
          cases hb : hasB L x with
          | true =>
            rw [hb] at HX
            go_wp2_with (go_at_call 185; refine (unhide HX).mono ?_; rintro e w2 ⟨rfl, rfl⟩)
            go_roundg (gk - 1)
            case measure => omega
            case rel => exact ⟨i + 1, j + 1, _, by first | exact num1 hwi | rfl, by first | exact num1 hwj | rfl, by omega, (unhide HR2).set i _, by have := (unhide HD).yes hlt (by rw [unhide HXX]; exact hb); rw [unhide HXX] at this; exact this, (unhide HBut).setCell _ _⟩
          | false =>
            rw [hb] at HX
            go_wp2_with (go_at_call 185; refine (unhide HX).mono ?_; rintro e w2 ⟨rfl, rfl⟩)
            go_roundg (gk - 1)
            case measure => omega
            case rel => exact ⟨i, j + 1, f2, rfl, by first | exact num1 hwj | rfl, by omega, unhide HR2, (unhide HD).no hlt (by rw [unhide HXX]; exact hb), unhide HBut⟩
        · have hjn : j = l.length := Nat.le_antisymm hjl (Nat.le_of_not_lt hlt)
          subst hjn
          have hiI : (i : Int) ≤ (l.length : Int) := Int.ofNat_le.2 (Nat.le_of_lt hij)
          have hcI : (l.length : Int) ≤ (cap : Int) := Int.ofNat_le.2 hlc
          have HR2 := hide hR2
          have HBut := hide hBut
          have HIJ := hide hij
          have HLC := hide hlc
          clear hR2 hBut HA HI hD hq hjl
          have hclr := Lib.run_clear_slice (P := Tryz.prog) wr 35 9 0 (.string ⟨#[]⟩) Tryz.underlying35 zero9 rfl rfl g i (l.length - i) (cap - i) (Nat.sub_pos_of_lt (unhide HIJ)) (fun q hq => by rw [(unhide HR2).cell (del_lt (unhide HIJ) (unhide HLC) hq)]; rfl) (fun q _ => (unhide HR2).frozen _)
          have hfin := (unhide HD).fin (unhide HR2) (unhide HLC) hg hgl (unhide HBut)
          have HF := hide hfin
          generalize wr.setCells g i (List.replicate (l.length - i) (.string ⟨#[]⟩)) = wz at *
          clear hfin
          go_wp2_with fail
          go_ret
          exact ⟨_, rfl, unhide HF⟩
end Go.Proofs.YtkmkkmdpjliifaaGreatDoor
namespace Go.Proofs.YtkmkkmdpjliifaaGreatDoor
open Go.ChangeShapes Go.WideShapes Go.ChangeAt Go.RowKit

/-- may a name be, and is it of all? -/
def mayC (all L : List (List UInt8)) (x : List UInt8) : Bool := hasB L x && hasB all x

set_option maxRecDepth 20000 in
set_option maxHeartbeats 1000000 in
theorem mayC_any (x : List UInt8) (b b2 p : Nat) (va : Value) (all L : List (List UInt8)) (w : World) (N : Nat → Prop) (hN : ∀ k, N k → k < w.heap.size) (hl : L.length ≤ 8796093022208) (hl2 : all.length ≤ 8796093022208) (h : LsP w N p L) (hva : Ls w w.heap.size va all)
    (hb : w.cell? ⟨b, 0, none⟩ = some (.func (.func 188) #[] #[.pointer (some ⟨p, 0, none⟩)])) (hb2 : w.cell? ⟨b2, 0, none⟩ = some va) :
    Calls Tryz.prog 186 #[.string ⟨x.toArray⟩, .pointer (some ⟨b, 0, none⟩), .pointer (some ⟨b2, 0, none⟩)] w fun e w' => e = .returned (.bool (mayC all L x)) ∧ w' = w := by
  have HC := hide (among_any x p L w N hN hl h)
  have HD := hide (Contains_any va all x w w.heap.size hl2 hva)
  obtain ⟨a, c, rfl, _⟩ := hva
  clear hl h hN hl2
  unfold mayC
  cases hx : hasB L x with
  | true =>
    rw [hx] at HC
    have hy : (!(List.range all.length).all (fun k => all.getD k [] != x)) = hasB all x := rfl
    rw [hy] at HD
    generalize hasB all x = y at *
    clear hx hy
    go_enter Tryz.func186, Tryz.ntmps186
    go_wp2_with (first | (go_at_call 188; refine (unhide HC).mono ?_; rintro e w1 ⟨rfl, rfl⟩) | (go_at_call 135; refine (unhide HD).mono ?_; rintro e w1 ⟨rfl, rfl⟩))
    go_ret
    exact ⟨rfl, rfl⟩
  | false =>
    rw [hx] at HC
    clear hx HD
    go_enter Tryz.func186, Tryz.ntmps186
    go_wp2_with (first | (go_at_call 188; refine (unhide HC).mono ?_; rintro e w1 ⟨rfl, rfl⟩))
    go_ret
    exact ⟨rfl, rfl⟩

/-- are there names, all of which may be, and are of all? -/
def someC (l all L : List (List UInt8)) : Bool := (List.range l.length).all (fun k => mayC all L (l.getD k [])) && decide (0 < l.length)

set_option maxRecDepth 20000 in
set_option maxHeartbeats 1000000 in
theorem areSomeC_any (v : Value) (l : List (List UInt8)) (b b2 p : Nat) (va : Value) (all L : List (List UInt8)) (w : World) (B : Nat) (N : Nat → Prop) (hN : ∀ k, N k → k < w.heap.size) (hl : l.length ≤ 8796093022208) (hL : L.length ≤ 8796093022208) (hl2 : all.length ≤ 8796093022208) (hv : Ls w B v l) (h : LsP w N p L) (hva : Ls w w.heap.size va all)
    (hb : w.cell? ⟨b, 0, none⟩ = some (.func (.func 188) #[] #[.pointer (some ⟨p, 0, none⟩)])) (hb2 : w.cell? ⟨b2, 0, none⟩ = some va) :
    Calls Tryz.prog 96 #[v, .func (.func 186) #[] #[.pointer (some ⟨b, 0, none⟩), .pointer (some ⟨b2, 0, none⟩)]] w fun e w' => e = .returned (.bool (someC l all L)) ∧ w' = w := by
  obtain ⟨a, c, rfl, hle, hv⟩ := hv
  have HV := hide hv
  have HL := hide hl
  have HA := hide (fun x => mayC_any x b b2 p va all L w N hN hL hl2 h hva hb hb2)
  clear hv hl hL hle h hN hl2 hva hb hb2
  go_enter Tryz.func96, Tryz.ntmps96
  go_wp2_with fail
  go_loopg [9] l.length (fun q i wr => ∃ k : Nat, k + q = l.length ∧ i = .int .i64 (k : Nat) ∧ (∀ j, j < k → mayC all L (l.getD j []) = true) ∧ wr = w)
  case atStart => exact ⟨0, Nat.zero_add _, rfl, fun j hj => absurd hj (Nat.not_lt_zero _), rfl⟩
  case round =>
    obtain ⟨k, hk, rfl, hall, rfl⟩ := hrel
    have HALL := hide hall
    clear hall
    by_cases hlt : k < l.length
    · have hkI : (k : Int) < (l.length : Int) := by omega
      have hw : wrap64 ((k : Int) + 1) = (k : Int) + 1 := w64 _ (by omega) (by have := unhide HL; omega)
      obtain ⟨g, o, rfl, hg, hc⟩ := unhide HV (by omega)
      have hck := hc k hlt
      rw [sv_def] at hck
      have HX := hide (unhide HA (l.getD k []))
      generalize hxx : l.getD k [] = x at hck HX
      have HXX := hide hxx
      clear hc hxx
      cases hb : mayC all L x with
      | true =>
        rw [hb] at HX
        go_wp2_with (go_at_call 186; refine (unhide HX).mono ?_; rintro e w1 ⟨rfl, rfl⟩)
        go_roundg (gk - 1)
        case measure => omega
        case rel => exact ⟨k + 1, by omega, by first | exact num1 hw | rfl, fun j hj => by
          by_cases e : j = k
          · subst e; rw [unhide HXX]; exact hb
          · exact unhide HALL j (by omega), rfl⟩
      | false =>
        rw [hb] at HX
        go_wp2_with (go_at_call 186; refine (unhide HX).mono ?_; rintro e w1 ⟨rfl, rfl⟩)
        go_ret
        refine ⟨ret_bool ?_, rfl⟩
        unfold someC
        rw [all_false hlt (by rw [unhide HXX]; exact hb)]
        rfl
    · have hkn : k = l.length := by omega
      subst hkn
      clear hk
      go_wp2_with fail
      go_ret
      refine ⟨ret_bool ?_, rfl⟩
      unfold someC
      rw [all_true (unhide HALL)]
      simp

theorem Ls.nil0 (w : World) (B : Nat) : Ls w B (.slice none 0 0) [] := ⟨none, 0, rfl, Nat.le_refl _, fun h => absurd h (Nat.not_lt_zero _)⟩
theorem LsN.nil0 (w : World) (N : Nat → Prop) : LsN w N (.slice none 0 0) [] := ⟨none, 0, rfl, Nat.le_refl _, fun h => absurd h (Nat.not_lt_zero _)⟩
/-- the names that are chosen -/
def chooseL (all told L : List (List UInt8)) : List (List UInt8) :=
  if told.length = 0 then all.filter (hasB L) else if someC told all L = true then told else []

set_option maxRecDepth 20000 in
set_option maxHeartbeats 2000000 in
theorem choose_any (va vt : Value) (all told : List (List UInt8)) (p : Nat) (L : List (List UInt8)) (w : World) (M : Nat → Prop) (hM : ∀ k, M k → k < w.heap.size) (N : Nat → Prop) (hN : ∀ k, N k → k < w.heap.size) (hl1 : all.length ≤ 8796093022208) (hl2 : told.length ≤ 8796093022208) (hl3 : L.length ≤ 8796093022208) (ha : Ls w w.heap.size va all) (ht : LsN w M vt told) (h : LsP w N p L) :
    Calls Tryz.prog 146 #[va, vt, .func (.func 188) #[] #[.pointer (some ⟨p, 0, none⟩)]] w fun e w' => ∃ v', e = .returned v' ∧ LsN w' (fun k => (M k ∨ w.heap.size ≤ k) ∧ k < w'.heap.size) v' (chooseL all told L) ∧ Below w.heap.size w w' := by
  obtain ⟨w2, hw2⟩ : ∃ w2, w2 = (w.alloc (.cells #[va] 35)).alloc (.cells #[.func (.func 188) #[] #[.pointer (some ⟨p, 0, none⟩)]] 133) := ⟨_, rfl⟩
  have hb2 : Below w.heap.size w w2 := by rw [hw2]; exact ((Below.refl _ _).alloc (Nat.le_refl _) _).alloc (by simp) _
  have hs2 : w2.heap.size = w.heap.size + 2 := by rw [hw2]; simp
  have c1 : w2.cell? ⟨w.heap.size, 0, none⟩ = some va := by rw [hw2]; simp
  have c2 : w2.cell? ⟨w.heap.size + 1, 0, none⟩ = some (.func (.func 188) #[] #[.pointer (some ⟨p, 0, none⟩)]) := by rw [hw2]; simp
  have ha2 := ha.below hb2
  have ht2 := (ht.ls hM).below hb2
  have h2 : LsP w2 N p L := h.keep (fun k hk => ⟨hb2.block k (hN k hk), hk⟩)
  have hS := areSomeC_any vt told (w.heap.size + 1) w.heap.size p va all L w2 w.heap.size N (fun k hk => by have := hN k hk; omega) hl2 hl3 hl1 ht2 h2 (ha2.up (by omega)) c2 c1
  have hC := CloneO_any va all w2 w.heap.size (by omega) hl1 ha2
  have hD := fun (v : Value) (w3 : World) (hv : OwnS w3 w2.heap.size v all) (hb3 : Below w2.heap.size w2 w3) => DelF_any v all (w.heap.size + 1) p L w3 w2.heap.size N (fun k hk => by have := hN k hk; omega) (by omega) hb3.size hl1 hl3 hv (h2.keep (fun k hk => ⟨hb3.block k (by have := hN k hk; omega), hk⟩)) ((hb3.cell (p := ⟨w.heap.size + 1, 0, none⟩) (show w.heap.size + 1 < w2.heap.size by omega)).trans c2)
  have HS := hide hS
  have HC := hide hC
  have HD := hide hD
  have HB2 := hide hb2
  have HW2 := hide hw2
  have hn2 : LsN w2 (fun k => (M k ∨ w.heap.size ≤ k) ∧ k < w2.heap.size) vt told := ht.keep (fun k hk => ⟨hb2.block k (hM k hk), Or.inl hk, by have := hM k hk; omega⟩)
  have HT2 := hide hn2
  obtain ⟨a, c, rfl, _⟩ := ha
  obtain ⟨a', c', rfl, _⟩ := ht
  unfold chooseL
  clear hS hC hD hb2 hw2 h h2 ha2 ht2 hn2 hl1 hl2 hl3 hN
  by_cases h0 : told.length = 0
  · rw [if_pos h0]
    have h0I : ((told.length : Nat) : Int) = 0 := by omega
    have h0n : told.length = 0 := h0
    clear HS HT2 h0
    go_enter Tryz.func146, Tryz.ntmps146
    go_wp2_with fail
    rw [← unhide HW2]
    refine (unhide HC).mono ?_
    rintro e w3 ⟨v', rfl, hO, hb3⟩
    have HD2 := hide (unhide HD v' w3 hO hb3)
    have HB3 := hide hb3
    clear HC HD hO hb3 HW2
    go_wp2_with fail
    refine (unhide HD2).mono ?_
    rintro e w4 ⟨v4, rfl, hL4, hb4⟩
    have HF : Hid (LsN w4 (fun k => (M k ∨ w.heap.size ≤ k) ∧ k < w4.heap.size) v4 (all.filter (hasB L)) ∧ Below w.heap.size w w4) := ⟨hL4.keep (fun k hk => ⟨rfl, Or.inr (by have := hk.1; omega), hk.2⟩), ((unhide HB2).trans ((unhide HB3).mono (by omega))).trans (hb4.mono (by omega))⟩
    clear HD2 hL4 hb4 HB3
    go_wp2_with fail
    go_ret
    exact ⟨_, rfl, unhide HF⟩
  · rw [if_neg h0]
    have h0I : ¬ ((told.length : Nat) : Int) = 0 := by omega
    clear HC HD
    generalize hsc : someC told all L = sc at *
    have HSC := hide hsc
    clear hsc
    cases sc with
    | true =>
      go_enter Tryz.func146, Tryz.ntmps146
      go_wp2_with fail
      rw [← unhide HW2]
      refine (unhide HS).mono ?_
      rintro e w3 ⟨rfl, rfl⟩
      clear HS HW2
      go_wp2_with fail
      go_ret
      exact ⟨_, rfl, by first | exact unhide HT2 | (rw [if_pos rfl]; exact unhide HT2), unhide HB2⟩
    | false =>
      go_enter Tryz.func146, Tryz.ntmps146
      go_wp2_with fail
      rw [← unhide HW2]
      refine (unhide HS).mono ?_
      rintro e w3 ⟨rfl, rfl⟩
      clear HS HW2
      go_wp2_with fail
      go_ret
      exact ⟨_, rfl, by first | exact LsN.nil0 _ _ | (rw [if_neg (by decide)]; exact LsN.nil0 _ _), unhide HB2⟩
end Go.Proofs.YtkmkkmdpjliifaaGreatDoor
namespace Go.Proofs.YtkmkkmdpjliifaaGreatDoor
open Go.ChangeShapes Go.WideShapes Go.ChangeAt Go.RowKit

/-- an append, by what it comes to -/
theorem appLaw2 {w : World} {ops : Array Oper} {rest : List Oper} {o : Oper} {a : Act} {Q : Exit → Act → World → Prop} (hgd : o.guard = none) (s x : Operand) {t t2 : TypeId}
    (ho : o.op = .call { callee := .builtin .append, args := #[s, x], argTypes := #[t, t2] }) {vs vx v' : Value} {w' : World} (hs : a.eval s = vs) (hx : a.eval x = vx)
    (hrun : (Builtin.append_ #[t, t2] o.type #[vs, vx]).run Tryz.prog w = .ok v' w')
    (h : wpList Tryz.prog ops Q rest (a.put o.dst v') w') : wpList Tryz.prog ops Q (o :: rest) a w := by
  refine wpList_plain hgd fun K hK' => ?_
  unfold Oper.wp
  simp [execOp, ho, resolve, invoke, builtin, hs, hx, hrun, Result.andThen]
  exact hK' _ _ h
/-- what a row that the call owns holds, cell by cell -/
theorem svs_append (a b : List (List UInt8)) : svs (a ++ b) = svs a ++ svs b := by simp [svs]
/-- names put behind a list of the call's own -/
theorem append_onto {w : World} {v0 v : Value} {b0 B : Nat} {l0 l : List (List UInt8)} (hb0 : b0 ≤ w.heap.size) (h0 : OwnS w b0 v0 l0) (hl0 : l0.length ≤ 1000) (hl : l.length ≤ 1000) (hv : Ls w B v l) (ty : TypeId) :
    ∃ v' w', (Builtin.append_ #[35, 35] ty #[v0, v]).run Tryz.prog w = .ok v' w' ∧ OwnS w' b0 v' (l0 ++ l) ∧ w.grownBy w' v0.ownBlock := by
  obtain ⟨a1, c1, rfl, hle, hv⟩ := hv
  obtain ⟨i0, hi, hz0, hz1, hz2⟩ := info_parts info9
  have key : ∀ a : Addr, (∀ j u, (svs l)[j]? = some u → w.cell? (a.add j) = some u) → ∃ v' w', (Builtin.append_ #[35, 35] ty #[v0, .slice (some a) l.length c1]).run Tryz.prog w = .ok v' w' ∧ OwnS w' b0 v' (l0 ++ l) ∧ w.grownBy w' v0.ownBlock := fun a ha => by
    obtain ⟨v', w', hrun, ho, hgr, _⟩ := run_append_own (P := Tryz.prog) w b0 35 ty 9 i0 _ 1 16 Tryz.underlying35 hi hz0 hz1 hz2 rfl (by decide) v0 l0.length (svs l0) h0 a l.length c1 (svs l) (by simp [svs]) ha (fun u hu => by
        obtain ⟨x, _, rfl⟩ := List.mem_map.1 hu
        rfl) (by unfold maxLen; omega) (by omega) hb0
    refine ⟨v', w', hrun, ?_, hgr⟩
    unfold OwnS
    rw [List.length_append, svs_append]
    exact ho
  by_cases hp : 0 < l.length
  · obtain ⟨g, o, rfl, hg, hc⟩ := hv hp
    exact key _ (fun j u hu => by
      have hj : j < l.length := by
        rcases Nat.lt_or_ge j l.length with h | h
        · exact h
        · rw [List.getElem?_eq_none (by simp [svs]; exact h)] at hu; cases hu
      rw [svs_get l j hj] at hu
      rw [add_plain, hc j hj, hu])
  · have : l = [] := List.length_eq_zero_iff.1 (by omega)
    subst this
    cases a1 with
    | some a => exact key a (fun j u hu => by simp [svs] at hu)
    | none =>
      refine ⟨v0, w, ?_, by rw [List.append_nil]; exact h0, ⟨rfl, rfl, rfl, Nat.le_refl _, fun _ _ _ => rfl⟩⟩
      obtain ⟨h1, h2⟩ := h0
      rcases h2 with ⟨rfl, h3⟩ | ⟨g, cap, cur, rfl, _, _, hn, _⟩
      · simp [Builtin.append_, run_underlying Tryz.underlying35, sizeOf, typeInfo, hi, Builtin.lenOf, Builtin.firstCells]
      · simp [Builtin.append_, run_underlying Tryz.underlying35, sizeOf, typeInfo, hi, Builtin.lenOf, Builtin.firstCells, storeCells, hn]

set_option maxRecDepth 20000 in
set_option maxHeartbeats 1000000 in
theorem Grow_any (n : Nat) (hn : n ≤ 1000) (w : World) :
    Calls Tryz.prog 147 #[.slice none 0 0, .int .i64 (n : Nat)] w fun e w' => ∃ v', e = .returned v' ∧ OwnS w' w.heap.size v' [] ∧ Below w.heap.size w w' := by
  obtain ⟨i0, hi, hz0, hz1, hz2⟩ := info_parts info9
  have h1 : ¬ ((n : Int) < 0) := by omega
  have h2 : wrap64 ((n : Int) - 0) = (n : Int) := by rw [w64 _ (by omega) (by omega)]; omega
  by_cases h0 : n = 0
  · subst h0
    go_enter Tryz.func147, Tryz.ntmps147
    go_wp2_with fail
    go_ret
    exact ⟨_, rfl, OwnS.nil _ _, Below.refl _ _⟩
  · have h3 : ((n : Nat) : Int) > 0 := by omega
    have hr := Lib.run_append_grow_zeros (P := Tryz.prog) w 35 3 35 9 i0 _ .i64 .i64 Tryz.underlying35 Tryz.underlying3 hi hz0 none 0 0 [] (run_firstCells_none w.drew i0.size 0 0 0) n (by omega) (by omega) (by omega) (by omega) (by rw [hz2]; omega) (growslice_fits (by omega) (by rw [hz2]; omega))
    rw [Nat.zero_add] at hr
    have hge := grownCap_ge w n 0 9
    have hle := grownCap_le_maxLen w n 0 9 (by unfold maxLen; omega)
    have hG63 : ((grownCap w n 0 9 : Nat) : Int) ≤ 9223372036854775807 := by unfold maxLen at hle; omega
    have hfin : OwnS (w.drew.alloc (.cells (([] : List Value).toArray ++ Builtin.zeroCells (Value.string ⟨#[]⟩).cells n ++ Builtin.zeroCells (Value.string ⟨#[]⟩).cells (grownCap w n 0 9 - n)) 9)) w.heap.size (.slice (some ⟨w.heap.size, 0, none⟩) 0 (grownCap w n 0 9)) [] := by
      refine ⟨rfl, Or.inr ⟨w.heap.size, grownCap w n 0 9, _, rfl, Nat.le_refl _, heap_alloc_new w.drew _, Nat.zero_le _, hle, ?_, ?_⟩⟩
      · have h1 : (Value.string ⟨#[]⟩).cells.size = 1 := rfl
        simp [size_zeroCells, h1]
        omega
      · simp [svs]
    have hb : Below w.heap.size w (w.drew.alloc (.cells (([] : List Value).toArray ++ Builtin.zeroCells (Value.string ⟨#[]⟩).cells n ++ Builtin.zeroCells (Value.string ⟨#[]⟩).cells (grownCap w n 0 9 - n)) 9)) := (Below.refl _ _).drew.alloc (Nat.le_refl _) _
    generalize w.drew.alloc (.cells (([] : List Value).toArray ++ Builtin.zeroCells (Value.string ⟨#[]⟩).cells n ++ Builtin.zeroCells (Value.string ⟨#[]⟩).cells (grownCap w n 0 9 - n)) 9) = wz at *
    generalize grownCap w n 0 9 = cap at *
    have HF := hide (And.intro hfin hb)
    clear hfin hb hle
    go_enter Tryz.func147, Tryz.ntmps147
    go_wp2_with (at_builtin; refine appLaw2 rfl _ _ rfl rfl rfl hr ?_)
    go_ret
    exact ⟨_, rfl, (unhide HF).1, (unhide HF).2⟩

set_option maxRecDepth 20000 in
set_option maxHeartbeats 2000000 in
/-- two lists, one behind the other -/
theorem Concat_any (g : Nat) (va vb : Value) (la lb : List (List UInt8)) (w : World) (hla : la.length ≤ 500) (hlb : lb.length ≤ 500) (c0 : w.cell? ⟨g, 0, none⟩ = some va) (c1 : w.cell? ⟨g, 1, none⟩ = some vb) (hg : g < w.heap.size) (ha : Ls w w.heap.size va la) (hb : Ls w w.heap.size vb lb) :
    Calls Tryz.prog 110 #[.slice (some ⟨g, 0, none⟩) 2 2] w fun e w' => ∃ v', e = .returned v' ∧ OwnS w' w.heap.size v' (la ++ lb) ∧ Below w.heap.size w w' := by
  have HA := hide ha
  have HB := hide hb
  have HL := hide (And.intro hla hlb)
  obtain ⟨a1, d1, rfl, hx1⟩ := ha
  obtain ⟨a2, d2, rfl, hx2⟩ := hb
  clear hx1 hx2
  have w1 : wrap64 (la.length : Int) = ((la.length : Nat) : Int) := w64 _ (by omega) (by omega)
  have w2 : wrap64 ((la.length : Int) + (lb.length : Int)) = ((la.length + lb.length : Nat) : Int) := by rw [w64 _ (by omega) (by omega)]; omega
  have n1 : ¬ ((la.length : Nat) : Int) < 0 := by omega
  have n2 : ¬ ((la.length + lb.length : Nat) : Int) < 0 := by omega
  have HG := hide (Grow_any (la.length + lb.length) (by omega))
  clear hla hlb
  generalize la.length + lb.length = tot at *
  go_enter Tryz.func110, Tryz.ntmps110
  go_wp2_with fail
  go_loopg [3, 11] 2 (fun q vs vi wr => wr = w ∧ ((q = 2 ∧ vs = .int .i64 0 ∧ vi = .int .i64 0) ∨ (q = 1 ∧ vs = .int .i64 (la.length : Nat) ∧ vi = .int .i64 1) ∨ (q = 0 ∧ vs = .int .i64 (tot : Nat) ∧ vi = .int .i64 2)))
  case atStart => exact ⟨rfl, Or.inl ⟨rfl, rfl, rfl⟩⟩
  case round =>
    obtain ⟨rfl, ⟨rfl, rfl, rfl⟩ | ⟨rfl, rfl, rfl⟩ | ⟨rfl, rfl, rfl⟩⟩ := hrel
    · go_wp2_with fail
      go_roundg 1
      case measure => omega
      case rel => exact ⟨rfl, Or.inr (Or.inl ⟨rfl, by first | rfl | exact congrArg (Value.int .i64) w1, rfl⟩)⟩
    · go_wp2_with fail
      go_roundg 0
      case measure => omega
      case rel => exact ⟨rfl, Or.inr (Or.inr ⟨rfl, by first | rfl | exact congrArg (Value.int .i64) w2, rfl⟩)⟩
    · go_wp2_with fail
      refine (unhide HG wr).mono ?_
      rintro e w1 ⟨v1, rfl, hO, hb1⟩
      have hs1 := hb1.size
      obtain ⟨v2, w2', hr2, hO2, hg2⟩ := append_onto (B := wr.heap.size) hs1 hO (by simp) (by have := unhide HL; omega) ((unhide HA).below hb1) 35
      have hb2 : Below wr.heap.size wr w2' := hb1.grown hg2 hs1 (fun k hk => (hO.lt k hk).1)
      rw [List.nil_append] at hO2
      obtain ⟨v3, w3', hr3, hO3, hg3⟩ := append_onto (B := wr.heap.size) hb2.size hO2 (by have := unhide HL; omega) (by have := unhide HL; omega) ((unhide HB).below hb2) 35
      have hb3 : Below wr.heap.size wr w3' := hb2.grown hg3 hb2.size (fun k hk => (hO2.lt k hk).1)
      have HF := hide (And.intro hO3 hb3)
      have HB1 := hide hb1
      have HB2 := hide hb2
      have HB3 := hide hb3
      have e0 : w1.cell? ⟨g, 0, none⟩ = some (.slice a1 la.length d1) := (hb1.cell (p := ⟨g, 0, none⟩) hg).trans c0
      have e1 : w2'.cell? ⟨g, 1, none⟩ = some (.slice a2 lb.length d2) := (hb2.cell (p := ⟨g, 1, none⟩) hg).trans c1
      clear hO hb1 hO2 hb2 hg2 hO3 hb3 hg3 HG HA HB c0 c1
      go_wp2_with fail
      go_loopg [6, 27] 2 (fun q v vi wz => (q = 2 ∧ v = v1 ∧ vi = .int .i64 0 ∧ wz = w1) ∨ (q = 1 ∧ v = v2 ∧ vi = .int .i64 1 ∧ wz = w2') ∨ (q = 0 ∧ v = v3 ∧ vi = .int .i64 2 ∧ wz = w3'))
      case atStart => exact Or.inl ⟨rfl, rfl, rfl, rfl⟩
      case round =>
        rcases hrel with ⟨rfl, rfl, rfl, rfl⟩ | ⟨rfl, rfl, rfl, rfl⟩ | ⟨rfl, rfl, rfl, rfl⟩
        · go_wp2_with (at_builtin; refine appLaw rfl _ _ rfl rfl rfl hr2 ?_)
          go_roundg 1
          case measure => omega
          case rel => exact Or.inr (Or.inl ⟨rfl, rfl, rfl, rfl⟩)
        · go_wp2_with (at_builtin; refine appLaw rfl _ _ rfl rfl rfl hr3 ?_)
          go_roundg 0
          case measure => omega
          case rel => exact Or.inr (Or.inr ⟨rfl, rfl, rfl, rfl⟩)
        · go_wp2_with fail
          go_ret
          exact ⟨_, rfl, unhide HF⟩
end Go.Proofs.YtkmkkmdpjliifaaGreatDoor
