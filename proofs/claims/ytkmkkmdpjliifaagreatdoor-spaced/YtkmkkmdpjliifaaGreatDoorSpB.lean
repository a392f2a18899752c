import Derived.Test.YtkmkkmdpjliifaaGreatDoorSpA
import Derived.Test.YtkmkkmdpjliifaaGreatDoorPlA
namespace Go.Proofs.YtkmkkmdpjliifaaGreatDoor
open Go.ChangeShapes Go.WideShapes Go.ChangeAt Go.RowKit

/-- the items of a list that is spelled by a raw number, the first k of them -/
def lsK (l : List (List UInt8)) (r : Int) : Nat → List UInt8
  | 0 => []
  | k + 1 => lsK l r k ++ (if k = 0 then [] else [44] ++ blkS (r.tdiv 2)) ++ blkS (r.tdiv 7) ++ spS (l.getD k []) (wrap64 (r + (k : Nat)))
/-- a list, spelled by a raw number -/
def lsdS (l : List (List UInt8)) (r : Int) : List UInt8 := [91] ++ lsK l r l.length ++ blkS (r.tdiv 5) ++ [93]
theorem lsK_len (l : List (List UInt8)) (r : Int) (h : ∀ k, (l.getD k []).length ≤ 64) : ∀ k, (lsK l r k).length ≤ 400 * k
  | 0 => Nat.zero_le _
  | k + 1 => by
    have h1 := lsK_len l r h k
    have h2 := blkS_len (r.tdiv 2)
    have h3 := blkS_len (r.tdiv 7)
    have h4 := spS_len (l.getD k []) (wrap64 (r + (k : Nat)))
    have h5 := h k
    rw [lsK]
    split <;> simp only [List.length_append, List.length_cons, List.length_nil] <;> omega

set_option maxRecDepth 20000 in
set_option maxHeartbeats 2000000 in
theorem listedK_any (v : Value) (l : List (List UInt8)) (r : Int) (w : World) (B : Nat) (hB : B ≤ w.heap.size) (hl : l.length ≤ 64) (hn : ∀ k, (l.getD k []).length ≤ 64) (hr : -9223372036854775808 ≤ r ∧ r ≤ 9223372036854775807) (hv : Ls w B v l) :
    Calls Tryz.prog 25 #[v, .int .i64 r] w fun e w' => e = .returned (.string ⟨(lsdS l r).toArray⟩) ∧ Below w.heap.size w w' := by
  have HV := hide hv
  obtain ⟨a, c, rfl, hle, hx⟩ := hv
  have HL := hide hl
  have HN := hide hn
  have HLK := hide (lsK_len l r hn)
  have HR := hide hr
  clear hl hle hx hn hr
  go_enter Tryz.func25, Tryz.ntmps25
  go_wp2_with fail
  go_loopg [5, 6] l.length (fun q o i wr => ∃ k : Nat, k + q = l.length ∧ o = .string ⟨([91] ++ lsK l r k).toArray⟩ ∧ i = .int .i64 (k : Nat) ∧ Below w.heap.size w wr)
  case atStart => exact ⟨0, Nat.zero_add _, rfl, rfl, Below.refl _ _⟩
  case round =>
    obtain ⟨k, hk, rfl, rfl, hb⟩ := hrel
    have hlk := unhide HLK k
    have hlks : lsK l r (k + 1) = lsK l r k ++ (if k = 0 then [] else [44] ++ blkS (r.tdiv 2)) ++ blkS (r.tdiv 7) ++ spS (l.getD k []) (wrap64 (r + (k : Nat))) := rfl
    have HB := hide hb
    by_cases hlt : k < l.length
    · have hkI : (k : Int) < (l.length : Int) := by omega
      have hw := w64j hlt (by have := unhide HL; omega)
      have hk6 : k < 64 := Nat.lt_of_lt_of_le hlt (unhide HL)
      have hnk := unhide HN k
      have l2 := blkS_len (r.tdiv 2)
      have l7 := blkS_len (r.tdiv 7)
      have ls := spS_len (l.getD k []) (wrap64 (r + (k : Nat)))
      obtain ⟨hr2, hw2⟩ := tdiv_rng 2 (by decide) (unhide HR)
      obtain ⟨hr7, hw7⟩ := tdiv_rng 7 (by decide) (unhide HR)
      have hrk : -9223372036854775808 ≤ wrap64 (r + (k : Nat)) ∧ wrap64 (r + (k : Nat)) ≤ 9223372036854775807 := by
        unfold wrap64
        omega
      have HB2 := hide (fun u => blanks_any (r.tdiv 2) u hr2)
      have HB7 := hide (fun u => blanks_any (r.tdiv 7) u hr7)
      have HSP := hide (fun u => spelled_any (l.getD k []) (wrap64 (r + (k : Nat))) u (by omega) hrk)
      have hcell : ∃ g o, a = some ⟨g, o, none⟩ ∧ ∀ u, Below w.heap.size w u → u.cell? ⟨g, o + k, none⟩ = some (sv (l.getD k [])) := by
        obtain ⟨a2, c2, e, _, hxa⟩ := unhide HV
        obtain ⟨g, o, e2, hg, hxb⟩ := hxa (by omega)
        injection e with e3 e4 e5
        exact ⟨g, o, e3.trans e2, fun u hu => (hu.cell (p := ⟨g, o + k, none⟩) (Nat.lt_of_lt_of_le hg hB)).trans (hxb k hlt)⟩
      obtain ⟨g, o, rfl, hcell⟩ := hcell
      have HC := hide hcell
      have HLK1 := hide hlks
      generalize hy : l.getD k [] = y at *
      generalize hz : wrap64 (r + (k : Nat)) = z at *
      generalize hb2 : blkS (r.tdiv 2) = b2 at *
      generalize hb7 : blkS (r.tdiv 7) = b7 at *
      generalize hsp : spS y z = sp at *
      have hol : ([91] ++ lsK l r k).length ≤ 400 * 64 + 1 := by
        simp only [List.length_append, List.length_singleton]
        omega
      have hout : ∀ x, [91] ++ (lsK l r k ++ x) = ([91] ++ lsK l r k) ++ x := fun x => (List.append_assoc _ _ _).symm
      have HOUT := hide hout
      generalize [91] ++ lsK l r k = out at *
      have hspl : sp.length ≤ 400 := by omega
      clear hcell hlks hy hb2 hb7 hsp hrk hr2 hr7 hnk ls hlk hout hb
      by_cases hk0 : k = 0
      · have d0 : decide ((0 : Int) < (k : Int)) = false := decide_eq_false (by omega)
        have d0' : decide (0 < k) = false := decide_eq_false (by omega)
        have d1' : ¬ 0 < k := by omega
        have HK0 := hide hk0
        clear hk0
        have hc1 := cat_str out b7 _ rfl (by rw [List.length_append]; omega)
        have hc2 := cat_str (out ++ b7) sp _ rfl (by rw [List.length_append, List.length_append]; omega)
        have hck := (unhide HC) wr (unhide HB)
        rw [sv_def] at hck
        go_wp2_with fail
        rw [hz]
        refine (unhide HSP _).mono ?_
        rintro e w2 ⟨rfl, hbb2⟩
        have HB3 := hide ((unhide HB).trans (hbb2.mono (unhide HB).size))
        clear hbb2
        go_wp2_with fail
        refine (unhide HB7 _).mono ?_
        rintro e w3 ⟨rfl, hbb3⟩
        have HB4 := hide ((unhide HB3).trans (hbb3.mono (unhide HB3).size))
        clear hbb3
        go_wp2_with fail
        go_roundg (gk - 1)
        case measure => omega
        case rel => exact ⟨k + 1, by omega, congrArg (fun l : List UInt8 => Value.string ⟨l.toArray⟩) (by rw [unhide HLK1, if_pos (unhide HK0), List.append_nil, List.append_assoc, unhide HOUT]), by first | exact num1 hw | rfl, unhide HB4⟩
      · have d0 : decide ((0 : Int) < (k : Int)) = true := decide_eq_true (by omega)
        have d0' : decide (0 < k) = true := decide_eq_true (by omega)
        have d1' : 0 < k := by omega
        have HK0 := hide hk0
        clear hk0
        have hc0 := cat_str out [44] _ rfl (by rw [List.length_append, List.length_singleton]; omega)
        have hc1 := cat_str (out ++ [44]) b2 _ rfl (by rw [List.length_append, List.length_append, List.length_singleton]; omega)
        have hc2 := cat_str (out ++ [44] ++ b2) b7 _ rfl (by simp only [List.length_append, List.length_singleton]; omega)
        have hc3 := cat_str (out ++ [44] ++ b2 ++ b7) sp _ rfl (by simp only [List.length_append, List.length_singleton]; omega)
        go_wp2_with fail
        refine (unhide HB2 _).mono ?_
        rintro e w1 ⟨rfl, hbb1⟩
        have HB2' := hide ((unhide HB).trans (hbb1.mono (unhide HB).size))
        clear hbb1
        have hck := (unhide HC) w1 (unhide HB2')
        rw [sv_def] at hck
        go_wp2_with fail
        rw [hz]
        refine (unhide HSP _).mono ?_
        rintro e w2 ⟨rfl, hbb2⟩
        have HB3 := hide ((unhide HB2').trans (hbb2.mono (unhide HB2').size))
        clear hbb2
        go_wp2_with fail
        refine (unhide HB7 _).mono ?_
        rintro e w3 ⟨rfl, hbb3⟩
        have HB4 := hide ((unhide HB3).trans (hbb3.mono (unhide HB3).size))
        clear hbb3
        go_wp2_with fail
        go_roundg (gk - 1)
        case measure => omega
        case rel => exact ⟨k + 1, by omega, congrArg (fun l : List UInt8 => Value.string ⟨l.toArray⟩) (by rw [unhide HLK1, if_neg (unhide HK0), List.append_assoc, List.append_assoc, unhide HOUT]; simp), by first | exact num1 hw | rfl, unhide HB4⟩
    · have hke : k = l.length := by omega
      subst hke
      have l5 := blkS_len (r.tdiv 5)
      obtain ⟨hr5, hw5⟩ := tdiv_rng 5 (by decide) (unhide HR)
      have HB5 := hide (fun u => blanks_any (r.tdiv 5) u hr5)
      have HS : Hid (lsdS l r = [91] ++ lsK l r l.length ++ blkS (r.tdiv 5) ++ [93]) := rfl
      generalize blkS (r.tdiv 5) = b5 at *
      have hol : ([91] ++ lsK l r l.length).length ≤ 400 * 64 + 1 := by
        have := unhide HL
        simp only [List.length_append, List.length_singleton]
        omega
      generalize [91] ++ lsK l r l.length = out at *
      have hc1 := cat_str out b5 _ rfl (by rw [List.length_append]; omega)
      have hc2 := cat_str (out ++ b5) [93] _ rfl (by rw [List.length_append, List.length_append, List.length_singleton]; omega)
      clear hr5 hol hlk hlks hb
      go_wp2_with fail
      refine (unhide HB5 _).mono ?_
      rintro e w3 ⟨rfl, hbb3⟩
      have HB4 := hide ((unhide HB).trans (hbb3.mono (unhide HB).size))
      clear hbb3
      go_wp2_with fail
      go_ret
      exact ⟨by rw [unhide HS, List.append_assoc]; rfl, unhide HB4⟩
end Go.Proofs.YtkmkkmdpjliifaaGreatDoor
namespace Go.Proofs.YtkmkkmdpjliifaaGreatDoor
open Go.ChangeShapes Go.WideShapes Go.ChangeAt Go.RowKit

/- what is written otherwise is read -/
theorem skip_blank : ∀ (b l : List UInt8), b.all blankN = true → skipB (b ++ l) = skipB l
  | [], _, _ => rfl
  | c :: b, l, h => by
    rw [List.all_cons, Bool.and_eq_true] at h
    show skipB (c :: (b ++ l)) = _
    rw [skipB, if_pos h.1]
    exact skip_blank b l h.2
theorem spB_all : ∀ k, k < 6 → (spB.getD k []).all blankN = true := by decide
theorem blkS_all (r : Int) : (blkS r).all blankN = true := spB_all _ (pickN_lt r 6 (by decide)).1
theorem skip_blk (r : Int) (l : List UInt8) : skipB (blkS r ++ l) = skipB l := skip_blank _ _ (blkS_all r)
theorem sees_blk (c : UInt8) (r : Int) (l : List UInt8) : seesS c (blkS r ++ l) = seesS c l := by unfold seesS; rw [skip_blk]
theorem text_blk (r : Int) (l : List UInt8) : textS (blkS r ++ l) = textS l := by unfold textS; rw [sees_blk]
theorem num_blk (r : Int) (l : List UInt8) : numS (blkS r ++ l) = numS l := by unfold numS; rw [skip_blk]
theorem dk_blank : ∀ (b l : List UInt8), b.all blankN = true → dk l = 0 → dk (b ++ l) = 0
  | [], _, _, h => h
  | c :: b, l, h, _ => by
    rw [List.all_cons, Bool.and_eq_true] at h
    show dk (c :: (b ++ l)) = 0
    rw [dk, if_neg]
    have h1 := h.1
    unfold blankN at h1
    unfold digN
    simp only [Bool.or_eq_true, beq_iff_eq] at h1
    rcases h1 with ((rfl | rfl) | rfl) | rfl <;> decide
theorem dk_blk (r : Int) (l : List UInt8) (h : dk l = 0) : dk (blkS r ++ l) = 0 := dk_blank _ _ (blkS_all r) h
theorem hexU_one {n : Nat} (h : n < 16) : ∃ d : UInt8, hexU n = [d] ∧ hexN d = some n := by
  have : ∀ n, n < 16 → (match hexU n with | [d] => hexN d == some n | _ => false) = true := by decide
  have h2 := this n h
  revert h2
  split
  · rename_i d hd; intro h2; exact ⟨d, hd, by simpa using h2⟩
  · intro h2; cases h2
theorem piece_u (c d1 d2 : UInt8) (h : c.toNat < 128) (x1 : hexN d1 = some (c.toNat / 16)) (x2 : hexN d2 = some (c.toNat % 16)) (t : List UInt8) : pieceS (92 :: 117 :: 48 :: 48 :: d1 :: d2 :: t) = some ([c], t) := by
  have hp : pointS (48 :: 48 :: d1 :: d2 :: t) = some (c.toNat, t) := by
    have hx : hex4 (48 :: 48 :: d1 :: d2 :: t) = some (c.toNat, t) := by
      unfold hex4
      have z : hexN 48 = some 0 := by decide
      simp only [hexG, z, x1, x2]
      have : 16 * (16 * (16 * (16 * 0 + 0) + 0) + c.toNat / 16) + c.toNat % 16 = c.toNat := by omega
      rw [this]
    rw [pointS, hx]
    show (if c.toNat < 55296 ∨ 57344 ≤ c.toNat then some (c.toNat, t) else _) = _
    rw [if_pos (by omega)]
  rw [pieceS, if_neg (by decide), if_pos rfl, escS, if_neg (by decide), if_neg (by decide), if_neg (by decide), if_neg (by decide), if_neg (by decide), if_neg (by decide), if_pos rfl, hp]
  rw [Option.map_some, encB_one c h]
theorem piece_sp (c : UInt8) (n : Nat) (h : c.toNat < 128) (t : List UInt8) : pieceS (spB1 c n ++ t) = some ([c], t) ∧ ∃ d u, spB1 c n ++ t = d :: u ∧ d ≠ 34 := by
  unfold spB1
  by_cases h1 : 128 ≤ c.toNat ∨ (n = 0 ∧ 32 ≤ c.toNat ∧ c ≠ 34 ∧ c ≠ 92)
  · rw [if_pos h1]
    obtain ⟨_, h2, h3, h4⟩ := h1.resolve_left (by omega)
    have hf : fN (c :: t) = 1 := by rw [fN, if_pos (show by_ (c :: t) 0 < 128 from h)]
    refine ⟨?_, c, t, rfl, h3⟩
    show pieceS (c :: t) = _
    rw [pieceS, if_neg (by omega), if_neg h4, hf, if_neg (by decide)]
    rfl
  · rw [if_neg h1]
    by_cases h2 : n = 1
    · rw [if_pos h2]
      obtain ⟨d1, e1, x1⟩ := hexD_one (n := c.toNat / 16) (by omega)
      obtain ⟨d2, e2, x2⟩ := hexD_one (n := c.toNat % 16) (by omega)
      rw [e1, e2]
      exact ⟨piece_u c d1 d2 h x1 x2 t, 92, 117 :: 48 :: 48 :: d1 :: d2 :: t, rfl, by decide⟩
    · rw [if_neg h2]
      obtain ⟨d1, e1, x1⟩ := hexU_one (n := c.toNat / 16) (by omega)
      obtain ⟨d2, e2, x2⟩ := hexU_one (n := c.toNat % 16) (by omega)
      rw [e1, e2]
      exact ⟨piece_u c d1 d2 h x1 x2 t, 92, 117 :: 48 :: 48 :: d1 :: d2 :: t, rfl, by decide⟩
theorem spL_high : ∀ (a b : List UInt8) (r : Int), (∀ i, i < a.length → 128 ≤ by_ a i) → ∃ r', spL (a ++ b) r = a ++ spL b r'
  | [], b, r, _ => ⟨r, rfl⟩
  | c :: a, b, r, h => by
    have h0 : 128 ≤ c.toNat := h 0 (by simp)
    obtain ⟨r', e⟩ := spL_high a b (r.tdiv 3) (fun i hi => h (i + 1) (by simpa using hi))
    refine ⟨r', ?_⟩
    show spL (c :: (a ++ b)) r = _
    rw [spL, e, spB1, if_pos (Or.inl h0)]
    rfl
theorem txt_sp : ∀ (n : Nat) (s t : List UInt8) (r : Int), s.length ≤ n → vN s = true → txtS (spL s r ++ 34 :: t) = some (s, t) := by
  intro n
  induction n with
  | zero =>
    intro s t r hn hv
    have : s = [] := List.length_eq_zero_iff.1 (by omega)
    subst this
    show txtS (34 :: t) = _
    rw [txtS_cons, if_pos rfl]
  | succ n ih =>
    intro s t r hn hv
    cases s with
    | nil =>
      show txtS (34 :: t) = _
      rw [txtS_cons, if_pos rfl]
    | cons c s =>
      rw [vN_step _ (by simp)] at hv
      by_cases hf : fN (c :: s) = 0
      · rw [if_pos hf] at hv; cases hv
      · rw [if_neg hf] at hv
        have hle := fN_le (c :: s) (by simp)
        by_cases hc : c.toNat < 128
        · have h1 : fN (c :: s) = 1 := by rw [fN, if_pos (show by_ (c :: s) 0 < 128 from hc)]
          rw [h1] at hv
          have hi := ih s t (r.tdiv 3) (by simp at hn; omega) hv
          obtain ⟨hp, d, u, hd, hd34⟩ := piece_sp c (pickN r 3) hc (spL s (r.tdiv 3) ++ 34 :: t)
          rw [spL, List.append_assoc, hd, txtS_cons, if_neg hd34, ← hd, hp]
          show (txtS (spL s (r.tdiv 3) ++ 34 :: t)).map _ = _
          rw [hi]; rfl
        · have hh := fN_high (s := c :: s) (by omega) hc
          generalize hF : fN (c :: s) = F at *
          have hlen : ((c :: s).take F).length = F := by rw [List.length_take]; omega
          obtain ⟨r', hee⟩ := spL_high ((c :: s).take F) ((c :: s).drop F) r (fun i hi => by
              rw [hlen] at hi
              rw [by_take (by omega)]; exact hh i (by omega))
          rw [List.take_append_drop] at hee
          have hsp : spL (c :: s) r ++ 34 :: t = (c :: s).take F ++ (spL ((c :: s).drop F) r' ++ 34 :: t) := by
            rw [hee, List.append_assoc]
          have hi := ih ((c :: s).drop F) t r' (by rw [List.length_drop]; simp at hn ⊢; omega) hv
          have hfN : fN ((c :: s).take F ++ (spL ((c :: s).drop F) r' ++ 34 :: t)) = F := by
            have := fN_same (s := c :: s) (l := (c :: s).take F ++ (spL ((c :: s).drop F) r' ++ 34 :: t)) (by omega) (fun i hi => by
              rw [hF] at hi
              rw [by_app (by omega), by_take hi]) (by rw [List.length_append]; omega)
            rw [this, hF]
          rw [hsp]
          generalize hX : (c :: s).take F ++ (spL ((c :: s).drop F) r' ++ 34 :: t) = X at *
          obtain ⟨F', rfl⟩ : ∃ F', F = F' + 1 := ⟨F - 1, by omega⟩
          obtain ⟨u, rfl⟩ : ∃ u, X = c :: u := ⟨s.take F' ++ (spL ((c :: s).drop (F' + 1)) r' ++ 34 :: t), by rw [← hX]; rfl⟩
          have c34 : c ≠ 34 := by rintro rfl; simp at hc
          have c92 : c ≠ 92 := by rintro rfl; simp at hc
          have hp : pieceS (c :: u) = some ((c :: s).take (F' + 1), spL ((c :: s).drop (F' + 1)) r' ++ 34 :: t) := by
            rw [pieceS, if_neg (by omega), if_neg c92, hfN, if_neg (by omega), ← hX]
            rw [List.take_append_of_le_length (by omega), List.take_of_length_le (by omega), List.drop_append_of_le_length (by omega), List.drop_of_length_le (by omega), List.nil_append]
          rw [txtS_cons, if_neg c34, hp]
          show (txtS (spL ((c :: s).drop (F' + 1)) r' ++ 34 :: t)).map _ = _
          rw [hi]
          show some ((c :: s).take (F' + 1) ++ (c :: s).drop (F' + 1), t) = _
          rw [List.take_append_drop]
/-- a string that is spelled is read -/
theorem text_sp (s t : List UInt8) (r : Int) (h : vN s = true) : textS (spS s r ++ t) = some (s, t) := by
  unfold textS spS
  show (seesS 34 (34 :: (spL s r ++ [34] ++ t))).bind txtS = _
  rw [sees_hit 34 _ (by decide)]
  show txtS (spL s r ++ [34] ++ t) = _
  rw [List.append_assoc]
  exact txt_sp _ s t r (Nat.le_refl _) h
/-- the items of a list behind the first k -/
def tlS (r : Int) : Nat → List (List UInt8) → List UInt8
  | _, [] => []
  | k, x :: xs => [44] ++ blkS (r.tdiv 2) ++ blkS (r.tdiv 7) ++ spS x (wrap64 (r + (k : Nat))) ++ tlS r (k + 1) xs
theorem lsK_tl (l : List (List UInt8)) (r : Int) : ∀ (j k : Nat), 1 ≤ k → k + j = l.length → lsK l r l.length = lsK l r k ++ tlS r k (l.drop k)
  | 0, k, _, h => by
    rw [show l.drop k = [] from List.drop_of_length_le (by omega), tlS, List.append_nil, show k = l.length by omega]
  | j + 1, k, h1, h => by
    rw [lsK_tl l r j (k + 1) (by omega) (by omega), List.drop_eq_getElem_cons (by omega : k < l.length), tlS, lsK, if_neg (by omega)]
    have : l.getD k [] = l[k] := by rw [List.getD_eq_getElem?_getD, List.getElem?_eq_getElem (by omega)]; rfl
    rw [this]
    simp
theorem items_sp (r : Int) (t : List UInt8) : ∀ (xs : List (List UInt8)) (x : List UInt8) (k : Nat) (z : Int), (∀ y ∈ x :: xs, vN y = true) → itemsS (spS x z ++ (tlS r k xs ++ (blkS (r.tdiv 5) ++ 93 :: t))) = some (x :: xs, t)
  | [], x, k, z, h => by
    rw [itemsS_step, text_sp x _ _ (h x (by simp)), tlS, List.nil_append]
    dsimp only
    rw [sees_blk, sees_blk, sees_miss 44 93 t (by decide) (by decide), sees_hit 93 t (by decide)]
    rfl
  | y :: xs, x, k, z, h => by
    rw [itemsS_step, text_sp x _ _ (h x (by simp)), tlS]
    dsimp only
    have e : [44] ++ blkS (r.tdiv 2) ++ blkS (r.tdiv 7) ++ spS y (wrap64 (r + (k : Nat))) ++ tlS r (k + 1) xs ++ (blkS (r.tdiv 5) ++ 93 :: t) = 44 :: (blkS (r.tdiv 2) ++ (blkS (r.tdiv 7) ++ (spS y (wrap64 (r + (k : Nat))) ++ (tlS r (k + 1) xs ++ (blkS (r.tdiv 5) ++ 93 :: t))))) := by simp
    rw [e, sees_hit 44 _ (by decide)]
    dsimp only
    have hi := items_sp r t xs y (k + 1) (wrap64 (r + (k : Nat))) (fun z hz => h z (by simp at hz ⊢; exact Or.inr hz))
    rw [itemsS_step, text_blk, text_blk, ← itemsS_step, hi]
    rfl
/-- a list that is spelled is read -/
theorem list_sp (l : List (List UInt8)) (r : Int) (t : List UInt8) (h : ∀ y ∈ l, vN y = true) : listS (lsdS l r ++ t) = some (l, t) := by
  unfold listS lsdS
  have e : [91] ++ lsK l r l.length ++ blkS (r.tdiv 5) ++ [93] ++ t = 91 :: (lsK l r l.length ++ (blkS (r.tdiv 5) ++ 93 :: t)) := by simp
  rw [e, sees_hit 91 _ (by decide)]
  show restS (lsK l r l.length ++ (blkS (r.tdiv 5) ++ 93 :: t)) = _
  unfold restS
  cases l with
  | nil =>
    show (match seesS 93 (blkS (r.tdiv 5) ++ 93 :: t) with | some u => some ([], u) | none => itemsS (blkS (r.tdiv 5) ++ 93 :: t)) = _
    rw [sees_blk, sees_hit 93 _ (by decide)]
  | cons x xs =>
    have hl := lsK_tl (x :: xs) r xs.length 1 (Nat.le_refl _) (by simp; omega)
    rw [hl]
    have e1 : lsK (x :: xs) r 1 = blkS (r.tdiv 7) ++ spS x (wrap64 (r + ((0 : Nat) : Int))) := by
      rw [lsK, lsK, if_pos rfl]; rfl
    rw [e1, List.append_assoc, List.append_assoc]
    have e2 : ∀ X, ∃ u, spS x (wrap64 (r + ((0 : Nat) : Int))) ++ X = 34 :: u := fun X => ⟨spL x (wrap64 (r + ((0 : Nat) : Int))) ++ [34] ++ X, by simp [spS]⟩
    have hi := items_sp r t xs x 1 (wrap64 (r + ((0 : Nat) : Int))) h
    have hd : (x :: xs).drop 1 = xs := rfl
    rw [hd, sees_blk]
    obtain ⟨u, hu⟩ := e2 (tlS r 1 xs ++ (blkS (r.tdiv 5) ++ 93 :: t))
    rw [hu, sees_miss 93 34 u (by decide) (by decide), ← hu]
    dsimp only
    rw [itemsS_step, text_blk, ← itemsS_step]
    exact hi
end Go.Proofs.YtkmkkmdpjliifaaGreatDoor
namespace Go.Proofs.YtkmkkmdpjliifaaGreatDoor
open Go.ChangeShapes Go.WideShapes Go.ChangeAt Go.RowKit

/-- the text of a field, spelled by a raw number -/
def fldT (c : Cm) (r : Int) : Nat → List UInt8
  | 0 => spS jtiL r ++ blkS r ++ [58] ++ blkS (r.tdiv 3) ++ Lib.decDigits c.id
  | 1 => spS subL (r.tdiv 2) ++ [58] ++ spS c.sub (r.tdiv 4)
  | 2 => spS scpL (r.tdiv 3) ++ [58] ++ lsdS c.scp r
  | 3 => spS audL (r.tdiv 5) ++ blkS (r.tdiv 2) ++ [58] ++ lsdS c.aud (r.tdiv 2)
  | 4 => spS actL (r.tdiv 7) ++ [58] ++ lsdS c.act (r.tdiv 3)
  | _ => spS expL (r.tdiv 9) ++ [58] ++ Lib.decDigits c.exp
def setF (c d : Cm) : Nat → Cm
  | 0 => d.setN 0 c.id
  | 1 => d.setT c.sub
  | 2 => d.setL 2 c.scp
  | 3 => d.setL 3 c.aud
  | 4 => d.setL 4 c.act
  | _ => d.setN 5 c.exp
def OkC (c : Cm) : Prop := c.id ≤ 999999999999 ∧ vN c.sub = true ∧ (∀ y ∈ c.scp, vN y = true) ∧ (∀ y ∈ c.aud, vN y = true) ∧ (∀ y ∈ c.act, vN y = true) ∧ c.exp ≤ 999999999999
theorem name_sp (k : List UInt8) (f : Nat) (m : Nat → Bool) (b r : List UInt8) (z : Int) (hb : b.all blankN = true) (hk : fieldS k = some f) (hv : vN k = true) (hm : m f = false) : nameS m (spS k z ++ (b ++ 58 :: r)) = some (f, r) := by
  unfold nameS
  rw [text_sp k _ z hv]
  show (seesS 58 (b ++ 58 :: r)).bind (fun t => (fieldS k).bind (fun f => if m f = true then none else some (f, t))) = _
  rw [show seesS 58 (b ++ 58 :: r) = seesS 58 (58 :: r) by unfold seesS; rw [skip_blank _ _ hb], sees_hit 58 r (by decide), hk]
  show (if m f = true then none else some (f, r)) = _
  rw [hm]; rfl
theorem fld_spS (k : List UInt8) (f n : Nat) (m : Nat → Bool) (c c' : Cm) (b r r' : List UInt8) (z : Int) (hb : b.all blankN = true) (hk : fieldS k = some f) (hv : vN k = true) (hm : m f = false) (hval : valS f c r = some (c', r')) : fldS n m c (spS k z ++ (b ++ 58 :: r)) = moreS n (upd m f) c' r' := by
  unfold fldS
  rw [name_sp k f m b r z hb hk hv hm]
  show (valS f c r).bind _ = _
  rw [hval]; rfl
/-- a field that is spelled is read -/
theorem fld_sp {c : Cm} (hc : OkC c) (d : Cm) (r : Int) (f n : Nat) (m : Nat → Bool) (t : List UInt8) (hf : f < 6) (hm : m f = false) (ht : dk t = 0) : fldS n m d (fldT c r f ++ t) = moreS n (upd m f) (setF c d f) t := by
  obtain ⟨h1, h2, h3, h4, h5, h6⟩ := hc
  match f, hf, hm with
  | 0, _, hm =>
    have e : fldT c r 0 ++ t = spS jtiL r ++ (blkS r ++ 58 :: (blkS (r.tdiv 3) ++ (Lib.decDigits c.id ++ t))) := by simp [fldT]
    rw [e]
    exact fld_spS jtiL 0 n m d _ _ _ _ _ (blkS_all r) (by decide) (by decide) hm (by unfold valS; rw [if_pos (Or.inl rfl), num_blk, num_dec _ _ h1 ht]; rfl)
  | 1, _, hm =>
    have e : fldT c r 1 ++ t = spS subL (r.tdiv 2) ++ ([] ++ 58 :: (spS c.sub (r.tdiv 4) ++ t)) := by simp [fldT]
    rw [e]
    exact fld_spS subL 1 n m d _ _ _ _ _ rfl (by decide) (by decide) hm (by unfold valS; rw [if_neg (by decide), if_pos rfl, text_sp _ _ _ h2]; rfl)
  | 2, _, hm =>
    have e : fldT c r 2 ++ t = spS scpL (r.tdiv 3) ++ ([] ++ 58 :: (lsdS c.scp r ++ t)) := by simp [fldT]
    rw [e]
    exact fld_spS scpL 2 n m d _ _ _ _ _ rfl (by decide) (by decide) hm (by unfold valS; rw [if_neg (by decide), if_neg (by decide), list_sp _ _ _ h3]; rfl)
  | 3, _, hm =>
    have e : fldT c r 3 ++ t = spS audL (r.tdiv 5) ++ (blkS (r.tdiv 2) ++ 58 :: (lsdS c.aud (r.tdiv 2) ++ t)) := by simp [fldT]
    rw [e]
    exact fld_spS audL 3 n m d _ _ _ _ _ (blkS_all _) (by decide) (by decide) hm (by unfold valS; rw [if_neg (by decide), if_neg (by decide), list_sp _ _ _ h4]; rfl)
  | 4, _, hm =>
    have e : fldT c r 4 ++ t = spS actL (r.tdiv 7) ++ ([] ++ 58 :: (lsdS c.act (r.tdiv 3) ++ t)) := by simp [fldT]
    rw [e]
    exact fld_spS actL 4 n m d _ _ _ _ _ rfl (by decide) (by decide) hm (by unfold valS; rw [if_neg (by decide), if_neg (by decide), list_sp _ _ _ h5]; rfl)
  | 5, _, hm =>
    have e : fldT c r 5 ++ t = spS expL (r.tdiv 9) ++ ([] ++ 58 :: (Lib.decDigits c.exp ++ t)) := by simp [fldT]
    rw [e]
    exact fld_spS expL 5 n m d _ _ _ _ _ rfl (by decide) (by decide) hm (by unfold valS; rw [if_pos (Or.inr rfl), num_dec _ _ h6 ht]; rfl)
theorem fld_skip (n : Nat) (m : Nat → Bool) (d : Cm) (b l : List UInt8) (hb : b.all blankN = true) : fldS n m d (b ++ l) = fldS n m d l := by
  unfold fldS nameS textS seesS
  rw [skip_blank _ _ hb]
/-- fields behind the first, A ahead of each comma, B behind it -/
def tlT (A B : List UInt8) (c : Cm) (r : Int) (ps : List Nat) : List UInt8 := ps.flatMap (fun p => A ++ [44] ++ B ++ fldT c r p)
def setL (c d : Cm) (ps : List Nat) : Cm := ps.foldl (setF c) d
def updL (m : Nat → Bool) (ps : List Nat) : Nat → Bool := ps.foldl upd m
theorem tl_dk (A B : List UInt8) (c : Cm) (r : Int) (ps : List Nat) (t : List UInt8) (hA : A.all blankN = true) (ht : dk t = 0) : dk (tlT A B c r ps ++ t) = 0 := by
  cases ps with
  | nil => exact ht
  | cons p ps =>
    have e : tlT A B c r (p :: ps) ++ t = A ++ (44 :: (B ++ fldT c r p ++ tlT A B c r ps ++ t)) := by simp [tlT]
    rw [e]
    exact dk_blank _ _ hA (dk_44 _)
theorem more_list {c : Cm} (hc : OkC c) (r : Int) (A B : List UInt8) (hA : A.all blankN = true) (hB : B.all blankN = true) (n : Nat) (t : List UInt8) (ht : dk t = 0) : ∀ (ps : List Nat) (m : Nat → Bool) (d : Cm), (∀ p ∈ ps, p < 6 ∧ m p = false) → ps.Nodup →
    moreS (n + ps.length) m d (tlT A B c r ps ++ t) = moreS n (updL m ps) (setL c d ps) t
  | [], m, d, _, _ => rfl
  | p :: ps, m, d, h, hn => by
    have e : tlT A B c r (p :: ps) ++ t = A ++ (44 :: (B ++ (fldT c r p ++ (tlT A B c r ps ++ t)))) := by simp [tlT]
    rw [e, List.length_cons, ← Nat.add_assoc, moreS_succ]
    rw [show seesS 44 (A ++ (44 :: (B ++ (fldT c r p ++ (tlT A B c r ps ++ t))))) = some (B ++ (fldT c r p ++ (tlT A B c r ps ++ t))) by
      rw [← sees_hit 44 (B ++ (fldT c r p ++ (tlT A B c r ps ++ t))) (by decide)]
      unfold seesS; rw [skip_blank _ _ hA]]
    rw [Option.bind_some, fld_skip _ _ _ _ _ hB, fld_sp hc d r p _ m _ (h p (by simp)).1 (h p (by simp)).2 (tl_dk A B c r ps t hA ht)]
    have hn' := List.nodup_cons.1 hn
    refine more_list hc r A B hA hB n t ht ps (upd m p) (setF c d p) (fun q hq => ⟨(h q (by simp [hq])).1, ?_⟩) hn'.2
    unfold upd
    rw [if_neg (fun e : q = p => hn'.1 (e ▸ hq))]
    exact (h q (by simp [hq])).2
theorem obj_list {c : Cm} (hc : OkC c) (r : Int) (A B b0 : List UInt8) (hA : A.all blankN = true) (hB : B.all blankN = true) (hb : b0.all blankN = true) (n : Nat) (t : List UInt8) (ht : dk t = 0) (p : Nat) (ps : List Nat) (h : ∀ q ∈ p :: ps, q < 6) (hn : (p :: ps).Nodup) (hl : n + ps.length = 5) :
    objS (b0 ++ 123 :: (B ++ (fldT c r p ++ (tlT A B c r ps ++ t)))) = moreS n (updL (fun _ => false) (p :: ps)) (setL c cm0 (p :: ps)) t := by
  unfold objS
  rw [show seesS 123 (b0 ++ 123 :: (B ++ (fldT c r p ++ (tlT A B c r ps ++ t)))) = some (B ++ (fldT c r p ++ (tlT A B c r ps ++ t))) by
      rw [← sees_hit 123 (B ++ (fldT c r p ++ (tlT A B c r ps ++ t))) (by decide)]
      unfold seesS; rw [skip_blank _ _ hb]]
  have hn' := List.nodup_cons.1 hn
  rw [Option.bind_some, fld_skip _ _ _ _ _ hB, fld_sp hc cm0 r p _ _ _ (h p (by simp)) rfl (tl_dk A B c r ps t hA ht), ← hl]
  refine more_list hc r A B hA hB n t ht ps _ _ (fun q hq => ⟨h q (by simp [hq]), ?_⟩) hn'.2
  unfold upd
  rw [if_neg (fun e : q = p => hn'.1 (e ▸ hq))]
theorem setF_parts (c d : Cm) (p : Nat) (hp : p < 6) : (setF c d p).id = (if p = 0 then c.id else d.id) ∧ (setF c d p).sub = (if p = 1 then c.sub else d.sub) ∧ (setF c d p).scp = (if p = 2 then c.scp else d.scp)
    ∧ (setF c d p).aud = (if p = 3 then c.aud else d.aud) ∧ (setF c d p).act = (if p = 4 then c.act else d.act) ∧ (setF c d p).exp = (if p = 5 then c.exp else d.exp) := by
  match p, hp with
  | 0, _ => exact ⟨rfl, rfl, rfl, rfl, rfl, rfl⟩
  | 1, _ => exact ⟨rfl, rfl, rfl, rfl, rfl, rfl⟩
  | 2, _ => exact ⟨rfl, rfl, rfl, rfl, rfl, rfl⟩
  | 3, _ => exact ⟨rfl, rfl, rfl, rfl, rfl, rfl⟩
  | 4, _ => exact ⟨rfl, rfl, rfl, rfl, rfl, rfl⟩
  | 5, _ => exact ⟨rfl, rfl, rfl, rfl, rfl, rfl⟩
theorem setL_parts (c : Cm) : ∀ (ps : List Nat) (d : Cm), (∀ p ∈ ps, p < 6) → (setL c d ps).id = (if 0 ∈ ps then c.id else d.id) ∧ (setL c d ps).sub = (if 1 ∈ ps then c.sub else d.sub) ∧ (setL c d ps).scp = (if 2 ∈ ps then c.scp else d.scp)
    ∧ (setL c d ps).aud = (if 3 ∈ ps then c.aud else d.aud) ∧ (setL c d ps).act = (if 4 ∈ ps then c.act else d.act) ∧ (setL c d ps).exp = (if 5 ∈ ps then c.exp else d.exp)
  | [], d, _ => by simp [setL]
  | p :: ps, d, h => by
    obtain ⟨a1, a2, a3, a4, a5, a6⟩ := setL_parts c ps (setF c d p) (fun q hq => h q (by simp [hq]))
    obtain ⟨b1, b2, b3, b4, b5, b6⟩ := setF_parts c d p (h p (by simp))
    have key : ∀ {α : Type} (k : Nat) (x y z w : α), x = (if k ∈ ps then w else y) → y = (if p = k then w else z) → x = (if k ∈ p :: ps then w else z) := by
      intro α k x y z w h1 h2
      rw [h1, h2]
      by_cases e1 : k ∈ ps
      · rw [if_pos e1, if_pos (by simp [e1])]
      · rw [if_neg e1]
        by_cases e2 : p = k
        · rw [if_pos e2, if_pos (by simp [e2])]
        · rw [if_neg e2, if_neg (by simp [e1]; exact fun e => e2 e.symm)]
    exact ⟨key 0 _ _ _ _ a1 b1, key 1 _ _ _ _ a2 b2, key 2 _ _ _ _ a3 b3, key 3 _ _ _ _ a4 b4, key 4 _ _ _ _ a5 b5, key 5 _ _ _ _ a6 b6⟩
theorem setL_all (c d : Cm) (ps : List Nat) (h : ∀ p ∈ ps, p < 6) (ha : ∀ f, f < 6 → f ∈ ps) : setL c d ps = c := by
  obtain ⟨a1, a2, a3, a4, a5, a6⟩ := setL_parts c ps d h
  rw [if_pos (ha 0 (by decide))] at a1
  rw [if_pos (ha 1 (by decide))] at a2
  rw [if_pos (ha 2 (by decide))] at a3
  rw [if_pos (ha 3 (by decide))] at a4
  rw [if_pos (ha 4 (by decide))] at a5
  rw [if_pos (ha 5 (by decide))] at a6
  generalize setL c d ps = x at *
  cases x
  cases c
  simp only at a1 a2 a3 a4 a5 a6
  subst a1 a2 a3 a4 a5 a6
  rfl
theorem end_ok (c : Cm) (b b' : List UInt8) (hb : b.all blankN = true) (hb' : b'.all blankN = true) : endS c (b ++ 125 :: b') = some c := by
  unfold endS
  rw [show seesS 125 (b ++ 125 :: b') = some b' by
    rw [← sees_hit 125 b' (by decide)]; unfold seesS; rw [skip_blank _ _ hb]]
  rw [Option.bind_some]
  have := skip_blank b' [] hb'
  rw [List.append_nil] at this
  rw [this]; rfl
theorem end_more (c : Cm) (b : List UInt8) (hb : b.all blankN = true) (x : UInt8) (y : List UInt8) (hx : blankN x = false) : endS c (125 :: (b ++ x :: y)) = none := by
  unfold endS
  rw [sees_hit 125 _ (by decide), Option.bind_some, skip_blank _ _ hb, show skipB (x :: y) = x :: y by rw [skipB, if_neg (by rw [hx]; decide)]]
  rfl
theorem end_comma (c : Cm) (y : List UInt8) : endS c (44 :: y) = none := by
  unfold endS
  rw [sees_miss 125 44 y (by decide) (by decide)]
  rfl
theorem more_end (m : Nat → Bool) (c : Cm) (y : List UInt8) : moreS 1 m c (125 :: y) = none := by
  rw [moreS_succ, sees_miss 44 125 y (by decide) (by decide)]
  rfl
end Go.Proofs.YtkmkkmdpjliifaaGreatDoor
