import Derived.Test.YtkmkkmdpjliifaaGreatDoorSvT
namespace Go.Proofs.YtkmkkmdpjliifaaGreatDoor
open Go.ChangeShapes Go.WideShapes Go.ChangeAt Go.RowKit


/- what was printed is read -/
theorem fN_same {s l : List UInt8} (h : 0 < fN s) (hb : ∀ i, i < fN s → by_ l i = by_ s i) (hl : fN s ≤ l.length) : fN l = fN s := by
  have h0 := hb 0 h
  have key : ∀ n low p, tailN s n low p = fN s → 1 ≤ n → tailN l n low p = fN s := by
    intro n low p ht hn
    have e : fN s = n := by
      unfold tailN at ht
      repeat' split at ht
      all_goals omega
    rw [e] at hb hl ⊢
    rw [e] at ht
    have hg : ∀ k, k < n → goodN l k = goodN s k := by
      intro k
      induction k with
      | zero => intro _; rfl
      | succ k ih => intro hk; rw [goodN, goodN, ih (by omega), hb (k + 1) hk]
    have hp : ∀ k, k < n → ptN l p k = ptN s p k := by
      intro k
      induction k with
      | zero => intro _; rfl
      | succ k ih => intro hk; rw [ptN, ptN, ih (by omega), hb (k + 1) hk]
    unfold tailN at ht ⊢
    rw [hg (n - 1) (by omega), hp (n - 1) (by omega), if_neg (by omega)]
    split at ht
    · omega
    · exact ht
  unfold fN
  rw [h0]
  by_cases c1 : by_ s 0 < 128
  · rw [if_pos c1, if_pos c1]
  · rw [if_neg c1, if_neg c1]
    by_cases c2 : 192 ≤ by_ s 0 ∧ by_ s 0 < 224
    · rw [if_pos c2, if_pos c2]
      have e : fN s = tailN s 2 128 (by_ s 0 % 32) := by rw [fN, if_neg c1, if_pos c2]
      rw [key _ _ _ e.symm (by omega), e]
    · rw [if_neg c2, if_neg c2]
      by_cases c3 : 224 ≤ by_ s 0 ∧ by_ s 0 < 240
      · rw [if_pos c3, if_pos c3]
        have e : fN s = tailN s 3 2048 (by_ s 0 % 16) := by rw [fN, if_neg c1, if_neg c2, if_pos c3]
        rw [key _ _ _ e.symm (by omega), e]
      · rw [if_neg c3, if_neg c3]
        by_cases c4 : 240 ≤ by_ s 0 ∧ by_ s 0 < 248
        · rw [if_pos c4, if_pos c4]
          have e : fN s = tailN s 4 65536 (by_ s 0 % 8) := by rw [fN, if_neg c1, if_neg c2, if_neg c3, if_pos c4]
          rw [key _ _ _ e.symm (by omega), e]
        · rw [if_neg c4, if_neg c4]
theorem goodN_at {s : List UInt8} : ∀ {n i : Nat}, goodN s n = true → 1 ≤ i → i ≤ n → by_ s i / 64 = 2
  | 0, i, _, h1, h2 => by omega
  | n + 1, i, h, h1, h2 => by
    rw [goodN, Bool.and_eq_true] at h
    by_cases e : i = n + 1
    · subst e; simpa using h.2
    · exact goodN_at h.1 h1 (by omega)
theorem fN_high {s : List UInt8} (h : 0 < fN s) (h0 : ¬ by_ s 0 < 128) : ∀ i, i < fN s → 128 ≤ by_ s i := by
  intro i hi
  by_cases hz : i = 0
  · subst hz; omega
  · have key : ∀ n low p, tailN s n low p = fN s → goodN s (n - 1) = true ∧ fN s = n := by
      intro n low p ht
      unfold tailN at ht
      split at ht
      · omega
      · split at ht
        · omega
        · rename_i hg
          split at ht
          · omega
          · exact ⟨by simpa using hg, ht.symm⟩
    have fin : ∀ n low p, tailN s n low p = fN s → 128 ≤ by_ s i := by
      intro n low p ht
      obtain ⟨h1, h2⟩ := key n low p ht
      have := goodN_at h1 (i := i) (by omega) (by omega)
      omega
    by_cases c2 : 192 ≤ by_ s 0 ∧ by_ s 0 < 224
    · exact fin 2 128 (by_ s 0 % 32) (by rw [fN, if_neg h0, if_pos c2])
    · by_cases c3 : 224 ≤ by_ s 0 ∧ by_ s 0 < 240
      · exact fin 3 2048 (by_ s 0 % 16) (by rw [fN, if_neg h0, if_neg c2, if_pos c3])
      · by_cases c4 : 240 ≤ by_ s 0 ∧ by_ s 0 < 248
        · exact fin 4 65536 (by_ s 0 % 8) (by rw [fN, if_neg h0, if_neg c2, if_neg c3, if_pos c4])
        · rw [fN, if_neg h0, if_neg c2, if_neg c3, if_neg c4] at h; omega
theorem escL_cons (c : UInt8) (s : List UInt8) : escL (c :: s) = escB c ++ escL s := by simp [escL]
theorem escL_high : ∀ (s : List UInt8), (∀ i, i < s.length → 128 ≤ by_ s i) → escL s = s
  | [], _ => rfl
  | c :: s, h => by
    have h0 : 128 ≤ c.toNat := h 0 (by simp)
    have hc : ¬ (c = 34 ∨ c = 92) := by
      rintro (rfl | rfl) <;> simp at h0
    rw [escL_cons, escB, if_neg hc, if_neg (by omega), escL_high s (fun i hi => h (i + 1) (by simpa using hi))]
    rfl
theorem escL_app (a b : List UInt8) : escL (a ++ b) = escL a ++ escL b := by simp [escL]
theorem encB_one (c : UInt8) (h : c.toNat < 128) : encB c.toNat = [c] := by
  rw [encB, if_pos h]; simp
theorem hexD_one {n : Nat} (h : n < 16) : ∃ d : UInt8, hexD n = [d] ∧ hexN d = some n := by
  have : ∀ n, n < 16 → (match hexD n with | [d] => hexN d == some n | _ => false) = true := by decide
  have h2 := this n h
  revert h2
  split
  · rename_i d hd; intro h2; exact ⟨d, hd, by simpa using h2⟩
  · intro h2; cases h2
/-- one byte below 128 as it is written -/
theorem piece_low (c : UInt8) (h : c.toNat < 128) (t : List UInt8) : pieceS (escB c ++ t) = some ([c], t) ∧ ∃ d u, escB c ++ t = d :: u ∧ d ≠ 34 := by
  unfold escB
  by_cases h1 : c = 34 ∨ c = 92
  · rw [if_pos h1]
    refine ⟨?_, 92, c :: t, rfl, by decide⟩
    show pieceS (92 :: c :: t) = _
    rw [pieceS, if_neg (by decide), if_pos rfl, escS, if_pos (by rcases h1 with h1 | h1 <;> simp [h1])]
    rw [Option.map_some, encB_one c h]
  · rw [if_neg h1]
    by_cases h2 : c.toNat < 32
    · rw [if_pos h2]
      obtain ⟨d1, e1, x1⟩ := hexD_one (n := c.toNat / 16) (by omega)
      obtain ⟨d2, e2, x2⟩ := hexD_one (n := c.toNat % 16) (by omega)
      rw [e1, e2]
      refine ⟨?_, 92, 117 :: 48 :: 48 :: d1 :: d2 :: t, rfl, by decide⟩
      show pieceS (92 :: 117 :: 48 :: 48 :: d1 :: d2 :: t) = _
      have hp : pointS (48 :: 48 :: d1 :: d2 :: t) = some (c.toNat, t) := by
        have hx : hex4 (48 :: 48 :: d1 :: d2 :: t) = some (c.toNat, t) := by
          unfold hex4
          have z : hexN 48 = some 0 := by decide
          simp only [hexG, z, x1, x2]
          have : 16 * (16 * (16 * (16 * 0 + 0) + 0) + c.toNat / 16) + c.toNat % 16 = c.toNat := by omega
          rw [this]
        rw [pointS, hx]
        show (if c.toNat < 55296 ∨ 57344 ≤ c.toNat then some (c.toNat, t) else _) = _
        rw [if_pos (by omega)]
      rw [pieceS, if_neg (by decide), if_pos rfl, escS, if_neg (by decide), if_neg (by decide), if_neg (by decide), if_neg (by decide), if_neg (by decide), if_neg (by decide), if_pos rfl, hp]
      rw [Option.map_some, encB_one c h]
    · rw [if_neg h2]
      have hf : fN (c :: t) = 1 := by rw [fN, if_pos (show by_ (c :: t) 0 < 128 from h)]
      refine ⟨?_, c, t, rfl, fun e => h1 (Or.inl e)⟩
      show pieceS (c :: t) = _
      rw [pieceS, if_neg h2, if_neg (fun e => h1 (Or.inr e)), hf, if_neg (by decide)]
      rfl
theorem by_app {a b : List UInt8} {i : Nat} (h : i < a.length) : by_ (a ++ b) i = by_ a i := by
  unfold by_
  rw [List.getD_eq_getElem?_getD, List.getElem?_append_left h, ← List.getD_eq_getElem?_getD]
theorem by_take {a : List UInt8} {i n : Nat} (h : i < n) : by_ (a.take n) i = by_ a i := by
  unfold by_
  rw [List.getD_eq_getElem?_getD, List.getElem?_take_of_lt h, ← List.getD_eq_getElem?_getD]
/-- a string that was printed is read -/
theorem txt_esc : ∀ (n : Nat) (s r : List UInt8), s.length ≤ n → vN s = true → txtS (escL s ++ 34 :: r) = some (s, r) := by
  intro n
  induction n with
  | zero =>
    intro s r hn hv
    have : s = [] := List.length_eq_zero_iff.1 (by omega)
    subst this
    show txtS (34 :: r) = _
    rw [txtS_cons, if_pos rfl]
  | succ n ih =>
    intro s r hn hv
    cases s with
    | nil =>
      show txtS (34 :: r) = _
      rw [txtS_cons, if_pos rfl]
    | cons c s =>
      rw [vN_step _ (by simp)] at hv
      by_cases hf : fN (c :: s) = 0
      · rw [if_pos hf] at hv; cases hv
      · rw [if_neg hf] at hv
        have hle := fN_le (c :: s) (by simp)
        by_cases hc : c.toNat < 128
        · have h1 : fN (c :: s) = 1 := by rw [fN, if_pos (show by_ (c :: s) 0 < 128 from hc)]
          rw [h1] at hv
          have hi := ih s r (by simp at hn; omega) hv
          obtain ⟨hp, d, u, hd, hd34⟩ := piece_low c hc (escL s ++ 34 :: r)
          rw [escL_cons, List.append_assoc, hd, txtS_cons, if_neg hd34, ← hd, hp]
          show (txtS (escL s ++ 34 :: r)).map _ = _
          rw [hi]; rfl
        · have hh := fN_high (s := c :: s) (by omega) hc
          generalize hF : fN (c :: s) = F at *
          have hsp : escL (c :: s) ++ 34 :: r = (c :: s).take F ++ (escL ((c :: s).drop F) ++ 34 :: r) := by
            rw [← List.append_assoc]
            congr 1
            have hee : escL ((c :: s).take F) = (c :: s).take F := escL_high _ (fun i hi => by
              rw [List.length_take] at hi
              rw [by_take (by omega)]; exact hh i (by omega))
            conv => lhs; rw [← List.take_append_drop F (c :: s), escL_app]
            rw [hee]
          have hi := ih ((c :: s).drop F) r (by rw [List.length_drop]; simp at hn ⊢; omega) hv
          have hlen : ((c :: s).take F).length = F := by rw [List.length_take]; omega
          have hfN : fN ((c :: s).take F ++ (escL ((c :: s).drop F) ++ 34 :: r)) = F := by
            have := fN_same (s := c :: s) (l := (c :: s).take F ++ (escL ((c :: s).drop F) ++ 34 :: r)) (by omega) (fun i hi => by
              rw [hF] at hi
              rw [by_app (by omega), by_take hi]) (by rw [List.length_append]; omega)
            rw [this, hF]
          rw [hsp]
          generalize hX : (c :: s).take F ++ (escL ((c :: s).drop F) ++ 34 :: r) = X at *
          obtain ⟨F', rfl⟩ : ∃ F', F = F' + 1 := ⟨F - 1, by omega⟩
          obtain ⟨u, rfl⟩ : ∃ u, X = c :: u := ⟨s.take F' ++ (escL ((c :: s).drop (F' + 1)) ++ 34 :: r), by rw [← hX]; rfl⟩
          have c34 : c ≠ 34 := by rintro rfl; simp at hc
          have c92 : c ≠ 92 := by rintro rfl; simp at hc
          have hp : pieceS (c :: u) = some ((c :: s).take (F' + 1), escL ((c :: s).drop (F' + 1)) ++ 34 :: r) := by
            rw [pieceS, if_neg (by omega), if_neg c92, hfN, if_neg (by omega), ← hX]
            rw [List.take_append_of_le_length (by omega), List.take_of_length_le (by omega), List.drop_append_of_le_length (by omega), List.drop_of_length_le (by omega), List.nil_append]
          rw [txtS_cons, if_neg c34, hp]
          show (txtS (escL ((c :: s).drop (F' + 1)) ++ 34 :: r)).map _ = _
          rw [hi]
          show some ((c :: s).take (F' + 1) ++ (c :: s).drop (F' + 1), r) = _
          rw [List.take_append_drop]
theorem sees_hit (c : UInt8) (t : List UInt8) (h : blankN c = false) : seesS c (c :: t) = some t := by
  unfold seesS
  rw [skipB, if_neg (by rw [h]; decide)]
  show (if c = c then some t else none) = _
  rw [if_pos rfl]
theorem sees_miss (c d : UInt8) (t : List UInt8) (h : blankN d = false) (hd : d ≠ c) : seesS c (d :: t) = none := by
  unfold seesS
  rw [skipB, if_neg (by rw [h]; decide)]
  show (if d = c then some t else none) = _
  rw [if_neg hd]
theorem text_quot (s r : List UInt8) (h : vN s = true) : textS (quotS s ++ r) = some (s, r) := by
  unfold textS quotS
  show (seesS 34 (34 :: (escL s ++ [34] ++ r))).bind txtS = _
  rw [sees_hit 34 _ (by decide)]
  show txtS (escL s ++ [34] ++ r) = _
  rw [List.append_assoc]
  exact txt_esc _ s r (Nat.le_refl _) h
theorem dk_app : ∀ (a r : List UInt8), (∀ i, i < a.length → 48 ≤ by_ a i ∧ by_ a i ≤ 57) → dk r = 0 → dk (a ++ r) = a.length
  | [], r, _, hr => hr
  | c :: a, r, h, hr => by
    have h0 := h 0 (by simp)
    have hd : digN c = true := by
      unfold digN
      have : by_ (c :: a) 0 = c.toNat := rfl
      rw [this] at h0
      simp [h0]
    show dk (c :: (a ++ r)) = _
    rw [dk, if_pos hd, dk_app a r (fun i hi => h (i + 1) (by simpa using hi)) hr]
    rfl
theorem dv_same (a b : List UInt8) : ∀ k, (∀ i, i < k → by_ a i = by_ b i) → dv a k = dv b k
  | 0, _ => rfl
  | k + 1, h => by rw [dv, dv, dv_same a b k (fun i hi => h i (by omega)), h k (by omega)]
theorem dec_ne (u : Nat) : 0 < (Lib.decDigits u).length := by
  rw [Lib.decDigits]; split <;> simp
theorem dec_dig (u : Nat) : ∀ i, i < (Lib.decDigits u).length → 48 ≤ by_ (Lib.decDigits u) i ∧ by_ (Lib.decDigits u) i ≤ 57 := by
  induction u using Nat.strongRecOn with
  | ind u ih =>
    intro i hi
    rw [Lib.decDigits] at hi ⊢
    have one : ∀ x, x < 10 → (UInt8.ofNat (48 + x)).toNat = 48 + x := fun x hx => by simp; omega
    by_cases h : u < 10
    · rw [dif_pos h] at hi ⊢
      simp at hi
      subst hi
      show 48 ≤ (UInt8.ofNat (48 + u)).toNat ∧ (UInt8.ofNat (48 + u)).toNat ≤ 57
      rw [one u h]; omega
    · rw [dif_neg h] at hi ⊢
      rw [List.length_append, List.length_singleton] at hi
      by_cases e : i < (Lib.decDigits (u / 10)).length
      · rw [by_app e]; exact ih (u / 10) (by omega) i e
      · have : by_ (Lib.decDigits (u / 10) ++ [UInt8.ofNat (48 + u % 10)]) i = (UInt8.ofNat (48 + u % 10)).toNat := by
          unfold by_
          rw [List.getD_eq_getElem?_getD, List.getElem?_append_right (by omega), show i - (Lib.decDigits (u / 10)).length = 0 by omega]
          rfl
        rw [this, one _ (by omega)]; omega
theorem dec_val (u : Nat) : dv (Lib.decDigits u) (Lib.decDigits u).length = u := by
  induction u using Nat.strongRecOn with
  | ind u ih =>
    rw [Lib.decDigits]
    have one : ∀ x, x < 10 → (UInt8.ofNat (48 + x)).toNat = 48 + x := fun x hx => by simp; omega
    by_cases h : u < 10
    · rw [dif_pos h]
      show 10 * 0 + ((UInt8.ofNat (48 + u)).toNat - 48) = u
      rw [one u h]; omega
    · rw [dif_neg h, List.length_append, List.length_singleton, dv, dv_same _ (Lib.decDigits (u / 10)) _ (fun i hi => by_app hi), ih (u / 10) (by omega)]
      have : by_ (Lib.decDigits (u / 10) ++ [UInt8.ofNat (48 + u % 10)]) (Lib.decDigits (u / 10)).length = (UInt8.ofNat (48 + u % 10)).toNat := by
        unfold by_
        rw [List.getD_eq_getElem?_getD, List.getElem?_append_right (Nat.le_refl _), Nat.sub_self]
        rfl
      rw [this, one _ (by omega)]; omega
theorem dec_zero (u : Nat) (h : 1 < (Lib.decDigits u).length) : by_ (Lib.decDigits u) 0 ≠ 48 := by
  induction u using Nat.strongRecOn with
  | ind u ih =>
    have one : ∀ x, x < 10 → (UInt8.ofNat (48 + x)).toNat = 48 + x := fun x hx => by simp; omega
    rw [Lib.decDigits] at h ⊢
    by_cases hu : u < 10
    · rw [dif_pos hu] at h; simp at h
    · rw [dif_neg hu] at h ⊢
      rw [by_app (dec_ne _)]
      by_cases h1 : 1 < (Lib.decDigits (u / 10)).length
      · exact ih (u / 10) (by omega) h1
      · have h2 : u / 10 < 10 := by
          rcases Nat.lt_or_ge (u / 10) 10 with h3 | h3
          · exact h3
          · exfalso; apply h1
            rw [Lib.decDigits, dif_neg (by omega), List.length_append, List.length_singleton]
            have := dec_ne (u / 10 / 10); omega
        rw [Lib.decDigits, dif_pos h2]
        show (UInt8.ofNat (48 + u / 10)).toNat ≠ 48
        rw [one _ h2]; omega
/-- a number that was printed is read -/
theorem num_dec (n : Nat) (r : List UInt8) (hn : n ≤ 999999999999) (hr : dk r = 0) : numS (Lib.decDigits n ++ r) = some (n, r) := by
  have hd := dec_dig n
  have hne := dec_ne n
  have hs : skipB (Lib.decDigits n ++ r) = Lib.decDigits n ++ r := by
    have h0 := hd 0 hne
    cases hD : Lib.decDigits n with
    | nil => rw [hD] at hne; simp at hne
    | cons c t =>
      rw [hD] at h0
      have h1 : by_ (c :: t) 0 = c.toNat := rfl
      rw [h1] at h0
      show skipB (c :: (t ++ r)) = _
      rw [skipB, if_neg]
      · rfl
      · unfold blankN
        have b1 : c ≠ 32 := by rintro rfl; simp at h0
        have b2 : c ≠ 9 := by rintro rfl; simp at h0
        have b3 : c ≠ 10 := by rintro rfl; simp at h0
        have b4 : c ≠ 13 := by rintro rfl; simp at h0
        simp [b1, b2, b3, b4]
  have hk := dk_app (Lib.decDigits n) r hd hr
  have hv : dv (Lib.decDigits n ++ r) (Lib.decDigits n).length = n := by rw [dv_same _ (Lib.decDigits n) _ (fun i hi => by_app hi), dec_val]
  unfold numS numT
  rw [hs, hk, hv, if_neg]
  · rw [List.drop_append_of_le_length (Nat.le_refl _), List.drop_of_length_le (Nat.le_refl _), List.nil_append]
  · rintro (h | ⟨h1, h2⟩ | h)
    · omega
    · rw [by_app hne] at h2; exact dec_zero n h1 h2
    · omega
/-- the names of a list behind the first one -/
def tailJ (xs : List (List UInt8)) : List UInt8 := xs.flatMap (fun y => 44 :: quotS y)
theorem joinK_cons (x : List UInt8) (xs : List (List UInt8)) : ∀ k, k ≤ xs.length → joinK (x :: xs) (k + 1) = quotS x ++ tailJ (xs.take k)
  | 0, _ => by simp [joinK, tailJ]
  | k + 1, h => by
    rw [joinK, joinK_cons x xs k (by omega), if_neg (by omega)]
    have e : (x :: xs).getD (k + 1) [] = xs.getD k [] := rfl
    have e2 : xs.take (k + 1) = xs.take k ++ [xs.getD k []] := by
      rw [List.take_add_one, List.getD_eq_getElem?_getD, List.getElem?_eq_getElem (by omega)]
      rfl
    rw [e, e2]
    unfold tailJ
    rw [List.flatMap_append]
    simp
theorem joinK_all (x : List UInt8) (xs : List (List UInt8)) : joinK (x :: xs) (x :: xs).length = quotS x ++ tailJ xs := by
  rw [List.length_cons, joinK_cons x xs _ (Nat.le_refl _), List.take_length]
theorem items_join : ∀ (xs : List (List UInt8)) (x r : List UInt8), (∀ y ∈ x :: xs, vN y = true) → itemsS (quotS x ++ tailJ xs ++ 93 :: r) = some (x :: xs, r)
  | [], x, r, h => by
    rw [itemsS_step]
    have : quotS x ++ tailJ [] ++ 93 :: r = quotS x ++ 93 :: r := by simp [tailJ]
    rw [this, text_quot x _ (h x (by simp))]
    dsimp only
    rw [sees_miss 44 93 r (by decide) (by decide), sees_hit 93 r (by decide)]
    rfl
  | y :: xs, x, r, h => by
    rw [itemsS_step]
    have : quotS x ++ tailJ (y :: xs) ++ 93 :: r = quotS x ++ 44 :: (quotS y ++ tailJ xs ++ 93 :: r) := by simp [tailJ]
    rw [this, text_quot x _ (h x (by simp))]
    dsimp only
    rw [sees_hit 44 _ (by decide)]
    show (itemsS (quotS y ++ tailJ xs ++ 93 :: r)).map _ = _
    rw [items_join xs y r (fun z hz => h z (by simp at hz ⊢; exact Or.inr hz))]
    rfl
/-- a list that was printed is read -/
theorem list_print (l : List (List UInt8)) (r : List UInt8) (h : ∀ y ∈ l, vN y = true) : listS (listP l ++ r) = some (l, r) := by
  unfold listS listP
  have e : [91] ++ joinK l l.length ++ [93] ++ r = 91 :: (joinK l l.length ++ 93 :: r) := by simp
  rw [e, sees_hit 91 _ (by decide)]
  show restS (joinK l l.length ++ 93 :: r) = _
  unfold restS
  cases l with
  | nil =>
    show (match seesS 93 (93 :: r) with | some u => some ([], u) | none => itemsS (93 :: r)) = _
    rw [sees_hit 93 _ (by decide)]
  | cons x xs =>
    rw [joinK_all]
    have e2 : ∃ u, quotS x ++ tailJ xs ++ 93 :: r = 34 :: u := ⟨escL x ++ [34] ++ tailJ xs ++ 93 :: r, by simp [quotS]⟩
    obtain ⟨u, hu⟩ := e2
    rw [hu, sees_miss 93 34 u (by decide) (by decide), ← hu]
    exact items_join xs x r h
theorem nameN_v {s : List UInt8} (h : nameN s = true) : vN s = true := by
  unfold nameN at h; simp at h; exact h.1.1
theorem listB_v {l : List (List UInt8)} (h : listB l = true) : ∀ y ∈ l, vN y = true := by
  intro y hy
  unfold listB at h
  rw [Bool.and_eq_true, List.all_eq_true] at h
  obtain ⟨i, hi, rfl⟩ := List.mem_iff_getElem.1 hy
  have h2 := h.2 i (List.mem_range.2 hi)
  unfold okAt at h2
  rw [Bool.and_eq_true] at h2
  have h3 := nameN_v h2.1
  rw [List.getD_eq_getElem?_getD, List.getElem?_eq_getElem hi] at h3
  exact h3
theorem name_field (k : List UInt8) (f : Nat) (m : Nat → Bool) (r : List UInt8) (hk : fieldS k = some f) (hv : vN k = true) (hm : m f = false) : nameS m (quotS k ++ 58 :: r) = some (f, r) := by
  unfold nameS
  rw [text_quot k _ hv]
  show (seesS 58 (58 :: r)).bind (fun t => (fieldS k).bind (fun f => if m f = true then none else some (f, t))) = _
  rw [sees_hit 58 r (by decide), hk]
  show (if m f = true then none else some (f, r)) = _
  rw [hm]; rfl
theorem fld_step (k : List UInt8) (f n : Nat) (m : Nat → Bool) (c c' : Cm) (r r' : List UInt8) (hk : fieldS k = some f) (hv : vN k = true) (hm : m f = false) (hval : valS f c r = some (c', r')) : fldS n m c (quotS k ++ 58 :: r) = moreS n (upd m f) c' r' := by
  unfold fldS
  rw [name_field k f m r hk hv hm]
  show (valS f c r).bind _ = _
  rw [hval]; rfl
theorem more_step (k : List UInt8) (f n : Nat) (m : Nat → Bool) (c c' : Cm) (r r' : List UInt8) (hk : fieldS k = some f) (hv : vN k = true) (hm : m f = false) (hval : valS f c r = some (c', r')) : moreS (n + 1) m c (44 :: (quotS k ++ 58 :: r)) = moreS n (upd m f) c' r' := by
  rw [moreS_succ, sees_hit 44 _ (by decide)]
  exact fld_step k f n m c c' r r' hk hv hm hval
theorem dk_44 (r : List UInt8) : dk (44 :: r) = 0 := by rw [dk, if_neg (by decide)]
theorem dk_125 (r : List UInt8) : dk (125 :: r) = 0 := by rw [dk, if_neg (by decide)]
/-- claims that were printed are read -/
theorem obj_plain (c : Cm) (h1 : c.id ≤ 999999999999) (h2 : vN c.sub = true) (h3 : ∀ y ∈ c.scp, vN y = true) (h4 : ∀ y ∈ c.aud, vN y = true) (h5 : ∀ y ∈ c.act, vN y = true) (h6 : c.exp ≤ 999999999999) : objS (plainS c) = some c := by
  have e : plainS c = 123 :: (quotS jtiL ++ 58 :: (Lib.decDigits c.id ++ 44 :: (quotS subL ++ 58 :: (quotS c.sub ++ 44 :: (quotS scpL ++ 58 :: (listP c.scp ++ 44 :: (quotS audL ++ 58 :: (listP c.aud ++ 44 :: (quotS actL ++ 58 :: (listP c.act ++ 44 :: (quotS expL ++ 58 :: (Lib.decDigits c.exp ++ [125])))))))))))) := by
    have q1 : quotS jtiL = [34, 106, 116, 105, 34] := by decide
    have q2 : quotS subL = [34, 115, 117, 98, 34] := by decide
    have q3 : quotS scpL = [34, 115, 99, 112, 34] := by decide
    have q4 : quotS audL = [34, 97, 117, 100, 34] := by decide
    have q5 : quotS actL = [34, 97, 99, 116, 34] := by decide
    have q6 : quotS expL = [34, 101, 120, 112, 34] := by decide
    rw [q1, q2, q3, q4, q5, q6]
    simp [plainS]
  rw [e]
  unfold objS
  rw [sees_hit 123 _ (by decide)]
  rw [Option.bind_some]
  rw [fld_step jtiL 0 5 _ cm0 (cm0.setN 0 c.id) _ _ (by decide) (by decide) rfl (by
    unfold valS
    rw [if_pos (Or.inl rfl), num_dec c.id _ h1 (dk_44 _)]
    rfl)]
  rw [more_step subL 1 4 _ _ ((cm0.setN 0 c.id).setT c.sub) _ _ (by decide) (by decide) (by simp [upd]) (by
    unfold valS
    rw [if_neg (by decide), if_pos rfl, text_quot c.sub _ h2]
    rfl)]
  rw [more_step scpL 2 3 _ _ (((cm0.setN 0 c.id).setT c.sub).setL 2 c.scp) _ _ (by decide) (by decide) (by simp [upd]) (by
    unfold valS
    rw [if_neg (by decide), if_neg (by decide), list_print c.scp _ h3]
    rfl)]
  rw [more_step audL 3 2 _ _ ((((cm0.setN 0 c.id).setT c.sub).setL 2 c.scp).setL 3 c.aud) _ _ (by decide) (by decide) (by simp [upd]) (by
    unfold valS
    rw [if_neg (by decide), if_neg (by decide), list_print c.aud _ h4]
    rfl)]
  rw [more_step actL 4 1 _ _ (((((cm0.setN 0 c.id).setT c.sub).setL 2 c.scp).setL 3 c.aud).setL 4 c.act) _ _ (by decide) (by decide) (by simp [upd]) (by
    unfold valS
    rw [if_neg (by decide), if_neg (by decide), list_print c.act _ h5]
    rfl)]
  rw [more_step expL 5 0 _ _ ((((((cm0.setN 0 c.id).setT c.sub).setL 2 c.scp).setL 3 c.aud).setL 4 c.act).setN 5 c.exp) _ [125] (by decide) (by decide) (by simp [upd]) (by
    unfold valS
    rw [if_pos (Or.inr rfl), num_dec c.exp _ h6 (dk_125 _)]
    rfl)]
  rw [moreS, endS, sees_hit 125 _ (by decide)]
  rfl
theorem right_parts {c : Cm} (h : rightB c.z = true) : c.id ≤ 999999999999 ∧ vN c.sub = true ∧ (∀ y ∈ c.scp, vN y = true) ∧ (∀ y ∈ c.aud, vN y = true) ∧ (∀ y ∈ c.act, vN y = true) ∧ c.exp ≤ 999999999999 := by
  unfold rightB at h
  simp only [Bool.and_eq_true, decide_eq_true_eq] at h
  obtain ⟨⟨⟨⟨⟨⟨⟨h1, h2⟩, h3⟩, h4⟩, h5⟩, h6⟩, h7⟩, h8⟩ := h
  have e1 : c.z.id = (c.id : Int) := rfl
  have e2 : c.z.exp = (c.exp : Int) := rfl
  exact ⟨by omega, nameN_v h1, listB_v h2, listB_v h3, listB_v h4, by omega⟩
theorem obj_right {c : Cm} (h : rightB c.z = true) : objS (plainS c) = some c := by
  obtain ⟨h1, h2, h3, h4, h5, h6⟩ := right_parts h
  exact obj_plain c h1 h2 h3 h4 h5 h6
end Go.Proofs.YtkmkkmdpjliifaaGreatDoor
