import Derived.Test.YtkmkkmdpjliifaaDoorJxB
namespace Go.Proofs.YtkmkkmdpjliifaaDoor

/-- blanks, tabs, line feeds, carriage returns -/
def blankN (c : UInt8) : Bool := c == 32 || c == 9 || c == 10 || c == 13
/-- a text behind its blanks -/
def skipB : List UInt8 → List UInt8
  | [] => []
  | c :: t => if blankN c = true then skipB t else c :: t
theorem skipB_le : ∀ l : List UInt8, (skipB l).length ≤ l.length
  | [] => Nat.le_refl _
  | c :: t => by
    rw [skipB]
    split
    · exact Nat.le_succ_of_le (skipB_le t)
    · exact Nat.le_refl _
/-- the next sign is c: what comes behind it -/
def seesS (c : UInt8) (l : List UInt8) : Option (List UInt8) :=
  match skipB l with
  | [] => none
  | d :: t => if d = c then some t else none
theorem seesS_lt {c : UInt8} {l t : List UInt8} (h : seesS c l = some t) : t.length < l.length := by
  unfold seesS at h
  have := skipB_le l
  split at h
  · cases h
  · rename_i d u hs
    split at h
    · cases h
      rw [hs] at this
      simp at this
      omega
    · cases h
/-- digits to the base 16 -/
def hexN (c : UInt8) : Option Nat :=
  if 48 ≤ c.toNat ∧ c.toNat ≤ 57 then some (c.toNat - 48) else if 97 ≤ c.toNat ∧ c.toNat ≤ 102 then some (c.toNat - 87)
  else if 65 ≤ c.toNat ∧ c.toNat ≤ 70 then some (c.toNat - 55) else none
theorem hexN_lt {c : UInt8} {n : Nat} (h : hexN c = some n) : n < 16 := by
  unfold hexN at h
  repeat' split at h
  all_goals cases h
  all_goals omega
/-- n of them -/
def hexG : Nat → Nat → List UInt8 → Option (Nat × List UInt8)
  | 0, a, l => some (a, l)
  | _ + 1, _, [] => none
  | n + 1, a, c :: t => match hexN c with
    | some x => hexG n (16 * a + x) t
    | none => none
theorem hexG_len : ∀ {n a : Nat} {l t : List UInt8} {p : Nat}, hexG n a l = some (p, t) → t.length + n = l.length ∧ p < (a + 1) * 16 ^ n
  | 0, a, l, t, p, h => by cases h; exact ⟨rfl, by omega⟩
  | n + 1, a, [], t, p, h => by cases h
  | n + 1, a, c :: u, t, p, h => by
    rw [hexG] at h
    split at h
    · rename_i x hx
      have h1 := hexG_len h
      have h2 := hexN_lt hx
      refine ⟨by simp; omega, Nat.lt_of_lt_of_le h1.2 ?_⟩
      rw [Nat.pow_succ, Nat.mul_comm (16 ^ n), ← Nat.mul_assoc]
      exact Nat.mul_le_mul_right _ (by omega)
    · cases h
def hex4 (l : List UInt8) : Option (Nat × List UInt8) := hexG 4 0 l
theorem hex4_len {l t : List UInt8} {p : Nat} (h : hex4 l = some (p, t)) : t.length + 4 = l.length ∧ p < 65536 := by
  have := hexG_len h
  simpa using this
/-- the second half of a pair, of which p is the first -/
def halfS (p : Nat) (l : List UInt8) : Option (Nat × List UInt8) :=
  if l.take 2 = [92, 117] then
    match hex4 (l.drop 2) with
    | some (q, t) => if 56320 ≤ q ∧ q < 57344 then some (65536 + (p - 55296) * 1024 + (q - 56320), t) else none
    | none => none
  else none
/-- what stands behind a backslash and u -/
def pointS (l : List UInt8) : Option (Nat × List UInt8) :=
  match hex4 l with
  | some (p, t) => if p < 55296 ∨ 57344 ≤ p then some (p, t) else if 56320 ≤ p then none else halfS p t
  | none => none
/-- what stands behind a backslash -/
def escS : List UInt8 → Option (Nat × List UInt8)
  | [] => none
  | c :: t =>
    if c = 34 ∨ c = 92 ∨ c = 47 then some (c.toNat, t) else if c = 98 then some (8, t) else if c = 102 then some (12, t)
    else if c = 110 then some (10, t) else if c = 114 then some (13, t) else if c = 116 then some (9, t)
    else if c = 117 then pointS t else none
theorem halfS_len {p n : Nat} {l t : List UInt8} (h : halfS p l = some (n, t)) : t.length < l.length ∧ (p < 56320 → n < 1114112 ∧ 65536 ≤ n) := by
  unfold halfS at h
  split at h
  · split at h
    · rename_i hq
      split at h
      · have h1 := congrArg Prod.fst (Option.some.inj h)
        have h2 := congrArg Prod.snd (Option.some.inj h)
        simp only at h1 h2
        subst h2
        have := (hex4_len hq).1
        rw [List.length_drop] at this
        exact ⟨by omega, fun hp => ⟨by omega, by omega⟩⟩
      · cases h
    · cases h
  · cases h
theorem pointS_len {n : Nat} {l t : List UInt8} (h : pointS l = some (n, t)) : t.length < l.length ∧ n < 1114112 ∧ (n < 55296 ∨ 57344 ≤ n) := by
  unfold pointS at h
  split at h
  · rename_i hp
    have h1 := hex4_len hp
    split at h
    · cases h; omega
    · split at h
      · cases h
      · have := halfS_len h; omega
  · cases h
theorem escS_len {n : Nat} {l t : List UInt8} (h : escS l = some (n, t)) : t.length < l.length ∧ n < 1114112 ∧ (n < 55296 ∨ 57344 ≤ n) := by
  cases l with
  | nil => cases h
  | cons c u =>
    rw [escS] at h
    have hc := c.toNat_lt
    repeat' split at h
    all_goals first
      | (cases h; exact ⟨Nat.lt_succ_self _, by omega, by omega⟩)
      | (have := pointS_len h; exact ⟨Nat.lt_succ_of_lt this.1, this.2⟩)
      | cases h
/-- the bytes of a code point -/
def encB (p : Nat) : List UInt8 :=
  if p < 128 then [UInt8.ofNat p] else if p < 2048 then [UInt8.ofNat (192 + p / 64), UInt8.ofNat (128 + p % 64)]
  else if p < 65536 then [UInt8.ofNat (224 + p / 4096), UInt8.ofNat (128 + p / 64 % 64), UInt8.ofNat (128 + p % 64)]
  else [UInt8.ofNat (240 + p / 262144), UInt8.ofNat (128 + p / 4096 % 64), UInt8.ofNat (128 + p / 64 % 64), UInt8.ofNat (128 + p % 64)]
theorem encB_length (p : Nat) : (encB p).length ≤ 4 := by
  unfold encB
  repeat' split
  all_goals simp
/-- one piece of a string: its bytes -/
def pieceS (l : List UInt8) : Option (List UInt8 × List UInt8) :=
  match l with
  | [] => none
  | c :: t => if c.toNat < 32 then none else if c = 92 then (escS t).map (fun r => (encB r.1, r.2))
    else if fN (c :: t) = 0 then none else some ((c :: t).take (fN (c :: t)), (c :: t).drop (fN (c :: t)))
theorem pieceS_lt {l b t : List UInt8} (h : pieceS l = some (b, t)) : t.length < l.length ∧ b.length ≤ 4 * (l.length - t.length) := by
  unfold pieceS at h
  split at h
  · cases h
  · rename_i c u
    split at h
    · cases h
    · split at h
      · obtain ⟨⟨n, t1⟩, h1, h2⟩ := Option.map_eq_some_iff.1 h
        cases h2
        have h3 := escS_len h1
        have h4 := encB_length n
        simp; omega
      · split at h
        · cases h
        · cases h
          have := fN_le (c :: u) (by simp)
          rw [List.length_drop, List.length_take]
          omega
/-- a string behind its first quote: what it stands for, and what comes behind the last one -/
def txtG : Nat → List UInt8 → Option (List UInt8 × List UInt8)
  | 0, _ => none
  | _ + 1, [] => none
  | f + 1, c :: t => if c = 34 then some ([], t) else
    match pieceS (c :: t) with
    | some (b, u) => (txtG f u).map (fun r => (b ++ r.1, r.2))
    | none => none
def txtS (l : List UInt8) : Option (List UInt8 × List UInt8) := txtG l.length l
theorem txtG_more : ∀ (f : Nat) (l : List UInt8), l.length ≤ f → txtG f l = txtS l := by
  intro f
  induction f using Nat.strongRecOn with
  | ind f ih =>
    intro l hl
    cases l with
    | nil => cases f <;> rfl
    | cons c t =>
      cases f with
      | zero => simp at hl
      | succ f =>
        unfold txtS
        rw [List.length_cons, txtG, txtG]
        by_cases hc : c = 34
        · rw [if_pos hc, if_pos hc]
        · rw [if_neg hc, if_neg hc]
          cases hp : pieceS (c :: t) with
          | none => rfl
          | some r =>
            obtain ⟨b, u⟩ := r
            have h1 := (pieceS_lt hp).1
            simp at h1 hl
            show (txtG f u).map _ = (txtG t.length u).map _
            rw [ih f (by omega) u (by omega)]
            by_cases ht : t.length < f + 1
            · rw [ih t.length ht u (by omega)]
            · omega
theorem txtS_nil : txtS [] = none := rfl
theorem txtS_cons (c : UInt8) (t : List UInt8) : txtS (c :: t) = if c = 34 then some ([], t) else
    match pieceS (c :: t) with
    | some (b, u) => (txtS u).map (fun r => (b ++ r.1, r.2))
    | none => none := by
  rw [show txtS (c :: t) = txtG (t.length + 1) (c :: t) from rfl, txtG]
  by_cases hc : c = 34
  · rw [if_pos hc, if_pos hc]
  · rw [if_neg hc, if_neg hc]
    cases hp : pieceS (c :: t) with
    | none => rfl
    | some r =>
      obtain ⟨b, u⟩ := r
      have h1 := (pieceS_lt hp).1
      simp at h1
      show (txtG t.length u).map _ = (txtS u).map _
      rw [txtG_more _ u (by omega)]
theorem txtS_lt : ∀ (n : Nat) {l v t : List UInt8}, l.length ≤ n → txtS l = some (v, t) → t.length < l.length ∧ v.length ≤ 4 * (l.length - t.length) := by
  intro n
  induction n with
  | zero => intro l v t hl h; cases l with
    | nil => cases h
    | cons => simp at hl
  | succ n ih =>
    intro l v t hl h
    cases l with
    | nil => cases h
    | cons c u =>
      rw [txtS_cons] at h
      split at h
      · cases h; simp
      · split at h
        · rename_i b u2 hp
          obtain ⟨⟨v1, t1⟩, h1, h2⟩ := Option.map_eq_some_iff.1 h
          cases h2
          have h3 := pieceS_lt hp
          have h4 := ih (by simp at hl h3; omega) h1
          simp at hl h3 ⊢
          omega
        · cases h
/-- a string -/
def textS (l : List UInt8) : Option (List UInt8 × List UInt8) := (seesS 34 l).bind txtS
theorem textS_lt {l v t : List UInt8} (h : textS l = some (v, t)) : t.length < l.length ∧ v.length ≤ 4 * (l.length - t.length) := by
  obtain ⟨u, h1, h2⟩ := Option.bind_eq_some_iff.1 h
  have h3 := seesS_lt h1
  have h4 := txtS_lt _ (Nat.le_refl _) h2
  omega
/-- how many digits a text begins with, and the number of the first k -/
def digN (c : UInt8) : Bool := decide (48 ≤ c.toNat) && decide (c.toNat ≤ 57)
def dk : List UInt8 → Nat
  | [] => 0
  | c :: t => if digN c = true then dk t + 1 else 0
def dv (l : List UInt8) : Nat → Nat
  | 0 => 0
  | k + 1 => 10 * dv l k + (by_ l k - 48)
theorem dv_mono (l : List UInt8) : ∀ {j k : Nat}, j ≤ k → dv l j ≤ dv l k := by
  intro j k h
  induction k with
  | zero => obtain rfl : j = 0 := by omega
            exact Nat.le_refl _
  | succ k ih =>
    by_cases e : j = k + 1
    · subst e; exact Nat.le_refl _
    · have := ih (by omega)
      rw [dv]; omega
theorem dk_le : ∀ l : List UInt8, dk l ≤ l.length
  | [] => Nat.le_refl _
  | c :: t => by
    have := dk_le t
    rw [dk]
    split <;> simp <;> omega
theorem by_cons (c : UInt8) (t : List UInt8) (k : Nat) : by_ (c :: t) (k + 1) = by_ t k := rfl
theorem dk_dig : ∀ (l : List UInt8) (k : Nat), k < dk l → 48 ≤ by_ l k ∧ by_ l k ≤ 57
  | [], k, h => by simp [dk] at h
  | c :: t, k, h => by
    rw [dk] at h
    split at h
    · rename_i hd
      cases k with
      | zero =>
        unfold digN at hd
        simp at hd
        exact hd
      | succ k =>
        rw [by_cons]
        exact dk_dig t k (by omega)
    · omega
theorem dk_end : ∀ (l : List UInt8), dk l < l.length → ¬ (48 ≤ by_ l (dk l) ∧ by_ l (dk l) ≤ 57)
  | [], h => by simp at h
  | c :: t, h => by
    rw [dk] at h ⊢
    split
    · rename_i hd
      rw [if_pos hd] at h
      rw [by_cons]
      exact dk_end t (by simp at h; omega)
    · rename_i hd
      unfold digN at hd
      simp at hd
      show ¬ (48 ≤ c.toNat ∧ c.toNat ≤ 57)
      omega
/-- a number -/
def numT (s : List UInt8) : Option (Nat × List UInt8) :=
  if dk s = 0 ∨ (1 < dk s ∧ by_ s 0 = 48) ∨ 999999999999 < dv s (dk s) then none else some (dv s (dk s), s.drop (dk s))
def numS (l : List UInt8) : Option (Nat × List UInt8) := numT (skipB l)
theorem numS_lt {l t : List UInt8} {n : Nat} (h : numS l = some (n, t)) : t.length < l.length ∧ n ≤ 999999999999 := by
  unfold numS numT at h
  have h1 := skipB_le l
  have h2 := dk_le (skipB l)
  split at h
  · cases h
  · cases h
    rw [List.length_drop]
    omega
/-- the names of a list, behind the bracket or a comma -/
def itemsG : Nat → List UInt8 → Option (List (List UInt8) × List UInt8)
  | 0, _ => none
  | f + 1, l => match textS l with
    | none => none
    | some (v, t) => match seesS 44 t with
      | some u => (itemsG f u).map (fun r => (v :: r.1, r.2))
      | none => (seesS 93 t).map (fun u => ([v], u))
def itemsS (l : List UInt8) : Option (List (List UInt8) × List UInt8) := itemsG l.length l
theorem itemsG_more : ∀ (f : Nat) (l : List UInt8), l.length ≤ f → itemsG f l = itemsS l := by
  intro f
  induction f using Nat.strongRecOn with
  | ind f ih =>
    intro l hl
    cases f with
    | zero =>
      have : l = [] := List.length_eq_zero_iff.1 (by omega)
      subst this; rfl
    | succ f =>
      unfold itemsS
      cases hL : l.length with
      | zero =>
        have : l = [] := List.length_eq_zero_iff.1 hL
        subst this; rfl
      | succ m =>
        rw [itemsG, itemsG]
        cases ht : textS l with
        | none => rfl
        | some r =>
          obtain ⟨v, t⟩ := r
          have h1 := textS_lt ht
          cases hc : seesS 44 t with
          | none => simp only [hc]
          | some u =>
            have h2 := seesS_lt hc
            simp only [hc]
            show (itemsG f u).map _ = (itemsG m u).map _
            rw [ih f (by omega) u (by omega)]
            by_cases hm : m < f + 1
            · rw [ih m hm u (by omega)]
            · omega
theorem itemsS_step (l : List UInt8) : itemsS l = match textS l with
    | none => none
    | some (v, t) => match seesS 44 t with
      | some u => (itemsS u).map (fun r => (v :: r.1, r.2))
      | none => (seesS 93 t).map (fun u => ([v], u)) := by
  cases hl : l with
  | nil => rfl
  | cons c l' =>
    rw [← hl]
    have hL : l.length = l'.length + 1 := by rw [hl]; rfl
    rw [show itemsS l = itemsG (l'.length + 1) l by unfold itemsS; rw [hL], itemsG]
    cases ht : textS l with
    | none => rfl
    | some r =>
      obtain ⟨v, t⟩ := r
      have h1 := textS_lt ht
      cases hc : seesS 44 t with
      | none => simp only [hc]
      | some u =>
        have h2 := seesS_lt hc
        simp only [hc]
        show (itemsG l'.length u).map _ = (itemsS u).map _
        rw [itemsG_more _ u (by omega)]
/-- a list -/
def restS (t : List UInt8) : Option (List (List UInt8) × List UInt8) :=
  match seesS 93 t with
  | some u => some ([], u)
  | none => itemsS t
def listS (l : List UInt8) : Option (List (List UInt8) × List UInt8) := (seesS 91 l).bind restS

/-- claims -/
structure Cm where
  id : Nat
  sub : List UInt8
  scp : List (List UInt8)
  aud : List (List UInt8)
  act : List (List UInt8)
  exp : Nat
def cm0 : Cm := ⟨0, [], [], [], [], 0⟩
def Cm.setN (c : Cm) (f n : Nat) : Cm := if f = 0 then { c with id := n } else { c with exp := n }
def Cm.setT (c : Cm) (s : List UInt8) : Cm := { c with sub := s }
def Cm.setL (c : Cm) (f : Nat) (l : List (List UInt8)) : Cm := if f = 2 then { c with scp := l } else if f = 3 then { c with aud := l } else { c with act := l }
def jtiL : List UInt8 := [106, 116, 105]
def subL : List UInt8 := [115, 117, 98]
def scpL : List UInt8 := [115, 99, 112]
def audL : List UInt8 := [97, 117, 100]
def actL : List UInt8 := [97, 99, 116]
def expL : List UInt8 := [101, 120, 112]
/-- which field a name is that of -/
def fieldS (k : List UInt8) : Option Nat :=
  if k = jtiL then some 0 else if k = subL then some 1 else if k = scpL then some 2 else if k = audL then some 3
  else if k = actL then some 4 else if k = expL then some 5 else none
theorem fieldS_lt {k : List UInt8} {f : Nat} (h : fieldS k = some f) : f < 6 ∧ k.length = 3 := by
  unfold fieldS at h
  repeat' split at h
  all_goals first
    | (rename_i e; cases h; subst e; exact ⟨by decide, rfl⟩)
    | cases h
/-- the value of a field -/
def valS (f : Nat) (c : Cm) (l : List UInt8) : Option (Cm × List UInt8) :=
  if f = 0 ∨ f = 5 then (numS l).map (fun r => (c.setN f r.1, r.2)) else if f = 1 then (textS l).map (fun r => (c.setT r.1, r.2))
  else (listS l).map (fun r => (c.setL f r.1, r.2))
/-- the fields that came so far -/
def upd (m : Nat → Bool) (f : Nat) : Nat → Bool := fun j => if j = f then true else m j
def cnt (m : Nat → Bool) : Nat := (m 0).toNat + (m 1).toNat + (m 2).toNat + (m 3).toNat + (m 4).toNat + (m 5).toNat
theorem cnt_upd (m : Nat → Bool) (f : Nat) (hf : f < 6) (h : m f = false) : cnt (upd m f) = cnt m + 1 := by
  have : f = 0 ∨ f = 1 ∨ f = 2 ∨ f = 3 ∨ f = 4 ∨ f = 5 := by omega
  rcases this with rfl | rfl | rfl | rfl | rfl | rfl <;> simp [cnt, upd, h] <;> omega
theorem cnt_le (m : Nat → Bool) : cnt m ≤ 6 := by
  have h : ∀ b : Bool, b.toNat ≤ 1 := by decide
  have h0 := h (m 0); have h1 := h (m 1); have h2 := h (m 2); have h3 := h (m 3); have h4 := h (m 4); have h5 := h (m 5)
  unfold cnt; omega
theorem cnt_all (m : Nat → Bool) : cnt m = 6 ↔ ∀ f, f < 6 → m f = true := by
  have h : ∀ b : Bool, b.toNat ≤ 1 ∧ (b.toNat = 1 ↔ b = true) := by decide
  have h0 := h (m 0); have h1 := h (m 1); have h2 := h (m 2); have h3 := h (m 3); have h4 := h (m 4); have h5 := h (m 5)
  constructor
  · intro hc f hf
    unfold cnt at hc
    have : f = 0 ∨ f = 1 ∨ f = 2 ∨ f = 3 ∨ f = 4 ∨ f = 5 := by omega
    rcases this with rfl | rfl | rfl | rfl | rfl | rfl
    · exact h0.2.1 (by omega)
    · exact h1.2.1 (by omega)
    · exact h2.2.1 (by omega)
    · exact h3.2.1 (by omega)
    · exact h4.2.1 (by omega)
    · exact h5.2.1 (by omega)
  · intro ha
    have a0 := h0.2.2 (ha 0 (by omega)); have a1 := h1.2.2 (ha 1 (by omega)); have a2 := h2.2.2 (ha 2 (by omega))
    have a3 := h3.2.2 (ha 3 (by omega)); have a4 := h4.2.2 (ha 4 (by omega)); have a5 := h5.2.2 (ha 5 (by omega))
    unfold cnt; omega
/-- n fields more, the comma ahead of each (apart from the first) gone over, then the brace, then nothing -/
def endS (c : Cm) (l : List UInt8) : Option Cm := (seesS 125 l).bind (fun t => if skipB t = [] then some c else none)
def nameS (m : Nat → Bool) (l : List UInt8) : Option (Nat × List UInt8) :=
  (textS l).bind (fun r => (seesS 58 r.2).bind (fun t => (fieldS r.1).bind (fun f => if m f = true then none else some (f, t))))
def moreS : Nat → (Nat → Bool) → Cm → List UInt8 → Option Cm
  | 0, _, c, l => endS c l
  | n + 1, m, c, l => (seesS 44 l).bind (fun t => (nameS m t).bind (fun r => (valS r.1 c r.2).bind (fun q => moreS n (upd m r.1) q.1 q.2)))
def fldS (n : Nat) (m : Nat → Bool) (c : Cm) (l : List UInt8) : Option Cm := (nameS m l).bind (fun r => (valS r.1 c r.2).bind (fun q => moreS n (upd m r.1) q.1 q.2))
theorem moreS_succ (n : Nat) (m : Nat → Bool) (c : Cm) (l : List UInt8) : moreS (n + 1) m c l = (seesS 44 l).bind (fun t => fldS n m c t) := rfl
/-- an object -/
def objS (l : List UInt8) : Option Cm := (seesS 123 l).bind (fun t => fldS 5 (fun _ => false) cm0 t)
def numB (n : Nat) : Bool := decide (n ≤ 999999999999)
end Go.Proofs.YtkmkkmdpjliifaaDoor
