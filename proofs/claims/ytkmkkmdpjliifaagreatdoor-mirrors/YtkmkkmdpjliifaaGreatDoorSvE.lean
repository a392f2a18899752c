import Derived.Test.YtkmkkmdpjliifaaGreatDoorSvB
import Derived.Test.YtkmkkmdpjliifaaGreatDoorTxJ
import Derived.Deep.QuietTactic
import Derived.BigQuiet
namespace Go.Proofs.YtkmkkmdpjliifaaGreatDoor
open Go.ChangeShapes Go.WideShapes Go.ChangeAt Go.RowKit

/-- the first client of a name -/
def findK (cs : List Cl) (n : List UInt8) : Option Nat := (List.range cs.length).find? (fun j => clName cs j == n)
/-- the client of a login -/
def loginK (cs : List Cl) (n s : List UInt8) : Option Nat := (findK cs n).bind (fun j => if (cs.getD j default).secret = s then some j else none)
theorem findK_none {cs : List Cl} {x : List UInt8} (h : ∀ j, j < cs.length → (clName cs j != x) = true) : findK cs x = none := by
  unfold findK
  rw [List.find?_eq_none]
  intro j hj
  have := h j (List.mem_range.1 hj)
  simpa using this
theorem findK_some {cs : List Cl} {x : List UInt8} {m : Nat} (hm : m < cs.length) (he : (clName cs m == x) = true) (h : ∀ j, j < m → (clName cs j != x) = true) : findK cs x = some m := by
  unfold findK
  rw [List.find?_range_eq_some]
  refine ⟨he, List.mem_range.2 hm, fun j hj => ?_⟩
  have := h j hj
  simpa using this
theorem findK_lt {cs : List Cl} {x : List UInt8} {m : Nat} (h : findK cs x = some m) : m < cs.length := by
  unfold findK at h
  have := List.mem_of_find?_eq_some h
  exact List.mem_range.1 this
theorem loginK_lt {cs : List Cl} {x y : List UInt8} {m : Nat} (h : loginK cs x y = some m) : m < cs.length := by
  unfold loginK at h
  obtain ⟨j, h1, h2⟩ := Option.bind_eq_some_iff.1 h
  split at h2
  · cases h2; exact findK_lt h1
  · cases h2
theorem clientsB_len {cs : List Cl} (h : clientsB cs = true) : cs.length ≤ 8 := by
  unfold clientsB at h
  simp at h
  exact h.2

set_option maxRecDepth 20000 in
set_option maxHeartbeats 1000000 in
theorem Login_any (n sec : List UInt8) (w : World) (s R O : Nat) (vk vs : Value) (ks : List Ky) (cs : List Cl) (Qs : List Nat) (hs : s ≤ w.heap.size) (h : Sb w s R O vk vs ks cs Qs) :
    Calls Tryz.prog 93 #[.pointer (some ⟨O, 0, none⟩), .agg #[.string ⟨n.toArray⟩, .string ⟨sec.toArray⟩]] w fun e w' => Below w.heap.size w w' ∧
      ((loginK cs n sec = none ∧ e = .returned (.tuple #[.pointer none, .int .i64 5])) ∨ ∃ m q, loginK cs n sec = some m ∧ Qs[m]? = some q ∧ e = .returned (.tuple #[.pointer (some ⟨q, 0, none⟩), .int .i64 0])) := by
  obtain ⟨wa, hwa⟩ : ∃ wa, wa = w.alloc (.cells #[.string ⟨n.toArray⟩, .string ⟨sec.toArray⟩] 81) := ⟨_, rfl⟩
  have hba : Below w.heap.size w wa := by rw [hwa]; exact (Below.refl _ _).alloc (Nat.le_refl _) _
  have hsa : wa.heap.size = w.heap.size + 1 := by rw [hwa]; simp
  have ha := h.below (hba.mono hs)
  have g0 : wa.cell? ⟨w.heap.size, 0, none⟩ = some (.string ⟨n.toArray⟩) := by rw [hwa]; simp
  have g1 : wa.cell? ⟨w.heap.size, 1, none⟩ = some (.string ⟨sec.toArray⟩) := by rw [hwa]; simp
  have hF := findC_any vs cs Qs cs.length n O wa 0 (clientsB_len h.cb) ha.len ha.own (fun j q hq => (ha.cli j q hq).name) ha.ros
  have HF := hide hF
  have HA := hide ha
  have HWA := hide hwa
  clear hF ha hwa h
  have g0a : (w.alloc (.cells #[.string ⟨n.toArray⟩, .string ⟨sec.toArray⟩] 81)).cell? ⟨w.heap.size, 0, none⟩ = some (.string ⟨n.toArray⟩) := by rw [← unhide HWA]; exact g0
  go_enter Tryz.func93, Tryz.ntmps93
  go_wp2_with fail
  rw [← unhide HWA]
  clear HWA
  refine (unhide HF).mono ?_
  rintro e w1 ⟨⟨p, rfl, hp⟩, rfl⟩
  rcases hp with ⟨rfl, hno⟩ | ⟨m, q, rfl, hm, hq, hname, hfirst⟩
  · have hl : loginK cs n sec = none := by unfold loginK; rw [findK_none hno]; rfl
    have HL := hide hl
    clear hl hno
    go_wp2_with fail
    go_quiet (fail)
    go_wp2_with fail
    go_ret2
    exact ⟨below_drewN' hba _, Or.inl ⟨unhide HL, rfl⟩⟩
  · have hf := findK_some hm hname hfirst
    obtain ⟨hqs, p2, p3, p4, hcell, _⟩ := (unhide HA).cli m q hq
    have c4 : w1.cell? ⟨q, 4, none⟩ = some (.string ⟨(cs.getD m default).secret.toArray⟩) := hcell 4 (by decide)
    have HQ := hide hq
    clear hcell hq hname hfirst hm
    by_cases he : (cs.getD m default).secret = sec
    · have hl : loginK cs n sec = some m := by unfold loginK; rw [hf]; show (if (cs.getD m default).secret = sec then some m else none) = some m; rw [if_pos he]
      have HL := hide hl
      clear hl hf
      rw [he] at c4
      clear he
      go_wp2_with fail
      go_quiet (fail)
      go_wp2_with fail
      go_ret2
      exact ⟨below_drewN' hba _, Or.inr ⟨m, q, unhide HL, unhide HQ, rfl⟩⟩
    · have hl : loginK cs n sec = none := by unfold loginK; rw [hf]; show (if (cs.getD m default).secret = sec then some m else none) = none; rw [if_neg he]
      have HL := hide hl
      have hne : ((cs.getD m default).secret == sec) = false := by simpa using he
      clear hl hf
      generalize (cs.getD m default).secret = sx at *
      go_wp2_with fail
      go_quiet (fail)
      go_wp2_with fail
      go_ret2
      exact ⟨below_drewN' hba _, Or.inl ⟨unhide HL, rfl⟩⟩
end Go.Proofs.YtkmkkmdpjliifaaGreatDoor
namespace Go.Proofs.YtkmkkmdpjliifaaGreatDoor
open Go.ChangeShapes Go.WideShapes Go.ChangeAt Go.RowKit

/-- does a list have a name? -/
def hasB (l : List (List UInt8)) (x : List UInt8) : Bool := !(List.range l.length).all (fun k => l.getD k [] != x)
/-- are there names, all of them of a list? -/
def someB (l L : List (List UInt8)) : Bool := (List.range l.length).all (fun k => hasB L (l.getD k [])) && decide (0 < l.length)

set_option maxRecDepth 20000 in
set_option maxHeartbeats 1000000 in
/-- the closure of a client's list -/
theorem among_any (x : List UInt8) (p : Nat) (L : List (List UInt8)) (w : World) (N : Nat → Prop) (hN : ∀ k, N k → k < w.heap.size) (hl : L.length ≤ 8796093022208) (h : LsP w N p L) :
    Calls Tryz.prog 188 #[.string ⟨x.toArray⟩, .pointer (some ⟨p, 0, none⟩)] w fun e w' => e = .returned (.bool (hasB L x)) ∧ w' = w := by
  obtain ⟨hp, a, c, hc, hL⟩ := h
  have HC := hide (Contains_any (.slice a L.length c) L x w w.heap.size hl (hL.ls hN))
  clear hL hl
  go_enter Tryz.func188, Tryz.ntmps188
  go_wp2_with (go_at_call 135; refine (unhide HC).mono ?_; rintro e w1 ⟨rfl, rfl⟩)
  go_ret
  exact ⟨rfl, rfl⟩

set_option maxRecDepth 20000 in
set_option maxHeartbeats 1000000 in
theorem areSome_any (v : Value) (l : List (List UInt8)) (p : Nat) (L : List (List UInt8)) (w : World) (B : Nat) (N : Nat → Prop) (hN : ∀ k, N k → k < w.heap.size) (hl : l.length ≤ 8796093022208) (hL : L.length ≤ 8796093022208) (hv : Ls w B v l) (h : LsP w N p L) :
    Calls Tryz.prog 96 #[v, .func (.func 188) #[] #[.pointer (some ⟨p, 0, none⟩)]] w fun e w' => e = .returned (.bool (someB l L)) ∧ w' = w := by
  obtain ⟨a, c, rfl, hle, hv⟩ := hv
  have HV := hide hv
  have HL := hide hl
  have HA := hide (fun x => among_any x p L w N hN hL h)
  clear hv hl hL hle h hN
  go_enter Tryz.func96, Tryz.ntmps96
  go_wp2_with fail
  go_loopg [9] l.length (fun q i wr => ∃ k : Nat, k + q = l.length ∧ i = .int .i64 (k : Nat) ∧ (∀ j, j < k → hasB L (l.getD j []) = true) ∧ wr = w)
  case atStart => exact ⟨0, Nat.zero_add _, rfl, fun j hj => absurd hj (Nat.not_lt_zero _), rfl⟩
  case round =>
    obtain ⟨k, hk, rfl, hall, rfl⟩ := hrel
    have HALL := hide hall
    clear hall
    by_cases hlt : k < l.length
    · have hkI : (k : Int) < (l.length : Int) := by omega
      have hw : wrap64 ((k : Int) + 1) = (k : Int) + 1 := w64 _ (by omega) (by have := unhide HL; omega)
      obtain ⟨g, o, rfl, hg, hc⟩ := unhide HV (by omega)
      have hck := hc k hlt
      rw [sv_def] at hck
      have HX := hide (unhide HA (l.getD k []))
      have HK : Hid (hasB L (l.getD k []) = hasB L (l.getD k [])) := rfl
      generalize hxx : l.getD k [] = x at hck HX
      have HXX := hide hxx
      clear hc hxx HK
      cases hb : hasB L x with
      | true =>
        rw [hb] at HX
        go_wp2_with (go_at_call 188; refine (unhide HX).mono ?_; rintro e w1 ⟨rfl, rfl⟩)
        go_roundg (gk - 1)
        case measure => omega
        case rel => exact ⟨k + 1, by omega, by first | exact num1 hw | rfl, fun j hj => by
          by_cases e : j = k
          · subst e; rw [unhide HXX]; exact hb
          · exact unhide HALL j (by omega), rfl⟩
      | false =>
        rw [hb] at HX
        go_wp2_with (go_at_call 188; refine (unhide HX).mono ?_; rintro e w1 ⟨rfl, rfl⟩)
        go_ret
        refine ⟨ret_bool ?_, rfl⟩
        unfold someB
        rw [all_false hlt (by rw [unhide HXX]; exact hb)]
        rfl
    · have hkn : k = l.length := by omega
      subst hkn
      clear hk
      go_wp2_with fail
      go_ret
      refine ⟨ret_bool ?_, rfl⟩
      unfold someB
      rw [all_true (unhide HALL)]
      simp
end Go.Proofs.YtkmkkmdpjliifaaGreatDoor
namespace Go.Proofs.YtkmkkmdpjliifaaGreatDoor

/-- blanks, tabs, line feeds, carriage returns -/
def blankN (c : UInt8) : Bool := c == 32 || c == 9 || c == 10 || c == 13
/-- a text behind its blanks -/
def skipB : List UInt8 → List UInt8
  | [] => []
  | c :: t => if blankN c = true then skipB t else c :: t
theorem skipB_le : ∀ l : List UInt8, (skipB l).length ≤ l.length
  | [] => Nat.le_refl _
  | c :: t => by
    rw [skipB]
    split
    · exact Nat.le_succ_of_le (skipB_le t)
    · exact Nat.le_refl _
/-- the next sign is c: what comes behind it -/
def seesS (c : UInt8) (l : List UInt8) : Option (List UInt8) :=
  match skipB l with
  | [] => none
  | d :: t => if d = c then some t else none
theorem seesS_lt {c : UInt8} {l t : List UInt8} (h : seesS c l = some t) : t.length < l.length := by
  unfold seesS at h
  have := skipB_le l
  split at h
  · cases h
  · rename_i d u hs
    split at h
    · cases h
      rw [hs] at this
      simp at this
      omega
    · cases h
/-- digits to the base 16 -/
def hexN (c : UInt8) : Option Nat :=
  if 48 ≤ c.toNat ∧ c.toNat ≤ 57 then some (c.toNat - 48) else if 97 ≤ c.toNat ∧ c.toNat ≤ 102 then some (c.toNat - 87)
  else if 65 ≤ c.toNat ∧ c.toNat ≤ 70 then some (c.toNat - 55) else none
theorem hexN_lt {c : UInt8} {n : Nat} (h : hexN c = some n) : n < 16 := by
  unfold hexN at h
  repeat' split at h
  all_goals cases h
  all_goals omega
/-- n of them -/
def hexG : Nat → Nat → List UInt8 → Option (Nat × List UInt8)
  | 0, a, l => some (a, l)
  | _ + 1, _, [] => none
  | n + 1, a, c :: t => match hexN c with
    | some x => hexG n (16 * a + x) t
    | none => none
theorem hexG_len : ∀ {n a : Nat} {l t : List UInt8} {p : Nat}, hexG n a l = some (p, t) → t.length + n = l.length ∧ p < (a + 1) * 16 ^ n
  | 0, a, l, t, p, h => by cases h; exact ⟨rfl, by omega⟩
  | n + 1, a, [], t, p, h => by cases h
  | n + 1, a, c :: u, t, p, h => by
    rw [hexG] at h
    split at h
    · rename_i x hx
      have h1 := hexG_len h
      have h2 := hexN_lt hx
      refine ⟨by simp; omega, Nat.lt_of_lt_of_le h1.2 ?_⟩
      rw [Nat.pow_succ, Nat.mul_comm (16 ^ n), ← Nat.mul_assoc]
      exact Nat.mul_le_mul_right _ (by omega)
    · cases h
def hex4 (l : List UInt8) : Option (Nat × List UInt8) := hexG 4 0 l
theorem hex4_len {l t : List UInt8} {p : Nat} (h : hex4 l = some (p, t)) : t.length + 4 = l.length ∧ p < 65536 := by
  have := hexG_len h
  simpa using this
/-- the second half of a pair, of which p is the first -/
def halfS (p : Nat) (l : List UInt8) : Option (Nat × List UInt8) :=
  if l.take 2 = [92, 117] then
    match hex4 (l.drop 2) with
    | some (q, t) => if 56320 ≤ q ∧ q < 57344 then some (65536 + (p - 55296) * 1024 + (q - 56320), t) else none
    | none => none
  else none
/-- what stands behind a backslash and u -/
def pointS (l : List UInt8) : Option (Nat × List UInt8) :=
  match hex4 l with
  | some (p, t) => if p < 55296 ∨ 57344 ≤ p then some (p, t) else if 56320 ≤ p then none else halfS p t
  | none => none
/-- what stands behind a backslash -/
def escS : List UInt8 → Option (Nat × List UInt8)
  | [] => none
  | c :: t =>
    if c = 34 ∨ c = 92 ∨ c = 47 then some (c.toNat, t) else if c = 98 then some (8, t) else if c = 102 then some (12, t)
    else if c = 110 then some (10, t) else if c = 114 then some (13, t) else if c = 116 then some (9, t)
    else if c = 117 then pointS t else none
theorem halfS_len {p n : Nat} {l t : List UInt8} (h : halfS p l = some (n, t)) : t.length < l.length ∧ (p < 56320 → n < 1114112 ∧ 65536 ≤ n) := by
  unfold halfS at h
  split at h
  · split at h
    · rename_i hq
      split at h
      · have h1 := congrArg Prod.fst (Option.some.inj h)
        have h2 := congrArg Prod.snd (Option.some.inj h)
        simp only at h1 h2
        subst h2
        have := (hex4_len hq).1
        rw [List.length_drop] at this
        exact ⟨by omega, fun hp => ⟨by omega, by omega⟩⟩
      · cases h
    · cases h
  · cases h
theorem pointS_len {n : Nat} {l t : List UInt8} (h : pointS l = some (n, t)) : t.length < l.length ∧ n < 1114112 ∧ (n < 55296 ∨ 57344 ≤ n) := by
  unfold pointS at h
  split at h
  · rename_i hp
    have h1 := hex4_len hp
    split at h
    · cases h; omega
    · split at h
      · cases h
      · have := halfS_len h; omega
  · cases h
theorem escS_len {n : Nat} {l t : List UInt8} (h : escS l = some (n, t)) : t.length < l.length ∧ n < 1114112 ∧ (n < 55296 ∨ 57344 ≤ n) := by
  cases l with
  | nil => cases h
  | cons c u =>
    rw [escS] at h
    have hc := c.toNat_lt
    repeat' split at h
    all_goals first
      | (cases h; exact ⟨Nat.lt_succ_self _, by omega, by omega⟩)
      | (have := pointS_len h; exact ⟨Nat.lt_succ_of_lt this.1, this.2⟩)
      | cases h
/-- the bytes of a code point -/
def encB (p : Nat) : List UInt8 :=
  if p < 128 then [UInt8.ofNat p] else if p < 2048 then [UInt8.ofNat (192 + p / 64), UInt8.ofNat (128 + p % 64)]
  else if p < 65536 then [UInt8.ofNat (224 + p / 4096), UInt8.ofNat (128 + p / 64 % 64), UInt8.ofNat (128 + p % 64)]
  else [UInt8.ofNat (240 + p / 262144), UInt8.ofNat (128 + p / 4096 % 64), UInt8.ofNat (128 + p / 64 % 64), UInt8.ofNat (128 + p % 64)]
theorem encB_length (p : Nat) : (encB p).length ≤ 4 := by
  unfold encB
  repeat' split
  all_goals simp
/-- one piece of a string: its bytes -/
def pieceS (l : List UInt8) : Option (List UInt8 × List UInt8) :=
  match l with
  | [] => none
  | c :: t => if c.toNat < 32 then none else if c = 92 then (escS t).map (fun r => (encB r.1, r.2))
    else if fN (c :: t) = 0 then none else some ((c :: t).take (fN (c :: t)), (c :: t).drop (fN (c :: t)))
theorem pieceS_lt {l b t : List UInt8} (h : pieceS l = some (b, t)) : t.length < l.length ∧ b.length ≤ 4 * (l.length - t.length) := by
  unfold pieceS at h
  split at h
  · cases h
  · rename_i c u
    split at h
    · cases h
    · split at h
      · obtain ⟨⟨n, t1⟩, h1, h2⟩ := Option.map_eq_some_iff.1 h
        cases h2
        have h3 := escS_len h1
        have h4 := encB_length n
        simp; omega
      · split at h
        · cases h
        · cases h
          have := fN_le (c :: u) (by simp)
          rw [List.length_drop, List.length_take]
          omega
/-- a string behind its first quote: what it stands for, and what comes behind the last one -/
def txtG : Nat → List UInt8 → Option (List UInt8 × List UInt8)
  | 0, _ => none
  | _ + 1, [] => none
  | f + 1, c :: t => if c = 34 then some ([], t) else
    match pieceS (c :: t) with
    | some (b, u) => (txtG f u).map (fun r => (b ++ r.1, r.2))
    | none => none
def txtS (l : List UInt8) : Option (List UInt8 × List UInt8) := txtG l.length l
theorem txtG_more : ∀ (f : Nat) (l : List UInt8), l.length ≤ f → txtG f l = txtS l := by
  intro f
  induction f using Nat.strongRecOn with
  | ind f ih =>
    intro l hl
    cases l with
    | nil => cases f <;> rfl
    | cons c t =>
      cases f with
      | zero => simp at hl
      | succ f =>
        unfold txtS
        rw [List.length_cons, txtG, txtG]
        by_cases hc : c = 34
        · rw [if_pos hc, if_pos hc]
        · rw [if_neg hc, if_neg hc]
          cases hp : pieceS (c :: t) with
          | none => rfl
          | some r =>
            obtain ⟨b, u⟩ := r
            have h1 := (pieceS_lt hp).1
            simp at h1 hl
            show (txtG f u).map _ = (txtG t.length u).map _
            rw [ih f (by omega) u (by omega)]
            by_cases ht : t.length < f + 1
            · rw [ih t.length ht u (by omega)]
            · omega
theorem txtS_cons (c : UInt8) (t : List UInt8) : txtS (c :: t) = if c = 34 then some ([], t) else
    match pieceS (c :: t) with
    | some (b, u) => (txtS u).map (fun r => (b ++ r.1, r.2))
    | none => none := by
  rw [show txtS (c :: t) = txtG (t.length + 1) (c :: t) from rfl, txtG]
  by_cases hc : c = 34
  · rw [if_pos hc, if_pos hc]
  · rw [if_neg hc, if_neg hc]
    cases hp : pieceS (c :: t) with
    | none => rfl
    | some r =>
      obtain ⟨b, u⟩ := r
      have h1 := (pieceS_lt hp).1
      simp at h1
      show (txtG t.length u).map _ = (txtS u).map _
      rw [txtG_more _ u (by omega)]
theorem txtS_lt : ∀ (n : Nat) {l v t : List UInt8}, l.length ≤ n → txtS l = some (v, t) → t.length < l.length ∧ v.length ≤ 4 * (l.length - t.length) := by
  intro n
  induction n with
  | zero => intro l v t hl h; cases l with
    | nil => cases h
    | cons => simp at hl
  | succ n ih =>
    intro l v t hl h
    cases l with
    | nil => cases h
    | cons c u =>
      rw [txtS_cons] at h
      split at h
      · cases h; simp
      · split at h
        · rename_i b u2 hp
          obtain ⟨⟨v1, t1⟩, h1, h2⟩ := Option.map_eq_some_iff.1 h
          cases h2
          have h3 := pieceS_lt hp
          have h4 := ih (by simp at hl h3; omega) h1
          simp at hl h3 ⊢
          omega
        · cases h
/-- a string -/
def textS (l : List UInt8) : Option (List UInt8 × List UInt8) := (seesS 34 l).bind txtS
theorem textS_lt {l v t : List UInt8} (h : textS l = some (v, t)) : t.length < l.length ∧ v.length ≤ 4 * (l.length - t.length) := by
  obtain ⟨u, h1, h2⟩ := Option.bind_eq_some_iff.1 h
  have h3 := seesS_lt h1
  have h4 := txtS_lt _ (Nat.le_refl _) h2
  omega
/-- how many digits a text begins with, and the number of the first k -/
def digN (c : UInt8) : Bool := decide (48 ≤ c.toNat) && decide (c.toNat ≤ 57)
def dk : List UInt8 → Nat
  | [] => 0
  | c :: t => if digN c = true then dk t + 1 else 0
def dv (l : List UInt8) : Nat → Nat
  | 0 => 0
  | k + 1 => 10 * dv l k + (by_ l k - 48)
theorem dv_mono (l : List UInt8) : ∀ {j k : Nat}, j ≤ k → dv l j ≤ dv l k := by
  intro j k h
  induction k with
  | zero => obtain rfl : j = 0 := by omega
            exact Nat.le_refl _
  | succ k ih =>
    by_cases e : j = k + 1
    · subst e; exact Nat.le_refl _
    · have := ih (by omega)
      rw [dv]; omega
theorem dk_le : ∀ l : List UInt8, dk l ≤ l.length
  | [] => Nat.le_refl _
  | c :: t => by
    have := dk_le t
    rw [dk]
    split <;> simp <;> omega
theorem by_cons (c : UInt8) (t : List UInt8) (k : Nat) : by_ (c :: t) (k + 1) = by_ t k := rfl
theorem dk_dig : ∀ (l : List UInt8) (k : Nat), k < dk l → 48 ≤ by_ l k ∧ by_ l k ≤ 57
  | [], k, h => by simp [dk] at h
  | c :: t, k, h => by
    rw [dk] at h
    split at h
    · rename_i hd
      cases k with
      | zero =>
        unfold digN at hd
        simp at hd
        exact hd
      | succ k =>
        rw [by_cons]
        exact dk_dig t k (by omega)
    · omega
theorem dk_end : ∀ (l : List UInt8), dk l < l.length → ¬ (48 ≤ by_ l (dk l) ∧ by_ l (dk l) ≤ 57)
  | [], h => by simp at h
  | c :: t, h => by
    rw [dk] at h ⊢
    split
    · rename_i hd
      rw [if_pos hd] at h
      rw [by_cons]
      exact dk_end t (by simp at h; omega)
    · rename_i hd
      unfold digN at hd
      simp at hd
      show ¬ (48 ≤ c.toNat ∧ c.toNat ≤ 57)
      omega
/-- a number -/
def numT (s : List UInt8) : Option (Nat × List UInt8) :=
  if dk s = 0 ∨ (1 < dk s ∧ by_ s 0 = 48) ∨ 999999999999 < dv s (dk s) then none else some (dv s (dk s), s.drop (dk s))
def numS (l : List UInt8) : Option (Nat × List UInt8) := numT (skipB l)
theorem numS_lt {l t : List UInt8} {n : Nat} (h : numS l = some (n, t)) : t.length < l.length ∧ n ≤ 999999999999 := by
  unfold numS numT at h
  have h1 := skipB_le l
  have h2 := dk_le (skipB l)
  split at h
  · cases h
  · cases h
    rw [List.length_drop]
    omega
/-- the names of a list, behind the bracket or a comma -/
def itemsG : Nat → List UInt8 → Option (List (List UInt8) × List UInt8)
  | 0, _ => none
  | f + 1, l => match textS l with
    | none => none
    | some (v, t) => match seesS 44 t with
      | some u => (itemsG f u).map (fun r => (v :: r.1, r.2))
      | none => (seesS 93 t).map (fun u => ([v], u))
def itemsS (l : List UInt8) : Option (List (List UInt8) × List UInt8) := itemsG l.length l
theorem itemsG_more : ∀ (f : Nat) (l : List UInt8), l.length ≤ f → itemsG f l = itemsS l := by
  intro f
  induction f using Nat.strongRecOn with
  | ind f ih =>
    intro l hl
    cases f with
    | zero =>
      have : l = [] := List.length_eq_zero_iff.1 (by omega)
      subst this; rfl
    | succ f =>
      unfold itemsS
      cases hL : l.length with
      | zero =>
        have : l = [] := List.length_eq_zero_iff.1 hL
        subst this; rfl
      | succ m =>
        rw [itemsG, itemsG]
        cases ht : textS l with
        | none => rfl
        | some r =>
          obtain ⟨v, t⟩ := r
          have h1 := textS_lt ht
          cases hc : seesS 44 t with
          | none => simp only [hc]
          | some u =>
            have h2 := seesS_lt hc
            simp only [hc]
            show (itemsG f u).map _ = (itemsG m u).map _
            rw [ih f (by omega) u (by omega)]
            by_cases hm : m < f + 1
            · rw [ih m hm u (by omega)]
            · omega
theorem itemsS_step (l : List UInt8) : itemsS l = match textS l with
    | none => none
    | some (v, t) => match seesS 44 t with
      | some u => (itemsS u).map (fun r => (v :: r.1, r.2))
      | none => (seesS 93 t).map (fun u => ([v], u)) := by
  cases hl : l with
  | nil => rfl
  | cons c l' =>
    rw [← hl]
    have hL : l.length = l'.length + 1 := by rw [hl]; rfl
    rw [show itemsS l = itemsG (l'.length + 1) l by unfold itemsS; rw [hL], itemsG]
    cases ht : textS l with
    | none => rfl
    | some r =>
      obtain ⟨v, t⟩ := r
      have h1 := textS_lt ht
      cases hc : seesS 44 t with
      | none => simp only [hc]
      | some u =>
        have h2 := seesS_lt hc
        simp only [hc]
        show (itemsG l'.length u).map _ = (itemsS u).map _
        rw [itemsG_more _ u (by omega)]
/-- a list -/
def restS (t : List UInt8) : Option (List (List UInt8) × List UInt8) :=
  match seesS 93 t with
  | some u => some ([], u)
  | none => itemsS t
def listS (l : List UInt8) : Option (List (List UInt8) × List UInt8) := (seesS 91 l).bind restS

/-- claims -/
structure Cm where
  id : Nat
  sub : List UInt8
  scp : List (List UInt8)
  aud : List (List UInt8)
  act : List (List UInt8)
  exp : Nat
def cm0 : Cm := ⟨0, [], [], [], [], 0⟩
def Cm.setN (c : Cm) (f n : Nat) : Cm := if f = 0 then { c with id := n } else { c with exp := n }
def Cm.setT (c : Cm) (s : List UInt8) : Cm := { c with sub := s }
def Cm.setL (c : Cm) (f : Nat) (l : List (List UInt8)) : Cm := if f = 2 then { c with scp := l } else if f = 3 then { c with aud := l } else { c with act := l }
def jtiL : List UInt8 := [106, 116, 105]
def subL : List UInt8 := [115, 117, 98]
def scpL : List UInt8 := [115, 99, 112]
def audL : List UInt8 := [97, 117, 100]
def actL : List UInt8 := [97, 99, 116]
def expL : List UInt8 := [101, 120, 112]
/-- which field a name is that of -/
def fieldS (k : List UInt8) : Option Nat :=
  if k = jtiL then some 0 else if k = subL then some 1 else if k = scpL then some 2 else if k = audL then some 3
  else if k = actL then some 4 else if k = expL then some 5 else none
theorem fieldS_lt {k : List UInt8} {f : Nat} (h : fieldS k = some f) : f < 6 ∧ k.length = 3 := by
  unfold fieldS at h
  repeat' split at h
  all_goals first
    | (rename_i e; cases h; subst e; exact ⟨by decide, rfl⟩)
    | cases h
/-- the value of a field -/
def valS (f : Nat) (c : Cm) (l : List UInt8) : Option (Cm × List UInt8) :=
  if f = 0 ∨ f = 5 then (numS l).map (fun r => (c.setN f r.1, r.2)) else if f = 1 then (textS l).map (fun r => (c.setT r.1, r.2))
  else (listS l).map (fun r => (c.setL f r.1, r.2))
/-- the fields that came so far -/
def upd (m : Nat → Bool) (f : Nat) : Nat → Bool := fun j => if j = f then true else m j
def cnt (m : Nat → Bool) : Nat := (m 0).toNat + (m 1).toNat + (m 2).toNat + (m 3).toNat + (m 4).toNat + (m 5).toNat
theorem cnt_upd (m : Nat → Bool) (f : Nat) (hf : f < 6) (h : m f = false) : cnt (upd m f) = cnt m + 1 := by
  have : f = 0 ∨ f = 1 ∨ f = 2 ∨ f = 3 ∨ f = 4 ∨ f = 5 := by omega
  rcases this with rfl | rfl | rfl | rfl | rfl | rfl <;> simp [cnt, upd, h] <;> omega
theorem cnt_le (m : Nat → Bool) : cnt m ≤ 6 := by
  have h : ∀ b : Bool, b.toNat ≤ 1 := by decide
  have h0 := h (m 0); have h1 := h (m 1); have h2 := h (m 2); have h3 := h (m 3); have h4 := h (m 4); have h5 := h (m 5)
  unfold cnt; omega
theorem cnt_all (m : Nat → Bool) : cnt m = 6 ↔ ∀ f, f < 6 → m f = true := by
  have h : ∀ b : Bool, b.toNat ≤ 1 ∧ (b.toNat = 1 ↔ b = true) := by decide
  have h0 := h (m 0); have h1 := h (m 1); have h2 := h (m 2); have h3 := h (m 3); have h4 := h (m 4); have h5 := h (m 5)
  constructor
  · intro hc f hf
    unfold cnt at hc
    have : f = 0 ∨ f = 1 ∨ f = 2 ∨ f = 3 ∨ f = 4 ∨ f = 5 := by omega
    rcases this with rfl | rfl | rfl | rfl | rfl | rfl
    · exact h0.2.1 (by omega)
    · exact h1.2.1 (by omega)
    · exact h2.2.1 (by omega)
    · exact h3.2.1 (by omega)
    · exact h4.2.1 (by omega)
    · exact h5.2.1 (by omega)
  · intro ha
    have a0 := h0.2.2 (ha 0 (by omega)); have a1 := h1.2.2 (ha 1 (by omega)); have a2 := h2.2.2 (ha 2 (by omega))
    have a3 := h3.2.2 (ha 3 (by omega)); have a4 := h4.2.2 (ha 4 (by omega)); have a5 := h5.2.2 (ha 5 (by omega))
    unfold cnt; omega
/-- n fields more, the comma ahead of each (apart from the first) gone over, then the brace, then nothing -/
def endS (c : Cm) (l : List UInt8) : Option Cm := (seesS 125 l).bind (fun t => if skipB t = [] then some c else none)
def nameS (m : Nat → Bool) (l : List UInt8) : Option (Nat × List UInt8) :=
  (textS l).bind (fun r => (seesS 58 r.2).bind (fun t => (fieldS r.1).bind (fun f => if m f = true then none else some (f, t))))
def moreS : Nat → (Nat → Bool) → Cm → List UInt8 → Option Cm
  | 0, _, c, l => endS c l
  | n + 1, m, c, l => (seesS 44 l).bind (fun t => (nameS m t).bind (fun r => (valS r.1 c r.2).bind (fun q => moreS n (upd m r.1) q.1 q.2)))
def fldS (n : Nat) (m : Nat → Bool) (c : Cm) (l : List UInt8) : Option Cm := (nameS m l).bind (fun r => (valS r.1 c r.2).bind (fun q => moreS n (upd m r.1) q.1 q.2))
theorem moreS_succ (n : Nat) (m : Nat → Bool) (c : Cm) (l : List UInt8) : moreS (n + 1) m c l = (seesS 44 l).bind (fun t => fldS n m c t) := rfl
/-- an object -/
def objS (l : List UInt8) : Option Cm := (seesS 123 l).bind (fun t => fldS 5 (fun _ => false) cm0 t)
end Go.Proofs.YtkmkkmdpjliifaaGreatDoor
namespace Go.Proofs.YtkmkkmdpjliifaaGreatDoor
open Go.ChangeShapes Go.WideShapes Go.ChangeAt Go.RowKit

/-- one text behind another -/
theorem cat_str (a b c : List UInt8) (hc : a ++ b = c) (hl : c.length ≤ 16777216) (u : World) : (Op.stringOp .add ⟨a.toArray⟩ ⟨b.toArray⟩).run Tryz.prog u = .ok (.string ⟨c.toArray⟩) u := by
  subst hc
  have h1 : (ByteArray.mk a.toArray).size = a.length := by simp [ByteArray.size]
  have h2 : (ByteArray.mk b.toArray).size = b.length := by simp [ByteArray.size]
  rw [List.length_append] at hl
  rw [run_string_add_sum (w := u) _ _ (by omega), ByteArray.mk_append_mk]
theorem u8_eq {c : UInt8} {n : Nat} (hn : n < 256) : c = UInt8.ofNat n ↔ c.toNat = n := by
  rw [← UInt8.toNat_inj, UInt8.toNat_ofNat', Nat.mod_eq_of_lt hn]
theorem u8_bne {c : UInt8} {n : Nat} (h : ¬ c.toNat = n) : (((c.toNat : Nat) : Int) == (n : Int)) = false := by
  simp only [beq_eq_false_iff_ne, ne_eq]; omega

end Go.Proofs.YtkmkkmdpjliifaaGreatDoor
