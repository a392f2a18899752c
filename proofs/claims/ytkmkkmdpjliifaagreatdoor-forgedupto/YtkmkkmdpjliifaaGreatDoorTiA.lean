import Derived.Test.YtkmkkmdpjliifaaGreatDoorMiCF
import Derived.Test.YtkmkkmdpjliifaaGreatDoorTrH
import Derived.Test.YtkmkkmdpjliifaaGreatDoorFoA
import Derived.Test.YtkmkkmdpjliifaaGreatDoorTrF
namespace Go.Proofs.YtkmkkmdpjliifaaGreatDoor
open Go.ChangeShapes Go.WideShapes Go.ChangeAt Go.RowKit

/-- what is read of the tokens as they are kept, all below block B -/
structure TrV (B : Nat) (w : World) (gp s gt ct gc cc ga ca : Nat) (G : List Gt) (P : Nat → Pl) : Prop where
  r0 : w.cell? ⟨gp, 0, none⟩ = some (.pointer (some ⟨s, 0, none⟩))
  r1 : w.cell? ⟨gp, 1, none⟩ = some (.slice (some ⟨gt, 0, none⟩) G.length ct)
  r2 : w.cell? ⟨gp, 2, none⟩ = some (.slice (some ⟨gc, 0, none⟩) G.length cc)
  r3 : w.cell? ⟨gp, 3, none⟩ = some (.slice (some ⟨ga, 0, none⟩) G.length ca)
  t : ∀ i, i < G.length → w.cell? ⟨gt, i, none⟩ = some (.string ⟨(tokG G i).toArray⟩)
  c : ∀ i, i < G.length → ∀ j, j < 6 → w.cell? ⟨gc, i * 6 + j, none⟩ = some (czF (G.getD i default).c.z (P i) j)
  l : ∀ i, i < G.length → CzL w B (G.getD i default).c.z (P i)
  p : ∀ i, i < G.length → w.cell? ⟨ga, i, none⟩ = some (.int .i64 (parI (G.getD i default)))
  b1 : gp < B
  b2 : gt < B
  b3 : gc < B
  b4 : ga < B
theorem TrV.below {B : Nat} {w w' : World} {gp s gt ct gc cc ga ca : Nat} {G : List Gt} {P : Nat → Pl} (h : TrV B w gp s gt ct gc cc ga ca G P) (hb : Below B w w') : TrV B w' gp s gt ct gc cc ga ca G P where
  r0 := (hb.cell (p := ⟨gp, 0, none⟩) h.b1).trans h.r0
  r1 := (hb.cell (p := ⟨gp, 1, none⟩) h.b1).trans h.r1
  r2 := (hb.cell (p := ⟨gp, 2, none⟩) h.b1).trans h.r2
  r3 := (hb.cell (p := ⟨gp, 3, none⟩) h.b1).trans h.r3
  t := fun i hi => (hb.cell (p := ⟨gt, i, none⟩) h.b2).trans (h.t i hi)
  c := fun i hi j hj => (hb.cell (p := ⟨gc, i * 6 + j, none⟩) h.b3).trans (h.c i hi j hj)
  l := fun i hi => (h.l i hi).below hb
  p := fun i hi => (hb.cell (p := ⟨ga, i, none⟩) h.b4).trans (h.p i hi)
  b1 := h.b1
  b2 := h.b2
  b3 := h.b3
  b4 := h.b4
section
variable {w0 w w' : World} {gp s R O now now' : Nat} {vk vs vg vg' : Value} {Qs : List Nat} {G G' : List Gt} {vt vc vp : Value} {C : List (Cm × Pl)}
/-- the kept, whatever the server came to -/
theorem Tr.view (h : Tr w gp s R O now vk vs vg Qs G' vt vc vp false ((List.range G.length).map (tokG G)) C (G.map parI)) (hc : C.map Prod.fst = G.map (fun g => g.c)) (h3 : 3 ≤ G.length) : ∃ gt ct gc cc ga ca, TrV w.heap.size w gp s gt ct gc cc ga ca G (fun i => (C.getD i (cm0, pl0)).2) := by
  have hl := TrS.tlen G
  have hpl : (G.map parI).length = G.length := by simp
  have hC : C.length = G.length := by have := congrArg List.length hc; simpa using this
  obtain ⟨gt, ct, e1, _, _, b1, h1⟩ := h.texts (by rw [hl]; omega)
  obtain ⟨gc, cc, e2, _, _, b2, h2⟩ := h.claims (by omega)
  obtain ⟨ga, ca, e3, _, _, b3, h4⟩ := h.parents (by omega)
  rw [hl] at e1
  rw [hC] at e2
  rw [hpl] at e3
  have hAt : ∀ i, i < G.length → (C.getD i (cm0, pl0)).1 = (G.getD i default).c := fun i hi => by
    have := congrArg (fun l => l[i]?) hc
    simp only [List.getElem?_map] at this
    rw [List.getElem?_eq_getElem (by omega), List.getElem?_eq_getElem hi] at this
    rw [List.getD_eq_getElem?_getD, List.getD_eq_getElem?_getD, List.getElem?_eq_getElem (by omega), List.getElem?_eq_getElem hi]
    simpa using this
  refine ⟨gt, ct, gc, cc, ga, ca, h.row.cell (j := 0) (by decide), (h.row.cell (j := 1) (by decide)).trans (congrArg some e1), (h.row.cell (j := 2) (by decide)).trans (congrArg some e2), (h.row.cell (j := 3) (by decide)).trans (congrArg some e3), fun i hi => ?_, fun i hi j hj => ?_, fun i hi => ?_, fun i hi => ?_, h.lt, b1, b2, b3⟩
  · rw [← tok_at G hi]
    exact h1 i (by rw [hl]; exact hi)
  · rw [← hAt i hi]
    exact h2 i (by omega) j hj
  · rw [← hAt i hi]
    refine (h.ls (C.getD i (cm0, pl0)) ?_).l (fun k hk => hk.1)
    rw [List.getD_eq_getElem?_getD, List.getElem?_eq_getElem (by omega)]
    exact List.getElem_mem _
  · rw [h4 i (by omega), List.getD_eq_getElem?_getD, List.getElem?_map, List.getD_eq_getElem?_getD, List.getElem?_eq_getElem hi]
    rfl
end
end Go.Proofs.YtkmkkmdpjliifaaGreatDoor
namespace Go.Proofs.YtkmkkmdpjliifaaGreatDoor
open Go.ChangeShapes Go.WideShapes Go.ChangeAt Go.RowKit

theorem LongT.short {t : List UInt8} (h : t.length ≤ 1048576) : LongT t := ⟨by omega, fun j hj => Nat.le_trans (partsL_le t j hj) h⟩
theorem LongT.third {a b x : List UInt8} (ha : 46 ∉ a) (hb : 46 ∉ b) (h1 : a.length ≤ 10000) (h2 : b.length ≤ 10000) (hx : x.length ≤ 1048576) : LongT (a ++ [46] ++ b ++ [46] ++ x) := by
  have e : partsL (a ++ [46] ++ b ++ [46] ++ x) = a :: b :: partsL x := by
    rw [show a ++ [46] ++ b ++ [46] ++ x = a ++ 46 :: (b ++ 46 :: x) by simp, partsL_cons ha, partsL_cons hb]
  refine ⟨by simp only [List.length_append, List.length_cons, List.length_nil]; omega, fun j hj => ?_⟩
  rw [e] at hj ⊢
  match j, hj with
  | 0, _ => exact Nat.le_trans h1 (by decide)
  | 1, _ => exact Nat.le_trans h2 (by decide)
  | j + 2, hj => exact Nat.le_trans (partsL_le x j (by simpa using hj)) hx
/-- what is signed of the token n, and its third part -/
def sgG (G : List Gt) (n : Nat) : List UInt8 := signS (ks0.getD 0 default) (plainS (G.getD n default).c)
def m3G (G : List Gt) (n : Nat) : List UInt8 := packL (macL K0 H0 (ks0.getD 0 default).secret (sgG G n))
theorem tokG_eq (G : List Gt) (n : Nat) : tokG G n = sgG G n ++ [46] ++ m3G G n := rfl
theorem m3G_len (G : List Gt) (n : Nat) : (m3G G n).length = 43 := by unfold m3G; rw [packL_length, macL_length]
theorem m3G_dot (G : List Gt) (n : Nat) : 46 ∉ m3G G n := pack_nodot _
section
variable {w : World} {s R O now : Nat} {vk vs vg : Value} {Qs : List Nat} {G : List Gt}
theorem sgG_len (hS : Sv w s R O now vk vs vg ks0 cs0 Qs G) {n : Nat} (hn : n < G.length) : (sgG G n).length ≤ 9956 := by
  have h := tok_len (k := ks0.getD 0 default) (T := plainS (G.getD n default).c) (by decide) (plainS_length (hS.right n hn))
  have e : (tokS (ks0.getD 0 default) (plainS (G.getD n default).c)).length = (sgG G n).length + 1 + (m3G G n).length := by
    rw [show tokS (ks0.getD 0 default) (plainS (G.getD n default).c) = sgG G n ++ [46] ++ m3G G n from rfl]
    simp only [List.length_append, List.length_cons, List.length_nil]
  have := m3G_len G n
  omega
theorem sgG_long (hS : Sv w s R O now vk vs vg ks0 cs0 Qs G) {n : Nat} (hn : n < G.length) {x : List UInt8} (hx : x.length ≤ 1048576) : LongT (sgG G n ++ [46] ++ x) := by
  have h := sgG_len hS hn
  unfold sgG signS at h ⊢
  simp only [List.length_append, List.length_cons, List.length_nil] at h
  exact LongT.third (pack_nodot _) (pack_nodot _) (by omega) (by omega) hx
/-- a look, by what the token is taken for -/
theorem look_gen {m : Nat} {t : List UInt8} {o : Option Nat} (hm4 : m < 4) (hS : Sv w s R O now vk vs vg ks0 cs0 Qs G) (hT : Tb s w) (hm : MX w) (h4 : 4 < s) (ht : LongT t) (htk : (takeS ks0 G now t).1 = o) :
    Calls Tryz.prog 32 #[.pointer (some ⟨s, 0, none⟩), .agg #[.string ⟨#[99, UInt8.ofNat (48 + m)]⟩, .string ⟨#[115, UInt8.ofNat (48 + m)]⟩], .string ⟨t.toArray⟩] w fun e w' => ∃ (z : Cz) (p' : Pl), e = .returned (.tuple #[.agg #[.int .i64 z.id, .string ⟨z.sub.toArray⟩, .slice p'.a2 z.scp.length p'.c2, .slice p'.a3 z.aud.length p'.c3, .slice p'.a4 z.act.length p'.c4, .int .i64 z.exp], .bool o.isSome, .int .i64 0]) ∧ Below w.heap.size w w' := by
  have hlog : loginK cs0 [99, UInt8.ofNat (48 + m)] [115, UInt8.ofNat (48 + m)] = some m := by
    rcases (show m = 0 ∨ m = 1 ∨ m = 2 ∨ m = 3 by omega) with rfl | rfl | rfl | rfl <;> decide +kernel
  have h := LookL_any [99, UInt8.ofNat (48 + m)] [115, UInt8.ofNat (48 + m)] t w s R O now vk vs vg ks0 cs0 Qs G hS hT hm h4 ht
  rw [look_of (o := o) (e := (takeS ks0 G now t).2) hlog (by rw [← htk])] at h
  exact h.mono (fun e w' ⟨p', h1, _, h3⟩ => ⟨_, p', h1, h3⟩)
theorem take_third (hok : GOk G) (hS : Sv w s R O 0 vk vs vg ks0 cs0 Qs G) {n : Nat} (hn : n < G.length) (x : List UInt8) : (takeS ks0 G 0 (sgG G n ++ [46] ++ x)).1.isSome = decide (x = m3G G n) := by
  by_cases h : x = m3G G n
  · subst h
    rw [← tokG_eq, hok.take hS hn, decide_eq_true rfl]
    rfl
  · have h' : openE ks0 (sgG G n ++ [46] ++ x) ≠ 0 := open_third kn_keys (i := 0) (by decide) (plainS (G.getD n default).c) x h
    rw [take_no h', decide_eq_false h]
    rfl
theorem tokN_len {k : Nat} (hk : k < 3) {T : List UInt8} (hT : T.length ≤ 4096) : (tokS (kyN.getD k default) T).length ≤ 10000 := tok_len (kyN_len hk).1 hT
theorem tokN_len2 {k : Nat} (hk : k < 3) {T : List UInt8} (hT : T.length ≤ 65536) : (tokS (kyN.getD k default) T).length ≤ 1048576 := by
  have := (kyN_len hk).1
  unfold tokS signS
  simp only [List.length_append, List.length_singleton, packL_mOf, macL_length]
  unfold mOf headL
  simp only [List.length_cons, List.length_nil]
  omega
theorem take_lied (hok : GOk G) (hS : Sv w s R O now vk vs vg ks0 cs0 Qs G) {n k : Nat} (hn : n < G.length) (hk : k < 2) (j : Nat) : (takeS ks0 G now (tokS (kyN.getD k default) (plainS (bentC (G.getD n default).c j)))).1 = none := by
  rw [kyN_of hk, take_other hk (read_plain (bentC_right (hS.right n hn) (hok.nz n hn) j)) (find_bent hS hok hn j)]
theorem take_again (hok : GOk G) (hS : Sv w s R O 0 vk vs vg ks0 cs0 Qs G) {n k : Nat} (hn : n < G.length) (hk : k < 3) : (takeS ks0 G 0 (tokS (kyN.getD k default) (32 :: (plainS (G.getD n default).c ++ [10])))).1.isSome = decide (k < 2) := by
  by_cases h : k < 2
  · rw [kyN_of h, take_pad h hn (hS.id n hn) (hS.right n hn), hok.alive0 hn, if_pos rfl, decide_eq_true h]
    rfl
  · obtain rfl : k = 2 := by omega
    rw [kyN_2, take_no (by rw [open_k2]; decide), decide_eq_false (by decide)]
    rfl
/-- raw claims without targets, taken back -/
theorem rev_raw (hok : GOk G) (hS : Sv w s R O now vk vs vg ks0 cs0 Qs G) (hT : Tb s w) (hm : MX w) (h4 : 4 < s) {k : Nat} (hk : k < 3) {c : Cm} (hr : rightB c.z = true) (hc : c.aud = []) :
    Calls Tryz.prog 30 #[.pointer (some ⟨s, 0, none⟩), .agg #[.string ⟨#[99, 48]⟩, .string ⟨#[115, 48]⟩], .string ⟨(tokS (kyN.getD k default) (plainS c)).toArray⟩] w fun e w' => e = .returned (.int .i64 (if k = 2 then 3 else 6)) ∧ Below w.heap.size w w' := by
  have h := Revoke_any [99, 48] [115, 48] (tokS (kyN.getD k default) (plainS c)) w s R O now vk vs vg ks0 cs0 Qs G hS hT hm h4 (Nat.le_trans (tokN_len hk (plainS_length hr)) (by decide))
  have e : revS ks0 cs0 G now [99, 48] [115, 48] (tokS (kyN.getD k default) (plainS c)) = (none, if k = 2 then 3 else 6) := by
    unfold revS
    rw [kn_login0]
    dsimp only
    by_cases h : k < 2
    · rw [kyN_of h, take_other h (read_plain hr) (find_raw hok hc), if_neg (by omega)]
    · obtain rfl : k = 2 := by omega
      rw [kyN_2, take_no (by rw [open_k2]; decide), open_k2, if_pos rfl]
  rw [e] at h
  refine h.mono ?_
  rintro e w' ⟨h1, ⟨_, h2⟩ | ⟨i, h2, h3⟩⟩
  · exact ⟨h1, h2⟩
  · cases h2
end
/-- the last dot, as it is looked for -/
def ldN (t : List UInt8) : Nat → Nat
  | 0 => 0
  | i + 1 => if t.getD i 0 = 46 then i else ldN t i
theorem ldN_stay {a c : List UInt8} (hc : 46 ∉ c) : ∀ k, k ≤ c.length → ldN (a ++ [46] ++ c) (a.length + 1 + k) = a.length
  | 0, _ => by
    rw [Nat.add_zero, ldN, if_pos]
    simp [List.getD]
  | k + 1, h => by
    rw [show a.length + 1 + (k + 1) = (a.length + 1 + k) + 1 by omega, ldN, if_neg]
    · exact ldN_stay hc k (by omega)
    · intro e
      apply hc
      have hk : k < c.length := by omega
      have hl : a.length + 1 + k - (a ++ [46]).length = k := by simp
      rw [List.getD_eq_getElem?_getD, List.getElem?_append_right (by simp), hl, List.getElem?_eq_getElem hk] at e
      simp at e
      exact e ▸ List.getElem_mem hk
theorem ldN_end {a c : List UInt8} (hc : 46 ∉ c) : ldN (a ++ [46] ++ c) (a ++ [46] ++ c).length = a.length := by
  have h := ldN_stay (a := a) hc c.length (Nat.le_refl _)
  have hl : (a ++ [46] ++ c).length = a.length + 1 + c.length := by simp; omega
  rw [hl]
  exact h
/-- one sign turned -/
theorem turned_ne {l : List UInt8} {m : Nat} (hm : m < l.length) {x : UInt8} (hx : l.getD m 0 ≠ x) : l.take m ++ [x] ++ l.drop (m + 1) ≠ l := by
  intro e
  have hl : (l.take m).length = m := by simp; omega
  have h : (l.take m ++ [x] ++ l.drop (m + 1))[m]? = l[m]? := by rw [e]
  rw [List.getElem?_append_left (by simp; omega), List.getElem?_append_right (by omega), hl, Nat.sub_self, List.getElem?_eq_getElem hm] at h
  rw [List.getD_eq_getElem?_getD, List.getElem?_eq_getElem hm] at hx
  exact hx (Option.some.inj h).symm
theorem turned_len {l : List UInt8} {m : Nat} (hm : m < l.length) (x : UInt8) : (l.take m ++ [x] ++ l.drop (m + 1)).length = l.length := by
  simp only [List.length_append, List.length_take, List.length_drop, List.length_cons, List.length_nil]
  omega
theorem turned_in (a l : List UInt8) (m : Nat) (x : UInt8) : (a ++ [46] ++ l).take (a.length + 1 + m) ++ [x] ++ (a ++ [46] ++ l).drop (a.length + 1 + m + 1) = a ++ [46] ++ (l.take m ++ [x] ++ l.drop (m + 1)) := by
  have hl : (a ++ [46]).length = a.length + 1 := by simp
  have h1 : (a ++ [46] ++ l).take (a.length + 1 + m) = a ++ [46] ++ l.take m := by
    rw [List.take_append, hl, show a.length + 1 + m - (a.length + 1) = m from by omega, List.take_of_length_le (by omega)]
  have h2 : (a ++ [46] ++ l).drop (a.length + 1 + m + 1) = l.drop (m + 1) := by
    rw [List.drop_append, hl, show a.length + 1 + m + 1 - (a.length + 1) = m + 1 from by omega, List.drop_of_length_le (by omega), List.nil_append]
  rw [h1, h2]
  simp only [List.append_assoc]
/-- what a look hands back, of which only 'taken' counts -/
def LkR (w1 u : World) (b : Bool) (e : Ending) (w' : World) : Prop := ∃ (z : Cz) (p' : Pl), e = .returned (.tuple #[.agg #[.int .i64 z.id, .string ⟨z.sub.toArray⟩, .slice p'.a2 z.scp.length p'.c2, .slice p'.a3 z.aud.length p'.c3, .slice p'.a4 z.act.length p'.c4, .int .i64 z.exp], .bool b, .int .i64 0]) ∧ Below u.heap.size u w' ∧ Below w1.heap.size w1 w'
/-- what Forged needs of the tokens, in every later world -/
structure FoW (w1 : World) (gp s gc cc : Nat) (G : List Gt) (n : Nat) (P : Pl) : Prop where
  c0 : ∀ u, Below w1.heap.size w1 u → u.cell? ⟨gp, 0, none⟩ = some (.pointer (some ⟨s, 0, none⟩))
  c2 : ∀ u, Below w1.heap.size w1 u → u.cell? ⟨gp, 2, none⟩ = some (.slice (some ⟨gc, 0, none⟩) G.length cc)
  cj : ∀ u, Below w1.heap.size w1 u → ∀ j, j < 6 → u.cell? ⟨gc, n * 6 + j, none⟩ = some (czF (G.getD n default).c.z P j)
  ls : ∀ u, Below w1.heap.size w1 u → CzL u w1.heap.size (G.getD n default).c.z P
  lk3 : ∀ x : List UInt8, x.length ≤ 1048576 → ∀ u, Below w1.heap.size w1 u → Calls Tryz.prog 32 #[.pointer (some ⟨s, 0, none⟩), .agg #[.string ⟨#[99, 48]⟩, .string ⟨#[115, 48]⟩], .string ⟨(sgG G n ++ [46] ++ x).toArray⟩] u (LkR w1 u (decide (x = m3G G n)))
  lied : ∀ k j, k < 2 → ∀ u, Below w1.heap.size w1 u → Calls Tryz.prog 32 #[.pointer (some ⟨s, 0, none⟩), .agg #[.string ⟨#[99, 49]⟩, .string ⟨#[115, 49]⟩], .string ⟨(tokS (kyN.getD k default) (plainS (bentC (G.getD n default).c j))).toArray⟩] u (LkR w1 u false)
  again : ∀ k, k < 3 → ∀ u, Below w1.heap.size w1 u → Calls Tryz.prog 32 #[.pointer (some ⟨s, 0, none⟩), .agg #[.string ⟨#[99, 50]⟩, .string ⟨#[115, 50]⟩], .string ⟨(tokS (kyN.getD k default) (32 :: (plainS (G.getD n default).c ++ [10]))).toArray⟩] u (LkR w1 u (decide (k < 2)))
  rev : ∀ k, k < 3 → ∀ c : Cm, rightB c.z = true → c.aud = [] → ∀ u, Below w1.heap.size w1 u → Calls Tryz.prog 30 #[.pointer (some ⟨s, 0, none⟩), .agg #[.string ⟨#[99, 48]⟩, .string ⟨#[115, 48]⟩], .string ⟨(tokS (kyN.getD k default) (plainS c)).toArray⟩] u fun e w' => e = .returned (.int .i64 (if k = 2 then 3 else 6)) ∧ Below w1.heap.size w1 w'
  kt : ∀ u, Below w1.heap.size w1 u → KT u
  ut : ∀ u, Below w1.heap.size w1 u → UT u
  pt : ∀ u, Below w1.heap.size w1 u → PT w1.heap.size u
  lt : gp < w1.heap.size
  l4 : 4 < w1.heap.size
  sg : (sgG G n).length ≤ 9956
  rt : rightB (G.getD n default).c.z = true
  nz : NZ (G.getD n default).c
  n1 : n < G.length
theorem LkR.of {w1 u : World} {b : Bool} {A : Array Value} (hu : Below w1.heap.size w1 u) (h : Calls Tryz.prog 32 A u fun e w' => ∃ (z : Cz) (p' : Pl), e = .returned (.tuple #[.agg #[.int .i64 z.id, .string ⟨z.sub.toArray⟩, .slice p'.a2 z.scp.length p'.c2, .slice p'.a3 z.aud.length p'.c3, .slice p'.a4 z.act.length p'.c4, .int .i64 z.exp], .bool b, .int .i64 0]) ∧ Below u.heap.size u w') : Calls Tryz.prog 32 A u (LkR w1 u b) :=
  h.mono (fun _ _ ⟨z, p', h1, h2⟩ => ⟨z, p', h1, h2, hu.trans (h2.mono hu.size)⟩)
theorem TrS.fow {w0 w1 : World} {gp s R O gt ct gc cc ga ca n : Nat} {vk vs vg : Value} {Qs : List Nat} {G : List Gt} {vt vc vp : Value} {C : List (Cm × Pl)} {P : Nat → Pl} (h : TrS w0 w1 gp s R O vk vs vg Qs G vt vc vp C) (hT : TT w0.heap.size w0) (hV : TrV w1.heap.size w1 gp s gt ct gc cc ga ca G P) (hn : n < G.length) : FoW w1 gp s gc cc G n (P n) := by
  have hs4 := h.s4 hT
  have hsl := h.tr.sv.lt
  have hT1 := hT.below h.bel
  have tb : ∀ u, Below w1.heap.size w1 u → Tb s u := fun u hu => (hT1.tb h.w0s).below (hu.mono (Nat.le_of_lt hsl))
  have mx : ∀ u, Below w1.heap.size w1 u → MX u := fun u hu => hT1.mx.below (Nat.lt_trans hs4 hsl) hu
  have sv : ∀ u, Below w1.heap.size w1 u → Sv u s R O 0 vk vs vg ks0 cs0 Qs G := fun u hu => h.tr.sv.below hu
  have hw0 : w0.heap.size ≤ w1.heap.size := h.bel.size
  refine ⟨fun u hu => (hV.below hu).r0, fun u hu => (hV.below hu).r2, fun u hu => (hV.below hu).c n hn, fun u hu => (hV.below hu).l n hn, fun x hx u hu => ?_, fun k j hk u hu => ?_, fun k hk u hu => ?_, fun k hk c hr hc u hu => ?_, fun u hu => (hT1.below (hu.mono hw0)).kt, fun u hu => (hT1.below (hu.mono hw0)).ut, fun u hu => PT.up (hT1.below (hu.mono hw0)).pt hw0, hV.b1, Nat.lt_trans hs4 hsl, sgG_len h.tr.sv hn, h.tr.sv.right n hn, h.ok.nz n hn, hn⟩
  · have := LkR.of hu (look_gen (m := 0) (by decide) (sv u hu) (tb u hu) (mx u hu) hs4 (sgG_long h.tr.sv hn hx) rfl)
    rw [take_third h.ok h.tr.sv hn x] at this
    exact this
  · exact LkR.of hu (look_gen (m := 1) (by decide) (sv u hu) (tb u hu) (mx u hu) hs4 (LongT.short (Nat.le_trans (tokN_len (by omega) (plainS_length (bentC_right (h.tr.sv.right n hn) (h.ok.nz n hn) j))) (by decide))) (take_lied h.ok (sv u hu) hn hk j))
  · have := LkR.of hu (look_gen (m := 2) (by decide) (sv u hu) (tb u hu) (mx u hu) hs4 (LongT.short (tokN_len2 hk (T := 32 :: (plainS (G.getD n default).c ++ [10])) (by have := plainS_length (h.tr.sv.right n hn); simp only [List.length_append, List.length_cons, List.length_nil]; omega))) rfl)
    rw [take_again h.ok h.tr.sv hn hk] at this
    exact this
  · exact (rev_raw h.ok (sv u hu) (tb u hu) (mx u hu) hs4 hk hr hc).mono (fun e w' ⟨h1, h2⟩ => ⟨h1, hu.trans (h2.mono hu.size)⟩)
noncomputable def r8 (k : Nat) : Code := dropS k (Tryz.f8.body.getD .skip)
/-- what Forged comes to -/
def FoQ (w0 : World) (e : Ending) (w' : World) : Prop := e = .returned (.bool true) ∧ Below w0.heap.size w0 w'
end Go.Proofs.YtkmkkmdpjliifaaGreatDoor
