import Derived.Test.YtkmkkmdpjliifaaGreatDoorJxX
namespace Go.Proofs.YtkmkkmdpjliifaaGreatDoor
open Go.ChangeShapes Go.WideShapes Go.ChangeAt Go.RowKit

/-- does a row of names of three bytes each have this one? (the first q of them) -/
def dupQ (seen k : List UInt8) (q : Nat) : Bool := (List.range q).any (fun j => (seen.drop (3 * j)).take 3 == k)
def dupB (seen k : List UInt8) : Bool := dupQ seen k (seen.length / 3)
theorem dupQ_succ (seen k : List UInt8) (q : Nat) : dupQ seen k (q + 1) = (dupQ seen k q || ((seen.drop (3 * q)).take 3 == k)) := by
  unfold dupQ
  rw [List.range_succ, List.any_append]
  simp
theorem dupQ_app (seen k x : List UInt8) : ∀ q, 3 * q ≤ seen.length → dupQ (seen ++ x) k q = dupQ seen k q
  | 0, _ => rfl
  | q + 1, h => by
    rw [dupQ_succ, dupQ_succ, dupQ_app seen k x q (by omega), List.drop_append_of_le_length (by omega), List.take_append_of_le_length (by rw [List.length_drop]; omega)]
theorem dupB_app (seen k x : List UInt8) (h3 : seen.length % 3 = 0) (hx : x.length = 3) : dupB (seen ++ x) k = (dupB seen k || (x == k)) := by
  unfold dupB
  have e : (seen ++ x).length / 3 = seen.length / 3 + 1 := by rw [List.length_append, hx]; omega
  rw [e, dupQ_succ, dupQ_app seen k x _ (by omega)]
  have e2 : 3 * (seen.length / 3) = seen.length := by omega
  rw [e2, List.drop_append_of_le_length (Nat.le_refl _), List.drop_length, List.nil_append, List.take_of_length_le (by omega)]
theorem fieldS_inj {k k' : List UInt8} {f : Nat} (h : fieldS k = some f) (h' : fieldS k' = some f) : k = k' := by
  unfold fieldS at h h'
  repeat' split at h
  all_goals first | (cases h; done) | skip
  all_goals (cases h; repeat' split at h')
  all_goals first | (cases h'; done) | (subst_vars; rfl) | skip
/-- the names so far, and the fields so far -/
def SeenOk (m : Nat → Bool) (seen : List UInt8) : Prop := seen.length % 3 = 0 ∧ ∀ k f, fieldS k = some f → dupB seen k = m f
theorem SeenOk.start : SeenOk (fun _ => false) [] := ⟨rfl, fun _ _ _ => rfl⟩
theorem SeenOk.more {m : Nat → Bool} {seen k : List UInt8} {f : Nat} (h : SeenOk m seen) (hk : fieldS k = some f) : SeenOk (upd m f) (seen ++ k) := by
  have hl := (fieldS_lt hk).2
  refine ⟨by rw [List.length_append, hl]; have := h.1; omega, fun k' f' hk' => ?_⟩
  rw [dupB_app seen k' k h.1 hl, h.2 k' f' hk']
  unfold upd
  by_cases e : f' = f
  · subst e
    rw [if_pos rfl, fieldS_inj hk hk']
    simp
  · rw [if_neg e]
    have : (k == k') = false := by
      rw [beq_eq_false_iff_ne]
      intro h2
      subst h2
      rw [hk] at hk'
      exact e (Option.some.inj hk').symm
    rw [this, Bool.or_false]
/-- ahead of a field, ahead of the comma or the end -/
def FInv (t : List UInt8) (n : Nat) (m : Nat → Bool) (c : Cm) (seen u : List UInt8) (b : Bool) : Prop := (b = false ∧ SeenOk m seen ∧ objS t = fldS n m c u) ∨ (b = true ∧ objS t = none)
def MInv (t : List UInt8) (n : Nat) (m : Nat → Bool) (c : Cm) (seen u : List UInt8) (b : Bool) : Prop := (b = false ∧ SeenOk m seen ∧ objS t = moreS n m c u) ∨ (b = true ∧ objS t = none)
theorem MInv.comma {t : List UInt8} {n : Nat} {m : Nat → Bool} {c : Cm} {seen u : List UInt8} {b : Bool} (h : MInv t (n + 1) m c seen u b) : FInv t n m c seen ((seesS 44 u).getD (skipB u)) (b || (seesS 44 u).isNone) := by
  rcases h with ⟨rfl, h1, h2⟩ | ⟨rfl, h2⟩
  · rw [moreS_succ] at h2
    cases hs : seesS 44 u with
    | none => rw [hs] at h2; exact Or.inr ⟨rfl, h2⟩
    | some u1 => rw [hs] at h2; exact Or.inl ⟨rfl, h1, h2⟩
  · exact Or.inr ⟨rfl, h2⟩
/-- behind a name and its colon, and the look for it among the others -/
theorem FInv.name {t : List UInt8} {n : Nat} {m : Nat → Bool} {c : Cm} {seen u k u2 : List UInt8} {b b2 : Bool} (h : FInv t n m c seen u b) (ho : Out b (textS u) k u2 b2) :
    (((b2 || (seesS 58 u2).isNone) || dupB seen k) = true ∧ ((fieldS k).isSome = true → objS t = none)) ∨
    (((b2 || (seesS 58 u2).isNone) || dupB seen k) = false ∧ SeenOk m seen ∧ ∀ f, fieldS k = some f → objS t = (valS f c ((seesS 58 u2).getD (skipB u2))).bind (fun q => moreS n (upd m f) q.1 q.2)) := by
  rcases h with ⟨rfl, h1, h2⟩ | ⟨rfl, h2⟩
  · rcases ho.2 rfl with ⟨h3, rfl⟩ | ⟨h3, rfl⟩
    · have h4 : objS t = (nameS m u).bind (fun r => (valS r.1 c r.2).bind (fun q => moreS n (upd m r.1) q.1 q.2)) := h2
      unfold nameS at h4
      rw [h3] at h4
      cases hs : seesS 58 u2 with
      | none =>
        refine Or.inl ⟨rfl, fun _ => ?_⟩
        rw [h4]
        simp [hs]
      | some u3 =>
        cases hd : dupB seen k with
        | true =>
          refine Or.inl ⟨rfl, fun hf => ?_⟩
          obtain ⟨f, hf⟩ := Option.isSome_iff_exists.1 hf
          have hm := h1.2 k f hf
          rw [hd] at hm
          rw [h4]
          simp [hs, hf, ← hm]
        | false =>
          refine Or.inr ⟨rfl, h1, fun f hf => ?_⟩
          have hm := h1.2 k f hf
          rw [hd] at hm
          rw [h4]
          simp [hs, hf, ← hm]
    · refine Or.inl ⟨by simp, fun _ => ?_⟩
      have h4 : objS t = (nameS m u).bind (fun r => (valS r.1 c r.2).bind (fun q => moreS n (upd m r.1) q.1 q.2)) := h2
      unfold nameS at h4
      rw [h3] at h4
      exact h4
  · have := ho.1 rfl
    subst this
    exact Or.inl ⟨by simp, fun _ => h2⟩
/-- a name that is none of the six -/
theorem FInv.noName {t : List UInt8} {n : Nat} {m : Nat → Bool} {c : Cm} {seen u k u2 : List UInt8} {b b2 : Bool} (h : FInv t n m c seen u b) (ho : Out b (textS u) k u2 b2) (hf : fieldS k = none) : objS t = none := by
  rcases h with ⟨rfl, h1, h2⟩ | ⟨rfl, h2⟩
  · have h4 : objS t = (nameS m u).bind (fun r => (valS r.1 c r.2).bind (fun q => moreS n (upd m r.1) q.1 q.2)) := h2
    unfold nameS at h4
    rcases ho.2 rfl with ⟨h3, rfl⟩ | ⟨h3, rfl⟩
    · rw [h3] at h4
      rw [h4]
      cases hs : seesS 58 u2 <;> simp [hs, hf]
    · rw [h3] at h4; exact h4
  · exact h2
/-- ahead of a value -/
def VInv (t : List UInt8) (n : Nat) (m : Nat → Bool) (c : Cm) (seen k u : List UInt8) (b : Bool) : Prop :=
  (b = true ∧ ((fieldS k).isSome = true → objS t = none)) ∨ (b = false ∧ SeenOk m seen ∧ ∀ f, fieldS k = some f → objS t = (valS f c u).bind (fun q => moreS n (upd m f) q.1 q.2))
theorem VInv.num {t : List UInt8} {n : Nat} {m : Nat → Bool} {c : Cm} {seen k u u2 : List UInt8} {b b2 : Bool} {f x : Nat} (h : VInv t n m c seen k u b) (hk : fieldS k = some f) (hf : f = 0 ∨ f = 5) (ho : Out b (numS u) x u2 b2) : MInv t n (upd m f) (c.setN f x) (seen ++ k) u2 b2 := by
  rcases h with ⟨rfl, h2⟩ | ⟨rfl, h1, h2⟩
  · exact Or.inr ⟨ho.1 rfl, h2 (by rw [hk]; rfl)⟩
  · have h3 := h2 f hk
    unfold valS at h3
    rw [if_pos hf] at h3
    rcases ho.2 rfl with ⟨h4, rfl⟩ | ⟨h4, rfl⟩
    · rw [h4] at h3; exact Or.inl ⟨rfl, h1.more hk, h3⟩
    · rw [h4] at h3; exact Or.inr ⟨rfl, h3⟩
theorem VInv.txt {t : List UInt8} {n : Nat} {m : Nat → Bool} {c : Cm} {seen k u u2 x : List UInt8} {b b2 : Bool} (h : VInv t n m c seen k u b) (hk : fieldS k = some 1) (ho : Out b (textS u) x u2 b2) : MInv t n (upd m 1) (c.setT x) (seen ++ k) u2 b2 := by
  rcases h with ⟨rfl, h2⟩ | ⟨rfl, h1, h2⟩
  · exact Or.inr ⟨ho.1 rfl, h2 (by rw [hk]; rfl)⟩
  · have h3 := h2 1 hk
    unfold valS at h3
    rw [if_neg (by decide), if_pos rfl] at h3
    rcases ho.2 rfl with ⟨h4, rfl⟩ | ⟨h4, rfl⟩
    · rw [h4] at h3; exact Or.inl ⟨rfl, h1.more hk, h3⟩
    · rw [h4] at h3; exact Or.inr ⟨rfl, h3⟩
theorem VInv.lst {t : List UInt8} {n : Nat} {m : Nat → Bool} {c : Cm} {seen k u u2 : List UInt8} {x : List (List UInt8)} {b b2 : Bool} {f : Nat} (h : VInv t n m c seen k u b) (hk : fieldS k = some f) (hf : f = 2 ∨ f = 3 ∨ f = 4) (ho : Out b (listS u) x u2 b2) : MInv t n (upd m f) (c.setL f x) (seen ++ k) u2 b2 := by
  rcases h with ⟨rfl, h2⟩ | ⟨rfl, h1, h2⟩
  · exact Or.inr ⟨ho.1 rfl, h2 (by rw [hk]; rfl)⟩
  · have h3 := h2 f hk
    unfold valS at h3
    rw [if_neg (by omega), if_neg (by omega)] at h3
    rcases ho.2 rfl with ⟨h4, rfl⟩ | ⟨h4, rfl⟩
    · rw [h4] at h3; exact Or.inl ⟨rfl, h1.more hk, h3⟩
    · rw [h4] at h3; exact Or.inr ⟨rfl, h3⟩
/-- what Parse answers: the claims, if there are such -/
def parseS (t : List UInt8) : Option Cm := if 4096 < t.length then none else (objS t).bind (fun c => if rightB c.z = true then some c else none)
/-- at the end -/
theorem MInv.fin {t : List UInt8} {m : Nat → Bool} {c : Cm} {seen u : List UInt8} {b : Bool} (hl : t.length ≤ 4096) (h : MInv t 0 m c seen u b) :
    parseS t = if (b || (seesS 125 u).isNone) = true ∨ skipB ((seesS 125 u).getD (skipB u)) ≠ [] ∨ rightB c.z = false then none else some c := by
  unfold parseS
  rw [if_neg (by omega)]
  rcases h with ⟨rfl, h1, h2⟩ | ⟨rfl, h2⟩
  · rw [h2]
    unfold moreS endS
    cases hs : seesS 125 u with
    | none => simp
    | some u1 =>
      by_cases e : skipB u1 = []
      · cases hr : rightB c.z <;> simp [e, hr]
      · simp [e]
  · rw [h2]; simp
theorem MInv.bad {t : List UInt8} {n : Nat} {m : Nat → Bool} {c : Cm} {seen u : List UInt8} (h : MInv t n m c seen u true) (m' : Nat → Bool) (c' : Cm) (s' u' : List UInt8) (n' : Nat) : MInv t n' m' c' s' u' true := by
  rcases h with ⟨h, _⟩ | ⟨_, h⟩
  · cases h
  · exact Or.inr ⟨rfl, h⟩
end Go.Proofs.YtkmkkmdpjliifaaGreatDoor
namespace Go.Proofs.YtkmkkmdpjliifaaGreatDoor
open Go.ChangeShapes Go.WideShapes Go.ChangeAt Go.RowKit

def pl0 : Pl := ⟨none, 0, none, 0, none, 0⟩
theorem Row.set_czF {w : World} {g : Nat} {c c' : Cz} {p p' : Pl} (h : Row w g 60 6 (czF c p)) (k : Nat) (v : Value) (hv : ∀ j, j < 6 → (if j = k then v else czF c p j) = czF c' p' j) : Row (w.setCell ⟨g, k, none⟩ v) g 60 6 (czF c' p') :=
  (Row.set h k v).congr hv
/-- the memory of Parse: what it answers, the reader, the claims so far -/
structure PM (w0 wr : World) (u : List UInt8) (b : Bool) (c : Cm) (p : Pl) : Prop where
  rd : Rd wr (w0.heap.size + 1) u b
  row : Row wr (w0.heap.size + 2) 60 6 (czF c.z p)
  res : Row wr w0.heap.size 60 6 (czF cz0 pl0)
  o2 : OwnS wr (w0.heap.size + 3) (.slice p.a2 c.scp.length p.c2) c.scp
  o3 : OwnS wr (w0.heap.size + 3) (.slice p.a3 c.aud.length p.c3) c.aud
  o4 : OwnS wr (w0.heap.size + 3) (.slice p.a4 c.act.length p.c4) c.act
  sz : w0.heap.size + 3 ≤ wr.heap.size
  bel : Below w0.heap.size w0 wr
theorem PM.gr {w0 wr w1 : World} {u u' : List UInt8} {b b' : Bool} {c : Cm} {p : Pl} (h : PM w0 wr u b c p) (hg : Gr (w0.heap.size + 1) wr w1) (hr : Rd w1 (w0.heap.size + 1) u' b') : PM w0 w1 u' b' c p :=
  have hs := h.sz
  ⟨hr, Row.keep h.row (hg.block _ (by omega) (by omega)), Row.keep h.res (hg.block _ (by omega) (by omega)), h.o2.gr hg (by omega), h.o3.gr hg (by omega), h.o4.gr hg (by omega), Nat.le_trans hs hg.size, h.bel.trans (hg.below (by omega) (by omega))⟩
theorem OwnS.set {w : World} {base g : Nat} {v : Value} {l : List (List UInt8)} (h : OwnS w base v l) (hg : g < base) (k : Nat) (x : Value) : OwnS (w.setCell ⟨g, k, none⟩ x) base v l := h.gr (Gr.setCell (Gr.refl g w) k x) hg
theorem PM.bad {w0 wr : World} {u : List UInt8} {b : Bool} {c : Cm} {p : Pl} (h : PM w0 wr u b c p) : PM w0 (wr.setCell ⟨w0.heap.size + 1, 1, none⟩ (.bool true)) u true c p :=
  h.gr ((Gr.refl _ _).setCell _ _) (h.rd.set1 true)
theorem PM.setC {w0 wr : World} {u : List UInt8} {b : Bool} {c c' : Cm} {p p' : Pl} (h : PM w0 wr u b c p) (k : Nat) (v : Value) (hv : ∀ j, j < 6 → (if j = k then v else czF c.z p j) = czF c'.z p' j)
    (o2 : OwnS wr (w0.heap.size + 3) (.slice p'.a2 c'.scp.length p'.c2) c'.scp) (o3 : OwnS wr (w0.heap.size + 3) (.slice p'.a3 c'.aud.length p'.c3) c'.aud) (o4 : OwnS wr (w0.heap.size + 3) (.slice p'.a4 c'.act.length p'.c4) c'.act) :
    PM w0 (wr.setCell ⟨w0.heap.size + 2, k, none⟩ v) u b c' p' :=
  have hs := h.sz
  have hb : But (w0.heap.size + 2) wr (wr.setCell ⟨w0.heap.size + 2, k, none⟩ v) := (But.refl _ _).setCell k v
  ⟨Row.keep h.rd (hb.block _ (by omega)), Row.set_czF h.row k v hv, Row.keep h.res (hb.block _ (by omega)), o2.set (by omega) _ _, o3.set (by omega) _ _, o4.set (by omega) _ _, by rw [hb.size]; exact hs, h.bel.trans (hb.below (by omega))⟩
theorem six {P : Nat → Prop} (h0 : P 0) (h1 : P 1) (h2 : P 2) (h3 : P 3) (h4 : P 4) (h5 : P 5) : ∀ j, j < 6 → P j := by
  intro j hj
  rcases (show j = 0 ∨ j = 1 ∨ j = 2 ∨ j = 3 ∨ j = 4 ∨ j = 5 by omega) with rfl | rfl | rfl | rfl | rfl | rfl <;> assumption
theorem PM.setId {w0 wr : World} {u : List UInt8} {b : Bool} {c : Cm} {p : Pl} (h : PM w0 wr u b c p) (n : Nat) : PM w0 (wr.setCell ⟨w0.heap.size + 2, 0, none⟩ (.int .i64 (n : Nat))) u b (c.setN 0 n) p :=
  h.setC 0 _ (six rfl rfl rfl rfl rfl rfl) h.o2 h.o3 h.o4
theorem PM.setExp {w0 wr : World} {u : List UInt8} {b : Bool} {c : Cm} {p : Pl} (h : PM w0 wr u b c p) (n : Nat) : PM w0 (wr.setCell ⟨w0.heap.size + 2, 5, none⟩ (.int .i64 (n : Nat))) u b (c.setN 5 n) p :=
  h.setC 5 _ (six rfl rfl rfl rfl rfl rfl) h.o2 h.o3 h.o4
theorem PM.setSub {w0 wr : World} {u : List UInt8} {b : Bool} {c : Cm} {p : Pl} (h : PM w0 wr u b c p) (x : List UInt8) : PM w0 (wr.setCell ⟨w0.heap.size + 2, 1, none⟩ (.string ⟨x.toArray⟩)) u b (c.setT x) p :=
  h.setC 1 _ (six rfl rfl rfl rfl rfl rfl) h.o2 h.o3 h.o4
theorem OwnS.form {w : World} {base : Nat} {v : Value} {l : List (List UInt8)} (h : OwnS w base v l) : ∃ a k, v = .slice a l.length k := by
  rcases owns_cells h with ⟨rfl, hn⟩ | ⟨g, cap, rfl, _⟩
  · exact ⟨none, 0, by rw [hn]⟩
  · exact ⟨_, cap, rfl⟩
theorem PM.setScp {w0 wr : World} {u : List UInt8} {b : Bool} {c : Cm} {p : Pl} {l : List (List UInt8)} {v : Value} (h : PM w0 wr u b c p) (ho : OwnS wr (w0.heap.size + 3) v l) : ∃ p', PM w0 (wr.setCell ⟨w0.heap.size + 2, 2, none⟩ v) u b (c.setL 2 l) p' := by
  obtain ⟨a, k, rfl⟩ := ho.form
  exact ⟨{ p with a2 := a, c2 := k }, h.setC 2 _ (six rfl rfl rfl rfl rfl rfl) ho h.o3 h.o4⟩
theorem PM.setAud {w0 wr : World} {u : List UInt8} {b : Bool} {c : Cm} {p : Pl} {l : List (List UInt8)} {v : Value} (h : PM w0 wr u b c p) (ho : OwnS wr (w0.heap.size + 3) v l) : ∃ p', PM w0 (wr.setCell ⟨w0.heap.size + 2, 3, none⟩ v) u b (c.setL 3 l) p' := by
  obtain ⟨a, k, rfl⟩ := ho.form
  exact ⟨{ p with a3 := a, c3 := k }, h.setC 3 _ (six rfl rfl rfl rfl rfl rfl) h.o2 ho h.o4⟩
theorem PM.setAct {w0 wr : World} {u : List UInt8} {b : Bool} {c : Cm} {p : Pl} {l : List (List UInt8)} {v : Value} (h : PM w0 wr u b c p) (ho : OwnS wr (w0.heap.size + 3) v l) : ∃ p', PM w0 (wr.setCell ⟨w0.heap.size + 2, 4, none⟩ v) u b (c.setL 4 l) p' := by
  obtain ⟨a, k, rfl⟩ := ho.form
  exact ⟨{ p with a4 := a, c4 := k }, h.setC 4 _ (six rfl rfl rfl rfl rfl rfl) h.o2 h.o3 ho⟩
theorem PM.start (w : World) (t : List UInt8) : PM w (((w.alloc (.cells #[.int .i64 0, .string ⟨#[]⟩, .slice none 0 0, .slice none 0 0, .slice none 0 0, .int .i64 0] 60)).alloc (.cells #[.string ⟨t.toArray⟩, .bool false] 205)).alloc (.cells #[.int .i64 0, .string ⟨#[]⟩, .slice none 0 0, .slice none 0 0, .slice none 0 0, .int .i64 0] 60)) t false cm0 pl0 := by
  have r1 : Row (w.alloc (.cells #[.int .i64 0, .string ⟨#[]⟩, .slice none 0 0, .slice none 0 0, .slice none 0 0, .int .i64 0] 60)) w.heap.size 60 6 (czF cz0 pl0) := Row.new w 60 _ _ 6 rfl (six rfl rfl rfl rfl rfl rfl)
  generalize hw1 : w.alloc (.cells #[.int .i64 0, .string ⟨#[]⟩, .slice none 0 0, .slice none 0 0, .slice none 0 0, .int .i64 0] 60) = w1 at r1 ⊢
  have hs1 : w1.heap.size = w.heap.size + 1 := by rw [← hw1]; simp
  have hb1 : Below w.heap.size w w1 := by rw [← hw1]; exact (Below.refl _ _).alloc (Nat.le_refl _) _
  have r2 : Row (w1.alloc (.cells #[.string ⟨t.toArray⟩, .bool false] 205)) w1.heap.size 205 2 (rdF t false) := Row.new w1 205 _ _ 2 rfl (fun j hj => by rcases (show j = 0 ∨ j = 1 by omega) with rfl | rfl <;> rfl)
  have r12 := r1.alloc (.cells #[.string ⟨t.toArray⟩, .bool false] 205)
  have hb2 := hb1.alloc (by omega) (.cells #[.string ⟨t.toArray⟩, .bool false] 205)
  have hs2 : (w1.alloc (.cells #[.string ⟨t.toArray⟩, .bool false] 205)).heap.size = w1.heap.size + 1 := by simp
  generalize w1.alloc (.cells #[.string ⟨t.toArray⟩, .bool false] 205) = w2 at *
  have r3 : Row (w2.alloc (.cells #[.int .i64 0, .string ⟨#[]⟩, .slice none 0 0, .slice none 0 0, .slice none 0 0, .int .i64 0] 60)) w2.heap.size 60 6 (czF cm0.z pl0) := Row.new w2 60 _ _ 6 rfl (six rfl rfl rfl rfl rfl rfl)
  have e2 : w2.heap.size = w.heap.size + 2 := by omega
  rw [hs1] at r2
  rw [e2] at r3
  exact ⟨r2.alloc _, r3, r12.alloc _, OwnS.nil _ _, OwnS.nil _ _, OwnS.nil _ _, by simp; omega, hb2.alloc (by omega) _⟩
/-- nothing is too great -/
structure PBd (c : Cm) : Prop where
  sub : c.sub.length ≤ 16384
  l2 : c.scp.length ≤ 4098
  l3 : c.aud.length ≤ 4098
  l4 : c.act.length ≤ 4098
  f2 : ∀ s ∈ c.scp, s.length ≤ 16384
  f3 : ∀ s ∈ c.aud, s.length ≤ 16384
  f4 : ∀ s ∈ c.act, s.length ≤ 16384
theorem fits_of {l : List (List UInt8)} {n : Nat} (hn : n ≤ 9223372036854775807) (h : ∀ s ∈ l, s.length ≤ n) : Fits l := fun i hi => by
  have := h (l.getD i []) (by simp [List.getD, hi])
  omega
theorem PBd.z {c : Cm} (h : PBd c) : CzS c.z :=
  ⟨by have := h.sub; show c.sub.length ≤ _; omega, by have := h.l2; show c.scp.length ≤ _; omega, by have := h.l3; show c.aud.length ≤ _; omega, by have := h.l4; show c.act.length ≤ _; omega, fits_of (by decide) h.f2, fits_of (by decide) h.f3, fits_of (by decide) h.f4⟩
theorem PBd.start : PBd cm0 := ⟨by decide, by decide, by decide, by decide, fun s h => absurd h (by simp [cm0]), fun s h => absurd h (by simp [cm0]), fun s h => absurd h (by simp [cm0])⟩
theorem PBd.setN {c : Cm} (h : PBd c) (f n : Nat) : PBd (c.setN f n) := by
  unfold Cm.setN
  split <;> exact ⟨h.sub, h.l2, h.l3, h.l4, h.f2, h.f3, h.f4⟩
theorem PBd.setT {c : Cm} (h : PBd c) (x : List UInt8) (hx : x.length ≤ 16384) : PBd (c.setT x) := ⟨hx, h.l2, h.l3, h.l4, h.f2, h.f3, h.f4⟩
theorem PBd.setL {c : Cm} (h : PBd c) (f : Nat) (l : List (List UInt8)) (hl : l.length ≤ 4098) (hf : ∀ s ∈ l, s.length ≤ 16384) : PBd (c.setL f l) := by
  unfold Cm.setL
  split
  · exact ⟨h.sub, hl, h.l3, h.l4, hf, h.f3, h.f4⟩
  · split
    · exact ⟨h.sub, h.l2, hl, h.l4, h.f2, hf, h.f4⟩
    · exact ⟨h.sub, h.l2, h.l3, hl, h.f2, h.f3, hf⟩
theorem PM.lists {w0 wr : World} {u : List UInt8} {b : Bool} {c : Cm} {p : Pl} (h : PM w0 wr u b c p) : CzL wr wr.heap.size c.z p := ⟨h.o2.ls, h.o3.ls, h.o4.ls⟩
end Go.Proofs.YtkmkkmdpjliifaaGreatDoor
