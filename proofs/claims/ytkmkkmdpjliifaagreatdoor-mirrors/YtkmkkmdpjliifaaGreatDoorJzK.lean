import Derived.Test.YtkmkkmdpjliifaaGreatDoorJyA
import Derived.Deep.AppendLies
namespace Go.Proofs.YtkmkkmdpjliifaaGreatDoor
open Go.ChangeShapes Go.WideShapes Go.ChangeAt Go.RowKit

set_option maxRecDepth 20000 in
set_option maxHeartbeats 1000000 in
theorem fieldOf_any (k : List UInt8) (w : World) : Calls Tryz.prog 207 #[.string ⟨k.toArray⟩] w fun e w' => e = .returned (.tuple #[.int .i64 ((fieldS k).getD 0 : Nat), .bool (fieldS k).isSome]) ∧ w' = w := by
  generalize hf : fieldS k = f
  have HF := hide hf
  clear hf
  go_enter Tryz.func207, Tryz.ntmps207
  go_wp2_with fail
  all_goals
    go_ret2
    refine ⟨?_, rfl⟩
    have h := unhide HF
    unfold fieldS at h
    subst h
  · have h1 : (k == [106, 116, 105]) = true := by assumption
    rw [if_pos (show k = jtiL from eq_of_beq h1)]; rfl
  · have h1 : (k == [115, 117, 98]) = true := by assumption
    rw [show k = subL from eq_of_beq h1]; rfl
  · have h1 : (k == [115, 99, 112]) = true := by assumption
    rw [show k = scpL from eq_of_beq h1]; rfl
  · have h1 : (k == [97, 117, 100]) = true := by assumption
    rw [show k = audL from eq_of_beq h1]; rfl
  · have h1 : (k == [97, 99, 116]) = true := by assumption
    rw [show k = actL from eq_of_beq h1]; rfl
  · have h1 : (k == [101, 120, 112]) = true := by assumption
    rw [show k = expL from eq_of_beq h1]; rfl
  · have h1 : (k == [106, 116, 105]) = false := by assumption
    have h2 : (k == [115, 117, 98]) = false := by assumption
    have h3 : (k == [115, 99, 112]) = false := by assumption
    have h4 : (k == [97, 117, 100]) = false := by assumption
    have h5 : (k == [97, 99, 116]) = false := by assumption
    have h6 : (k == [101, 120, 112]) = false := by assumption
    rw [if_neg (show k ≠ jtiL from ne_of_beq_false h1), if_neg (show k ≠ subL from ne_of_beq_false h2), if_neg (show k ≠ scpL from ne_of_beq_false h3), if_neg (show k ≠ audL from ne_of_beq_false h4), if_neg (show k ≠ actL from ne_of_beq_false h5), if_neg (show k ≠ expL from ne_of_beq_false h6)]
    rfl
/-- a draft: the claims so far, the field whose value comes, the fields that were named -/
def drF (c : Cz) (p : Pl) (cur : Nat) (m : Nat → Bool) (j : Nat) : Value := if j < 6 then czF c p j else if j = 6 then .int .i64 (cur : Nat) else .bool (m (j - 7))
def Dr (w : World) (D : Nat) (c : Cz) (p : Pl) (cur : Nat) (m : Nat → Bool) : Prop := Row w D 231 13 (drF c p cur m)
theorem Dr.cur {w : World} {D : Nat} {c : Cz} {p : Pl} {cur : Nat} {m : Nat → Bool} (h : Dr w D c p cur m) : w.cell? ⟨D, 6, none⟩ = some (.int .i64 (cur : Nat)) := h.cell (by decide)
theorem Dr.named {w : World} {D : Nat} {c : Cz} {p : Pl} {cur : Nat} {m : Nat → Bool} (h : Dr w D c p cur m) (f : Nat) (hf : f < 6) : w.cell? ⟨D, 7 + f, none⟩ = some (.bool (m f)) := by
  have := h.cell (j := 7 + f) (by omega)
  unfold drF at this
  rw [if_neg (by omega), if_neg (by omega), show 7 + f - 7 = f by omega] at this
  exact this
theorem thirteen {P : Nat → Prop} (h : ∀ j, j < 6 → P j) (h6 : P 6) (h7 : ∀ f, f < 6 → P (7 + f)) : ∀ j, j < 13 → P j := by
  intro j hj
  by_cases h1 : j < 6
  · exact h j h1
  by_cases h2 : j = 6
  · subst h2; exact h6
  · have := h7 (j - 7) (by omega)
    rwa [show 7 + (j - 7) = j by omega] at this
theorem Dr.setCz {w : World} {D : Nat} {c c' : Cz} {p p' : Pl} {cur : Nat} {m : Nat → Bool} (h : Dr w D c p cur m) (k : Nat) (hk : k < 6) (v : Value) (hv : ∀ j, j < 6 → (if j = k then v else czF c p j) = czF c' p' j) : Dr (w.setCell ⟨D, k, none⟩ v) D c' p' cur m :=
  (Row.set h k v).congr (fun j hj => by
    by_cases h1 : j < 6
    · have := hv j h1
      unfold drF
      rw [if_pos h1, if_pos h1]
      exact this
    · rw [if_neg (by omega)]
      unfold drF
      rw [if_neg h1, if_neg h1])
theorem Dr.begun {w : World} {D : Nat} {c : Cz} {p : Pl} {cur : Nat} {m : Nat → Bool} (h : Dr w D c p cur m) (f : Nat) (hf : f < 6) : Dr ((w.setCell ⟨D, 6, none⟩ (.int .i64 (f : Nat))).setCell ⟨D, 7 + f, none⟩ (.bool true)) D c p f (upd m f) :=
  (Row.set (Row.set h 6 _) (7 + f) _).congr (fun j hj => by
    unfold drF upd
    by_cases h1 : j < 6
    · rw [if_neg (by omega), if_neg (by omega), if_pos h1, if_pos h1]
    by_cases h2 : j = 6
    · rw [if_neg (by omega), if_pos h2, if_neg h1, if_pos h2]
    by_cases h3 : j = 7 + f
    · rw [if_pos h3, if_neg h1, if_neg h2, if_pos (by omega)]
    · rw [if_neg h3, if_neg h2, if_neg h1, if_neg h2, if_neg h1, if_neg h2, if_neg (by omega)])

set_option maxRecDepth 20000 in
set_option maxHeartbeats 1000000 in
theorem begin_any (D : Nat) (c : Cz) (p : Pl) (cur : Nat) (m : Nat → Bool) (k : List UInt8) (w : World) (hD : Dr w D c p cur m) :
    Calls Tryz.prog 173 #[.pointer (some ⟨D, 0, none⟩), .string ⟨k.toArray⟩] w fun e w' => But D w w' ∧ ((∃ f, fieldS k = some f ∧ m f = false ∧ e = .returned (.bool true) ∧ Dr w' D c p f (upd m f)) ∨ ((∀ f, fieldS k = some f → m f = true) ∧ e = .returned (.bool false) ∧ Dr w' D c p cur m)) := by
  have HC := hide (fieldOf_any k w)
  cases hf : fieldS k with
  | none =>
    rw [hf] at HC
    have HF := hide hf
    clear hf
    go_enter Tryz.func173, Tryz.ntmps173
    go_wp2_with (go_at_call 207; refine (unhide HC).mono ?_; rintro e w1 ⟨rfl, rfl⟩)
    go_ret
    exact ⟨But.refl _ _, Or.inr ⟨(fun f h => by cases h), rfl, hD⟩⟩
  | some f =>
    have hf6 := (fieldS_lt hf).1
    rw [hf] at HC
    simp only [Option.getD, Option.isSome] at HC
    clear hf
    have r6 := hD.cur
    have rf := hD.named f hf6
    have z6 := hD.frozen 6
    have zf := hD.frozen (7 + f)
    have hfI : (f : Int) < 6 := by omega
    have hne : 7 + f ≠ 6 := by omega
    cases hm : m f with
    | true =>
      rw [hm] at rf
      have HM := hide hm
      clear hm
      go_enter Tryz.func173, Tryz.ntmps173
      go_wp2_with (go_at_call 207; refine (unhide HC).mono ?_; rintro e w1 ⟨rfl, rfl⟩)
      go_ret
      exact ⟨But.refl _ _, Or.inr ⟨(fun f' h => by cases h; exact unhide HM), rfl, hD⟩⟩
    | false =>
      rw [hm] at rf
      have HM := hide hm
      clear hm
      go_enter Tryz.func173, Tryz.ntmps173
      go_wp2_with (go_at_call 207; refine (unhide HC).mono ?_; rintro e w1 ⟨rfl, rfl⟩)
      go_ret
      exact ⟨((But.refl _ _).setCell _ _).setCell _ _, Or.inl ⟨f, rfl, unhide HM, rfl, hD.begun f hf6⟩⟩

set_option maxRecDepth 20000 in
set_option maxHeartbeats 1000000 in
theorem setNumber_any (D : Nat) (c : Cm) (p : Pl) (cur : Nat) (m : Nat → Bool) (n : Nat) (w : World) (hD : Dr w D c.z p cur m) :
    Calls Tryz.prog 174 #[.pointer (some ⟨D, 0, none⟩), .int .i64 (n : Nat)] w fun e w' => But D w w' ∧ (((cur = 0 ∨ cur = 5) ∧ e = .returned (.bool true) ∧ Dr w' D (c.setN cur n).z p cur m) ∨ (¬ (cur = 0 ∨ cur = 5) ∧ e = .returned (.bool false) ∧ Dr w' D c.z p cur m)) := by
  have r6 := hD.cur
  by_cases h0 : cur = 0
  · subst h0
    have r0 : w.cell? ⟨D, 0, none⟩ = some (.int .i64 (c.id : Int)) := hD.cell (by decide)
    have z0 := hD.frozen 0
    go_enter Tryz.func174, Tryz.ntmps174
    go_wp2_with fail
    go_ret
    exact ⟨(But.refl _ _).setCell _ _, Or.inl ⟨by simp, rfl, hD.setCz 0 (by decide) _ (six rfl rfl rfl rfl rfl rfl)⟩⟩
  have n0 : (((cur : Nat) : Int) == 0) = false := by simp only [beq_eq_false_iff_ne, ne_eq]; omega
  by_cases h5 : cur = 5
  · subst h5
    have r0 : w.cell? ⟨D, 5, none⟩ = some (.int .i64 (c.exp : Int)) := hD.cell (by decide)
    have z0 := hD.frozen 5
    go_enter Tryz.func174, Tryz.ntmps174
    go_wp2_with fail
    go_ret
    exact ⟨(But.refl _ _).setCell _ _, Or.inl ⟨by simp, rfl, hD.setCz 5 (by decide) _ (six rfl rfl rfl rfl rfl rfl)⟩⟩
  have n5 : (((cur : Nat) : Int) == 5) = false := by simp only [beq_eq_false_iff_ne, ne_eq]; omega
  have HN : Hid (¬ (cur = 0 ∨ cur = 5)) := hide (by omega)
  clear h0 h5
  go_enter Tryz.func174, Tryz.ntmps174
  go_wp2_with fail
  go_ret
  exact ⟨But.refl _ _, Or.inr ⟨unhide HN, rfl, hD⟩⟩

set_option maxRecDepth 20000 in
set_option maxHeartbeats 1000000 in
theorem setText_any (D : Nat) (c : Cm) (p : Pl) (cur : Nat) (m : Nat → Bool) (t : List UInt8) (w : World) (hD : Dr w D c.z p cur m) :
    Calls Tryz.prog 175 #[.pointer (some ⟨D, 0, none⟩), .string ⟨t.toArray⟩] w fun e w' => But D w w' ∧ ((cur = 1 ∧ e = .returned (.bool true) ∧ Dr w' D (c.setT t).z p cur m) ∨ (¬ cur = 1 ∧ e = .returned (.bool false) ∧ Dr w' D c.z p cur m)) := by
  have r6 := hD.cur
  by_cases h0 : cur = 1
  · subst h0
    have r0 : w.cell? ⟨D, 1, none⟩ = some (.string ⟨c.sub.toArray⟩) := hD.cell (by decide)
    have z0 := hD.frozen 1
    go_enter Tryz.func175, Tryz.ntmps175
    go_wp2_with fail
    go_ret
    exact ⟨(But.refl _ _).setCell _ _, Or.inl ⟨by simp, rfl, hD.setCz 1 (by decide) _ (six rfl rfl rfl rfl rfl rfl)⟩⟩
  have n0 : (((cur : Nat) : Int) == 1) = false := by simp only [beq_eq_false_iff_ne, ne_eq]; omega
  have HN := hide h0
  clear h0
  go_enter Tryz.func175, Tryz.ntmps175
  go_wp2_with fail
  go_ret
  exact ⟨But.refl _ _, Or.inr ⟨unhide HN, rfl, hD⟩⟩

set_option maxRecDepth 20000 in
set_option maxHeartbeats 1000000 in
theorem takesList_any (D : Nat) (c : Cz) (p : Pl) (cur : Nat) (m : Nat → Bool) (w : World) (hD : Dr w D c p cur m) :
    Calls Tryz.prog 176 #[.pointer (some ⟨D, 0, none⟩)] w fun e w' => w' = w ∧ ((e = .returned (.bool true) ∧ (cur = 2 ∨ cur = 3 ∨ cur = 4)) ∨ (e = .returned (.bool false) ∧ ¬ (cur = 2 ∨ cur = 3 ∨ cur = 4))) := by
  have r6 := hD.cur
  by_cases h2 : cur = 2
  · subst h2
    go_enter Tryz.func176, Tryz.ntmps176
    go_wp2_with fail
    go_ret
    exact ⟨rfl, Or.inl ⟨rfl, by simp⟩⟩
  have n2 : (((cur : Nat) : Int) == 2) = false := by simp only [beq_eq_false_iff_ne, ne_eq]; omega
  by_cases h3 : cur = 3
  · subst h3
    go_enter Tryz.func176, Tryz.ntmps176
    go_wp2_with fail
    go_ret
    exact ⟨rfl, Or.inl ⟨rfl, by simp⟩⟩
  have n3 : (((cur : Nat) : Int) == 3) = false := by simp only [beq_eq_false_iff_ne, ne_eq]; omega
  by_cases h4 : cur = 4
  · subst h4
    go_enter Tryz.func176, Tryz.ntmps176
    go_wp2_with fail
    go_ret
    exact ⟨rfl, Or.inl ⟨rfl, by simp⟩⟩
  have n4 : (((cur : Nat) : Int) == 4) = false := by simp only [beq_eq_false_iff_ne, ne_eq]; omega
  have HN : Hid (¬ (cur = 2 ∨ cur = 3 ∨ cur = 4)) := hide (by omega)
  clear h2 h3 h4
  go_enter Tryz.func176, Tryz.ntmps176
  go_wp2_with fail
  go_ret
  exact ⟨rfl, Or.inr ⟨rfl, unhide HN⟩⟩
end Go.Proofs.YtkmkkmdpjliifaaGreatDoor
namespace Go.Proofs.YtkmkkmdpjliifaaGreatDoor
open Go.ChangeShapes Go.WideShapes Go.ChangeAt Go.RowKit

/-- two slices that share nothing -/
def Apart (a b : Option Addr) : Prop := ∀ x y, a = some x → b = some y → x.block ≠ y.block
/-- the three lists, each of its own -/
structure L3 (w : World) (base : Nat) (c : Cm) (p : Pl) : Prop where
  o2 : OwnS w base (.slice p.a2 c.scp.length p.c2) c.scp
  o3 : OwnS w base (.slice p.a3 c.aud.length p.c3) c.aud
  o4 : OwnS w base (.slice p.a4 c.act.length p.c4) c.act
  d23 : Apart p.a2 p.a3
  d24 : Apart p.a2 p.a4
  d34 : Apart p.a3 p.a4
theorem L3.gr {w w' : World} {base g : Nat} {c : Cm} {p : Pl} (h : L3 w base c p) (hb : Gr g w w') (hg : g < base) : L3 w' base c p := ⟨h.o2.gr hb hg, h.o3.gr hb hg, h.o4.gr hb hg, h.d23, h.d24, h.d34⟩
theorem OwnS.grownBy {w w' : World} {base : Nat} {a b : Option Addr} {n k : Nat} {m j : Nat} {l : List (List UInt8)} (h : OwnS w base (.slice a n k) l) (hg : w.grownBy w' (Value.slice b m j).ownBlock) (hab : Apart a b) : OwnS w' base (.slice a n k) l := by
  have hlt := h.lt
  obtain ⟨h1, h2⟩ := h
  refine ⟨h1, ?_⟩
  rcases h2 with h2 | ⟨q, cap, cur, hv, hq, hh, r⟩
  · exact Or.inl h2
  · have hl := (hlt q (by rw [hv]; rfl)).2
    refine Or.inr ⟨q, cap, cur, hv, hq, ?_, r⟩
    rw [hg.block q hl ?_]
    · exact hh
    · intro e
      injection hv with e1
      subst e1
      cases b with
      | none => cases e
      | some y => exact hab _ y rfl rfl (Option.some.inj e)
theorem OwnS.apartNew {w : World} {base : Nat} {a : Option Addr} {n k : Nat} {l : List (List UInt8)} (h : OwnS w base (.slice a n k) l) (g : Nat) (hg : w.heap.size ≤ g) : Apart a (some ⟨g, 0, none⟩) := by
  intro x y hx hy
  cases hy
  subst hx
  have := (h.lt x.block rfl).2
  show x.block ≠ g
  omega
theorem Apart.symm {a b : Option Addr} (h : Apart a b) : Apart b a := fun x y hx hy e => h y x hy hx e.symm
/-- one text more behind a list -/
def Cm.add (c : Cm) (f : Nat) (t : List UInt8) : Cm := if f = 2 then { c with scp := c.scp ++ [t] } else if f = 3 then { c with aud := c.aud ++ [t] } else { c with act := c.act ++ [t] }
/-- a draft turned, its lists grown, new blocks -/
structure Dg (D base : Nat) (w w' : World) : Prop where
  os : w'.os = w.os
  tape : w'.tape = w.tape
  output : w'.output = w.output
  size : w.heap.size ≤ w'.heap.size
  block : ∀ k, k ≠ D → k < base → k < w.heap.size → w'.heap[k]? = w.heap[k]?

theorem add_frame {D base : Nat} {w w4 : World} {v x : Value} {o : Obj} {l : List (List UInt8)} (_hDb : D < base) (hbs : base ≤ w.heap.size) (hv : OwnS w base v l) (hg : (w.alloc o).grownBy w4 v.ownBlock) (k : Nat) : Dg D base w (w4.setCell ⟨D, k, none⟩ x) :=
  have hb : Below base w w4 := below_grown (base := base) ((Below.refl base w).alloc hbs o) hg (by simp; omega) (fun k hk => by have := hv.lt k hk; exact ⟨this.1, by simp; omega⟩) (Nat.le_refl _)
  have hB : But D w4 (w4.setCell ⟨D, k, none⟩ x) := (But.refl D w4).setCell k x
  ⟨hB.os.trans hb.os, hB.tape.trans hb.tape, hB.output.trans hb.output, by rw [hB.size]; exact hb.size, fun j hj hjb _ => (hB.block j hj).trans (hb.block j hjb)⟩
theorem own_more {w4 : World} {base g4 c4 : Nat} {l : List (List UInt8)} {t : List UInt8} (h : w4.ownsRow base 9 1 (.slice (some ⟨g4, 0, none⟩) (l.length + 1) c4) (l.length + 1) (svs l ++ [.string ⟨t.toArray⟩])) : OwnS w4 base (.slice (some ⟨g4, 0, none⟩) (l ++ [t]).length c4) (l ++ [t]) := by
  unfold OwnS
  have e : (l ++ [t]).length = l.length + 1 := by simp
  rw [e]
  have e2 : svs (l ++ [t]) = svs l ++ [.string ⟨t.toArray⟩] := by simp [svs, sv]
  rw [e2]
  exact h
theorem apart_more {w : World} {base g4 n k : Nat} {a b : Option Addr} {l : List (List UInt8)} {o : Obj} {m j : Nat} (hb : OwnS w base (.slice b m j) l) (hab : Apart a b) (hat : (Value.slice a n k).ownBlock = some g4 ∨ g4 = (w.alloc o).heap.size) : Apart b (some ⟨g4, 0, none⟩) := by
  rcases hat with h | h
  · intro x y hx hy
    cases hy
    cases a with
    | none => cases h
    | some z =>
      have h2 := hab z x rfl hx
      injection h with h
      subst h
      exact fun e => h2 e.symm
  · exact hb.apartNew g4 (by rw [h]; simp)

set_option maxRecDepth 20000 in
set_option maxHeartbeats 2000000 in
theorem addScp_any (D base : Nat) (c : Cm) (p : Pl) (m : Nat → Bool) (t : List UInt8) (w : World) (hDb : D < base) (hbs : base ≤ w.heap.size) (hl : c.scp.length ≤ 1048576) (hD : Dr w D c.z p 2 m) (hL : L3 w base c p) :
    Calls Tryz.prog 177 #[.pointer (some ⟨D, 0, none⟩), .string ⟨t.toArray⟩] w fun e w' => (∃ v, e = .returned v) ∧ Dg D base w w' ∧ ∃ p', Dr w' D (c.add 2 t).z p' 2 m ∧ L3 w' base (c.add 2 t) p' := by
  have r6 := hD.cur
  have r2 : w.cell? ⟨D, 2, none⟩ = some (.slice p.a2 c.scp.length p.c2) := hD.cell (by decide)
  have z2 := hD.frozen 2
  have hDl := Row.lt hD
  have hne : some D ≠ (Value.slice p.a2 c.scp.length p.c2).ownBlock := fun e => by have := hL.o2.lt D e.symm; omega
  have r2a : (w.alloc (.cells #[.string ⟨t.toArray⟩] 9)).cell? ⟨D, 2, none⟩ = some (.slice p.a2 c.scp.length p.c2) := (Row.alloc hD _).cell (by decide)
  have z2a : (w.alloc (.cells #[.string ⟨t.toArray⟩] 9)).frozen? ⟨D, 2, none⟩ = false := (Row.alloc hD _).frozen 2
  obtain ⟨i0, hi, iz0, iz1, iz2⟩ := info_parts info9
  have HI := hide hi
  have HI0 := hide iz0
  have HI1 := hide iz1
  have HI2 := hide iz2
  have HL := hide hl
  have HNE := hide hne
  have HRA := hide r2a
  have HZA := hide z2a
  clear hi iz0 iz1 iz2 hl hne r2a z2a
  have hO2 : OwnS (w.alloc (.cells #[.string ⟨t.toArray⟩] 9)) base (.slice p.a2 c.scp.length p.c2) c.scp := hL.o2.below ((Below.refl _ _).alloc (Nat.le_refl _) _)
  go_enter Tryz.func177, Tryz.ntmps177
  go_wp2_with (at_builtin; refine wpList_append_lies _ rfl _ _ 35 rfl base 9 i0 _ 1 16 Tryz.underlying35 (unhide HI) (unhide HI0) (unhide HI1) (unhide HI2) rfl (by decide) _ c.scp.length (svs c.scp) rfl hO2 ⟨w.heap.size, 0, none⟩ 1 1 [.string ⟨t.toArray⟩] rfl rfl (World.news_of_block (heap_alloc_new w _)) (fun u hu => by simp at hu; subst hu; rfl) (by decide) (by unfold maxLen; have := unhide HL; omega) (by have := unhide HL; omega) (by simp; omega) _ rfl ?_; intro g4 c4 w4 ho4 hg4 hat4 hlt4; have r4 := (hg4.cell_far ⟨D, 2, none⟩ (by simp; omega) (unhide HNE)).trans (unhide HRA); have z4 := (hg4.frozen_far ⟨D, 2, none⟩ (by simp; omega) (unhide HNE)).trans (unhide HZA))
  go_end0
  have hD4 : Dr w4 D c.z p 2 m := Row.keep (Row.alloc hD (.cells #[.string ⟨t.toArray⟩] 9)) (hg4.block D (by simp; omega) (unhide HNE))
  refine ⟨⟨_, rfl⟩, add_frame hDb hbs hL.o2 hg4 2, { p with a2 := some ⟨g4, 0, none⟩, c2 := c4 }, ?_, ⟨(own_more ho4).set hDb _ _, (((hL.o3.below ((Below.refl _ _).alloc (Nat.le_refl _) _)).grownBy hg4 (hL.d23.symm)).set hDb _ _), (((hL.o4.below ((Below.refl _ _).alloc (Nat.le_refl _) _)).grownBy hg4 (hL.d24.symm)).set hDb _ _), (apart_more hL.o3 (hL.d23) hat4).symm, (apart_more hL.o4 (hL.d24) hat4).symm, hL.d34⟩⟩
  refine hD4.setCz 2 (by decide) _ (six rfl rfl ?_ rfl rfl rfl)
  show Value.slice (some ⟨g4, 0, none⟩) (c.scp.length + 1) c4 = Value.slice (some ⟨g4, 0, none⟩) (c.scp ++ [t]).length c4
  rw [List.length_append, List.length_singleton]

set_option maxRecDepth 20000 in
set_option maxHeartbeats 2000000 in
theorem addAud_any (D base : Nat) (c : Cm) (p : Pl) (m : Nat → Bool) (t : List UInt8) (w : World) (hDb : D < base) (hbs : base ≤ w.heap.size) (hl : c.aud.length ≤ 1048576) (hD : Dr w D c.z p 3 m) (hL : L3 w base c p) :
    Calls Tryz.prog 177 #[.pointer (some ⟨D, 0, none⟩), .string ⟨t.toArray⟩] w fun e w' => (∃ v, e = .returned v) ∧ Dg D base w w' ∧ ∃ p', Dr w' D (c.add 3 t).z p' 3 m ∧ L3 w' base (c.add 3 t) p' := by
  have r6 := hD.cur
  have r2 : w.cell? ⟨D, 3, none⟩ = some (.slice p.a3 c.aud.length p.c3) := hD.cell (by decide)
  have z2 := hD.frozen 3
  have hDl := Row.lt hD
  have hne : some D ≠ (Value.slice p.a3 c.aud.length p.c3).ownBlock := fun e => by have := hL.o3.lt D e.symm; omega
  have r2a : (w.alloc (.cells #[.string ⟨t.toArray⟩] 9)).cell? ⟨D, 3, none⟩ = some (.slice p.a3 c.aud.length p.c3) := (Row.alloc hD _).cell (by decide)
  have z2a : (w.alloc (.cells #[.string ⟨t.toArray⟩] 9)).frozen? ⟨D, 3, none⟩ = false := (Row.alloc hD _).frozen 3
  obtain ⟨i0, hi, iz0, iz1, iz2⟩ := info_parts info9
  have HI := hide hi
  have HI0 := hide iz0
  have HI1 := hide iz1
  have HI2 := hide iz2
  have HL := hide hl
  have HNE := hide hne
  have HRA := hide r2a
  have HZA := hide z2a
  clear hi iz0 iz1 iz2 hl hne r2a z2a
  have hO2 : OwnS (w.alloc (.cells #[.string ⟨t.toArray⟩] 9)) base (.slice p.a3 c.aud.length p.c3) c.aud := hL.o3.below ((Below.refl _ _).alloc (Nat.le_refl _) _)
  go_enter Tryz.func177, Tryz.ntmps177
  go_wp2_with (at_builtin; refine wpList_append_lies _ rfl _ _ 35 rfl base 9 i0 _ 1 16 Tryz.underlying35 (unhide HI) (unhide HI0) (unhide HI1) (unhide HI2) rfl (by decide) _ c.aud.length (svs c.aud) rfl hO2 ⟨w.heap.size, 0, none⟩ 1 1 [.string ⟨t.toArray⟩] rfl rfl (World.news_of_block (heap_alloc_new w _)) (fun u hu => by simp at hu; subst hu; rfl) (by decide) (by unfold maxLen; have := unhide HL; omega) (by have := unhide HL; omega) (by simp; omega) _ rfl ?_; intro g4 c4 w4 ho4 hg4 hat4 hlt4; have r4 := (hg4.cell_far ⟨D, 3, none⟩ (by simp; omega) (unhide HNE)).trans (unhide HRA); have z4 := (hg4.frozen_far ⟨D, 3, none⟩ (by simp; omega) (unhide HNE)).trans (unhide HZA))
  go_end0
  have hD4 : Dr w4 D c.z p 3 m := Row.keep (Row.alloc hD (.cells #[.string ⟨t.toArray⟩] 9)) (hg4.block D (by simp; omega) (unhide HNE))
  refine ⟨⟨_, rfl⟩, add_frame hDb hbs hL.o3 hg4 3, { p with a3 := some ⟨g4, 0, none⟩, c3 := c4 }, ?_, ⟨(((hL.o2.below ((Below.refl _ _).alloc (Nat.le_refl _) _)).grownBy hg4 (hL.d23)).set hDb _ _), (own_more ho4).set hDb _ _, (((hL.o4.below ((Below.refl _ _).alloc (Nat.le_refl _) _)).grownBy hg4 (hL.d34.symm)).set hDb _ _), apart_more hL.o2 (hL.d23.symm) hat4, hL.d24, (apart_more hL.o4 (hL.d34) hat4).symm⟩⟩
  refine hD4.setCz 3 (by decide) _ (six rfl rfl rfl ?_ rfl rfl)
  show Value.slice (some ⟨g4, 0, none⟩) (c.aud.length + 1) c4 = Value.slice (some ⟨g4, 0, none⟩) (c.aud ++ [t]).length c4
  rw [List.length_append, List.length_singleton]

set_option maxRecDepth 20000 in
set_option maxHeartbeats 2000000 in
theorem addAct_any (D base : Nat) (c : Cm) (p : Pl) (m : Nat → Bool) (t : List UInt8) (w : World) (hDb : D < base) (hbs : base ≤ w.heap.size) (hl : c.act.length ≤ 1048576) (hD : Dr w D c.z p 4 m) (hL : L3 w base c p) :
    Calls Tryz.prog 177 #[.pointer (some ⟨D, 0, none⟩), .string ⟨t.toArray⟩] w fun e w' => (∃ v, e = .returned v) ∧ Dg D base w w' ∧ ∃ p', Dr w' D (c.add 4 t).z p' 4 m ∧ L3 w' base (c.add 4 t) p' := by
  have r6 := hD.cur
  have r2 : w.cell? ⟨D, 4, none⟩ = some (.slice p.a4 c.act.length p.c4) := hD.cell (by decide)
  have z2 := hD.frozen 4
  have hDl := Row.lt hD
  have hne : some D ≠ (Value.slice p.a4 c.act.length p.c4).ownBlock := fun e => by have := hL.o4.lt D e.symm; omega
  have r2a : (w.alloc (.cells #[.string ⟨t.toArray⟩] 9)).cell? ⟨D, 4, none⟩ = some (.slice p.a4 c.act.length p.c4) := (Row.alloc hD _).cell (by decide)
  have z2a : (w.alloc (.cells #[.string ⟨t.toArray⟩] 9)).frozen? ⟨D, 4, none⟩ = false := (Row.alloc hD _).frozen 4
  obtain ⟨i0, hi, iz0, iz1, iz2⟩ := info_parts info9
  have HI := hide hi
  have HI0 := hide iz0
  have HI1 := hide iz1
  have HI2 := hide iz2
  have HL := hide hl
  have HNE := hide hne
  have HRA := hide r2a
  have HZA := hide z2a
  clear hi iz0 iz1 iz2 hl hne r2a z2a
  have hO2 : OwnS (w.alloc (.cells #[.string ⟨t.toArray⟩] 9)) base (.slice p.a4 c.act.length p.c4) c.act := hL.o4.below ((Below.refl _ _).alloc (Nat.le_refl _) _)
  go_enter Tryz.func177, Tryz.ntmps177
  go_wp2_with (at_builtin; refine wpList_append_lies _ rfl _ _ 35 rfl base 9 i0 _ 1 16 Tryz.underlying35 (unhide HI) (unhide HI0) (unhide HI1) (unhide HI2) rfl (by decide) _ c.act.length (svs c.act) rfl hO2 ⟨w.heap.size, 0, none⟩ 1 1 [.string ⟨t.toArray⟩] rfl rfl (World.news_of_block (heap_alloc_new w _)) (fun u hu => by simp at hu; subst hu; rfl) (by decide) (by unfold maxLen; have := unhide HL; omega) (by have := unhide HL; omega) (by simp; omega) _ rfl ?_; intro g4 c4 w4 ho4 hg4 hat4 hlt4; have r4 := (hg4.cell_far ⟨D, 4, none⟩ (by simp; omega) (unhide HNE)).trans (unhide HRA); have z4 := (hg4.frozen_far ⟨D, 4, none⟩ (by simp; omega) (unhide HNE)).trans (unhide HZA))
  go_end0
  have hD4 : Dr w4 D c.z p 4 m := Row.keep (Row.alloc hD (.cells #[.string ⟨t.toArray⟩] 9)) (hg4.block D (by simp; omega) (unhide HNE))
  refine ⟨⟨_, rfl⟩, add_frame hDb hbs hL.o4 hg4 4, { p with a4 := some ⟨g4, 0, none⟩, c4 := c4 }, ?_, ⟨(((hL.o2.below ((Below.refl _ _).alloc (Nat.le_refl _) _)).grownBy hg4 (hL.d24)).set hDb _ _), (((hL.o3.below ((Below.refl _ _).alloc (Nat.le_refl _) _)).grownBy hg4 (hL.d34)).set hDb _ _), (own_more ho4).set hDb _ _, hL.d23, apart_more hL.o2 (hL.d24.symm) hat4, apart_more hL.o3 (hL.d34.symm) hat4⟩⟩
  refine hD4.setCz 4 (by decide) _ (six rfl rfl rfl rfl ?_ rfl)
  show Value.slice (some ⟨g4, 0, none⟩) (c.act.length + 1) c4 = Value.slice (some ⟨g4, 0, none⟩) (c.act ++ [t]).length c4
  rw [List.length_append, List.length_singleton]

end Go.Proofs.YtkmkkmdpjliifaaGreatDoor
