import Derived.Test.YtkmkkmdpjliifaaGreatDoorJzE
import Derived.Test.YtkmkkmdpjliifaaGreatDoorNxE
import Derived.Laws.ResultCell
import Derived.Lib.ItoaNum
import Derived.Deep.RegionHeld3
import Derived.Test.YtkmkkmdpjliifaaGreatDoorSw
import Derived.Deep.AppendLies
import Derived.Deep.RegionLaw
import Derived.Lib.AppendStr
import Derived.Laws.BitsAllLaws
namespace Go.Proofs.YtkmkkmdpjliifaaGreatDoor
open Go.ChangeShapes Go.WideShapes Go.ChangeAt Go.RowKit

/-- claims, as Go has them -/
structure Cz where
  id : Int
  sub : List UInt8
  scp : List (List UInt8)
  aud : List (List UInt8)
  act : List (List UInt8)
  exp : Int
def Cm.z (c : Cm) : Cz := ⟨(c.id : Int), c.sub, c.scp, c.aud, c.act, (c.exp : Int)⟩
def cz0 : Cz := ⟨0, [], [], [], [], 0⟩
/-- may they be? -/
def rightB (c : Cz) : Bool := nameN c.sub && listB c.scp && listB c.aud && listB c.act && decide (0 ≤ c.id) && decide (c.id ≤ 999999999999) && decide (0 ≤ c.exp) && decide (c.exp ≤ 999999999999)
/-- claims as a value: the lists' places -/
structure Pl where
  a2 : Option Addr
  c2 : Nat
  a3 : Option Addr
  c3 : Nat
  a4 : Option Addr
  c4 : Nat
def czF (c : Cz) (p : Pl) (j : Nat) : Value :=
  if j = 0 then .int .i64 c.id else if j = 1 then .string ⟨c.sub.toArray⟩ else if j = 2 then .slice p.a2 c.scp.length p.c2 else if j = 3 then .slice p.a3 c.aud.length p.c3
  else if j = 4 then .slice p.a4 c.act.length p.c4 else .int .i64 c.exp
def czA (c : Cz) (p : Pl) : Array Value := #[.int .i64 c.id, .string ⟨c.sub.toArray⟩, .slice p.a2 c.scp.length p.c2, .slice p.a3 c.aud.length p.c3, .slice p.a4 c.act.length p.c4, .int .i64 c.exp]
structure CzL (w : World) (B : Nat) (c : Cz) (p : Pl) : Prop where
  k2 : Ls w B (.slice p.a2 c.scp.length p.c2) c.scp
  k3 : Ls w B (.slice p.a3 c.aud.length p.c3) c.aud
  k4 : Ls w B (.slice p.a4 c.act.length p.c4) c.act
theorem CzL.below {w w' : World} {B : Nat} {c : Cz} {p : Pl} (h : CzL w B c p) (hb : Below B w w') : CzL w' B c p := ⟨h.k2.below hb, h.k3.below hb, h.k4.below hb⟩
theorem CzL.up {w : World} {B B' : Nat} {c : Cz} {p : Pl} (h : CzL w B c p) (hb : B ≤ B') : CzL w B' c p := ⟨h.k2.up hb, h.k3.up hb, h.k4.up hb⟩
/-- nothing is too great -/
structure CzS (c : Cz) : Prop where
  sub : c.sub.length ≤ 9223372036854775807
  l2 : c.scp.length ≤ 8796093022208
  l3 : c.aud.length ≤ 8796093022208
  l4 : c.act.length ≤ 8796093022208
  f2 : Fits c.scp
  f3 : Fits c.aud
  f4 : Fits c.act
def numsB (i e : Int) : Bool := decide (0 ≤ i) && decide (i ≤ 999999999999) && decide (0 ≤ e) && decide (e ≤ 999999999999)
theorem rightB_eq (c : Cz) : rightB c = (nameN c.sub && (listB c.scp && (listB c.aud && (listB c.act && numsB c.id c.exp)))) := by
  unfold rightB numsB
  simp only [Bool.and_assoc]

end Go.Proofs.YtkmkkmdpjliifaaGreatDoor
namespace Go.Proofs.YtkmkkmdpjliifaaGreatDoor
open Go.ChangeShapes Go.WideShapes Go.ChangeAt Go.RowKit

end Go.Proofs.YtkmkkmdpjliifaaGreatDoor
namespace Go.Proofs.YtkmkkmdpjliifaaGreatDoor
open Go.ChangeShapes Go.WideShapes Go.ChangeAt Go.RowKit

def pl0 : Pl := ⟨none, 0, none, 0, none, 0⟩
theorem Row.set_czF {w : World} {g : Nat} {c c' : Cz} {p p' : Pl} (h : Row w g 60 6 (czF c p)) (k : Nat) (v : Value) (hv : ∀ j, j < 6 → (if j = k then v else czF c p j) = czF c' p' j) : Row (w.setCell ⟨g, k, none⟩ v) g 60 6 (czF c' p') :=
  (Row.set h k v).congr hv
theorem OwnS.set {w : World} {base g : Nat} {v : Value} {l : List (List UInt8)} (h : OwnS w base v l) (hg : g < base) (k : Nat) (x : Value) : OwnS (w.setCell ⟨g, k, none⟩ x) base v l := h.gr (Gr.setCell (Gr.refl g w) k x) hg
theorem six {P : Nat → Prop} (h0 : P 0) (h1 : P 1) (h2 : P 2) (h3 : P 3) (h4 : P 4) (h5 : P 5) : ∀ j, j < 6 → P j := by
  intro j hj
  rcases (show j = 0 ∨ j = 1 ∨ j = 2 ∨ j = 3 ∨ j = 4 ∨ j = 5 by omega) with rfl | rfl | rfl | rfl | rfl | rfl <;> assumption
theorem OwnS.form {w : World} {base : Nat} {v : Value} {l : List (List UInt8)} (h : OwnS w base v l) : ∃ a k, v = .slice a l.length k := by
  rcases owns_cells h with ⟨rfl, hn⟩ | ⟨g, cap, rfl, _⟩
  · exact ⟨none, 0, by rw [hn]⟩
  · exact ⟨_, cap, rfl⟩
/-- nothing is too great -/
structure PBd (c : Cm) : Prop where
  sub : c.sub.length ≤ 16384
  l2 : c.scp.length ≤ 4098
  l3 : c.aud.length ≤ 4098
  l4 : c.act.length ≤ 4098
  f2 : ∀ s ∈ c.scp, s.length ≤ 16384
  f3 : ∀ s ∈ c.aud, s.length ≤ 16384
  f4 : ∀ s ∈ c.act, s.length ≤ 16384
theorem fits_of {l : List (List UInt8)} {n : Nat} (hn : n ≤ 9223372036854775807) (h : ∀ s ∈ l, s.length ≤ n) : Fits l := fun i hi => by
  have := h (l.getD i []) (by simp [List.getD, hi])
  omega
theorem PBd.z {c : Cm} (h : PBd c) : CzS c.z :=
  ⟨by have := h.sub; show c.sub.length ≤ _; omega, by have := h.l2; show c.scp.length ≤ _; omega, by have := h.l3; show c.aud.length ≤ _; omega, by have := h.l4; show c.act.length ≤ _; omega, fits_of (by decide) h.f2, fits_of (by decide) h.f3, fits_of (by decide) h.f4⟩
theorem PBd.start : PBd cm0 := ⟨by decide, by decide, by decide, by decide, fun s h => absurd h (by simp [cm0]), fun s h => absurd h (by simp [cm0]), fun s h => absurd h (by simp [cm0])⟩
end Go.Proofs.YtkmkkmdpjliifaaGreatDoor
namespace Go.Proofs.YtkmkkmdpjliifaaGreatDoor
open Go.ChangeShapes Go.WideShapes Go.ChangeAt Go.RowKit

theorem arr6 (c : Cz) (p : Pl) : arrOf 6 (czF c p) = czA c p := by
  apply Array.ext (by rw [arrOf_size]; rfl)
  intro i h1 h2
  have e := arrOf_get 6 (czF c p) i (by rw [arrOf_size] at h1; exact h1)
  rw [Array.getElem?_eq_getElem h1] at e
  rw [Option.some.inj e]
  rw [arrOf_size] at h1
  exact six (P := fun i => ∀ h2 : i < (czA c p).size, czF c p i = (czA c p)[i]) (fun _ => rfl) (fun _ => rfl) (fun _ => rfl) (fun _ => rfl) (fun _ => rfl) (fun _ => rfl) i h1 h2
theorem ret_cz {fn : Func} {q u : Tmp} (h : fn.results = #[.cell q 60, .tmp u]) {a : Act} {w : World} {R : Ending → World → Prop} {g : Nat} {c : Cz} {p : Pl} (hRow : Row w g 60 6 (czF c p))
    (hp : a.tmps.getD q undef = .pointer (some ⟨g, 0, none⟩)) (hdef : a.defers = []) (hR : R (.returned (.tuple #[.agg (czA c p), a.tmps.getD u undef])) w) : bodyPost Tryz.prog fn R Exit.ret a w := by
  refine bodyPost_ret (v := .tuple #[.agg (czA c p), a.tmps.getD u undef]) ?_ hdef hR
  have hl := run_loadVar_row (P := Tryz.prog) w g 60 60 (arrOf 6 (czF c p)) (0, 0) _ hRow.whole Tryz.underlying60 rfl (by rw [arrOf_size]; kernel_rfl)
  rw [arr6] at hl
  rw [results_cell_tmp h, hp]
  simp [asAddr, hl, Result.andThen]
/-- claims, stored whole -/
def st6 (w : World) (g : Nat) (c : Cz) (p : Pl) : World :=
  (((((w.setCell ⟨g, 0, none⟩ (.int .i64 c.id)).setCell ⟨g, 1, none⟩ (.string ⟨c.sub.toArray⟩)).setCell ⟨g, 2, none⟩ (.slice p.a2 c.scp.length p.c2)).setCell ⟨g, 3, none⟩ (.slice p.a3 c.aud.length p.c3)).setCell ⟨g, 4, none⟩ (.slice p.a4 c.act.length p.c4)).setCell ⟨g, 5, none⟩ (.int .i64 c.exp)
theorem st6_row {w : World} {g : Nat} {f : Nat → Value} (h : Row w g 60 6 f) (c : Cz) (p : Pl) : Row (st6 w g c p) g 60 6 (czF c p) :=
  ((((((h.set 0 _).set 1 _).set 2 _).set 3 _).set 4 _).set 5 _).congr (six rfl rfl rfl rfl rfl rfl)
theorem st6_but (w : World) (g : Nat) (c : Cz) (p : Pl) : But g w (st6 w g c p) := ((((((But.refl g w).setCell 0 _).setCell 1 _).setCell 2 _).setCell 3 _).setCell 4 _).setCell 5 _
theorem m3 {n q g : Nat} (h : n + g = q) (h2 : n < q) : g - 1 < g ∧ n + 1 + (g - 1) = q := by omega
end Go.Proofs.YtkmkkmdpjliifaaGreatDoor
namespace Go.Proofs.YtkmkkmdpjliifaaGreatDoor
open Go.ChangeShapes Go.WideShapes Go.ChangeAt Go.RowKit

/-- a digit to the base 16 -/
def hexD (n : Nat) : List UInt8 := ([48, 49, 50, 51, 52, 53, 54, 55, 56, 57, 97, 98, 99, 100, 101, 102] : List UInt8).drop n |>.take 1
/-- a byte of a string, as the plain text has it -/
def escB (c : UInt8) : List UInt8 := if c = 34 ∨ c = 92 then [92, c] else if c.toNat < 32 then [92, 117, 48, 48] ++ hexD (c.toNat / 16) ++ hexD (c.toNat % 16) else [c]
theorem escB_length (c : UInt8) : (escB c).length ≤ 6 := by
  unfold escB hexD
  split
  · simp
  · split
    · simp only [List.length_append, List.length_take]
      have h1 := Nat.min_le_left 1 (List.drop (c.toNat / 16) ([48, 49, 50, 51, 52, 53, 54, 55, 56, 57, 97, 98, 99, 100, 101, 102] : List UInt8)).length
      have h2 := Nat.min_le_left 1 (List.drop (c.toNat % 16) ([48, 49, 50, 51, 52, 53, 54, 55, 56, 57, 97, 98, 99, 100, 101, 102] : List UInt8)).length
      simp only [List.length_cons, List.length_nil]
      omega
    · simp
def escL (s : List UInt8) : List UInt8 := s.flatMap escB
theorem escL_length (s : List UInt8) : (escL s).length ≤ 6 * s.length := by
  unfold escL
  induction s with
  | nil => simp
  | cons c s ih =>
    rw [List.flatMap_cons, List.length_append, List.length_cons]
    have := escB_length c
    omega
theorem escL_take (s : List UInt8) (k : Nat) (h : k < s.length) : escL (s.take (k + 1)) = escL (s.take k) ++ escB (s.getD k 0) := by
  unfold escL
  rw [List.take_add_one, List.flatMap_append]
  simp [List.getD, List.getElem?_eq_getElem h]
/-- a string, as the plain text has it -/
def quotS (s : List UInt8) : List UInt8 := [34] ++ escL s ++ [34]
theorem quotS_length (s : List UInt8) : (quotS s).length ≤ 6 * s.length + 2 := by
  unfold quotS
  have := escL_length s
  simp only [List.length_append, List.length_singleton]
  omega

theorem mid1 (s : List UInt8) (k : Nat) (h : k < s.length) : (s.drop k).take 1 = [s.getD k 0] := by
  rw [List.drop_eq_getElem_cons h, List.take_succ_cons, List.take_zero]
  simp [List.getD, List.getElem?_eq_getElem h]

end Go.Proofs.YtkmkkmdpjliifaaGreatDoor
namespace Go.Proofs.YtkmkkmdpjliifaaGreatDoor
open Go.ChangeShapes Go.WideShapes Go.ChangeAt Go.RowKit

/-- the first k names of a list, as the plain text has them -/
def joinK (l : List (List UInt8)) : Nat → List UInt8
  | 0 => []
  | k + 1 => joinK l k ++ ((if k = 0 then [] else [44]) ++ quotS (l.getD k []))
/-- a list, as the plain text has it -/
def listP (l : List (List UInt8)) : List UInt8 := [91] ++ joinK l l.length ++ [93]
theorem joinK_length (l : List (List UInt8)) (hf : ∀ i, i < l.length → (l.getD i []).length ≤ 16) : ∀ k, k ≤ l.length → (joinK l k).length ≤ 99 * k
  | 0, _ => Nat.le_refl _
  | k + 1, h => by
    have h1 := joinK_length l hf k (by omega)
    have h2 := quotS_length (l.getD k [])
    have h3 := hf k (by omega)
    have h4 : (if k = 0 then ([] : List UInt8) else [44]).length ≤ 1 := by split <;> simp
    rw [joinK]
    simp only [List.length_append]
    omega
theorem listP_length (l : List (List UInt8)) (hf : ∀ i, i < l.length → (l.getD i []).length ≤ 16) (hl : l.length ≤ 6) : (listP l).length ≤ 600 := by
  have := joinK_length l hf l.length (Nat.le_refl _)
  unfold listP
  simp only [List.length_append, List.length_singleton]
  omega
def Names (l : List (List UInt8)) : Prop := l.length ≤ 6 ∧ ∀ i, i < l.length → (l.getD i []).length ≤ 16
theorem Names.of {l : List (List UInt8)} (h : listB l = true) : Names l := by
  unfold listB at h
  rw [Bool.and_eq_true] at h
  refine ⟨of_decide_eq_true h.1, fun i hi => ?_⟩
  have := List.all_eq_true.1 h.2 i (List.mem_range.2 hi)
  unfold okAt nameN at this
  simp only [Bool.and_eq_true] at this
  exact of_decide_eq_true this.1.2

/-- the plain text of claims -/
def plainS (c : Cm) : List UInt8 :=
  [123, 34, 106, 116, 105, 34, 58] ++ Lib.decDigits c.id ++ [44, 34, 115, 117, 98, 34, 58] ++ quotS c.sub ++ [44, 34, 115, 99, 112, 34, 58] ++ listP c.scp ++ [44, 34, 97, 117, 100, 34, 58] ++ listP c.aud ++
    [44, 34, 97, 99, 116, 34, 58] ++ listP c.act ++ [44, 34, 101, 120, 112, 34, 58] ++ Lib.decDigits c.exp ++ [125]

theorem dd_len (n : Nat) (hn : n ≤ 999999999999) : (Lib.decDigits n).length ≤ 20 := by
  rw [Lib.decDigits_length]
  have : ∀ k m : Nat, m < 10 ^ (k + 1) → Lib.nDigits m ≤ k + 1 := by
    intro k
    induction k with
    | zero => intro m hm; rw [Lib.nDigits_small (by omega)]; exact Nat.le_refl _
    | succ k ihk =>
      intro m hm
      by_cases h : m < 10
      · rw [Lib.nDigits_small h]; omega
      · rw [Lib.nDigits_big h]
        have := ihk (m / 10) (by rw [Nat.pow_succ] at hm; omega)
        omega
  have h3 := this 12 n (by omega)
  omega
theorem right_nums {c : Cz} (h : rightB c = true) : ∃ m : Cm, m.z = c ∧ m.id ≤ 999999999999 ∧ m.exp ≤ 999999999999 ∧ m.sub.length ≤ 16 ∧ Names m.scp ∧ Names m.aud ∧ Names m.act := by
  unfold rightB at h
  simp only [Bool.and_eq_true, decide_eq_true_eq] at h
  obtain ⟨⟨⟨⟨⟨⟨⟨h1, h2⟩, h3⟩, h4⟩, h5⟩, h6⟩, h7⟩, h8⟩ := h
  obtain ⟨i, hi⟩ := Int.eq_ofNat_of_zero_le h5
  obtain ⟨e, he⟩ := Int.eq_ofNat_of_zero_le h7
  refine ⟨⟨i, c.sub, c.scp, c.aud, c.act, e⟩, ?_, by show i ≤ _; omega, by show e ≤ _; omega, ?_, Names.of h2, Names.of h3, Names.of h4⟩
  · cases c
    simp only [Cm.z] at hi he ⊢
    rw [hi, he]
  · unfold nameN at h1
    simp only [Bool.and_eq_true, decide_eq_true_eq] at h1
    exact h1.2
/-- what Print answers -/
def PrnR (c : Cz) (e : Ending) : Prop := (rightB c = false ∧ e = .returned (.tuple #[.string ⟨#[]⟩, .int .i64 2])) ∨ (∃ m : Cm, m.z = c ∧ rightB c = true ∧ e = .returned (.tuple #[.string ⟨(plainS m).toArray⟩, .int .i64 0]))

end Go.Proofs.YtkmkkmdpjliifaaGreatDoor
namespace Go.Proofs.YtkmkkmdpjliifaaGreatDoor
open Go.ChangeShapes Go.WideShapes Go.ChangeAt Go.RowKit

/-- a slice of bytes that the call owns, and what it holds -/
def OwnU (w : World) (base : Nat) (v : Value) (l : List UInt8) : Prop := w.ownsRow base 5 1 v l.length (Lib.byteCells l)
theorem OwnU.nil (w : World) (base : Nat) : OwnU w base (.slice none 0 0) [] := World.ownsRow_nil _ _ _ _
theorem OwnU.below {w w' : World} {base : Nat} {v : Value} {l : List UInt8} (h : OwnU w base v l) (hb : Below w.heap.size w w') : OwnU w' base v l := ownsRow_below h hb (Nat.le_refl _)
theorem OwnU.alloc {w : World} {base : Nat} {v : Value} {l : List UInt8} (h : OwnU w base v l) (o : Obj) : OwnU (w.alloc o) base v l := h.below ((Below.refl _ _).alloc (Nat.le_refl _) o)
theorem OwnU.lt {w : World} {base : Nat} {v : Value} {l : List UInt8} (h : OwnU w base v l) : ∀ k, v.ownBlock = some k → base ≤ k ∧ k < w.heap.size := World.ownsRow.lt h
theorem appU {w : World} {ops : Array Oper} {rest : List Oper} {o : Oper} {a : Act} {Q : Exit → Act → World → Prop} (hgd : o.guard = none) (s x : Operand)
    (ho : o.op = .call { callee := .builtin .append, args := #[s, x], argTypes := #[110, 110] })
    (base : Nat) (v : Value) (l bs : List UInt8) {m c : Nat} (hm : bs.length = m) (hs : a.eval s = v) (hown : OwnU w base v l)
    (ad : Addr) (hx : a.eval x = .slice (some ad) m c) (hc : ∀ j u, (Lib.byteCells bs)[j]? = some u → w.cell? (ad.add j) = some u) (hn : l.length + m ≤ 16777216) (hbase : base ≤ w.heap.size)
    (h : ∀ v' w', OwnU w' base v' (l ++ bs) → w.grownBy w' v.ownBlock → wpList Tryz.prog ops Q rest (a.put o.dst v') w') : wpList Tryz.prog ops Q (o :: rest) a w := by
  obtain ⟨i0, hi, hz0, hz1, hz2⟩ := info_parts info5
  subst hm
  refine wpList_append_own w hgd s x 110 ho base 5 i0 (.int .u8 0) 1 1 Tryz.underlying110 hi hz0 hz1 hz2 rfl (by decide) v l.length _ hs hown ad bs.length c (Lib.byteCells bs) hx (by rw [Lib.byteCells_length, Nat.mul_one]) hc ?_ ?_ ?_ hbase ?_
  · intro u hu; unfold Lib.byteCells at hu; obtain ⟨b, _, rfl⟩ := List.mem_map.1 hu; rfl
  · unfold maxLen; omega
  · omega
  · intro v' w' h1 h2 _
    refine h v' w' ?_ h2
    unfold OwnU
    rw [List.length_append]
    unfold Lib.byteCells at h1 ⊢
    rw [List.map_append]
    exact h1
theorem appUS {w : World} {ops : Array Oper} {rest : List Oper} {o : Oper} {a : Act} {Q : Exit → Act → World → Prop} (hgd : o.guard = none) (s x : Operand)
    (ho : o.op = .call { callee := .builtin .append, args := #[s, x], argTypes := #[110, 9] })
    (base : Nat) (v : Value) (l bs : List UInt8) (hs : a.eval s = v) (hown : OwnU w base v l)
    (hx : a.eval x = .string ⟨bs.toArray⟩) (hn : l.length + bs.length ≤ 16777216) (hbase : base ≤ w.heap.size)
    (h : ∀ v' w', OwnU w' base v' (l ++ bs) → w.grownBy w' v.ownBlock → wpList Tryz.prog ops Q rest (a.put o.dst v') w') : wpList Tryz.prog ops Q (o :: rest) a w := by
  obtain ⟨i0, hi, hz0, hz1, hz2⟩ := info_parts info5
  have hsz : (ByteArray.mk bs.toArray).size = bs.length := by simp [ByteArray.size]
  obtain ⟨v', w', hrun, hown', hg, _⟩ := Lib.run_append_own_string (P := Tryz.prog) w base 110 9 o.type 5 i0 Tryz.underlying110 Tryz.underlying9 hi hz0 hz1 hz2 v l.length _ hown ⟨bs.toArray⟩ (by rw [hsz]; unfold maxLen; omega) (by rw [hsz]; omega) hbase
  refine wpList_plain hgd fun K hK' => ?_
  unfold Oper.wp
  simp [execOp, ho, resolve, invoke, builtin, hs, hx, hrun, Result.andThen]
  refine hK' _ _ (h v' w' ?_ hg)
  unfold OwnU
  rw [List.length_append]
  rw [hsz] at hown'
  unfold Lib.byteCells Lib.strCells at *
  rw [List.map_append]
  exact hown'
theorem news1 (w : World) (b : UInt8) (x : Int) (hx : x = (b.toNat : Int)) : ∀ j u, (Lib.byteCells [b])[j]? = some u → (w.alloc (.cells #[.int .u8 x] 5)).cell? ((⟨w.heap.size, 0, none⟩ : Addr).add j) = some u := by
  subst hx
  exact World.news_of_block (heap_alloc_new w _)
theorem news2 (w : World) (b c : UInt8) (x y : Int) (hx : x = (b.toNat : Int)) (hy : y = (c.toNat : Int)) : ∀ j u, (Lib.byteCells [b, c])[j]? = some u → (w.alloc (.cells #[.int .u8 x, .int .u8 y] 5)).cell? ((⟨w.heap.size, 0, none⟩ : Addr).add j) = some u := by
  subst hx hy
  exact World.news_of_block (heap_alloc_new w _)
theorem apB {base : Nat} {w wr w' : World} {v : Value} {l : List UInt8} {o : Obj} (hb : Below base w wr) (hB : base ≤ wr.heap.size) (hO : OwnU wr base v l) (hg : (wr.alloc o).grownBy w' v.ownBlock) : Below base w w' :=
  below_grown (hb.alloc hB o) (v := v) (base := base) hg (by simp; omega) (fun k hk => by have := hO.lt k hk; exact ⟨this.1, by simp; omega⟩) (Nat.le_refl _)
theorem and15 (n : Nat) (h : n < 256) : bits .and .u8 (n : Int) 15 = (n : Int) % 16 := by
  have h1 := u8_and_nat n 15 h (by decide)
  have h2 := Nat.and_two_pow_sub_one_eq_mod n 4
  simp only [Nat.reducePow, Nat.add_one_sub_one] at h2
  rw [h2] at h1
  exact h1
def hexC (n : Nat) : UInt8 := ([48, 49, 50, 51, 52, 53, 54, 55, 56, 57, 97, 98, 99, 100, 101, 102] : List UInt8).getD n 0
theorem hexD_eq (n : Nat) (h : n < 16) : hexD n = [hexC n] := by
  unfold hexD hexC
  exact mid1 _ n h
theorem hexi (n : Nat) (h : n < 16) (x : Int) (hx : x = (n : Nat)) (u : World) : (Instr.index 9 (.string ⟨#[48, 49, 50, 51, 52, 53, 54, 55, 56, 57, 97, 98, 99, 100, 101, 102]⟩) (.int .u8 x)).run Tryz.prog u = .ok (.int .u8 ((hexC n).toNat : Nat)) u := by
  subst hx
  have h3 : n < (ByteArray.mk #[48, 49, 50, 51, 52, 53, 54, 55, 56, 57, 97, 98, 99, 100, 101, 102]).size := h
  have h2 := by_get ⟨#[48, 49, 50, 51, 52, 53, 54, 55, 56, 57, 97, 98, 99, 100, 101, 102]⟩ n h3
  have h4 : (ByteArray.mk #[48, 49, 50, 51, 52, 53, 54, 55, 56, 57, 97, 98, 99, 100, 101, 102])[n]? = some ((ByteArray.mk #[48, 49, 50, 51, 52, 53, 54, 55, 56, 57, 97, 98, 99, 100, 101, 102])[n]'h3) := ByteArray.getElem?_lt' _ n h3
  unfold Instr.index
  simp only [asIntOf, Sem.run_bind, Sem.run_pure, run_underlying Tryz.underlying9, Result.andThen_ok]
  rw [if_pos (by omega), Int.toNat_natCast, h4]
  simp only [h2]
  rfl
theorem apBd {base : Nat} {w wr w' : World} {v : Value} {l : List UInt8} {o : Obj} (hb : Below base w wr) (hB : base ≤ wr.heap.size) (hO : OwnU wr base v l) (hg : (wr.alloc o).drew.grownBy w' v.ownBlock) : Below base w w' :=
  below_grown (hb.alloc hB o).drew (v := v) (base := base) hg (by simp; omega) (fun k hk => by have := hO.lt k hk; exact ⟨this.1, by simp; omega⟩) (Nat.le_refl _)
theorem OwnU.of {w : World} {base : Nat} {v : Value} {l x : List UInt8} {n : Nat} (h : w.ownsRow base 5 1 v (l.length + n) (Lib.byteCells l ++ Lib.byteCells x)) (hn : x.length = n := by rfl) : OwnU w base v (l ++ x) := by
  subst hn
  unfold OwnU
  rw [List.length_append]
  unfold Lib.byteCells at h ⊢
  rw [List.map_append]
  exact h
/-- what appends of texts come to -/
def ApR (base : Nat) (l : List UInt8) (w : World) (e : Ending) (w' : World) : Prop := ∃ v', e = .returned v' ∧ OwnU w' base v' l ∧ Below base w w'

set_option maxRecDepth 20000 in
set_option maxHeartbeats 2000000 in
theorem appendText_any (v : Value) (l s : List UInt8) (w : World) (base : Nat) (hB : base ≤ w.heap.size) (hl : l.length ≤ 65536) (hs : s.length ≤ 4096) (hO : OwnU w base v l) :
    Calls Tryz.prog 102 #[v, .string ⟨s.toArray⟩] w (ApR base (l ++ quotS s) w) := by
  have HL := hide hl
  have HS := hide hs
  clear hl hs
  go_enter Tryz.func102, Tryz.ntmps102
  go_wp2_with (at_builtin; refine appU (m := 1) rfl _ _ rfl base v l [34] rfl rfl (hO.alloc _) _ rfl (news1 w 34 _ rfl) (by have := unhide HL; omega) (by simp; omega) ?_; intro v1 w1 hO1 hg1)
  have hb1 := apB (Below.refl base w) hB hO hg1
  clear hg1
  go_loopg [0, 12] s.length (fun q o i wr => ∃ (k : Nat), k + q = s.length ∧ i = .int .i64 (k : Nat) ∧ OwnU wr base o (l ++ ([34] ++ escL (s.take k))) ∧ Below base w wr)
  case atStart => exact ⟨0, Nat.zero_add _, rfl, hO1, hb1⟩
  case round =>
    clear hO1 hb1 hO
    obtain ⟨k, hk, rfl, hO, hb⟩ := hrel
    have hBr : base ≤ wr.heap.size := Nat.le_trans hB hb.size
    have hol : (l ++ ([34] ++ escL (s.take k))).length ≤ 16777000 := by
      have h1 := escL_length (s.take k)
      have h2 := unhide HL
      have h3 := unhide HS
      rw [List.length_take] at h1
      simp only [List.length_append, List.length_singleton]
      omega
    by_cases hlt : k < s.length
    · have hw : wrap64 ((k : Int) + 1) = (k : Int) + 1 := w64 _ (by omega) (by have := unhide HS; omega)
      have hkl : (k : Int) < s.length := by omega
      have hix := ix_any s k hlt
      have hby : by_ s k = (s.getD k 0).toNat := rfl
      rw [hby] at hix
      have hq := escL_take s k hlt
      generalize hc : s.getD k 0 = c at *
      have hcl := c.toNat_lt
      have HQ : Hid (∀ x, escB c = x → l ++ ([34] ++ escL (s.take (k + 1))) = (l ++ ([34] ++ escL (s.take k))) ++ x) := fun x hx => by rw [hq, hx]; simp
      generalize l ++ ([34] ++ escL (s.take k)) = out at *
      clear hq hc hby
      by_cases c1 : c = 34 ∨ c = 92
      · have HE : Hid (escB c = [92, c]) := by unfold escB; rw [if_pos c1]; rfl
        rcases c1 with rfl | rfl
        · go_wp2_with (at_builtin; refine appU (m := 2) rfl _ _ rfl base u0 out [92, 34] rfl rfl (hO.alloc _) _ rfl (news2 wr 92 34 _ _ rfl rfl) (by omega) (by simp; omega) ?_; intro v2 w2 hO2 hg2)
          go_roundg (gk - 1)
          case measure => omega
          case rel => exact ⟨k + 1, by omega, by first | exact num1 hw | rfl, by rw [unhide HQ _ (unhide HE)]; exact hO2, apB hb hBr hO hg2⟩
        · go_wp2_with (at_builtin; refine appU (m := 2) rfl _ _ rfl base u0 out [92, 92] rfl rfl (hO.alloc _) _ rfl (news2 wr 92 92 _ _ rfl rfl) (by omega) (by simp; omega) ?_; intro v2 w2 hO2 hg2)
          go_roundg (gk - 1)
          case measure => omega
          case rel => exact ⟨k + 1, by omega, by first | exact num1 hw | rfl, by rw [unhide HQ _ (unhide HE)]; exact hO2, apB hb hBr hO hg2⟩
      · have n1 : (((c.toNat : Nat) : Int) == 34) = false := u8_bne (n := 34) (fun h => c1 (Or.inl ((u8_eq (by decide)).2 h)))
        have n2 : (((c.toNat : Nat) : Int) == 92) = false := u8_bne (n := 92) (fun h => c1 (Or.inr ((u8_eq (by decide)).2 h)))
        by_cases c2 : c.toNat < 32
        · have d1 : decide (((c.toNat : Nat) : Int) < 32) = true := decide_eq_true (by omega)
          have i1 := hexi (c.toNat / 16) (by omega) (((c.toNat : Nat) : Int) / 16) (by omega)
          have i2 := hexi (c.toNat % 16) (by omega) (((c.toNat : Nat) : Int) % 16) (by omega)
          have a15 := and15 c.toNat hcl
          have HE : Hid (escB c = [92, 117, 48, 48, hexC (c.toNat / 16), hexC (c.toNat % 16)]) := by unfold escB; rw [if_neg c1, if_pos c2, hexD_eq _ (by omega), hexD_eq _ (by omega)]; rfl
          generalize hexC (c.toNat / 16) = x1 at *
          generalize hexC (c.toNat % 16) = x2 at *
          obtain ⟨i0, hi, iz0, iz1, iz2⟩ := info_parts info5
          have HI := hide hi
          have HI0 := hide iz0
          have HI1 := hide iz1
          have HI2 := hide iz2
          clear hi iz0 iz1 iz2
          go_wp2_with fail
          go_region_law (refine step_append_lies _ rfl _ _ 110 rfl base 5 i0 _ 1 1 Tryz.underlying110 (unhide HI) (unhide HI0) (unhide HI1) (unhide HI2) rfl (by decide) u0 out.length (Lib.byteCells out) rfl (by first | exact (hO.alloc _).drew | exact hO.drew.alloc _) ⟨wr.heap.size, 0, none⟩ 6 6 (Lib.byteCells [92, 117, 48, 48, x1, x2]) rfl rfl (by first | exact World.news_of_block (heap_alloc_new wr _) | exact World.news_of_block (heap_alloc_new wr.drew _)) (fun u hu => by unfold Lib.byteCells at hu; obtain ⟨b, _, rfl⟩ := List.mem_map.1 hu; rfl) (by decide) (by unfold maxLen; omega) (by omega) (by simp; omega) _ rfl ?_; intro g4 c4 w4 ho4 hg4 hat4 hlt4)
          all_goals
            go_wp2_with fail
            go_roundg (gk - 1)
            case measure => omega
            case rel => exact ⟨k + 1, by omega, by first | exact num1 hw | rfl, by rw [unhide HQ _ (unhide HE)]; exact OwnU.of ho4, apBd hb hBr hO hg4⟩
        · have d1 : decide (((c.toNat : Nat) : Int) < 32) = false := decide_eq_false (by omega)
          have HE : Hid (escB c = [c]) := by unfold escB; rw [if_neg c1, if_neg c2]; rfl
          clear hcl c2
          go_wp2_with (at_builtin; refine appU (m := 1) rfl _ _ rfl base u0 out [c] rfl rfl (hO.alloc _) _ rfl (news1 wr c _ rfl) (by omega) (by simp; omega) ?_; intro v2 w2 hO2 hg2)
          go_roundg (gk - 1)
          case measure => omega
          case rel => exact ⟨k + 1, by omega, by first | exact num1 hw | rfl, by rw [unhide HQ _ (unhide HE)]; exact hO2, apB hb hBr hO hg2⟩
    · have hke : k = s.length := by omega
      have HQS : Hid (l ++ quotS s = l ++ ([34] ++ escL (s.take k)) ++ [34]) := by rw [hke, List.take_length]; unfold quotS Hid; simp
      generalize l ++ ([34] ++ escL (s.take k)) = out at *
      clear hke
      go_wp2_with (at_builtin; refine appU (m := 1) rfl _ _ rfl base u0 out [34] rfl rfl (hO.alloc _) _ rfl (news1 wr 34 _ rfl) (by omega) (by simp; omega) ?_; intro v2 w2 hO2 hg2)
      go_ret
      exact ⟨v2, rfl, by rw [unhide HQS]; exact hO2, apB hb hBr hO hg2⟩
end Go.Proofs.YtkmkkmdpjliifaaGreatDoor
