import Derived.Test.YtkmkkmdpjliifaaGreatDoorSpB
import Derived.Test.YtkmkkmdpjliifaaGreatDoorKnB
namespace Go.Proofs.YtkmkkmdpjliifaaGreatDoor
open Go.ChangeShapes Go.WideShapes Go.ChangeAt Go.RowKit

/-- one field taken out of the first n -/
def stepP (n i : Nat) (s : List Nat × List Nat) : List Nat × List Nat := (s.1.set i (s.1.getD (n - 1) 0), s.2 ++ [s.1.getD i 0])
/-- the order left, the fields' places, the fields taken, behind k rounds -/
def trn (o : Int) : Nat → Int × (List Nat × List Nat)
  | 0 => (o, ([0, 1, 2, 3, 4, 5], []))
  | k + 1 => ((trn o k).1.tdiv ((6 - k : Nat) : Int), stepP (6 - k) (pickN (trn o k).1 (6 - k)) (trn o k).2)
def prm (o : Int) : List Nat := (trn o 6).2.2
def permB (a b c d e f : Nat) : Bool :=
  let ps := (stepP 1 f (stepP 2 e (stepP 3 d (stepP 4 c (stepP 5 b (stepP 6 a ([0, 1, 2, 3, 4, 5], []))))))).2
  decide (ps.length = 6) && decide ps.Nodup && ps.all (fun p => decide (p < 6)) && (List.range 6).all (fun f => ps.contains f)
theorem permB_all : ∀ a, a < 6 → ∀ b, b < 5 → ∀ c, c < 4 → ∀ d, d < 3 → ∀ e, e < 2 → ∀ f, f < 1 → permB a b c d e f = true := by decide +kernel
theorem prm_ok (o : Int) : (prm o).length = 6 ∧ (prm o).Nodup ∧ (∀ p ∈ prm o, p < 6) ∧ ∀ f, f < 6 → f ∈ prm o := by
  have h := permB_all _ (pickN_lt (trn o 0).1 6 (by decide)).1 _ (pickN_lt (trn o 1).1 5 (by decide)).1 _ (pickN_lt (trn o 2).1 4 (by decide)).1 _ (pickN_lt (trn o 3).1 3 (by decide)).1 _ (pickN_lt (trn o 4).1 2 (by decide)).1 _ (pickN_lt (trn o 5).1 1 (by decide)).1
  have e : (stepP 1 (pickN (trn o 5).1 1) (stepP 2 (pickN (trn o 4).1 2) (stepP 3 (pickN (trn o 3).1 3) (stepP 4 (pickN (trn o 2).1 4) (stepP 5 (pickN (trn o 1).1 5) (stepP 6 (pickN (trn o 0).1 6) ([0, 1, 2, 3, 4, 5], []))))))).2 = prm o := rfl
  unfold permB at h
  rw [e] at h
  simp only [Bool.and_eq_true, decide_eq_true_eq, List.all_eq_true, List.mem_range, List.contains_eq_mem] at h
  obtain ⟨⟨⟨h1, h2⟩, h3⟩, h4⟩ := h
  exact ⟨h1, h2, h3, h4⟩
theorem trn_len (o : Int) : ∀ k, (trn o k).2.1.length = 6 ∧ (trn o k).2.2.length = k
  | 0 => ⟨rfl, rfl⟩
  | k + 1 => by
    have h := trn_len o k
    rw [trn]
    unfold stepP
    simp only [List.length_set, List.length_append, List.length_singleton]
    exact ⟨h.1, by rw [h.2]⟩
theorem trn_rng (o : Int) (h : -9223372036854775808 ≤ o ∧ o ≤ 9223372036854775807) : ∀ k, k ≤ 6 → -9223372036854775808 ≤ (trn o k).1 ∧ (trn o k).1 ≤ 9223372036854775807
  | 0, _ => h
  | k + 1, hk => (tdiv_rng ((6 - k : Nat) : Int) (by omega) (trn_rng o h k (by omega))).1
/-- a text of fields: A ahead of each comma, B behind it, the first k of them -/
def bldT (A B : List UInt8) (F : Nat → List UInt8) (ps : List Nat) : Nat → List UInt8
  | 0 => []
  | k + 1 => bldT A B F ps k ++ (if k = 0 then [] else A ++ [44]) ++ B ++ F (ps.getD k 0)
theorem bldT_tl (A B : List UInt8) (c : Cm) (r : Int) (ps : List Nat) : ∀ (j k : Nat), 1 ≤ k → k + j = ps.length → bldT A B (fldT c r) ps ps.length = bldT A B (fldT c r) ps k ++ tlT A B c r (ps.drop k)
  | 0, k, _, h => by
    rw [show ps.drop k = [] from List.drop_of_length_le (by omega), show k = ps.length by omega]
    simp [tlT]
  | j + 1, k, h1, h => by
    rw [bldT_tl A B c r ps j (k + 1) (by omega) (by omega), List.drop_eq_getElem_cons (by omega : k < ps.length), bldT, if_neg (by omega)]
    have : ps.getD k 0 = ps[k] := by rw [List.getD_eq_getElem?_getD, List.getElem?_eq_getElem (by omega)]; rfl
    rw [this]
    have e2 : tlT A B c r (ps[k] :: ps.drop (k + 1)) = A ++ [44] ++ B ++ fldT c r ps[k] ++ tlT A B c r (ps.drop (k + 1)) := by simp only [tlT, List.flatMap_cons]
    rw [e2]
    simp only [List.append_assoc]
theorem bldT_all (A B : List UInt8) (c : Cm) (r : Int) (p : Nat) (ps : List Nat) : bldT A B (fldT c r) (p :: ps) (p :: ps).length = B ++ (fldT c r p ++ tlT A B c r ps) := by
  rw [bldT_tl A B c r (p :: ps) ps.length 1 (Nat.le_refl _) (by simp; omega), bldT, bldT, if_pos rfl]
  simp
theorem bldT_len (A B : List UInt8) (F : Nat → List UInt8) (ps : List Nat) (M : Nat) (hA : A.length ≤ 4) (hB : B.length ≤ 4) (hF : ∀ k, (F k).length ≤ M) : ∀ k, (bldT A B F ps k).length ≤ (M + 9) * k
  | 0 => Nat.zero_le _
  | k + 1 => by
    have h1 := bldT_len A B F ps M hA hB hF k
    have h2 := hF (ps.getD k 0)
    rw [bldT, Nat.mul_succ]
    split <;> simp only [List.length_append, List.length_cons, List.length_nil] <;> omega
theorem lsK_len' (l : List (List UInt8)) (r : Int) (h : ∀ k, (l.getD k []).length ≤ 16) : ∀ k, (lsK l r (k + 1)).length ≤ 102 + 107 * k
  | 0 => by
    have h3 := blkS_len (r.tdiv 7)
    have h4 := spS_len (l.getD 0 []) (wrap64 (r + ((0 : Nat) : Int)))
    have h5 := h 0
    rw [lsK, lsK, if_pos rfl]
    simp only [List.length_append, List.length_nil]
    omega
  | k + 1 => by
    have h1 := lsK_len' l r h k
    have h2 := blkS_len (r.tdiv 2)
    have h3 := blkS_len (r.tdiv 7)
    have h4 := spS_len (l.getD (k + 1) []) (wrap64 (r + ((k + 1 : Nat) : Int)))
    have h5 := h (k + 1)
    rw [lsK, if_neg (by omega)]
    simp only [List.length_append, List.length_cons, List.length_nil]
    omega
theorem lsdS_len (l : List (List UInt8)) (r : Int) (hl : l.length ≤ 6) (h : ∀ k, (l.getD k []).length ≤ 16) : (lsdS l r).length ≤ 643 := by
  have h2 := blkS_len (r.tdiv 5)
  have h3 : (lsK l r l.length).length ≤ 637 := by
    cases hn : l.length with
    | zero => rw [lsK]; exact Nat.zero_le _
    | succ n =>
      have := lsK_len' l r h n
      omega
  unfold lsdS
  simp only [List.length_append, List.length_cons, List.length_nil]
  omega
theorem listB_get {l : List (List UInt8)} (h : listB l = true) : l.length ≤ 6 ∧ ∀ k, (l.getD k []).length ≤ 16 := by
  obtain ⟨h1, h2, _⟩ := (listB_iff l).1 h
  refine ⟨h1, fun k => ?_⟩
  by_cases hk : k < l.length
  · rw [List.getD_eq_getElem?_getD, List.getElem?_eq_getElem hk]
    have := h2 l[k] (List.getElem_mem hk)
    unfold nameN at this
    simp only [Bool.and_eq_true, decide_eq_true_eq] at this
    exact this.2
  · rw [List.getD_eq_getElem?_getD, List.getElem?_eq_none (by omega)]
    exact Nat.zero_le _
theorem right_bounds {c : Cm} (h : rightB c.z = true) : OkC c ∧ c.sub.length ≤ 16 ∧ listB c.scp = true ∧ listB c.aud = true ∧ listB c.act = true := by
  refine ⟨right_parts h, ?_⟩
  rw [rightB_eq] at h
  simp only [Bool.and_eq_true] at h
  obtain ⟨h1, h2, h3, h4, _⟩ := h
  unfold nameN at h1
  simp only [Bool.and_eq_true, decide_eq_true_eq] at h1
  exact ⟨h1.2, h2, h3, h4⟩
theorem fldT_len {c : Cm} (h : rightB c.z = true) (r : Int) (p : Nat) : (fldT c r p).length ≤ 668 := by
  obtain ⟨hc, h1, h2, h3, h4⟩ := right_bounds h
  obtain ⟨a2, b2⟩ := listB_get h2
  obtain ⟨a3, b3⟩ := listB_get h3
  obtain ⟨a4, b4⟩ := listB_get h4
  have d1 := dd_len c.id hc.1
  have d2 := dd_len c.exp hc.2.2.2.2.2
  have k1 : jtiL.length = 3 := rfl
  have k2 : subL.length = 3 := rfl
  have k3 : scpL.length = 3 := rfl
  have k4 : audL.length = 3 := rfl
  have k5 : actL.length = 3 := rfl
  have k6 : expL.length = 3 := rfl
  match p with
  | 0 =>
    have s := spS_len jtiL r
    have e1 := blkS_len r
    have e2 := blkS_len (r.tdiv 3)
    simp only [fldT, List.length_append, List.length_cons, List.length_nil]
    omega
  | 1 =>
    have s := spS_len subL (r.tdiv 2)
    have s2 := spS_len c.sub (r.tdiv 4)
    simp only [fldT, List.length_append, List.length_cons, List.length_nil]
    omega
  | 2 =>
    have s := spS_len scpL (r.tdiv 3)
    have s2 := lsdS_len c.scp r a2 b2
    simp only [fldT, List.length_append, List.length_cons, List.length_nil]
    omega
  | 3 =>
    have s := spS_len audL (r.tdiv 5)
    have e1 := blkS_len (r.tdiv 2)
    have s2 := lsdS_len c.aud (r.tdiv 2) a3 b3
    simp only [fldT, List.length_append, List.length_cons, List.length_nil]
    omega
  | 4 =>
    have s := spS_len actL (r.tdiv 7)
    have s2 := lsdS_len c.act (r.tdiv 3) a4 b4
    simp only [fldT, List.length_append, List.length_cons, List.length_nil]
    omega
  | n + 5 =>
    have s := spS_len expL (r.tdiv 9)
    simp only [fldT, List.length_append, List.length_cons, List.length_nil]
    omega
/-- the text of the six fields in their order, behind the brace -/
def sixT (c : Cm) (r o : Int) : List UInt8 := blkS r ++ [123] ++ bldT (blkS (r.tdiv 4)) (blkS (r.tdiv 6)) (fldT c r) (prm o) 6
/-- fields without blanks, from s on -/
def sixB (c : Cm) (r o : Int) (s : Nat) : List UInt8 := blkS r ++ [123] ++ bldT [] [] (fldT c r) ((prm o).drop s) (6 - s)
theorem sixT_len {c : Cm} (h : rightB c.z = true) (r o : Int) : (sixT c r o).length ≤ 4067 := by
  have h1 := bldT_len (blkS (r.tdiv 4)) (blkS (r.tdiv 6)) (fldT c r) (prm o) 668 (blkS_len _) (blkS_len _) (fldT_len h r) 6
  have h2 := blkS_len r
  unfold sixT
  simp only [List.length_append, List.length_cons, List.length_nil]
  omega
theorem prm_cons (o : Int) : ∃ p ps, prm o = p :: ps ∧ ps.length = 5 := by
  have h := (prm_ok o).1
  cases hp : prm o with
  | nil => rw [hp] at h; cases h
  | cons p ps => rw [hp] at h; exact ⟨p, ps, rfl, by simpa using h⟩
theorem six_obj {c : Cm} (h : rightB c.z = true) (r o : Int) (t : List UInt8) (ht : dk t = 0) : objS (sixT c r o ++ t) = endS c t := by
  obtain ⟨hc, _⟩ := right_bounds h
  obtain ⟨h1, h2, h3, h4⟩ := prm_ok o
  obtain ⟨p, ps, e, hl⟩ := prm_cons o
  have h6 : 6 = (p :: ps).length := by rw [← e, h1]
  rw [e] at h2 h3 h4
  unfold sixT
  rw [e, show bldT (blkS (r.tdiv 4)) (blkS (r.tdiv 6)) (fldT c r) (p :: ps) 6 = _ from (congrArg _ h6).trans (bldT_all _ _ c r p ps)]
  have := obj_list hc r (blkS (r.tdiv 4)) (blkS (r.tdiv 6)) (blkS r) (blkS_all _) (blkS_all _) (blkS_all _) 0 t ht p ps h3 h2 (by omega)
  rw [setL_all c cm0 _ h3 h4] at this
  refine Eq.trans (congrArg objS ?_) this
  simp only [List.append_assoc, List.cons_append, List.nil_append]
theorem parse_six {c : Cm} (h : rightB c.z = true) (r o : Int) : parseS (sixT c r o ++ blkS (r.tdiv 8) ++ [125] ++ blkS (r.tdiv 3)) = some c := by
  have hl := sixT_len h r o
  have e1 := blkS_len (r.tdiv 8)
  have e2 := blkS_len (r.tdiv 3)
  unfold parseS
  rw [if_neg (by simp only [List.length_append, List.length_cons, List.length_nil]; omega)]
  have e : sixT c r o ++ blkS (r.tdiv 8) ++ [125] ++ blkS (r.tdiv 3) = sixT c r o ++ (blkS (r.tdiv 8) ++ 125 :: blkS (r.tdiv 3)) := by simp
  rw [e, six_obj h r o _ (dk_blk _ _ (dk_125 _)), end_ok _ _ _ (blkS_all _) (blkS_all _), Option.bind_some, if_pos h]
theorem parse_more {c : Cm} (h : rightB c.z = true) (r o : Int) (x : UInt8) (y : List UInt8) (hx : blankN x = false) : parseS (sixT c r o ++ [125] ++ blkS (r.tdiv 5) ++ x :: y) = none := by
  unfold parseS
  have e : sixT c r o ++ [125] ++ blkS (r.tdiv 5) ++ x :: y = sixT c r o ++ (125 :: (blkS (r.tdiv 5) ++ x :: y)) := by simp
  split
  · rfl
  · rw [e, six_obj h r o _ (dk_125 _), end_more _ _ (blkS_all _) x y hx]; rfl
theorem six_bad {c : Cm} (h : rightB c.z = true) (r o : Int) (t : List UInt8) (ht : dk t = 0) : objS (sixB c r o 0 ++ t) = endS c t := by
  obtain ⟨hc, _⟩ := right_bounds h
  obtain ⟨h1, h2, h3, h4⟩ := prm_ok o
  obtain ⟨p, ps, e, hl⟩ := prm_cons o
  have h6 : 6 - 0 = (p :: ps).length := by rw [← e, h1]
  rw [e] at h2 h3 h4
  unfold sixB
  rw [e, List.drop_zero, show bldT [] [] (fldT c r) (p :: ps) (6 - 0) = _ from (congrArg _ h6).trans (bldT_all _ _ c r p ps)]
  have := obj_list hc r [] [] (blkS r) rfl rfl (blkS_all _) 0 t ht p ps h3 h2 (by omega)
  rw [setL_all c cm0 _ h3 h4] at this
  refine Eq.trans (congrArg objS ?_) this
  simp only [List.append_assoc, List.cons_append, List.nil_append]
/-- one field twice, or one more -/
theorem parse_twice {c : Cm} (h : rightB c.z = true) (r o : Int) (y : List UInt8) : parseS (sixB c r o 0 ++ [44] ++ y) = none := by
  unfold parseS
  split
  · rfl
  · rw [List.append_assoc, six_bad h r o ([44] ++ y) (dk_44 _)]
    show (endS c (44 :: y)).bind _ = _
    rw [end_comma]; rfl
/-- one left out -/
theorem parse_less {c : Cm} (h : rightB c.z = true) (r o : Int) : parseS (sixB c r o 1 ++ [125]) = none := by
  obtain ⟨hc, _⟩ := right_bounds h
  obtain ⟨h1, h2, h3, h4⟩ := prm_ok o
  obtain ⟨p, ps, e, hl⟩ := prm_cons o
  rw [e] at h2 h3 h4
  unfold parseS
  split
  · rfl
  · unfold sixB
    rw [e]
    have hd : (p :: ps).drop 1 = ps := rfl
    rw [hd]
    cases ps with
    | nil => cases hl
    | cons q qs =>
      rw [show 6 - 1 = (q :: qs).length from hl.symm, bldT_all]
      have := obj_list hc r [] [] (blkS r) rfl rfl (blkS_all _) 1 [125] (dk_125 _) q qs (fun x hx => h3 x (by simp at hx ⊢; exact Or.inr hx)) (List.nodup_cons.1 h2).2 (by simp at hl; omega)
      rw [more_end] at this
      rw [show blkS r ++ [123] ++ ([] ++ (fldT c r q ++ tlT [] [] c r qs)) ++ [125] = blkS r ++ 123 :: ([] ++ (fldT c r q ++ (tlT [] [] c r qs ++ [125]))) by simp, this]
      rfl
end Go.Proofs.YtkmkkmdpjliifaaGreatDoor
namespace Go.Proofs.YtkmkkmdpjliifaaGreatDoor
open Go.ChangeShapes Go.WideShapes Go.ChangeAt Go.RowKit
/-- what of a code comes behind its first k parts -/
def dropS : Nat → Code → Code
  | k + 1, .seq _ b => dropS k b
  | _, c => c
noncomputable def r5 (k : Nat) : Code := dropS k (Tryz.f5.body.getD .skip)

/-- what may stand behind -/
def mrL : List (List UInt8) := [[123], [125], [91], [93], [58], [44], [34], [48], [120], [123, 125]]
theorem mrL_head : ∀ j, j < 10 → ∃ x y, mrL.getD j [] = x :: y ∧ blankN x = false ∧ y.length ≤ 1 := by
  intro j hj
  match j, hj with
  | 0, _ => exact ⟨123, [], rfl, by decide, by decide⟩
  | 1, _ => exact ⟨125, [], rfl, by decide, by decide⟩
  | 2, _ => exact ⟨91, [], rfl, by decide, by decide⟩
  | 3, _ => exact ⟨93, [], rfl, by decide, by decide⟩
  | 4, _ => exact ⟨58, [], rfl, by decide, by decide⟩
  | 5, _ => exact ⟨44, [], rfl, by decide, by decide⟩
  | 6, _ => exact ⟨34, [], rfl, by decide, by decide⟩
  | 7, _ => exact ⟨48, [], rfl, by decide, by decide⟩
  | 8, _ => exact ⟨120, [], rfl, by decide, by decide⟩
  | 9, _ => exact ⟨123, [125], rfl, by decide, by decide⟩

theorem cat_is (a b : List UInt8) (n m : Nat) (ha : a.length ≤ n) (hb : b.length ≤ m) (h : n + m ≤ 16777216) : ∃ c, c = a ++ b ∧ c.length ≤ n + m ∧ ∀ u : World, (Op.stringOp .add ⟨a.toArray⟩ ⟨b.toArray⟩).run Tryz.prog u = .ok (.string ⟨c.toArray⟩) u :=
  ⟨a ++ b, rfl, by rw [List.length_append]; omega, fun u => cat_str a b _ rfl (by rw [List.length_append]; omega) u⟩

set_option maxRecDepth 20000 in
set_option maxHeartbeats 4000000 in
theorem sp_end (r : Int) (g : Nat) (T Bd : List UInt8) (cr : Cm) (p1 : Pl) (u0 u1 u2 u3 u4 u5 u6 u8 u9 u10 u11 u12 u13 u14 u15 u16 u17 u18 u21 u22 u23 u24 u27 u28 u29 u30 u31 u32 u33 u34 u35 u36 u37 u38 u39 u40 u41 u42 u43 u44 u45 u46 u47 u48 u49 u50 u51 u52 u53 u54 u55 u56 u57 u58 u59 u60 u61 u62 u63 u64 u65 u66 u67 u68 u69 u70 u71 u72 u73 u74 u75 u76 u77 u78 u79 u80 u81 u82 u83 u84 u85 u86 u87 u88 u89 u90 u91 u92 u93 u94 u95 u96 u97 u98 u99 u100 u101 u102 u103 u104 u105 u106 u107 u108 u109 u110 u111 u112 u113 u114 u115 u116 u117 u118 u119 u120 u121 u122 u123 u124 u125 u126 u127 u128 u129 u130 u131 u132 u133 u134 u135 u136 u137 u138 u139 u140 u141 u142 u143 u144 u145 u146 u147 u148 u149 u150 u151 u152 u153 u154 u155 u156 u157 u158 u159 u160 u161 u162 u163 u164 u165 u166 u167 u168 u169 u170 u171 u172 u173 u174 u175 u176 u177 u178 u179 u180 u181 u182 u183 u184 u185 u186 u187 u188 u189 u190 u191 u192 u193 u194 u195 u196 u197 u198 u199 u200 u201 u202 u203 u204 u205 u206 u207 u208 u209 u210 u211 u212 u213 u214 u215 u216 u217 u218 u219 u220 u221 u222 u223 u224 u225 u226 u227 u228 u229 u230 u231 u232 u233 u234 u235 u236 u237 u238 u239 u240 u241 u242 u243 u244 u245 u246 u247 u248 u249 u250 u251 u252 u253 u254 u255 u256 u257 u258 u259 u260 u261 u262 u263 u264 u265 : Value) (w0 w : World) (hT : TT w0.heap.size w0) (hb : Below w0.heap.size w0 w) (hr : -9223372036854775808 ≤ r ∧ r ≤ 9223372036854775807)
    (hR : Row w g 60 6 (czF cr.z p1)) (hL : CzL w g cr.z p1) (hlT : T.length ≤ 4067) (hlB : Bd.length ≤ 8192)
    (h1 : parseS (T ++ blkS (r.tdiv 8) ++ [125] ++ blkS (r.tdiv 3)) = some cr) (h2 : parseS (Bd ++ [125]) = none)
    (h3 : ∀ x y, blankN x = false → parseS (T ++ [125] ++ blkS (r.tdiv 5) ++ x :: y) = none) :
    Code.wp Tryz.prog (r5 13) (bodyPost Tryz.prog Tryz.f5 fun e w' => e = .returned (.bool true) ∧ Below w0.heap.size w0 w') ⟨#[u0, u1, u2, u3, u4, u5, u6, .int .i64 r, u8, u9, u10, u11, u12, u13, u14, u15, u16, u17, u18, .bool true, .pointer (some ⟨g, 0, none⟩), u21, u22, u23, u24, .string ⟨T.toArray⟩, .string ⟨Bd.toArray⟩, u27, u28, u29, u30, u31, u32, u33, u34, u35, u36, u37, u38, u39, u40, u41, u42, u43, u44, u45, u46, u47, u48, u49, u50, u51, u52, u53, u54, u55, u56, u57, u58, u59, u60, u61, u62, u63, u64, u65, u66, u67, u68, u69, u70, u71, u72, u73, u74, u75, u76, u77, u78, u79, u80, u81, u82, u83, u84, u85, u86, u87, u88, u89, u90, u91, u92, u93, u94, u95, u96, u97, u98, u99, u100, u101, u102, u103, u104, u105, u106, u107, u108, u109, u110, u111, u112, u113, u114, u115, u116, u117, u118, u119, u120, u121, u122, u123, u124, u125, u126, u127, u128, u129, u130, u131, u132, u133, u134, u135, u136, u137, u138, u139, u140, u141, u142, u143, u144, u145, u146, u147, u148, u149, u150, u151, u152, u153, u154, u155, u156, u157, u158, u159, u160, u161, u162, u163, u164, u165, u166, u167, u168, u169, u170, u171, u172, u173, u174, u175, u176, u177, u178, u179, u180, u181, u182, u183, u184, u185, u186, u187, u188, u189, u190, u191, u192, u193, u194, u195, u196, u197, u198, u199, u200, u201, u202, u203, u204, u205, u206, u207, u208, u209, u210, u211, u212, u213, u214, u215, u216, u217, u218, u219, u220, u221, u222, u223, u224, u225, u226, u227, u228, u229, u230, u231, u232, u233, u234, u235, u236, u237, u238, u239, u240, u241, u242, u243, u244, u245, u246, u247, u248, u249, u250, u251, u252, u253, u254, u255, u256, u257, u258, u259, u260, u261, u262, u263, u264, u265], []⟩ w := by
  have HT := hide hT
  have HB := hide hb
  have HR := hide hr
  have HRW := hide hR
  have HL := hide hL
  have H1 := hide h1
  have H2 := hide h2
  have H3 := hide h3
  have HLT := hide hlT
  have HLB := hide hlB
  clear hT hb hr hR hL h1 h2 h3 hlT hlB
  obtain ⟨hr8, hw8⟩ := tdiv_rng 8 (by decide) (unhide HR)
  obtain ⟨hr3, hw3⟩ := tdiv_rng 3 (by decide) (unhide HR)
  obtain ⟨hr5, hw5⟩ := tdiv_rng 5 (by decide) (unhide HR)
  obtain ⟨hr11, hw11⟩ := tdiv_rng 11 (by decide) (unhide HR)
  have C8 := hide (fun u : World => blanks_any (r.tdiv 8) u hr8)
  have C3 := hide (fun u : World => blanks_any (r.tdiv 3) u hr3)
  have C5 := hide (fun u : World => blanks_any (r.tdiv 5) u hr5)
  have C11 := hide (fun u : World => pickK_any (r.tdiv 11) 10 u hr11 (by decide))
  have l8 := blkS_len (r.tdiv 8)
  have l3 := blkS_len (r.tdiv 3)
  have l5 := blkS_len (r.tdiv 5)
  clear hr8 hr3 hr5 hr11
  generalize blkS (r.tdiv 8) = b8 at *
  generalize blkS (r.tdiv 3) = b3 at *
  generalize blkS (r.tdiv 5) = b5 at *
  obtain ⟨z1, hz1, hlz1, k1⟩ := cat_is T b8 4067 4 (unhide HLT) l8 (by decide)
  obtain ⟨z2, hz2, hlz2, k2⟩ := cat_is z1 [125] _ 1 hlz1 (by decide) (by decide)
  obtain ⟨z3, hz3, hlz3, k3⟩ := cat_is z2 b3 _ 4 hlz2 l3 (by decide)
  obtain ⟨z4, hz4, hlz4, k4⟩ := cat_is Bd [125] 8192 1 (unhide HLB) (by decide) (by decide)
  obtain ⟨z5, hz5, hlz5, k5⟩ := cat_is T [125] 4067 1 (unhide HLT) (by decide) (by decide)
  obtain ⟨z6, hz6, hlz6, k6⟩ := cat_is z5 b5 _ 4 hlz5 l5 (by decide)
  have P1 : Hid (parseS z3 = some cr) := by rw [hz3, hz2, hz1]; exact unhide H1
  have P2 : Hid (parseS z4 = none) := by rw [hz4]; exact unhide H2
  have P3 : Hid (∀ x y, blankN x = false → parseS (z6 ++ x :: y) = none) := by rw [hz6, hz5]; exact unhide H3
  have HL6 := hide hlz6
  clear hz1 hz2 hz3 hz4 hz5 hz6 hlz1 hlz2 hlz3 hlz4 hlz5 hlz6 l8 l3 l5 H1 H2 H3
  conv => arg 2; whnf
  go_wp2_with fail
  rw [hw8]
  refine (unhide C8 _).mono ?_
  rintro e y1 ⟨rfl, hb⟩
  have HB1 := hide ((Below.refl w.heap.size w).trans hb)
  clear hb
  go_wp2_with fail
  refine (unhide C3 _).mono ?_
  rintro e y2 ⟨rfl, hb⟩
  have HB2 := hide ((unhide HB1).trans (hb.mono (unhide HB1).size))
  clear hb
  go_wp2_with fail
  have hBB := (unhide HB).trans ((unhide HB2).mono (unhide HB).size)
  refine (ParseM_any z3 y2 ((unhide HT).below hBB).ut).mono ?_
  rintro e y3 ⟨c, p, k, rfl, h3, hcs, hb4, hres⟩
  rw [unhide P1] at hres
  have hkc : k = 0 ∧ c = cr := by
    rcases hres with ⟨h1, h2⟩ | ⟨_, h2, _⟩
    · exact ⟨h1, (Option.some.inj h2).symm⟩
    · cases h2
  obtain ⟨rfl, rfl⟩ := hkc
  obtain ⟨v1, hv1⟩ : ∃ v1, v1 = y3.alloc (.cells #[.int .i64 c.z.id, .string ⟨c.z.sub.toArray⟩, .slice p.a2 c.z.scp.length p.c2, .slice p.a3 c.z.aud.length p.c3, .slice p.a4 c.z.act.length p.c4, .int .i64 c.z.exp] 60) := ⟨_, rfl⟩
  have hbv1 : Below y3.heap.size y3 v1 := by rw [hv1]; exact (Below.refl _ _).alloc (Nat.le_refl _) _
  have hsv1 : v1.heap.size = y3.heap.size + 1 := by rw [hv1]; simp
  have hRd : Row v1 y3.heap.size 60 6 (czF c.z p) := by rw [hv1]; exact Row.new y3 60 _ _ 6 rfl (six rfl rfl rfl rfl rfl rfl)
  have hLd : CzL v1 y3.heap.size c.z p := (h3.czl).below hbv1
  have hB3 := (unhide HB2).trans (hb4.mono (unhide HB2).size)
  have hBv1 : Below w.heap.size w v1 := hB3.trans (hbv1.mono hB3.size)
  obtain ⟨gd, hgd⟩ : ∃ gd, gd = y3.heap.size := ⟨_, rfl⟩
  have hgw : w.heap.size ≤ gd := by rw [hgd]; exact hB3.size
  rw [← hgd] at hRd hLd hsv1
  have HV1 := hide hv1
  have HGD := hide hgd
  have HRD := hide hRd
  have HLD := hide hLd
  have HBV1 := hide hBv1
  have HCS := hide hcs
  clear hv1 hgd hRd hLd hBv1 hcs hbv1 hB3 hBB h3 hb4 hres HB1 HB2
  unfold czA
  go_wp2_with fail
  rw [← unhide HV1, ← unhide HGD]
  clear HV1 HGD
  have hBB := (unhide HB).trans ((unhide HBV1).mono (unhide HB).size)
  refine (ParseM_any z4 v1 ((unhide HT).below hBB).ut).mono ?_
  rintro e y4 ⟨cx, px, kx, rfl, h3x, hcsx, hb4, hres⟩
  rw [unhide P2] at hres
  have hkx : kx = 2 ∧ cx = cm0 ∧ px = pl0 := by
    rcases hres with ⟨_, h2⟩ | ⟨h1, _, h2⟩
    · cases h2
    · exact ⟨h1, h2⟩
  obtain ⟨rfl, rfl, rfl⟩ := hkx
  have hcz0 : czA cm0.z pl0 = #[.int .i64 0, .string ⟨#[]⟩, .slice none 0 0, .slice none 0 0, .slice none 0 0, .int .i64 0] := rfl
  rw [hcz0]
  obtain ⟨v2, hv2⟩ : ∃ v2, v2 = y4.alloc (.cells #[.int .i64 0, .string ⟨#[]⟩, .slice none 0 0, .slice none 0 0, .slice none 0 0, .int .i64 0] 60) := ⟨_, rfl⟩
  have hbv2 : Below y4.heap.size y4 v2 := by rw [hv2]; exact (Below.refl _ _).alloc (Nat.le_refl _) _
  have hsv2 : v2.heap.size = y4.heap.size + 1 := by rw [hv2]; simp
  have hRx : Row v2 y4.heap.size 60 6 (czF cm0.z pl0) := by rw [hv2]; exact Row.new y4 60 _ _ 6 rfl (six rfl rfl rfl rfl rfl rfl)
  have hb12 : Below v1.heap.size v1 v2 := hb4.trans (hbv2.mono hb4.size)
  obtain ⟨gx, hgx⟩ : ∃ gx, gx = y4.heap.size := ⟨_, rfl⟩
  have hgxd : v1.heap.size ≤ gx := by rw [hgx]; exact hb4.size
  rw [← hgx] at hRx hsv2
  have HV2 := hide hv2
  have HGX := hide hgx
  have HRX := hide hRx
  have HB12 := hide hb12
  obtain ⟨v3, hv3⟩ : ∃ v3, v3 = allocL v2 [.cells #[.string ⟨#[123]⟩, .string ⟨#[125]⟩, .string ⟨#[91]⟩, .string ⟨#[93]⟩, .string ⟨#[58]⟩, .string ⟨#[44]⟩, .string ⟨#[34]⟩, .string ⟨#[48]⟩, .string ⟨#[120]⟩, .string ⟨#[123, 125]⟩] 9] := ⟨_, rfl⟩
  have hb23 : Below v2.heap.size v2 v3 := by rw [hv3]; exact allocL_below _ _
  have hsv3 : v3.heap.size = v2.heap.size + 1 := by rw [hv3, allocL_size]; rfl
  have hAll : ∀ j, j < 10 → v3.cell? ⟨v2.heap.size, j, none⟩ = some (sv (mrL.getD j [])) := fun j hj => by
    rw [hv3]
    refine cell_of_row _ _ _ _ 9 _ (allocL_heap _ v2 0 _ rfl) |>.trans ?_
    match j, hj with
    | 0, _ => rfl
    | 1, _ => rfl
    | 2, _ => rfl
    | 3, _ => rfl
    | 4, _ => rfl
    | 5, _ => rfl
    | 6, _ => rfl
    | 7, _ => rfl
    | 8, _ => rfl
    | 9, _ => rfl
  have HV3 : Hid (v3 = v2.alloc (.cells #[.string ⟨#[123]⟩, .string ⟨#[125]⟩, .string ⟨#[91]⟩, .string ⟨#[93]⟩, .string ⟨#[58]⟩, .string ⟨#[44]⟩, .string ⟨#[34]⟩, .string ⟨#[48]⟩, .string ⟨#[120]⟩, .string ⟨#[123, 125]⟩] 9)) := hv3
  obtain ⟨gm, hgm⟩ : ∃ gm, gm = v2.heap.size := ⟨_, rfl⟩
  rw [← hgm] at hAll hsv3
  have HGM := hide (hgm.trans hsv2)
  obtain ⟨hlt, hpk⟩ := pickN_lt (r.tdiv 11) 10 (by decide)
  have hck := hAll _ hlt
  obtain ⟨mx, my, hmx, hbx, hmy⟩ := mrL_head _ hlt
  rw [hmx, sv_def] at hck
  have HCK : Hid (∀ u, Below v3.heap.size v3 u → u.cell? ⟨gm, pickN (r.tdiv 11) 10, none⟩ = some (.string ⟨(mx :: my).toArray⟩)) := fun u hu => (hu.cell (p := ⟨gm, pickN (r.tdiv 11) 10, none⟩) (by show gm < v3.heap.size; omega)).trans hck
  have HB23 := hide hb23
  obtain ⟨z7, hz7, hlz7, k7⟩ := cat_is z6 (mx :: my) _ 2 (unhide HL6) (by simp; omega) (by decide)
  have P7 : Hid (parseS z7 = none) := by rw [hz7]; exact unhide P3 mx my hbx
  have HMX := hide hmx
  have hkI : ((pickN (r.tdiv 11) 10 : Nat) : Int) < 10 := by omega
  have HPK := hide hpk
  generalize pickN (r.tdiv 11) 10 = pk at *
  clear hv2 hgx hRx hb12 hv3 hb23 hAll hgm hck hmx hz7 hlz7 hbx hmy hpk hbv2 h3x hcsx hb4 hres hBB P3 HMX
  go_wp2_with fail
  rw [← unhide HV2, ← unhide HGX, ← unhide HV3, ← unhide HGM]
  clear HV2 HGX HV3 HGM
  refine (unhide C5 _).mono ?_
  rintro e y5 ⟨rfl, hb⟩
  have HB35 := hide hb
  clear hb
  go_wp2_with fail
  rw [hw11]
  refine (unhide C11 _).mono ?_
  rintro e y5' ⟨rfl, hy5⟩
  rw [hy5]
  rw [show pickZ (r.tdiv 11) 10 = (pk : Nat) from unhide HPK]
  have hck := unhide HCK y5 (unhide HB35)
  go_wp2_with fail
  have hB13 : Below v1.heap.size v1 v3 := (unhide HB12).trans ((unhide HB23).mono (unhide HB12).size)
  have hB15 : Below v1.heap.size v1 y5 := hB13.trans ((unhide HB35).mono hB13.size)
  have hBw5 : Below w.heap.size w y5 := (unhide HBV1).trans (hB15.mono (unhide HBV1).size)
  have hB25 : Below v2.heap.size v2 y5 := (unhide HB23).trans ((unhide HB35).mono (unhide HB23).size)
  have hBB := (unhide HB).trans (hBw5.mono (unhide HB).size)
  refine (ParseM_any z7 y5 ((unhide HT).below hBB).ut).mono ?_
  rintro e y6 ⟨cx, px, kx, rfl, h3x, hcsx, hb6, hres⟩
  rw [unhide P7] at hres
  have hkx : kx = 2 ∧ cx = cm0 ∧ px = pl0 := by
    rcases hres with ⟨_, h2⟩ | ⟨h1, _, h2⟩
    · cases h2
    · exact ⟨h1, h2⟩
  obtain ⟨rfl, rfl, rfl⟩ := hkx
  have hcz0 : czA cm0.z pl0 = #[.int .i64 0, .string ⟨#[]⟩, .slice none 0 0, .slice none 0 0, .slice none 0 0, .int .i64 0] := rfl
  rw [hcz0]
  obtain ⟨v4, hv4⟩ : ∃ v4, v4 = y6.alloc (.cells #[.int .i64 0, .string ⟨#[]⟩, .slice none 0 0, .slice none 0 0, .slice none 0 0, .int .i64 0] 60) := ⟨_, rfl⟩
  have hbv4 : Below y6.heap.size y6 v4 := by rw [hv4]; exact (Below.refl _ _).alloc (Nat.le_refl _) _
  have hb54 : Below y5.heap.size y5 v4 := hb6.trans (hbv4.mono hb6.size)
  have hw4 : Below w.heap.size w v4 := hBw5.trans (hb54.mono hBw5.size)
  have h14 : Below v1.heap.size v1 v4 := hB15.trans (hb54.mono hB15.size)
  have h24 : Below v2.heap.size v2 v4 := hB25.trans (hb54.mono hB25.size)
  have hRc : Row v4 g 60 6 (czF c.z p1) := (unhide HRW).below hw4 (unhide HRW).lt
  have hRd : Row v4 gd 60 6 (czF c.z p) := (unhide HRD).below h14 (by omega)
  have hRx : Row v4 gx 60 6 (czF cm0.z pl0) := (unhide HRX).below h24 (by omega)
  have hgl : g < w.heap.size := (unhide HRW).lt
  have hs4w := hw4.size
  have hLc : CzL v4 v4.heap.size c.z p1 := (((unhide HL).below (hw4.mono (by omega))).up (by omega))
  have hs14 := h14.size
  have hLd : CzL v4 v4.heap.size c.z p := (((unhide HLD).below (h14.mono (by omega))).up (by omega))
  have hAl := alike_any c.z c.z p1 p v4 v4.heap.size (Nat.le_refl _) (unhide HCS) hLc hLd
  rw [(sameZ_iff _ _).2 rfl] at hAl
  unfold czA at hAl
  have HAl := hide hAl
  have HV4 := hide hv4
  have HW4 := hide hw4
  have HRX4 := hide hRx
  have s0 : v4.cell? ⟨g, 0, none⟩ = some (.int .i64 c.z.id) := hRc.cell (by decide)
  have d0 : v4.cell? ⟨gd, 0, none⟩ = some (.int .i64 c.z.id) := hRd.cell (by decide)
  have s1 : v4.cell? ⟨g, 1, none⟩ = some (.string ⟨c.z.sub.toArray⟩) := hRc.cell (by decide)
  have d1 : v4.cell? ⟨gd, 1, none⟩ = some (.string ⟨c.z.sub.toArray⟩) := hRd.cell (by decide)
  have s2 : v4.cell? ⟨g, 2, none⟩ = some (.slice p1.a2 c.z.scp.length p1.c2) := hRc.cell (by decide)
  have d2 : v4.cell? ⟨gd, 2, none⟩ = some (.slice p.a2 c.z.scp.length p.c2) := hRd.cell (by decide)
  have s3 : v4.cell? ⟨g, 3, none⟩ = some (.slice p1.a3 c.z.aud.length p1.c3) := hRc.cell (by decide)
  have d3 : v4.cell? ⟨gd, 3, none⟩ = some (.slice p.a3 c.z.aud.length p.c3) := hRd.cell (by decide)
  have s4 : v4.cell? ⟨g, 4, none⟩ = some (.slice p1.a4 c.z.act.length p1.c4) := hRc.cell (by decide)
  have d4 : v4.cell? ⟨gd, 4, none⟩ = some (.slice p.a4 c.z.act.length p.c4) := hRd.cell (by decide)
  have s5 : v4.cell? ⟨g, 5, none⟩ = some (.int .i64 c.z.exp) := hRc.cell (by decide)
  have d5 : v4.cell? ⟨gd, 5, none⟩ = some (.int .i64 c.z.exp) := hRd.cell (by decide)
  have HX4 : Hid (gx < v4.heap.size) := by have := h24.size; show gx < v4.heap.size; omega
  clear hB13 hB15 hBw5 hB25 hBB h3x hcsx hb6 hres hv4 hbv4 hb54 hw4 h14 h24 hRc hRd hRx hLc hLd hAl hgl hs4w hs14 hck HCK HB35
  rw [unhide HV4] at s0 s1 s2 s3 s4 s5 d0 d1 d2 d3 d4 d5
  go_wp2_with fail
  rw [← unhide HV4]
  refine (unhide HAl).mono ?_
  rintro e y7 ⟨rfl, hb7⟩
  have hRx7 := (unhide HRX4).below hb7 (unhide HX4)
  have x0 : y7.cell? ⟨gx, 0, none⟩ = some (.int .i64 0) := hRx7.cell (by decide)
  have x1 : y7.cell? ⟨gx, 1, none⟩ = some (.string ⟨#[]⟩) := hRx7.cell (by decide)
  have HFin := hide ((unhide HB).trans (((unhide HW4).trans (hb7.mono (unhide HW4).size)).mono (unhide HB).size))
  clear hb7 hRx7 s0 s1 s2 s3 s4 s5 d0 d1 d2 d3 d4 d5 HV4
  go_wp2_with fail
  go_ret
  exact ⟨rfl, unhide HFin⟩
end Go.Proofs.YtkmkkmdpjliifaaGreatDoor
