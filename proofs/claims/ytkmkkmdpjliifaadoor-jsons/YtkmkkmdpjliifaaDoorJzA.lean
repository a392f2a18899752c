import Derived.Test.YtkmkkmdpjliifaaDoorJyF
import Derived.Test.YtkmkkmdpjliifaaDoorSw
import Derived.Deep.AppendLies
import Derived.Deep.RegionLaw
import Derived.Lib.AppendStr
import Derived.Laws.BitsAllLaws
namespace Go.Proofs.YtkmkkmdpjliifaaDoor
open Go.ChangeShapes Go.WideShapes Go.ChangeAt Go.RowKit

/-- a slice of bytes that the call owns, and what it holds -/
def OwnU (w : World) (base : Nat) (v : Value) (l : List UInt8) : Prop := w.ownsRow base 5 1 v l.length (Lib.byteCells l)
theorem OwnU.nil (w : World) (base : Nat) : OwnU w base (.slice none 0 0) [] := World.ownsRow_nil _ _ _ _
theorem OwnU.below {w w' : World} {base : Nat} {v : Value} {l : List UInt8} (h : OwnU w base v l) (hb : Below w.heap.size w w') : OwnU w' base v l := ownsRow_below h hb (Nat.le_refl _)
theorem OwnU.alloc {w : World} {base : Nat} {v : Value} {l : List UInt8} (h : OwnU w base v l) (o : Obj) : OwnU (w.alloc o) base v l := h.below ((Below.refl _ _).alloc (Nat.le_refl _) o)
theorem OwnU.lt {w : World} {base : Nat} {v : Value} {l : List UInt8} (h : OwnU w base v l) : ∀ k, v.ownBlock = some k → base ≤ k ∧ k < w.heap.size := World.ownsRow.lt h
theorem appU {w : World} {ops : Array Oper} {rest : List Oper} {o : Oper} {a : Act} {Q : Exit → Act → World → Prop} (hgd : o.guard = none) (s x : Operand)
    (ho : o.op = .call { callee := .builtin .append, args := #[s, x], argTypes := #[33, 33] })
    (base : Nat) (v : Value) (l bs : List UInt8) {m c : Nat} (hm : bs.length = m) (hs : a.eval s = v) (hown : OwnU w base v l)
    (ad : Addr) (hx : a.eval x = .slice (some ad) m c) (hc : ∀ j u, (Lib.byteCells bs)[j]? = some u → w.cell? (ad.add j) = some u) (hn : l.length + m ≤ 16777216) (hbase : base ≤ w.heap.size)
    (h : ∀ v' w', OwnU w' base v' (l ++ bs) → w.grownBy w' v.ownBlock → wpList Tryd.prog ops Q rest (a.put o.dst v') w') : wpList Tryd.prog ops Q (o :: rest) a w := by
  obtain ⟨i0, hi, hz0, hz1, hz2⟩ := info_parts info5
  subst hm
  refine wpList_append_own w hgd s x 33 ho base 5 i0 (.int .u8 0) 1 1 Tryd.underlying33 hi hz0 hz1 hz2 rfl (by decide) v l.length _ hs hown ad bs.length c (Lib.byteCells bs) hx (by rw [Lib.byteCells_length, Nat.mul_one]) hc ?_ ?_ ?_ hbase ?_
  · intro u hu; unfold Lib.byteCells at hu; obtain ⟨b, _, rfl⟩ := List.mem_map.1 hu; rfl
  · unfold maxLen; omega
  · omega
  · intro v' w' h1 h2 _
    refine h v' w' ?_ h2
    unfold OwnU
    rw [List.length_append]
    unfold Lib.byteCells at h1 ⊢
    rw [List.map_append]
    exact h1
theorem appUS {w : World} {ops : Array Oper} {rest : List Oper} {o : Oper} {a : Act} {Q : Exit → Act → World → Prop} (hgd : o.guard = none) (s x : Operand)
    (ho : o.op = .call { callee := .builtin .append, args := #[s, x], argTypes := #[33, 9] })
    (base : Nat) (v : Value) (l bs : List UInt8) (hs : a.eval s = v) (hown : OwnU w base v l)
    (hx : a.eval x = .string ⟨bs.toArray⟩) (hn : l.length + bs.length ≤ 16777216) (hbase : base ≤ w.heap.size)
    (h : ∀ v' w', OwnU w' base v' (l ++ bs) → w.grownBy w' v.ownBlock → wpList Tryd.prog ops Q rest (a.put o.dst v') w') : wpList Tryd.prog ops Q (o :: rest) a w := by
  obtain ⟨i0, hi, hz0, hz1, hz2⟩ := info_parts info5
  have hsz : (ByteArray.mk bs.toArray).size = bs.length := by simp [ByteArray.size]
  obtain ⟨v', w', hrun, hown', hg, _⟩ := Lib.run_append_own_string (P := Tryd.prog) w base 33 9 o.type 5 i0 Tryd.underlying33 Tryd.underlying9 hi hz0 hz1 hz2 v l.length _ hown ⟨bs.toArray⟩ (by rw [hsz]; unfold maxLen; omega) (by rw [hsz]; omega) hbase
  refine wpList_plain hgd fun K hK' => ?_
  unfold Oper.wp
  simp [execOp, ho, resolve, invoke, builtin, hs, hx, hrun, Result.andThen]
  refine hK' _ _ (h v' w' ?_ hg)
  unfold OwnU
  rw [List.length_append]
  rw [hsz] at hown'
  unfold Lib.byteCells Lib.strCells at *
  rw [List.map_append]
  exact hown'
theorem news1 (w : World) (b : UInt8) (x : Int) (hx : x = (b.toNat : Int)) : ∀ j u, (Lib.byteCells [b])[j]? = some u → (w.alloc (.cells #[.int .u8 x] 5)).cell? ((⟨w.heap.size, 0, none⟩ : Addr).add j) = some u := by
  subst hx
  exact World.news_of_block (heap_alloc_new w _)
theorem news2 (w : World) (b c : UInt8) (x y : Int) (hx : x = (b.toNat : Int)) (hy : y = (c.toNat : Int)) : ∀ j u, (Lib.byteCells [b, c])[j]? = some u → (w.alloc (.cells #[.int .u8 x, .int .u8 y] 5)).cell? ((⟨w.heap.size, 0, none⟩ : Addr).add j) = some u := by
  subst hx hy
  exact World.news_of_block (heap_alloc_new w _)
theorem apB {base : Nat} {w wr w' : World} {v : Value} {l : List UInt8} {o : Obj} (hb : Below base w wr) (hB : base ≤ wr.heap.size) (hO : OwnU wr base v l) (hg : (wr.alloc o).grownBy w' v.ownBlock) : Below base w w' :=
  below_grown (hb.alloc hB o) (v := v) (base := base) hg (by simp; omega) (fun k hk => by have := hO.lt k hk; exact ⟨this.1, by simp; omega⟩) (Nat.le_refl _)
theorem and15 (n : Nat) (h : n < 256) : bits .and .u8 (n : Int) 15 = (n : Int) % 16 := by
  have h1 := u8_and_nat n 15 h (by decide)
  have h2 := Nat.and_two_pow_sub_one_eq_mod n 4
  simp only [Nat.reducePow, Nat.add_one_sub_one] at h2
  rw [h2] at h1
  exact h1
def hexC (n : Nat) : UInt8 := ([48, 49, 50, 51, 52, 53, 54, 55, 56, 57, 97, 98, 99, 100, 101, 102] : List UInt8).getD n 0
theorem hexD_eq (n : Nat) (h : n < 16) : hexD n = [hexC n] := by
  unfold hexD hexC
  exact mid1 _ n h
theorem hexi (n : Nat) (h : n < 16) (x : Int) (hx : x = (n : Nat)) (u : World) : (Instr.index 9 (.string ⟨#[48, 49, 50, 51, 52, 53, 54, 55, 56, 57, 97, 98, 99, 100, 101, 102]⟩) (.int .u8 x)).run Tryd.prog u = .ok (.int .u8 ((hexC n).toNat : Nat)) u := by
  subst hx
  have h3 : n < (ByteArray.mk #[48, 49, 50, 51, 52, 53, 54, 55, 56, 57, 97, 98, 99, 100, 101, 102]).size := h
  have h2 := by_get ⟨#[48, 49, 50, 51, 52, 53, 54, 55, 56, 57, 97, 98, 99, 100, 101, 102]⟩ n h3
  have h4 : (ByteArray.mk #[48, 49, 50, 51, 52, 53, 54, 55, 56, 57, 97, 98, 99, 100, 101, 102])[n]? = some ((ByteArray.mk #[48, 49, 50, 51, 52, 53, 54, 55, 56, 57, 97, 98, 99, 100, 101, 102])[n]'h3) := ByteArray.getElem?_lt' _ n h3
  unfold Instr.index
  simp only [asIntOf, Sem.run_bind, Sem.run_pure, run_underlying Tryd.underlying9, Result.andThen_ok]
  rw [if_pos (by omega), Int.toNat_natCast, h4]
  simp only [h2]
  rfl
theorem apBd {base : Nat} {w wr w' : World} {v : Value} {l : List UInt8} {o : Obj} (hb : Below base w wr) (hB : base ≤ wr.heap.size) (hO : OwnU wr base v l) (hg : (wr.alloc o).drew.grownBy w' v.ownBlock) : Below base w w' :=
  below_grown (hb.alloc hB o).drew (v := v) (base := base) hg (by simp; omega) (fun k hk => by have := hO.lt k hk; exact ⟨this.1, by simp; omega⟩) (Nat.le_refl _)
theorem OwnU.of {w : World} {base : Nat} {v : Value} {l x : List UInt8} {n : Nat} (h : w.ownsRow base 5 1 v (l.length + n) (Lib.byteCells l ++ Lib.byteCells x)) (hn : x.length = n := by rfl) : OwnU w base v (l ++ x) := by
  subst hn
  unfold OwnU
  rw [List.length_append]
  unfold Lib.byteCells at h ⊢
  rw [List.map_append]
  exact h
/-- what appends of texts come to -/
def ApR (base : Nat) (l : List UInt8) (w : World) (e : Ending) (w' : World) : Prop := ∃ v', e = .returned v' ∧ OwnU w' base v' l ∧ Below base w w'

set_option maxRecDepth 20000 in
set_option maxHeartbeats 2000000 in
theorem appendText_any (v : Value) (l s : List UInt8) (w : World) (base : Nat) (hB : base ≤ w.heap.size) (hl : l.length ≤ 65536) (hs : s.length ≤ 4096) (hO : OwnU w base v l) :
    Calls Tryd.prog 66 #[v, .string ⟨s.toArray⟩] w (ApR base (l ++ quotS s) w) := by
  have HL := hide hl
  have HS := hide hs
  clear hl hs
  go_enter Tryd.func66, Tryd.ntmps66
  go_wp2_with (at_builtin; refine appU (m := 1) rfl _ _ rfl base v l [34] rfl rfl (hO.alloc _) _ rfl (news1 w 34 _ rfl) (by have := unhide HL; omega) (by simp; omega) ?_; intro v1 w1 hO1 hg1)
  have hb1 := apB (Below.refl base w) hB hO hg1
  clear hg1
  go_loopg [0, 12] s.length (fun q o i wr => ∃ (k : Nat), k + q = s.length ∧ i = .int .i64 (k : Nat) ∧ OwnU wr base o (l ++ ([34] ++ escL (s.take k))) ∧ Below base w wr)
  case atStart => exact ⟨0, Nat.zero_add _, rfl, hO1, hb1⟩
  case round =>
    clear hO1 hb1 hO
    obtain ⟨k, hk, rfl, hO, hb⟩ := hrel
    have hBr : base ≤ wr.heap.size := Nat.le_trans hB hb.size
    have hol : (l ++ ([34] ++ escL (s.take k))).length ≤ 16777000 := by
      have h1 := escL_length (s.take k)
      have h2 := unhide HL
      have h3 := unhide HS
      rw [List.length_take] at h1
      simp only [List.length_append, List.length_singleton]
      omega
    by_cases hlt : k < s.length
    · have hw : wrap64 ((k : Int) + 1) = (k : Int) + 1 := w64 _ (by omega) (by have := unhide HS; omega)
      have hkl : (k : Int) < s.length := by omega
      have hix := ix_any s k hlt
      have hby : by_ s k = (s.getD k 0).toNat := rfl
      rw [hby] at hix
      have hq := escL_take s k hlt
      generalize hc : s.getD k 0 = c at *
      have hcl := c.toNat_lt
      have HQ : Hid (∀ x, escB c = x → l ++ ([34] ++ escL (s.take (k + 1))) = (l ++ ([34] ++ escL (s.take k))) ++ x) := fun x hx => by rw [hq, hx]; simp
      generalize l ++ ([34] ++ escL (s.take k)) = out at *
      clear hq hc hby
      by_cases c1 : c = 34 ∨ c = 92
      · have HE : Hid (escB c = [92, c]) := by unfold escB; rw [if_pos c1]; rfl
        rcases c1 with rfl | rfl
        · go_wp2_with (at_builtin; refine appU (m := 2) rfl _ _ rfl base u0 out [92, 34] rfl rfl (hO.alloc _) _ rfl (news2 wr 92 34 _ _ rfl rfl) (by omega) (by simp; omega) ?_; intro v2 w2 hO2 hg2)
          go_roundg (gk - 1)
          case measure => omega
          case rel => exact ⟨k + 1, by omega, by first | exact num1 hw | rfl, by rw [unhide HQ _ (unhide HE)]; exact hO2, apB hb hBr hO hg2⟩
        · go_wp2_with (at_builtin; refine appU (m := 2) rfl _ _ rfl base u0 out [92, 92] rfl rfl (hO.alloc _) _ rfl (news2 wr 92 92 _ _ rfl rfl) (by omega) (by simp; omega) ?_; intro v2 w2 hO2 hg2)
          go_roundg (gk - 1)
          case measure => omega
          case rel => exact ⟨k + 1, by omega, by first | exact num1 hw | rfl, by rw [unhide HQ _ (unhide HE)]; exact hO2, apB hb hBr hO hg2⟩
      · have n1 : (((c.toNat : Nat) : Int) == 34) = false := u8_bne (n := 34) (fun h => c1 (Or.inl ((u8_eq (by decide)).2 h)))
        have n2 : (((c.toNat : Nat) : Int) == 92) = false := u8_bne (n := 92) (fun h => c1 (Or.inr ((u8_eq (by decide)).2 h)))
        by_cases c2 : c.toNat < 32
        · have d1 : decide (((c.toNat : Nat) : Int) < 32) = true := decide_eq_true (by omega)
          have i1 := hexi (c.toNat / 16) (by omega) (((c.toNat : Nat) : Int) / 16) (by omega)
          have i2 := hexi (c.toNat % 16) (by omega) (((c.toNat : Nat) : Int) % 16) (by omega)
          have a15 := and15 c.toNat hcl
          have HE : Hid (escB c = [92, 117, 48, 48, hexC (c.toNat / 16), hexC (c.toNat % 16)]) := by unfold escB; rw [if_neg c1, if_pos c2, hexD_eq _ (by omega), hexD_eq _ (by omega)]; rfl
          generalize hexC (c.toNat / 16) = x1 at *
          generalize hexC (c.toNat % 16) = x2 at *
          obtain ⟨i0, hi, iz0, iz1, iz2⟩ := info_parts info5
          have HI := hide hi
          have HI0 := hide iz0
          have HI1 := hide iz1
          have HI2 := hide iz2
          clear hi iz0 iz1 iz2
          go_wp2_with fail
          go_region_law (refine step_append_lies _ rfl _ _ 33 rfl base 5 i0 _ 1 1 Tryd.underlying33 (unhide HI) (unhide HI0) (unhide HI1) (unhide HI2) rfl (by decide) u0 out.length (Lib.byteCells out) rfl (by first | exact (hO.alloc _).drew | exact hO.drew.alloc _) ⟨wr.heap.size, 0, none⟩ 6 6 (Lib.byteCells [92, 117, 48, 48, x1, x2]) rfl rfl (by first | exact World.news_of_block (heap_alloc_new wr _) | exact World.news_of_block (heap_alloc_new wr.drew _)) (fun u hu => by unfold Lib.byteCells at hu; obtain ⟨b, _, rfl⟩ := List.mem_map.1 hu; rfl) (by decide) (by unfold maxLen; omega) (by omega) (by simp; omega) _ rfl ?_; intro g4 c4 w4 ho4 hg4 hat4 hlt4)
          all_goals
            go_wp2_with fail
            go_roundg (gk - 1)
            case measure => omega
            case rel => exact ⟨k + 1, by omega, by first | exact num1 hw | rfl, by rw [unhide HQ _ (unhide HE)]; exact OwnU.of ho4, apBd hb hBr hO hg4⟩
        · have d1 : decide (((c.toNat : Nat) : Int) < 32) = false := decide_eq_false (by omega)
          have HE : Hid (escB c = [c]) := by unfold escB; rw [if_neg c1, if_neg c2]; rfl
          clear hcl c2
          go_wp2_with (at_builtin; refine appU (m := 1) rfl _ _ rfl base u0 out [c] rfl rfl (hO.alloc _) _ rfl (news1 wr c _ rfl) (by omega) (by simp; omega) ?_; intro v2 w2 hO2 hg2)
          go_roundg (gk - 1)
          case measure => omega
          case rel => exact ⟨k + 1, by omega, by first | exact num1 hw | rfl, by rw [unhide HQ _ (unhide HE)]; exact hO2, apB hb hBr hO hg2⟩
    · have hke : k = s.length := by omega
      have HQS : Hid (l ++ quotS s = l ++ ([34] ++ escL (s.take k)) ++ [34]) := by rw [hke, List.take_length]; unfold quotS Hid; simp
      generalize l ++ ([34] ++ escL (s.take k)) = out at *
      clear hke
      go_wp2_with (at_builtin; refine appU (m := 1) rfl _ _ rfl base u0 out [34] rfl rfl (hO.alloc _) _ rfl (news1 wr 34 _ rfl) (by omega) (by simp; omega) ?_; intro v2 w2 hO2 hg2)
      go_ret
      exact ⟨v2, rfl, by rw [unhide HQS]; exact hO2, apB hb hBr hO hg2⟩
end Go.Proofs.YtkmkkmdpjliifaaDoor
