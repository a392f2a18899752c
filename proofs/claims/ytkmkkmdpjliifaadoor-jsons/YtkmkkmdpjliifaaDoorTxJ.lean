import Derived.Test.YtkmkkmdpjliifaaDoorTxC
import Derived.Test.YtkmkkmdpjliifaaDoorTxO
import Derived.Test.YtkmkkmdpjliifaaDoorTxL
import Derived.Deep.AppendSrc
import Derived.Deep.LoopGhost
namespace Go.Proofs.YtkmkkmdpjliifaaDoor
open Go.ChangeShapes Go.WideShapes Go.ChangeAt Go.RowKit

theorem OwnB.form {w : World} {base : Nat} {v : Value} {l : List Nat} (h : OwnB w base v l) : ∃ ao cap, v = .slice ao l.length cap := by
  rcases OwnB.shape h with ⟨h1, h2⟩ | ⟨g, cap, h1, _⟩
  · exact ⟨none, 0, by rw [h1, h2]; rfl⟩
  · exact ⟨_, _, h1⟩
theorem OwnB.alloc {w : World} {base : Nat} {v : Value} {l : List Nat} (h : OwnB w base v l) (o : Obj) : OwnB (w.alloc o) base v l := h.below ((Below.refl _ _).alloc (Nat.le_refl _) o)

/-- append(b, s...), b empty, with room -/
theorem appStr {w : World} {ops : Array Oper} {rest : List Oper} {o : Oper} {a : Act} {Q : Exit → Act → World → Prop} (hgd : o.guard = none) (s x : Operand)
    (ho : o.op = .call { callee := .builtin .append, args := #[s, x], argTypes := #[33, 9] })
    {g cap : Nat} {str : ByteArray} {f : Nat → Value} (hs : a.eval s = .slice (some ⟨g, 0, none⟩) 0 cap) (hx : a.eval x = .string str) (hRow : Row w g 5 cap f) (hroom : str.size ≤ cap) (hcap : cap ≤ maxLen)
    (h : ∀ w', OwnB w' g (.slice (some ⟨g, 0, none⟩) str.size cap) (str.data.toList.map UInt8.toNat) → w.grownBy w' (some g) → wpList Tryd.prog ops Q rest (a.put o.dst (.slice (some ⟨g, 0, none⟩) str.size cap)) w') : wpList Tryd.prog ops Q (o :: rest) a w := by
  obtain ⟨i0, hi, hz0, hz1, hz2⟩ := info_parts info5
  have hsrc : Src Tryd.prog i0.size 9 (.string str) str.size (byteCells str) w := by rw [hz1]; exact Src.ofString w Tryd.underlying9 str
  have hbl := byteCells_length str
  have hrun := run_append_room_src (P := Tryd.prog) w 33 9 o.type 5 i0 Tryd.underlying33 hi g 0 0 cap (.string str) str.size (byteCells str) hsrc (by omega)
    (fun j hj => by rw [Nat.zero_mul, Nat.add_zero, Nat.zero_add, hRow.cell (by omega)]; rfl) (fun j hj => hRow.frozen _)
  rw [Nat.zero_mul, Nat.zero_add] at hrun
  have hfin := Row.setCells (byteCells str) 0 w f hRow
  refine wpList_plain hgd fun K hK' => ?_
  unfold Oper.wp
  simp [execOp, ho, resolve, invoke, builtin, hs, hx, hrun, Result.andThen]
  refine hK' _ _ (h _ ?_ (grown_setCells g _ 0 w))
  have hl : (str.data.toList.map UInt8.toNat).length = str.size := by rw [List.length_map, Array.length_toList]; rfl
  unfold OwnB
  rw [hl]
  refine ⟨by rw [List.length_map, hl, Nat.mul_one], Or.inr ⟨g, cap, _, rfl, Nat.le_refl _, hfin.whole, hroom, hcap, by rw [arrOf_size, Nat.mul_one], ?_⟩⟩
  apply List.ext_getElem?
  intro i
  rw [Nat.mul_one]
  rcases Nat.lt_or_ge i str.size with h1 | h1
  · rw [List.getElem?_take_of_lt h1, Array.getElem?_toList, arrOf_get cap _ i (by omega), if_pos ⟨Nat.zero_le _, by omega⟩, Nat.sub_zero]
    have h2 : i < str.data.toList.length := by rw [Array.length_toList]; exact h1
    unfold byteCells
    rw [List.getD_eq_getElem?_getD, List.getElem?_map, List.getElem?_map, List.getElem?_map, List.getElem?_eq_getElem h2]; rfl
  · rw [List.getElem?_eq_none (by simp; omega), List.getElem?_eq_none (by simp; exact h1)]

/-- the text, a byte 80 and k noughts, as numbers -/
def padN (l : List UInt8) (k : Nat) : List Nat := l.map UInt8.toNat ++ 128 :: List.replicate k 0
theorem padN_length (l : List UInt8) (k : Nat) : (padN l k).length = l.length + 1 + k := by simp [padN]; omega
theorem padN_zero (l : List UInt8) : l.map UInt8.toNat ++ [128] = padN l 0 := by simp [padN]
theorem padN_succ (l : List UInt8) (k : Nat) : padN l k ++ [0] = padN l (k + 1) := by simp [padN, List.replicate_succ']
def padM (l : List UInt8) (m : Nat) : List Nat := padN l (zs l.length) ++ (List.range m).map (len8 l.length)
theorem padM_length (l : List UInt8) (m : Nat) : (padM l m).length = l.length + 1 + zs l.length + m := by simp [padM, padN_length]
theorem padM_succ (l : List UInt8) (m : Nat) : padM l m ++ [len8 l.length m] = padM l (m + 1) := by simp [padM, List.range_succ]
theorem padM_padL (l : List UInt8) : (padL l).map UInt8.toNat = padM l 8 := by
  unfold padL padM padN bs
  simp only [List.map_append, List.map_cons, List.map_replicate, List.map_map]
  congr 1
  apply List.map_congr_left
  intro j _
  show (UInt8.ofNat (len8 l.length j)).toNat = _
  rw [UInt8.toNat_ofNat']
  exact Nat.mod_eq_of_lt (Nat.mod_lt _ (by decide))

set_option maxHeartbeats 400000 in
theorem pad_any (s : ByteArray) (w : World) (hs : s.size ≤ 4194304) :
    Calls Tryd.prog 80 #[.string s] w fun e w' => ∃ v, e = .returned v ∧ OwnB w' w.heap.size v (padM s.data.toList 8) ∧ Below w.heap.size w w' := by
  have hmk : ∀ u : World, (Instr.makeSlice 33 (.int .i64 0) (.int .i64 ((s.size : Int) + 128))).run Tryd.prog u = .ok (.slice (some ⟨u.heap.size, 0, none⟩) 0 (s.size + 128)) (u.alloc (.cells (zc .u8 (s.size + 128)) 5)) := fun u => by
    rw [make8 _ _ (by omega) (by omega) (by omega), show ((s.size : Int) + 128).toNat = s.size + 128 by omega]; rfl
  have hsz : s.data.toList.length = s.size := by rw [Array.length_toList]; rfl
  have HS : Hid (s.size ≤ 4194304 ∧ s.data.toList.length = s.size) := ⟨hs, hsz⟩
  clear hsz
  go_enter Tryd.func80, Tryd.ntmps80
  go_wp2_with (first | (at_builtin; refine appStr rfl _ _ rfl rfl rfl (Row.zc w .u8 (s.size + 128) 5) (by omega) (by have := HS.out; unfold maxLen; omega) ?_; intro w1 hO1 hg1) | (at_builtin; refine app33 rfl _ _ rfl w.heap.size _ _ 128 rfl (hO1.alloc _) _ rfl (by simp) (by rw [List.length_map]; have := HS.out; omega) (by have := hg1.size; simp at this; simp; omega) ?_; intro v2 w2 hO2 hg2))
  rw [padN_zero] at hO2
  have hs1 := hg1.size
  have hs2 := hg2.size
  simp at hs1 hs2
  have hB2 : Below w.heap.size w w2 := ((((Below.refl w.heap.size w).alloc (Nat.le_refl _) _).grown hg1 (by simp) (fun k hk => by cases hk; exact Nat.le_refl _)).alloc (by omega) _).grown hg2 (by simp; omega) (fun k hk => by cases hk; exact Nat.le_refl _)
  clear hg1 hg2 hO1
  obtain ⟨ao, cap, rfl⟩ := hO2.form
  have hl := HS.out.2
  go_loopg [3] (zs s.size) (fun q v wr => ∃ (k : Nat) (ao : Option Addr) (cap : Nat), k + q = zs s.size ∧ v = .slice ao (s.size + 1 + k) cap ∧ OwnB wr w.heap.size (.slice ao (s.size + 1 + k) cap) (padN s.data.toList k) ∧ w.heap.size ≤ wr.heap.size ∧ Below w.heap.size w wr)
  case atStart =>
    have e : (padN s.data.toList 0).length = s.size + 1 + 0 := by rw [padN_length, HS.out.2]
    exact ⟨0, ao, cap, by omega, by rw [← e], by rw [← e]; exact hO2, hB2.size, hB2⟩
  case round =>
    clear hO2 hB2
    obtain ⟨k, ao, cap, hk, rfl, hO, hsz, hB⟩ := hrel
    have hz : zs s.size < 64 := by unfold zs; omega
    by_cases hlt : k = zs s.size
    · have hm : (((s.size : Int) + 1 + k) % 64 != 56) = false := by
        have := (zs_dec s.size k (by omega)).2 hlt
        simp only [bne_eq_false_iff_eq]; omega
      have hO' : OwnB wr w.heap.size (.slice ao (s.size + 1 + k) cap) (padM s.data.toList 0) := by
        have e : padM s.data.toList 0 = padN s.data.toList k := by unfold padM; rw [HS.out.2, ← hlt]; simp
        rw [e]; exact hO
      have HK := hide hlt
      clear hO hlt
      go_wp2
      go_loopg [3, 5] 8 (fun q v i wq => ∃ (m : Nat) (ao : Option Addr) (cap : Nat), m + q = 8 ∧ i = .int .i64 (56 - 8 * (m : Int)) ∧ v = .slice ao (s.size + 1 + k + m) cap ∧ OwnB wq w.heap.size (.slice ao (s.size + 1 + k + m) cap) (padM s.data.toList m) ∧ w.heap.size ≤ wq.heap.size ∧ Below w.heap.size w wq)
      case atStart => exact ⟨0, ao, cap, rfl, rfl, rfl, hO', hsz, hB⟩
      case round =>
        clear hO' hsz hB
        obtain ⟨m, ao, cap, hmq, rfl, rfl, hO, hsz, hB⟩ := hrel
        by_cases hlt : m < 8
        · have hval : (s.size : Int) * 8 / 2 ^ (56 - 8 * m) % 256 = ((len8 s.data.toList.length m : Nat) : Int) := by
            unfold len8
            rw [hl, show (2:Int) ^ (56 - 8 * m) = ((256 ^ (7 - m) : Nat) : Int) by rw [Int.natCast_pow, show 56 - 8 * m = 8 * (7 - m) by omega, Int.pow_mul]; rfl, show ((s.size : Int) * 8) = ((8 * s.size : Nat) : Int) by omega]
            omega
          have HV := hide hval
          clear hval
          go_wp2_with (at_builtin; refine app33 rfl _ _ rfl w.heap.size _ _ (len8 s.data.toList.length m) rfl (hO.alloc _) _ rfl (by have h := unhide HV; rw [← h]; simp) (by rw [padM_length, HS.out.2]; have := HS.out; have := unhide HK; omega) (by simp; omega) ?_; intro v2 w3 hO2 hg2)
          go_roundg (gk - 1)
          case measure => omega
          case rel =>
            rw [padM_succ] at hO2
            obtain ⟨ao', cap', rfl⟩ := hO2.form
            have e : (padM s.data.toList (m + 1)).length = s.size + 1 + k + (m + 1) := by rw [padM_length, HS.out.2, unhide HK]
            have hs2 := hg2.size
            simp at hs2
            refine ⟨m + 1, ao', cap', by omega, by go_num, by rw [← e], by rw [← e]; exact hO2, by omega, ?_⟩
            exact below_grown (hB.alloc hsz _) hg2 (by simp; omega) (fun k hk => by have := OwnB.lt hO k hk; simp; omega) (Nat.le_refl _)
        · obtain rfl : m = 8 := by omega
          go_wp2
          go_ret
          exact ⟨_, rfl, hO, hB⟩
    · have hm : (((s.size : Int) + 1 + k) % 64 != 56) = true := by
        have := mt (zs_dec s.size k (by omega)).1 hlt
        rw [bne_iff_ne]; omega
      go_wp2_with (at_builtin; refine app33 rfl _ _ rfl w.heap.size _ _ 0 rfl (hO.alloc _) _ rfl (by simp) (by rw [padN_length]; have := HS.out; omega) (by simp; omega) ?_; intro v2 w2 hO2 hg2)
      go_roundg (gk - 1)
      case measure => omega
      case rel =>
        rw [padN_succ] at hO2
        obtain ⟨ao', cap', rfl⟩ := hO2.form
        have e : (padN s.data.toList (k + 1)).length = s.size + 1 + (k + 1) := by rw [padN_length, HS.out.2]
        have hs2 := hg2.size
        simp at hs2
        refine ⟨k + 1, ao', cap', by omega, by rw [← e], by rw [← e]; exact hO2, by omega, ?_⟩
        exact below_grown (hB.alloc hsz _) hg2 (by simp; omega) (fun k hk => by have := OwnB.lt hO k hk; simp; omega) (Nat.le_refl _)
end Go.Proofs.YtkmkkmdpjliifaaDoor
