import Derived.Test.YtkmkkmdpjliifaaGreatDoorTxM
import Derived.Deep.AppendSrc
import Derived.Deep.LoopGhost
import Derived.Laws.CopyRow
import Derived.Lib.ValidU
namespace Go.Proofs.YtkmkkmdpjliifaaGreatDoor
open Go.ChangeShapes Go.WideShapes Go.ChangeAt Go.RowKit

theorem OwnB.form {w : World} {base : Nat} {v : Value} {l : List Nat} (h : OwnB w base v l) : ∃ ao cap, v = .slice ao l.length cap := by
  rcases OwnB.shape h with ⟨h1, h2⟩ | ⟨g, cap, h1, _⟩
  · exact ⟨none, 0, by rw [h1, h2]; rfl⟩
  · exact ⟨_, _, h1⟩
theorem OwnB.alloc {w : World} {base : Nat} {v : Value} {l : List Nat} (h : OwnB w base v l) (o : Obj) : OwnB (w.alloc o) base v l := h.below ((Below.refl _ _).alloc (Nat.le_refl _) o)

/-- append(b, s...), b empty, with room -/
theorem appStr {w : World} {ops : Array Oper} {rest : List Oper} {o : Oper} {a : Act} {Q : Exit → Act → World → Prop} (hgd : o.guard = none) (s x : Operand)
    (ho : o.op = .call { callee := .builtin .append, args := #[s, x], argTypes := #[110, 9] })
    {g cap : Nat} {str : ByteArray} {f : Nat → Value} (hs : a.eval s = .slice (some ⟨g, 0, none⟩) 0 cap) (hx : a.eval x = .string str) (hRow : Row w g 5 cap f) (hroom : str.size ≤ cap) (hcap : cap ≤ maxLen)
    (h : ∀ w', OwnB w' g (.slice (some ⟨g, 0, none⟩) str.size cap) (str.data.toList.map UInt8.toNat) → w.grownBy w' (some g) → wpList Tryz.prog ops Q rest (a.put o.dst (.slice (some ⟨g, 0, none⟩) str.size cap)) w') : wpList Tryz.prog ops Q (o :: rest) a w := by
  obtain ⟨i0, hi, hz0, hz1, hz2⟩ := info_parts info5
  have hsrc : Src Tryz.prog i0.size 9 (.string str) str.size (byteCells str) w := by rw [hz1]; exact Src.ofString w Tryz.underlying9 str
  have hbl := byteCells_length str
  have hrun := run_append_room_src (P := Tryz.prog) w 110 9 o.type 5 i0 Tryz.underlying110 hi g 0 0 cap (.string str) str.size (byteCells str) hsrc (by omega)
    (fun j hj => by rw [Nat.zero_mul, Nat.add_zero, Nat.zero_add, hRow.cell (by omega)]; rfl) (fun j hj => hRow.frozen _)
  rw [Nat.zero_mul, Nat.zero_add] at hrun
  have hfin := Row.setCells (byteCells str) 0 w f hRow
  refine wpList_plain hgd fun K hK' => ?_
  unfold Oper.wp
  simp [execOp, ho, resolve, invoke, builtin, hs, hx, hrun, Result.andThen]
  refine hK' _ _ (h _ ?_ (grown_setCells g _ 0 w))
  have hl : (str.data.toList.map UInt8.toNat).length = str.size := by rw [List.length_map, Array.length_toList]; rfl
  unfold OwnB
  rw [hl]
  refine ⟨by rw [List.length_map, hl, Nat.mul_one], Or.inr ⟨g, cap, _, rfl, Nat.le_refl _, hfin.whole, hroom, hcap, by rw [arrOf_size, Nat.mul_one], ?_⟩⟩
  apply List.ext_getElem?
  intro i
  rw [Nat.mul_one]
  rcases Nat.lt_or_ge i str.size with h1 | h1
  · rw [List.getElem?_take_of_lt h1, Array.getElem?_toList, arrOf_get cap _ i (by omega), if_pos ⟨Nat.zero_le _, by omega⟩, Nat.sub_zero]
    have h2 : i < str.data.toList.length := by rw [Array.length_toList]; exact h1
    unfold byteCells
    rw [List.getD_eq_getElem?_getD, List.getElem?_map, List.getElem?_map, List.getElem?_map, List.getElem?_eq_getElem h2]; rfl
  · rw [List.getElem?_eq_none (by simp; omega), List.getElem?_eq_none (by simp; exact h1)]

/-- the text, a byte 80 and k noughts, as numbers -/
def padN (l : List UInt8) (k : Nat) : List Nat := l.map UInt8.toNat ++ 128 :: List.replicate k 0
theorem padN_length (l : List UInt8) (k : Nat) : (padN l k).length = l.length + 1 + k := by simp [padN]; omega
theorem padN_zero (l : List UInt8) : l.map UInt8.toNat ++ [128] = padN l 0 := by simp [padN]
theorem padN_succ (l : List UInt8) (k : Nat) : padN l k ++ [0] = padN l (k + 1) := by simp [padN, List.replicate_succ']
def padM (l : List UInt8) (m : Nat) : List Nat := padN l (zs l.length) ++ (List.range m).map (len8 l.length)
theorem padM_length (l : List UInt8) (m : Nat) : (padM l m).length = l.length + 1 + zs l.length + m := by simp [padM, padN_length]
theorem padM_succ (l : List UInt8) (m : Nat) : padM l m ++ [len8 l.length m] = padM l (m + 1) := by simp [padM, List.range_succ]
theorem padM_padL (l : List UInt8) : (padL l).map UInt8.toNat = padM l 8 := by
  unfold padL padM padN bs
  simp only [List.map_append, List.map_cons, List.map_replicate, List.map_map]
  congr 1
  apply List.map_congr_left
  intro j _
  show (UInt8.ofNat (len8 l.length j)).toNat = _
  rw [UInt8.toNat_ofNat']
  exact Nat.mod_eq_of_lt (Nat.mod_lt _ (by decide))

set_option maxHeartbeats 400000 in
theorem pad_any (s : ByteArray) (w : World) (hs : s.size ≤ 4194304) :
    Calls Tryz.prog 166 #[.string s] w fun e w' => ∃ v, e = .returned v ∧ OwnB w' w.heap.size v (padM s.data.toList 8) ∧ Below w.heap.size w w' := by
  have hmk : ∀ u : World, (Instr.makeSlice 110 (.int .i64 0) (.int .i64 ((s.size : Int) + 128))).run Tryz.prog u = .ok (.slice (some ⟨u.heap.size, 0, none⟩) 0 (s.size + 128)) (u.alloc (.cells (zc .u8 (s.size + 128)) 5)) := fun u => by
    rw [make8 _ _ (by omega) (by omega) (by omega), show ((s.size : Int) + 128).toNat = s.size + 128 by omega]; rfl
  have hsz : s.data.toList.length = s.size := by rw [Array.length_toList]; rfl
  have HS : Hid (s.size ≤ 4194304 ∧ s.data.toList.length = s.size) := ⟨hs, hsz⟩
  clear hsz
  go_enter Tryz.func166, Tryz.ntmps166
  go_wp2_with (first | (at_builtin; refine appStr rfl _ _ rfl rfl rfl (Row.zc w .u8 (s.size + 128) 5) (by omega) (by have := HS.out; unfold maxLen; omega) ?_; intro w1 hO1 hg1) | (at_builtin; refine app110 rfl _ _ rfl w.heap.size _ _ 128 rfl (hO1.alloc _) _ rfl (by simp) (by rw [List.length_map]; have := HS.out; omega) (by have := hg1.size; simp at this; simp; omega) ?_; intro v2 w2 hO2 hg2))
  rw [padN_zero] at hO2
  have hs1 := hg1.size
  have hs2 := hg2.size
  simp at hs1 hs2
  have hB2 : Below w.heap.size w w2 := ((((Below.refl w.heap.size w).alloc (Nat.le_refl _) _).grown hg1 (by simp) (fun k hk => by cases hk; exact Nat.le_refl _)).alloc (by omega) _).grown hg2 (by simp; omega) (fun k hk => by cases hk; exact Nat.le_refl _)
  clear hg1 hg2 hO1
  obtain ⟨ao, cap, rfl⟩ := hO2.form
  have hl := HS.out.2
  go_loopg [3] (zs s.size) (fun q v wr => ∃ (k : Nat) (ao : Option Addr) (cap : Nat), k + q = zs s.size ∧ v = .slice ao (s.size + 1 + k) cap ∧ OwnB wr w.heap.size (.slice ao (s.size + 1 + k) cap) (padN s.data.toList k) ∧ w.heap.size ≤ wr.heap.size ∧ Below w.heap.size w wr)
  case atStart =>
    have e : (padN s.data.toList 0).length = s.size + 1 + 0 := by rw [padN_length, HS.out.2]
    exact ⟨0, ao, cap, by omega, by rw [← e], by rw [← e]; exact hO2, hB2.size, hB2⟩
  case round =>
    clear hO2 hB2
    obtain ⟨k, ao, cap, hk, rfl, hO, hsz, hB⟩ := hrel
    have hz : zs s.size < 64 := by unfold zs; omega
    by_cases hlt : k = zs s.size
    · have hm : (((s.size : Int) + 1 + k) % 64 != 56) = false := by
        have := (zs_dec s.size k (by omega)).2 hlt
        simp only [bne_eq_false_iff_eq]; omega
      have hO' : OwnB wr w.heap.size (.slice ao (s.size + 1 + k) cap) (padM s.data.toList 0) := by
        have e : padM s.data.toList 0 = padN s.data.toList k := by unfold padM; rw [HS.out.2, ← hlt]; simp
        rw [e]; exact hO
      have HK := hide hlt
      clear hO hlt
      go_wp2
      go_loopg [3, 5] 8 (fun q v i wq => ∃ (m : Nat) (ao : Option Addr) (cap : Nat), m + q = 8 ∧ i = .int .i64 (56 - 8 * (m : Int)) ∧ v = .slice ao (s.size + 1 + k + m) cap ∧ OwnB wq w.heap.size (.slice ao (s.size + 1 + k + m) cap) (padM s.data.toList m) ∧ w.heap.size ≤ wq.heap.size ∧ Below w.heap.size w wq)
      case atStart => exact ⟨0, ao, cap, rfl, rfl, rfl, hO', hsz, hB⟩
      case round =>
        clear hO' hsz hB
        obtain ⟨m, ao, cap, hmq, rfl, rfl, hO, hsz, hB⟩ := hrel
        by_cases hlt : m < 8
        · have hval : (s.size : Int) * 8 / 2 ^ (56 - 8 * m) % 256 = ((len8 s.data.toList.length m : Nat) : Int) := by
            unfold len8
            rw [hl, show (2:Int) ^ (56 - 8 * m) = ((256 ^ (7 - m) : Nat) : Int) by rw [Int.natCast_pow, show 56 - 8 * m = 8 * (7 - m) by omega, Int.pow_mul]; rfl, show ((s.size : Int) * 8) = ((8 * s.size : Nat) : Int) by omega]
            omega
          have HV := hide hval
          clear hval
          go_wp2_with (at_builtin; refine app110 rfl _ _ rfl w.heap.size _ _ (len8 s.data.toList.length m) rfl (hO.alloc _) _ rfl (by have h := unhide HV; rw [← h]; simp) (by rw [padM_length, HS.out.2]; have := HS.out; have := unhide HK; omega) (by simp; omega) ?_; intro v2 w3 hO2 hg2)
          go_roundg (gk - 1)
          case measure => omega
          case rel =>
            rw [padM_succ] at hO2
            obtain ⟨ao', cap', rfl⟩ := hO2.form
            have e : (padM s.data.toList (m + 1)).length = s.size + 1 + k + (m + 1) := by rw [padM_length, HS.out.2, unhide HK]
            have hs2 := hg2.size
            simp at hs2
            refine ⟨m + 1, ao', cap', by omega, by go_num, by rw [← e], by rw [← e]; exact hO2, by omega, ?_⟩
            exact below_grown (hB.alloc hsz _) hg2 (by simp; omega) (fun k hk => by have := OwnB.lt hO k hk; simp; omega) (Nat.le_refl _)
        · obtain rfl : m = 8 := by omega
          go_wp2
          go_ret
          exact ⟨_, rfl, hO, hB⟩
    · have hm : (((s.size : Int) + 1 + k) % 64 != 56) = true := by
        have := mt (zs_dec s.size k (by omega)).1 hlt
        rw [bne_iff_ne]; omega
      go_wp2_with (at_builtin; refine app110 rfl _ _ rfl w.heap.size _ _ 0 rfl (hO.alloc _) _ rfl (by simp) (by rw [padN_length]; have := HS.out; omega) (by simp; omega) ?_; intro v2 w2 hO2 hg2)
      go_roundg (gk - 1)
      case measure => omega
      case rel =>
        rw [padN_succ] at hO2
        obtain ⟨ao', cap', rfl⟩ := hO2.form
        have e : (padN s.data.toList (k + 1)).length = s.size + 1 + (k + 1) := by rw [padN_length, HS.out.2]
        have hs2 := hg2.size
        simp at hs2
        refine ⟨k + 1, ao', cap', by omega, by rw [← e], by rw [← e]; exact hO2, by omega, ?_⟩
        exact below_grown (hB.alloc hsz _) hg2 (by simp; omega) (fun k hk => by have := OwnB.lt hO k hk; simp; omega) (Nat.le_refl _)
end Go.Proofs.YtkmkkmdpjliifaaGreatDoor
namespace Go.Proofs.YtkmkkmdpjliifaaGreatDoor
open Go.ChangeShapes Go.WideShapes Go.ChangeAt Go.RowKit

/-- a string's value -/
def sv (l : List UInt8) : Value := .string ⟨l.toArray⟩
theorem sv_def (l : List UInt8) : sv l = .string ⟨l.toArray⟩ := rfl
/-- A slice of strings, to be read; all that it leads to lies below block B. -/
def Ls (w : World) (B : Nat) (v : Value) (l : List (List UInt8)) : Prop :=
  ∃ a c, v = .slice a l.length c ∧ l.length ≤ c ∧ (0 < l.length → ∃ g o, a = some ⟨g, o, none⟩ ∧ g < B ∧ ∀ j, j < l.length → w.cell? ⟨g, o + j, none⟩ = some (sv (l.getD j [])))
theorem Ls.below {w w' : World} {B : Nat} {v : Value} {l : List (List UInt8)} (h : Ls w B v l) (hb : Below B w w') : Ls w' B v l := by
  obtain ⟨a, c, rfl, hle, h⟩ := h
  refine ⟨a, c, rfl, hle, fun hp => ?_⟩
  obtain ⟨g, o, rfl, hg, h⟩ := h hp
  exact ⟨g, o, rfl, hg, fun j hj => (hb.cell (p := ⟨g, o + j, none⟩) hg).trans (h j hj)⟩
theorem Ls.up {w : World} {B B' : Nat} {v : Value} {l : List (List UInt8)} (h : Ls w B v l) (hb : B ≤ B') : Ls w B' v l := by
  obtain ⟨a, c, rfl, hle, h⟩ := h
  refine ⟨a, c, rfl, hle, fun hp => ?_⟩
  obtain ⟨g, o, rfl, hg, h⟩ := h hp
  exact ⟨g, o, rfl, by omega, h⟩
theorem info9 : (Tryz.prog.info? 9).map (fun i => (i.zero, i.size, i.bytes)) = some (some (.string ⟨#[]⟩), 1, 16) := by kernel_rfl
theorem setCells_size (g : Nat) : ∀ (vs : List Value) (o : Nat) (w : World), (w.setCells g o vs).heap.size = w.heap.size
  | [], _, _ => rfl
  | v :: vs, o, w => (setCells_size g vs (o + 1) (w.setCell ⟨g, o, none⟩ v)).trans (by simp [World.setCell])
theorem copyLaw {w : World} {ops : Array Oper} {rest : List Oper} {o : Oper} {a : Act} {Q : Exit → Act → World → Prop} (hgd : o.guard = none) (d s : Operand) {dT sT : TypeId}
    (ho : o.op = .call { callee := .builtin .copy, args := #[d, s], argTypes := #[dT, sT] }) {vd vs : Value} {n : Nat} {w' : World} (hd : a.eval d = vd) (hs : a.eval s = vs)
    (hrun : (Builtin.copy_ #[dT, sT] o.type #[vd, vs]).run Tryz.prog w = .ok (goInt n) w')
    (h : wpList Tryz.prog ops Q rest (a.put o.dst (goInt n)) w') : wpList Tryz.prog ops Q (o :: rest) a w := by
  refine wpList_plain hgd fun K hK' => ?_
  unfold Oper.wp
  simp [execOp, ho, resolve, invoke, builtin, hd, hs, hrun, Result.andThen]
  exact hK' _ _ h

end Go.Proofs.YtkmkkmdpjliifaaGreatDoor
namespace Go.Proofs.YtkmkkmdpjliifaaGreatDoor
open Go.ChangeShapes Go.WideShapes Go.ChangeAt Go.RowKit

/-- Block g alone may have turned. -/
structure But (g : Nat) (w w' : World) : Prop where
  os : w'.os = w.os
  tape : w'.tape = w.tape
  output : w'.output = w.output
  size : w'.heap.size = w.heap.size
  block : ∀ k, k ≠ g → w'.heap[k]? = w.heap[k]?
theorem But.refl (g : Nat) (w : World) : But g w w := ⟨rfl, rfl, rfl, rfl, fun _ _ => rfl⟩
theorem But.trans {g : Nat} {a b c : World} (h : But g a b) (k : But g b c) : But g a c := ⟨k.os.trans h.os, k.tape.trans h.tape, k.output.trans h.output, k.size.trans h.size, fun i hi => (k.block i hi).trans (h.block i hi)⟩
theorem But.drewN {g : Nat} {a w : World} (h : But g a w) (n : Nat) : But g a (w.drewN n) := ⟨h.os, h.tape, h.output, h.size, h.block⟩
theorem But.drew {g : Nat} {a w : World} (h : But g a w) : But g a w.drew := ⟨h.os, h.tape, h.output, h.size, h.block⟩
theorem But.setCell {g : Nat} {a w : World} (h : But g a w) (o : Nat) (v : Value) : But g a (w.setCell ⟨g, o, none⟩ v) :=
  h.trans ⟨rfl, rfl, rfl, by simp [World.setCell], fun k hk => Below.heap_setCell _ _ _ _ hk⟩
theorem But.below {g B : Nat} {w w' : World} (h : But g w w') (hB : B ≤ g) : Below B w w' := ⟨h.os, h.tape, h.output, by rw [h.size]; exact Nat.le_refl _, fun k hk => h.block k (by omega)⟩
theorem Row.but {w w' : World} {g g' n : Nat} {t : TypeId} {f : Nat → Value} (h : Row w g t n f) (hb : But g' w w') (hne : g ≠ g') : Row w' g t n f := by
  obtain ⟨cs, h1, h2, h3⟩ := h
  exact ⟨cs, by rw [hb.block g hne]; exact h1, h2, h3⟩

end Go.Proofs.YtkmkkmdpjliifaaGreatDoor
namespace Go.Proofs.YtkmkkmdpjliifaaGreatDoor
open Go.ChangeShapes Go.WideShapes Go.ChangeAt Go.RowKit

/-- which of n things a raw number speaks of -/
def pickZ (c : Int) (n : Int) : Int := if c < 0 then -((c + 1).tmod n) else c % n
theorem pickZ_range (c n : Int) (hn : 0 < n) : 0 ≤ pickZ c n ∧ pickZ c n < n := by
  unfold pickZ
  split
  · rename_i h
    have e : (c + 1).tmod n = -((-(c + 1)) % n) := by
      rw [show c + 1 = -(-(c + 1)) by omega, Int.neg_tmod, Int.tmod_eq_emod_of_nonneg (by omega)]
      simp
    have h1 := Int.emod_nonneg (-(c + 1)) (show n ≠ 0 by omega)
    have h2 := Int.emod_lt_of_pos (-(c + 1)) hn
    omega
  · exact ⟨Int.emod_nonneg _ (by omega), Int.emod_lt_of_pos _ hn⟩

/-- what follows of a code point behind its first byte -/
def ptN (l : List UInt8) (p0 : Nat) : Nat → Nat
  | 0 => p0
  | k + 1 => ptN l p0 k * 64 + by_ l (k + 1) % 64
def goodN (l : List UInt8) : Nat → Bool
  | 0 => true
  | k + 1 => goodN l k && decide (by_ l (k + 1) / 64 = 2)
def tailN (l : List UInt8) (n low p : Nat) : Nat :=
  if l.length < n then 0 else if goodN l (n - 1) = false then 0 else
  if ptN l p (n - 1) < low ∨ 1114111 < ptN l p (n - 1) ∨ (55296 ≤ ptN l p (n - 1) ∧ ptN l p (n - 1) < 57344) then 0 else n
def fN (l : List UInt8) : Nat :=
  if by_ l 0 < 128 then 1 else if 192 ≤ by_ l 0 ∧ by_ l 0 < 224 then tailN l 2 128 (by_ l 0 % 32)
  else if 224 ≤ by_ l 0 ∧ by_ l 0 < 240 then tailN l 3 2048 (by_ l 0 % 16)
  else if 240 ≤ by_ l 0 ∧ by_ l 0 < 248 then tailN l 4 65536 (by_ l 0 % 8) else 0

theorem ix_any (l : List UInt8) (p : Nat) (h : p < l.length) (u : World) : (Instr.index 9 (.string ⟨l.toArray⟩) (.int .i64 (p : Int))).run Tryz.prog u = .ok (.int .u8 (by_ l p)) u := by
  have h3 : p < (ByteArray.mk l.toArray).size := by simpa [ByteArray.size] using h
  have h2 := by_get ⟨l.toArray⟩ p h3
  have h4 : (ByteArray.mk l.toArray)[p]? = some ((ByteArray.mk l.toArray)[p]'h3) := ByteArray.getElem?_lt' _ p h3
  unfold Instr.index
  simp only [asIntOf, Sem.run_bind, Sem.run_pure, run_underlying Tryz.underlying9, Result.andThen_ok]
  rw [if_pos (by omega), Int.toNat_natCast, h4]
  simp [h2]

end Go.Proofs.YtkmkkmdpjliifaaGreatDoor
namespace Go.Proofs.YtkmkkmdpjliifaaGreatDoor
open Go.ChangeShapes Go.WideShapes Go.ChangeAt Go.RowKit

theorem tailN_le (l : List UInt8) (n low p : Nat) : tailN l n low p ≤ l.length := by
  unfold tailN
  repeat' split
  all_goals omega
theorem fN_le (l : List UInt8) (h : 0 < l.length) : fN l ≤ l.length := by
  unfold fN
  repeat' split
  all_goals first | omega | exact tailN_le _ _ _ _
/-- is a text UTF-8? (as often as fuel is there) -/
def vG : Nat → List UInt8 → Bool
  | 0, l => l.isEmpty
  | f + 1, l => if l.isEmpty then true else if fN l = 0 then false else vG f (l.drop (fN l))
def vN (l : List UInt8) : Bool := vG l.length l
theorem vG_more : ∀ (f : Nat) (l : List UInt8), l.length ≤ f → vG f l = vN l := by
  intro f
  induction f using Nat.strongRecOn with
  | ind f ih =>
    intro l hl
    cases f with
    | zero =>
      have : l = [] := List.length_eq_zero_iff.1 (by omega)
      subst this; rfl
    | succ f =>
      unfold vN
      cases hL : l.length with
      | zero =>
        have : l = [] := List.length_eq_zero_iff.1 hL
        subst this; rfl
      | succ m =>
        rw [vG, vG]
        have he : l.isEmpty = false := by cases l; simp at hL; rfl
        rw [he]
        by_cases hf : fN l = 0
        · rw [if_pos hf, if_pos hf]
        · rw [if_neg hf, if_neg hf]
          have hd : (l.drop (fN l)).length ≤ f := by rw [List.length_drop]; omega
          have hd2 : (l.drop (fN l)).length ≤ m := by rw [List.length_drop]; omega
          rw [ih f (by omega) _ hd]
          by_cases hm : m < f + 1
          · rw [ih m hm _ hd2]
          · have : m = f := by omega
            omega
theorem vN_step (l : List UInt8) (h : 0 < l.length) : vN l = if fN l = 0 then false else vN (l.drop (fN l)) := by
  have he : l.isEmpty = false := by cases l; simp at h; rfl
  obtain ⟨m, hm⟩ : ∃ m, l.length = m + 1 := ⟨l.length - 1, by omega⟩
  rw [show vN l = vG (m + 1) l by unfold vN; rw [hm], vG, he]
  by_cases hf : fN l = 0
  · rw [if_pos hf]; simp [hf]
  · rw [if_neg hf, if_neg hf, vG_more m _ (by rw [List.length_drop]; omega)]; rfl

theorem drop_any (l : List UInt8) (n : Nat) (h : n ≤ l.length) (u : World) : (Instr.slice 9 (.string ⟨l.toArray⟩) (some (.int .i64 (n : Int))) none none).run Tryz.prog u = .ok (.string ⟨(l.drop n).toArray⟩) u := by
  have h3 : (ByteArray.mk l.toArray).size = l.length := by simp [ByteArray.size]
  rw [run_slice_string_from_if (w := u) 9 _ .i64 _ Tryz.underlying9, if_pos (by omega), ByteArray.extract_mk]
  rw [h3, Int.toNat_natCast, List.take_of_length_le (by rw [List.length_drop]; omega)]

/-- is a text a name? -/
def nameN (l : List UInt8) : Bool := vN l && decide (1 ≤ l.length) && decide (l.length ≤ 16)
theorem get_by (l : List UInt8) (k : Nat) : ((ByteArray.mk l.toArray).get! k).toNat = by_ l k := by
  unfold by_
  simp [ByteArray.get!, List.getD]
  rfl
/-- the size that the decoder tells, 0 where it tells none -/
def dsz (d : Nat × Nat) : Nat := if d.1 = 65533 ∧ d.2 = 1 then 0 else d.2
set_option maxRecDepth 100000 in
set_option maxHeartbeats 4000000 in
theorem dsz_eq (l : List UInt8) (h : 0 < l.length) : fN l = dsz (Lib.decodeN l.length (by_ l 0) (by_ l 1) (by_ l 2) (by_ l 3)) := by
  have h0 := by_lt l 0
  have h1 := by_lt l 1
  have h2 := by_lt l 2
  have h3 := by_lt l 3
  unfold fN tailN
  simp only [goodN, ptN, Bool.true_and, Bool.and_eq_false_iff, decide_eq_false_iff_not, show 2 - 1 = 1 from rfl, show 3 - 1 = 2 from rfl, show 4 - 1 = 3 from rfl, Nat.zero_add]
  generalize by_ l 0 = b0 at *
  generalize by_ l 1 = b1 at *
  generalize by_ l 2 = b2 at *
  generalize by_ l 3 = b3 at *
  generalize l.length = n at *
  unfold dsz Lib.decodeN
  by_cases c1 : b0 < 128
  · simp only [if_pos c1]; rw [if_neg (by omega)]
  simp only [if_neg c1]
  by_cases c2 : 192 ≤ b0 ∧ b0 < 224
  · rw [if_pos c2]
    repeat' split
    all_goals omega
  rw [if_neg c2]
  by_cases c3 : 224 ≤ b0 ∧ b0 < 240
  · rw [if_pos c3]
    repeat' split
    all_goals omega
  rw [if_neg c3]
  by_cases c4 : 240 ≤ b0 ∧ b0 < 248
  · rw [if_pos c4]
    repeat' split
    all_goals omega
  rw [if_neg c4]
  repeat' split
  all_goals omega
theorem fN_decode (l : List UInt8) (h : 0 < l.length) : fN l = if (Lib.decodeL l).1 = 65533 ∧ (Lib.decodeL l).2 = 1 then 0 else (Lib.decodeL l).2 := by
  rw [dsz_eq l h]
  unfold Lib.decodeL
  rw [Lib.decode_at, get_by, get_by, get_by, get_by, show (ByteArray.mk l.toArray).size - 0 = l.length by simp [ByteArray.size]]
  rfl
theorem vG_valid : ∀ (f : Nat) (l : List UInt8), l.length ≤ f → vG f l = Lib.validGoD f l
  | 0, l, h => by
    have : l = [] := List.length_eq_zero_iff.1 (by omega)
    subst this; rfl
  | f + 1, l, h => by
    rw [vG, Lib.validGoD]
    by_cases he : l = []
    · subst he; rfl
    · have h0 : 0 < l.length := List.length_pos_iff.2 he
      have hie : l.isEmpty = false := by cases l; simp at h0; rfl
      have hd := fN_decode l h0
      rw [hie, if_neg he]
      by_cases hb : (Lib.decodeL l).1 = 65533 ∧ (Lib.decodeL l).2 = 1
      · rw [if_pos hb] at hd
        rw [if_pos hb, if_pos hd]; rfl
      · rw [if_neg hb] at hd
        rw [if_neg hb]
        by_cases hz : fN l = 0
        · have hs : (Lib.decodeL l).2 = 0 := by omega
          exfalso
          revert hs hb
          unfold Lib.decodeL
          rw [Lib.decode_at]
          unfold Lib.decodeN
          repeat' split
          all_goals simp
        · rw [if_neg hz, ← hd, ← vG_valid f (l.drop (fN l)) (by rw [List.length_drop]; omega)]; rfl
/-- the reference's UTF-8 is the library's -/
theorem vN_valid (l : List UInt8) : vN l = Lib.validD l := vG_valid _ _ (Nat.le_refl _)
end Go.Proofs.YtkmkkmdpjliifaaGreatDoor
