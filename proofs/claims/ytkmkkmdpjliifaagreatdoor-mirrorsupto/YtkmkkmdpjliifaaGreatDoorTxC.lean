import Derived.Test.YtkmkkmdpjliifaaGreatDoorTxM
import Derived.Laws.IdiomStrings
import Derived.Deep.MidRow
import Derived.Deep.AppendSrc
import Derived.Deep.LoopGhost
import Derived.Laws.CopyRow
namespace Go.Proofs.YtkmkkmdpjliifaaGreatDoor
open Go.ChangeShapes Go.WideShapes Go.ChangeAt Go.RowKit

/-- the text, a byte 80 and k noughts -/
def padTo (s : ByteArray) (k : Nat) : ByteArray := ⟨(s.data.toList ++ 128 :: List.replicate k 0).toArray⟩
theorem padTo_size (s : ByteArray) (k : Nat) : (padTo s k).size = s.size + 1 + k := by
  show (s.data.toList ++ 128 :: List.replicate k 0).toArray.size = _
  rw [List.size_toArray, List.length_append, List.length_cons, List.length_replicate, Array.length_toList]
  show s.data.size + _ = s.data.size + 1 + k
  omega
theorem ba_append (a b : ByteArray) : a ++ b = ⟨(a.data.toList ++ b.data.toList).toArray⟩ := by
  apply ByteArray.ext; simp
theorem padTo_zero (s : ByteArray) : s ++ ⟨#[128]⟩ = padTo s 0 := by
  rw [ba_append]; simp [padTo]
theorem padTo_succ (s : ByteArray) (k : Nat) : padTo s k ++ ⟨#[0]⟩ = padTo s (k + 1) := by
  rw [ba_append]; simp [padTo, List.replicate_succ']
/-- how many noughts -/
def zs (n : Nat) : Nat := (119 - n % 64) % 64
/-- the eight bytes of a length, in bits -/
def len8 (n : Nat) (j : Nat) : Nat := 8 * n / 256 ^ (7 - j) % 256
def padL (l : List UInt8) : List UInt8 := (l ++ 128 :: List.replicate (zs l.length) 0) ++ bs 8 (len8 l.length)
theorem zs_dec (n k : Nat) (h : k ≤ zs n) : ((n + 1 + k) % 64 = 56) ↔ k = zs n := by unfold zs at *; omega
theorem padL_length (l : List UInt8) : (padL l).length % 64 = 0 := by
  simp only [padL, List.length_append, List.length_cons, List.length_replicate, bs_length]
  unfold zs; omega

def strLen : Value → Nat | .string t => t.size | _ => 0

set_option maxHeartbeats 400000 in
theorem padded_any (s : ByteArray) (w : World) (hs : s.size ≤ 4194304) :
    Calls Tryz.prog 162 #[.string s] w fun e w' => e = .returned (.string ⟨(padL s.data.toList).toArray⟩) ∧ Below w.heap.size w w' := by
  have hadd0 : ∀ u, (Op.stringOp .add s ⟨#[128]⟩).run Tryz.prog u = .ok (.string (padTo s 0)) u := fun u => by
    rw [run_string_add_sum (w := u) _ _ (by have : (ByteArray.mk #[128]).size = 1 := rfl; omega), padTo_zero]
  have hmk : ∀ u : World, (Instr.makeSlice 110 (.int .i64 8) (.int .i64 8)).run Tryz.prog u = .ok (.slice (some ⟨u.heap.size, 0, none⟩) 8 8) (u.alloc (.cells (zc .u8 8) 5)) := make8 8 8 (by decide) (by decide) (by decide)
  go_enter Tryz.func162, Tryz.ntmps162
  go_wp2
  go_loop [4] (fun o => ∃ k : Nat, k ≤ zs s.size ∧ o = .string (padTo s k)) (fun o => zs s.size + s.size + 1 - strLen o)
  case atStart => exact ⟨0, by omega, rfl⟩
  case round =>
    obtain ⟨k, hk, rfl⟩ := hrel
    have hsz := padTo_size s k
    have hz : zs s.size < 64 := by unfold zs; omega
    by_cases hlt : k = zs s.size
    · have hm : (((s.size : Int) + 1 + k) % 64 != 56) = false := by
        have := (zs_dec s.size k hk).2 hlt
        simp only [bne_eq_false_iff_eq]; omega
      have hadd2 : ∀ u, (Op.stringOp .add (padTo s k) ⟨(bs 8 (len8 s.size)).toArray⟩).run Tryz.prog u = .ok (.string ⟨(padL s.data.toList).toArray⟩) u := fun u => by
        have h8 : (ByteArray.mk (bs 8 (len8 s.size)).toArray).size = 8 := rfl
        rw [run_string_add_sum (w := u) _ _ (by omega)]
        have : padTo s k ++ ⟨(bs 8 (len8 s.size)).toArray⟩ = ⟨(padL s.data.toList).toArray⟩ := by
          rw [ba_append]; subst hlt; rfl
        rw [this]
      have HK : Hid (k = zs s.size) := hlt
      clear hlt
      go_wp2
      go_loopw [6] (fun i wr => ∃ m : Nat, m ≤ 8 ∧ i = .int .i64 m ∧ Row wr w.heap.size 5 8 (fun j => .int .u8 (if j < m then (len8 s.size j : Int) else 0)) ∧ Below w.heap.size w wr) (fun i _ => 8 - (intOf i).toNat)
      case atStart => exact ⟨0, by omega, rfl, (Row.zc w .u8 8 5).congr (fun j hj => by simp), (Below.refl _ _).alloc (Nat.le_refl _) _⟩
      case round =>
        obtain ⟨m, hm8, rfl, hR, hB⟩ := hrel
        have hfz := hR.frozen m
        by_cases hlt : m < 8
        · have hc := hR.cell hlt
          go_wp2
          go_roundw
          case rel =>
            refine ⟨m + 1, by omega, by go_num, (hR.set m _).congr (fun j hj => ?_), hB.setCell (Nat.le_refl _) _⟩
            have e : 8 * (s.size : Int) / 2 ^ (56 - 8 * m) % 256 = (len8 s.size m : Int) := by
              unfold len8
              rw [show (2:Int) ^ (56 - 8 * m) = ((256 ^ (7 - m) : Nat) : Int) by rw [Int.natCast_pow, show 56 - 8 * m = 8 * (7 - m) by omega, Int.pow_mul]; rfl, show (8 * (s.size : Int)) = ((8 * s.size : Nat) : Int) by omega]
              omega
            by_cases e1 : j = m
            · subst e1; simp [e]
            · have e2 : (j < m + 1) ↔ j < m := by omega
              simp [e1, e2]
          case measure => simp [intOf]; omega
        · obtain rfl : m = 8 := by omega
          have hcv := conv8 (w := wr) w.heap.size 0 8 8 (len8 s.size) (fun i hi => by rw [Nat.zero_add, hR.cell hi]; simp [hi])
          go_wp2
          go_ret
          exact ⟨rfl, hB⟩
    · have hadd : ∀ u, (Op.stringOp .add (padTo s k) ⟨#[0]⟩).run Tryz.prog u = .ok (.string (padTo s (k+1))) u := fun u => by
        rw [run_string_add_sum (w := u) _ _ (by have : (ByteArray.mk #[0]).size = 1 := rfl; omega), padTo_succ]
      have hm : (((s.size : Int) + 1 + k) % 64 != 56) = true := by
        have := mt (zs_dec s.size k hk).1 hlt
        rw [bne_iff_ne]; omega
      go_wp2
      go_round
      case rel => exact ⟨k + 1, by omega, rfl⟩
      case measure => simp [strLen, padTo_size]; omega

/-- []byte(s): what it makes -/
def capB (w : World) (s : ByteArray) : Nat := grownCap w s.size 0 5
def wB (w : World) (s : ByteArray) : World := w.drew.alloc (.cells (bytesRow s (capB w s)) 5 ((bytesRow s (capB w s)).size, (bytesRow s (capB w s)).size + 1))
theorem toB (s : ByteArray) (w : World) : (convert 9 110 (.string s)).run Tryz.prog w = .ok (.slice (some ⟨w.heap.size, 0, none⟩) s.size (capB w s)) (wB w s) :=
  run_bytes_of_string w 9 110 5 s Tryz.underlying9 Tryz.underlying110 Tryz.underlying5
theorem wB_below (w : World) (s : ByteArray) : Below w.heap.size w (wB w s) := (Below.refl w.heap.size w).drew.alloc (Nat.le_refl _) _
theorem wB_size (w : World) (s : ByteArray) : (wB w s).heap.size = w.heap.size + 1 := by
  show (w.heap.push _).size = _
  simp
theorem wB_cel (w : World) (s : ByteArray) : Cel (wB w s) w.heap.size 0 s.size (fun j => .int .u8 (by_ s.data.toList j)) := fun j hj => by
  rw [Nat.zero_add]
  have hj' : j < s.data.size := hj
  have hsz : s.data.size ≤ (bytesRow s (capB w s)).size := by simp [bytesRow]
  refine ⟨?_, ?_⟩
  · have := World.cell?_alloc_mark w.drew (bytesRow s (capB w s)) 5 ((bytesRow s (capB w s)).size, (bytesRow s (capB w s)).size + 1) j
    have h2 := bytesRow_at s (capB w s) j hj'
    refine this.trans (h2.trans ?_)
    have h3 : s.data[j].toNat = by_ s.data.toList j := by_get s j hj
    rw [h3]
  · have := World.frozen?_alloc_mark w.drew (bytesRow s (capB w s)) 5 (bytesRow s (capB w s)).size ((bytesRow s (capB w s)).size + 1) j
    refine this.trans ?_
    simp only [Bool.and_eq_false_iff, decide_eq_false_iff_not]
    exact Or.inl (by omega)

set_option maxHeartbeats 400000 in
theorem turnedR_any (s : ByteArray) (m : Nat) (w : World) (hs : s.size = 64) (hm : m < 256) :
    Calls Tryz.prog 130 #[.string s, .int .i64 m] w fun e w' => e = .returned (.string ⟨(bs 64 (fun j => by_ s.data.toList j ^^^ m)).toArray⟩) ∧ Below w.heap.size w w' := by
  have hcv := toB s
  go_enter Tryz.func130, Tryz.ntmps130
  go_wp2
  go_loopw [6] (fun i wr => ∃ k : Nat, k ≤ 64 ∧ i = .int .i64 k ∧ Cel wr w.heap.size 0 64 (fun j => .int .u8 (if j < k then ((by_ s.data.toList j ^^^ m : Nat) : Int) else by_ s.data.toList j)) ∧ Below w.heap.size w wr) (fun i _ => 64 - (intOf i).toNat)
  case atStart =>
    have h1 := wB_cel w s
    rw [hs] at h1
    exact ⟨0, by omega, rfl, h1.congr (fun j hj => by simp), wB_below w s⟩
  case round =>
    obtain ⟨k, hk, rfl, hR, hB⟩ := hrel
    by_cases hlt : k < 64
    · have hc := hR.cell0 hlt
      have hfz := hR.frozen0 hlt
      simp only [Nat.lt_irrefl, if_false] at hc
      go_wp2
      go_roundw
      case rel =>
        refine ⟨k + 1, by omega, by go_num, (hR.set k _).congr (fun j hj => ?_), hB.setCell (Nat.le_refl _) _⟩
        have hb := by_lt s.data.toList k
        have hx := xorN_lt _ m hb hm
        have e : bits BinOp.xor IntKind.i64 (wrap64 (by_ s.data.toList k : Int)) (m : Int) % 256 = ((by_ s.data.toList k ^^^ m : Nat) : Int) := by
          rw [w64 _ (by omega) (by omega), xorN _ _ hb hm]; omega
        by_cases e1 : j = k
        · subst e1; simp only [e, if_true, Nat.lt_succ_self]
        · have e2 : (j < k + 1) ↔ j < k := by omega
          simp only [e1, e2, if_false]
      case measure => simp [intOf]; omega
    · obtain rfl : k = 64 := by omega
      have hcv := conv8 (w := wr) w.heap.size 0 64 (capB w s) (fun j => by_ s.data.toList j ^^^ m) (fun i hi => by rw [Nat.zero_add, hR.cell0 hi]; simp [hi])
      go_wp2
      go_ret
      exact ⟨rfl, hB⟩
end Go.Proofs.YtkmkkmdpjliifaaGreatDoor
namespace Go.Proofs.YtkmkkmdpjliifaaGreatDoor
open Go.ChangeShapes Go.WideShapes Go.ChangeAt Go.RowKit

/-- a slice of ints that the call made itself, and what it holds -/
def Own (w : World) (base : Nat) (v : Value) (l : List Int) : Prop := w.ownsRow base 3 1 v l.length (l.map (Value.int .i64))
/-- a slice of bytes -/
def OwnB (w : World) (base : Nat) (v : Value) (l : List Nat) : Prop := w.ownsRow base 5 1 v l.length (l.map (fun x : Nat => Value.int .u8 (x : Int)))

theorem Own.nil (w : World) (base : Nat) : Own w base (.slice none 0 0) [] := World.ownsRow_nil _ _ _ _
theorem OwnB.nil (w : World) (base : Nat) : OwnB w base (.slice none 0 0) [] := World.ownsRow_nil _ _ _ _
theorem ownsRow_below {w w' : World} {base B : Nat} {e : TypeId} {size : Nat} {v : Value} {n : Nat} {xs : List Value} (h : w.ownsRow base e size v n xs) (hb : Below B w w') (hB : w.heap.size ≤ B) : w'.ownsRow base e size v n xs := by
  have hlt := h.lt
  obtain ⟨h1, h2⟩ := h
  refine ⟨h1, ?_⟩
  rcases h2 with h2 | ⟨g, cap, cur, hv, hg, hh, r⟩
  · exact Or.inl h2
  · have hl := (hlt g (by subst hv; rfl)).2
    exact Or.inr ⟨g, cap, cur, hv, hg, by rw [hb.block g (by omega)]; exact hh, r⟩
theorem Own.below {w w' : World} {base : Nat} {v : Value} {l : List Int} (h : Own w base v l) (hb : Below w.heap.size w w') : Own w' base v l := ownsRow_below h hb (Nat.le_refl _)
theorem OwnB.below {w w' : World} {base : Nat} {v : Value} {l : List Nat} (h : OwnB w base v l) (hb : Below w.heap.size w w') : OwnB w' base v l := ownsRow_below h hb (Nat.le_refl _)
theorem Own.drewN {w : World} {base : Nat} {v : Value} {l : List Int} (h : Own w base v l) (n : Nat) : Own (w.drewN n) base v l := h
theorem Own.lt {w : World} {base : Nat} {v : Value} {l : List Int} (h : Own w base v l) : ∀ k, v.ownBlock = some k → base ≤ k ∧ k < w.heap.size := World.ownsRow.lt h
theorem OwnB.lt {w : World} {base : Nat} {v : Value} {l : List Nat} (h : OwnB w base v l) : ∀ k, v.ownBlock = some k → base ≤ k ∧ k < w.heap.size := World.ownsRow.lt h
theorem Own.shape {w : World} {base : Nat} {v : Value} {l : List Int} (h : Own w base v l) : (v = .slice none 0 0 ∧ l = []) ∨ ∃ g cap, v = .slice (some ⟨g, 0, none⟩) l.length cap ∧ base ≤ g ∧ g < w.heap.size ∧ Cel w g 0 l.length (fun j => .int .i64 (l.getD j 0)) := by
  have hlt := h.lt
  obtain ⟨h1, h2⟩ := h
  rcases h2 with ⟨h2, h3⟩ | ⟨g, cap, cur, hv, hg, hh, hc, hm, hs, ht⟩
  · exact Or.inl ⟨h2, List.eq_nil_of_length_eq_zero h3⟩
  · refine Or.inr ⟨g, cap, hv, hg, (hlt g (by subst hv; rfl)).2, fun j hj => ⟨?_, frozen_of_row w g _ cur 3 hh⟩⟩
    rw [cell_of_row w g _ cur 3 _ hh, Nat.zero_add]
    have hx : (l.map (Value.int .i64))[j]? = cur[j]? := by
      rw [← ht, List.getElem?_take_of_lt (by omega)]; simp
    show _ = some (Value.int .i64 (l.getD j 0))
    rw [← hx, List.getElem?_map, List.getElem?_eq_getElem hj, List.getD_eq_getElem?_getD, List.getElem?_eq_getElem hj]; rfl
theorem OwnB.shape {w : World} {base : Nat} {v : Value} {l : List Nat} (h : OwnB w base v l) : (v = .slice none 0 0 ∧ l = []) ∨ ∃ g cap, v = .slice (some ⟨g, 0, none⟩) l.length cap ∧ base ≤ g ∧ g < w.heap.size ∧ Cel w g 0 l.length (fun j => .int .u8 ((l.getD j 0 : Nat) : Int)) := by
  have hlt := h.lt
  obtain ⟨h1, h2⟩ := h
  rcases h2 with ⟨h2, h3⟩ | ⟨g, cap, cur, hv, hg, hh, hc, hm, hs, ht⟩
  · exact Or.inl ⟨h2, List.eq_nil_of_length_eq_zero h3⟩
  · refine Or.inr ⟨g, cap, hv, hg, (hlt g (by subst hv; rfl)).2, fun j hj => ⟨?_, frozen_of_row w g _ cur 5 hh⟩⟩
    rw [cell_of_row w g _ cur 5 _ hh, Nat.zero_add]
    have hx : (l.map (fun x : Nat => Value.int .u8 (x : Int)))[j]? = cur[j]? := by
      rw [← ht, List.getElem?_take_of_lt (by omega)]; simp
    show _ = some (Value.int .u8 ((l.getD j 0 : Nat) : Int))
    rw [← hx, List.getElem?_map, List.getElem?_eq_getElem hj, List.getD_eq_getElem?_getD, List.getElem?_eq_getElem hj]; rfl

/-- out = append(out, x), out a slice of ints -/
theorem app25 {w : World} {ops : Array Oper} {rest : List Oper} {o : Oper} {a : Act} {Q : Exit → Act → World → Prop} (hgd : o.guard = none) (s x : Operand)
    (ho : o.op = .call { callee := .builtin .append, args := #[s, x], argTypes := #[25, 25] })
    (base : Nat) (v : Value) (l : List Int) (y : Int) (hs : a.eval s = v) (hown : Own w base v l)
    (ad : Addr) (hx : a.eval x = .slice (some ad) 1 1) (hc : w.cell? ad = some (.int .i64 y)) (hn : l.length ≤ 16777216) (hbase : base ≤ w.heap.size)
    (h : ∀ v' w', Own w' base v' (l ++ [y]) → w.grownBy w' v.ownBlock → wpList Tryz.prog ops Q rest (a.put o.dst v') w') : wpList Tryz.prog ops Q (o :: rest) a w := by
  obtain ⟨i0, hi, hz0, hz1, hz2⟩ := info_parts info3
  refine wpList_append_own w hgd s x 25 ho base 3 i0 (.int .i64 0) 1 8 Tryz.underlying25 hi hz0 hz1 hz2 rfl (by decide) v l.length _ hs hown ad 1 1 [.int .i64 y] hx rfl ?_ ?_ ?_ ?_ hbase ?_
  · intro j u hj
    match j, hj with
    | 0, hj => simp at hj; subst hj; simpa [Addr.add] using hc
  · intro u hu; simp at hu; subst hu; rfl
  · unfold maxLen; omega
  · omega
  · intro v' w' h1 h2 _
    refine h v' w' ?_ h2
    unfold Own
    simpa using h1
theorem app110 {w : World} {ops : Array Oper} {rest : List Oper} {o : Oper} {a : Act} {Q : Exit → Act → World → Prop} (hgd : o.guard = none) (s x : Operand)
    (ho : o.op = .call { callee := .builtin .append, args := #[s, x], argTypes := #[110, 110] })
    (base : Nat) (v : Value) (l : List Nat) (y : Nat) (hs : a.eval s = v) (hown : OwnB w base v l)
    (ad : Addr) (hx : a.eval x = .slice (some ad) 1 1) (hc : w.cell? ad = some (.int .u8 (y : Int))) (hn : l.length ≤ 16777216) (hbase : base ≤ w.heap.size)
    (h : ∀ v' w', OwnB w' base v' (l ++ [y]) → w.grownBy w' v.ownBlock → wpList Tryz.prog ops Q rest (a.put o.dst v') w') : wpList Tryz.prog ops Q (o :: rest) a w := by
  obtain ⟨i0, hi, hz0, hz1, hz2⟩ := info_parts info5
  refine wpList_append_own w hgd s x 110 ho base 5 i0 (.int .u8 0) 1 1 Tryz.underlying110 hi hz0 hz1 hz2 rfl (by decide) v l.length _ hs hown ad 1 1 [.int .u8 (y : Int)] hx rfl ?_ ?_ ?_ ?_ hbase ?_
  · intro j u hj
    match j, hj with
    | 0, hj => simp at hj; subst hj; simpa [Addr.add] using hc
  · intro u hu; simp at hu; subst hu; rfl
  · unfold maxLen; omega
  · omega
  · intro v' w' h1 h2 _
    refine h v' w' ?_ h2
    unfold OwnB
    simpa using h1
theorem below_grown {B base : Nat} {w0 w w' : World} {v : Value} (h : Below B w0 w) (hg : w.grownBy w' v.ownBlock) (hB : B ≤ w.heap.size) (hl : ∀ k, v.ownBlock = some k → base ≤ k ∧ k < w.heap.size) (hb : B ≤ base) : Below B w0 w' :=
  h.grown hg hB (fun k hk => by have := hl k hk; omega)
end Go.Proofs.YtkmkkmdpjliifaaGreatDoor
namespace Go.Proofs.YtkmkkmdpjliifaaGreatDoor
open Go.RowKit

theorem Row.setCells {g : Nat} {t : TypeId} {n : Nat} : ∀ (vs : List Value) (o : Nat) (w : World) (f : Nat → Value), Row w g t n f →
    Row (w.setCells g o vs) g t n (fun j => if o ≤ j ∧ j < o + vs.length then vs.getD (j - o) undef else f j)
  | [], o, w, f, h => by
    refine Row.congr h (fun j _ => ?_)
    rw [if_neg (by simp)]
  | v :: vs, o, w, f, h => by
    have h1 := Row.setCells vs (o + 1) (w.setCell ⟨g, o, none⟩ v) _ (h.set o v)
    refine Row.congr h1 (fun j _ => ?_)
    simp only [List.length_cons]
    by_cases e : j = o
    · subst e
      rw [if_neg (by omega), if_pos rfl, if_pos (by omega), Nat.sub_self]; rfl
    · by_cases e2 : o + 1 ≤ j ∧ j < o + 1 + vs.length
      · rw [if_pos e2, if_pos (by omega), show j - o = (j - (o + 1)) + 1 by omega]; rfl
      · rw [if_neg e2, if_neg e, if_neg (by omega)]
theorem grown_setCell (w : World) (a : Addr) (v : Value) : w.grownBy (w.setCell a v) (some a.block) :=
  ⟨rfl, rfl, rfl, by simp [World.setCell], fun k _ hne => Below.heap_setCell _ _ _ _ (fun e => hne (by rw [e]))⟩
theorem grown_trans {a b c : World} {row : Option Nat} (h : a.grownBy b row) (k : b.grownBy c row) : a.grownBy c row :=
  ⟨k.os.trans h.os, k.tape.trans h.tape, k.output.trans h.output, Nat.le_trans h.size k.size, fun i hi hne => (k.block i (Nat.lt_of_lt_of_le hi h.size) hne).trans (h.block i hi hne)⟩
theorem grown_setCells (g : Nat) : ∀ (vs : List Value) (o : Nat) (w : World), w.grownBy (w.setCells g o vs) (some g)
  | [], _, _ => ⟨rfl, rfl, rfl, Nat.le_refl _, fun _ _ _ => rfl⟩
  | v :: vs, o, w => grown_trans (grown_setCell w ⟨g, o, none⟩ v) (grown_setCells g vs (o + 1) _)

/-- a whole array is read -/
theorem ldRow {ops : Array Oper} {rest : List Oper} {o : Oper} {a : Act} {w : World} {Q : Exit → Act → World → Prop} (hgd : o.guard = none) (ty : TypeId) (x : Operand) (ho : o.op = .load ty x)
    {g n m : Nat} {f : Nat → Value} {t e : TypeId} (hx : a.eval x = .pointer (some ⟨g, 0, none⟩)) (hRow : Row w g t n f) (hu : Tryz.prog.underlying ty = some (.array m e)) (hi : (Tryz.prog.info? ty).map (·.size) = some n)
    (h : wpList Tryz.prog ops Q rest (a.put o.dst (.agg (arrOf n f))) w) : wpList Tryz.prog ops Q (o :: rest) a w :=
  wpList_load_row hgd ty x ho g hx t (arrOf n f) (0, 0) _ hRow.whole hu rfl (by rw [arrOf_size]; exact hi) h
/-- a whole array is written -/
theorem stRow {ops : Array Oper} {rest : List Oper} {o : Oper} {a : Act} {w : World} {Q : Exit → Act → World → Prop} (hgd : o.guard = none) (ty : TypeId) (x y : Operand) (ho : o.op = .store ty x y)
    {g n : Nat} {f f' : Nat → Value} {t : TypeId} (hx : a.eval x = .pointer (some ⟨g, 0, none⟩)) (hy : a.eval y = .agg (arrOf n f)) (hRow : Row w g t n f') (hi : (Tryz.prog.info? ty).map (·.size) = some n) (h1 : ∀ j, j < n → (f j).oneCell' = true)
    (h : ∀ w', Row w' g t n f → w.grownBy w' (some g) → wpList Tryz.prog ops Q rest (a.put o.dst undef) w') : wpList Tryz.prog ops Q (o :: rest) a w := by
  refine wpList_store_mid hgd ty x y ho g 0 (arrOf n f) hx hy (fun j hj => ?_) (by rw [arrOf_size]; exact hi) ?_ (h _ ?_ (grown_setCells g _ 0 w))
  · rw [arrOf_size] at hj
    rw [Nat.zero_add]
    exact ⟨by rw [hRow.cell hj]; rfl, hRow.frozen j⟩
  · rw [Array.all_eq_true]
    intro i hi2
    have h2 := arrOf_get n f i (by rw [arrOf_size] at hi2; exact hi2)
    rw [Array.getElem?_eq_getElem hi2] at h2
    rw [Option.some.inj h2]
    exact h1 i (by rw [arrOf_size] at hi2; exact hi2)
  · refine (Row.setCells (arrOf n f).toList 0 w f' hRow).congr (fun j hj => ?_)
    rw [if_pos ⟨Nat.zero_le _, by rw [Array.length_toList, arrOf_size]; omega⟩, Nat.sub_zero, List.getD_eq_getElem?_getD, Array.getElem?_toList, arrOf_get n f j hj]
    rfl
end Go.Proofs.YtkmkkmdpjliifaaGreatDoor
namespace Go.Proofs.YtkmkkmdpjliifaaGreatDoor
open Go.ChangeShapes Go.WideShapes Go.ChangeAt Go.RowKit

theorem OwnB.form {w : World} {base : Nat} {v : Value} {l : List Nat} (h : OwnB w base v l) : ∃ ao cap, v = .slice ao l.length cap := by
  rcases OwnB.shape h with ⟨h1, h2⟩ | ⟨g, cap, h1, _⟩
  · exact ⟨none, 0, by rw [h1, h2]; rfl⟩
  · exact ⟨_, _, h1⟩
theorem OwnB.alloc {w : World} {base : Nat} {v : Value} {l : List Nat} (h : OwnB w base v l) (o : Obj) : OwnB (w.alloc o) base v l := h.below ((Below.refl _ _).alloc (Nat.le_refl _) o)

/-- append(b, s...), b empty, with room -/
theorem appStr {w : World} {ops : Array Oper} {rest : List Oper} {o : Oper} {a : Act} {Q : Exit → Act → World → Prop} (hgd : o.guard = none) (s x : Operand)
    (ho : o.op = .call { callee := .builtin .append, args := #[s, x], argTypes := #[110, 9] })
    {g cap : Nat} {str : ByteArray} {f : Nat → Value} (hs : a.eval s = .slice (some ⟨g, 0, none⟩) 0 cap) (hx : a.eval x = .string str) (hRow : Row w g 5 cap f) (hroom : str.size ≤ cap) (hcap : cap ≤ maxLen)
    (h : ∀ w', OwnB w' g (.slice (some ⟨g, 0, none⟩) str.size cap) (str.data.toList.map UInt8.toNat) → w.grownBy w' (some g) → wpList Tryz.prog ops Q rest (a.put o.dst (.slice (some ⟨g, 0, none⟩) str.size cap)) w') : wpList Tryz.prog ops Q (o :: rest) a w := by
  obtain ⟨i0, hi, hz0, hz1, hz2⟩ := info_parts info5
  have hsrc : Src Tryz.prog i0.size 9 (.string str) str.size (byteCells str) w := by rw [hz1]; exact Src.ofString w Tryz.underlying9 str
  have hbl := byteCells_length str
  have hrun := run_append_room_src (P := Tryz.prog) w 110 9 o.type 5 i0 Tryz.underlying110 hi g 0 0 cap (.string str) str.size (byteCells str) hsrc (by omega)
    (fun j hj => by rw [Nat.zero_mul, Nat.add_zero, Nat.zero_add, hRow.cell (by omega)]; rfl) (fun j hj => hRow.frozen _)
  rw [Nat.zero_mul, Nat.zero_add] at hrun
  have hfin := Row.setCells (byteCells str) 0 w f hRow
  refine wpList_plain hgd fun K hK' => ?_
  unfold Oper.wp
  simp [execOp, ho, resolve, invoke, builtin, hs, hx, hrun, Result.andThen]
  refine hK' _ _ (h _ ?_ (grown_setCells g _ 0 w))
  have hl : (str.data.toList.map UInt8.toNat).length = str.size := by rw [List.length_map, Array.length_toList]; rfl
  unfold OwnB
  rw [hl]
  refine ⟨by rw [List.length_map, hl, Nat.mul_one], Or.inr ⟨g, cap, _, rfl, Nat.le_refl _, hfin.whole, hroom, hcap, by rw [arrOf_size, Nat.mul_one], ?_⟩⟩
  apply List.ext_getElem?
  intro i
  rw [Nat.mul_one]
  rcases Nat.lt_or_ge i str.size with h1 | h1
  · rw [List.getElem?_take_of_lt h1, Array.getElem?_toList, arrOf_get cap _ i (by omega), if_pos ⟨Nat.zero_le _, by omega⟩, Nat.sub_zero]
    have h2 : i < str.data.toList.length := by rw [Array.length_toList]; exact h1
    unfold byteCells
    rw [List.getD_eq_getElem?_getD, List.getElem?_map, List.getElem?_map, List.getElem?_map, List.getElem?_eq_getElem h2]; rfl
  · rw [List.getElem?_eq_none (by simp; omega), List.getElem?_eq_none (by simp; exact h1)]

/-- the text, a byte 80 and k noughts, as numbers -/
def padN (l : List UInt8) (k : Nat) : List Nat := l.map UInt8.toNat ++ 128 :: List.replicate k 0
theorem padN_length (l : List UInt8) (k : Nat) : (padN l k).length = l.length + 1 + k := by simp [padN]; omega
theorem padN_zero (l : List UInt8) : l.map UInt8.toNat ++ [128] = padN l 0 := by simp [padN]
theorem padN_succ (l : List UInt8) (k : Nat) : padN l k ++ [0] = padN l (k + 1) := by simp [padN, List.replicate_succ']
def padM (l : List UInt8) (m : Nat) : List Nat := padN l (zs l.length) ++ (List.range m).map (len8 l.length)
theorem padM_length (l : List UInt8) (m : Nat) : (padM l m).length = l.length + 1 + zs l.length + m := by simp [padM, padN_length]
theorem padM_succ (l : List UInt8) (m : Nat) : padM l m ++ [len8 l.length m] = padM l (m + 1) := by simp [padM, List.range_succ]
theorem padM_padL (l : List UInt8) : (padL l).map UInt8.toNat = padM l 8 := by
  unfold padL padM padN bs
  simp only [List.map_append, List.map_cons, List.map_replicate, List.map_map]
  congr 1
  apply List.map_congr_left
  intro j _
  show (UInt8.ofNat (len8 l.length j)).toNat = _
  rw [UInt8.toNat_ofNat']
  exact Nat.mod_eq_of_lt (Nat.mod_lt _ (by decide))

set_option maxHeartbeats 400000 in
theorem pad_any (s : ByteArray) (w : World) (hs : s.size ≤ 4194304) :
    Calls Tryz.prog 166 #[.string s] w fun e w' => ∃ v, e = .returned v ∧ OwnB w' w.heap.size v (padM s.data.toList 8) ∧ Below w.heap.size w w' := by
  have hmk : ∀ u : World, (Instr.makeSlice 110 (.int .i64 0) (.int .i64 ((s.size : Int) + 128))).run Tryz.prog u = .ok (.slice (some ⟨u.heap.size, 0, none⟩) 0 (s.size + 128)) (u.alloc (.cells (zc .u8 (s.size + 128)) 5)) := fun u => by
    rw [make8 _ _ (by omega) (by omega) (by omega), show ((s.size : Int) + 128).toNat = s.size + 128 by omega]; rfl
  have hsz : s.data.toList.length = s.size := by rw [Array.length_toList]; rfl
  have HS : Hid (s.size ≤ 4194304 ∧ s.data.toList.length = s.size) := ⟨hs, hsz⟩
  clear hsz
  go_enter Tryz.func166, Tryz.ntmps166
  go_wp2_with (first | (at_builtin; refine appStr rfl _ _ rfl rfl rfl (Row.zc w .u8 (s.size + 128) 5) (by omega) (by have := HS.out; unfold maxLen; omega) ?_; intro w1 hO1 hg1) | (at_builtin; refine app110 rfl _ _ rfl w.heap.size _ _ 128 rfl (hO1.alloc _) _ rfl (by simp) (by rw [List.length_map]; have := HS.out; omega) (by have := hg1.size; simp at this; simp; omega) ?_; intro v2 w2 hO2 hg2))
  rw [padN_zero] at hO2
  have hs1 := hg1.size
  have hs2 := hg2.size
  simp at hs1 hs2
  have hB2 : Below w.heap.size w w2 := ((((Below.refl w.heap.size w).alloc (Nat.le_refl _) _).grown hg1 (by simp) (fun k hk => by cases hk; exact Nat.le_refl _)).alloc (by omega) _).grown hg2 (by simp; omega) (fun k hk => by cases hk; exact Nat.le_refl _)
  clear hg1 hg2 hO1
  obtain ⟨ao, cap, rfl⟩ := hO2.form
  have hl := HS.out.2
  go_loopg [3] (zs s.size) (fun q v wr => ∃ (k : Nat) (ao : Option Addr) (cap : Nat), k + q = zs s.size ∧ v = .slice ao (s.size + 1 + k) cap ∧ OwnB wr w.heap.size (.slice ao (s.size + 1 + k) cap) (padN s.data.toList k) ∧ w.heap.size ≤ wr.heap.size ∧ Below w.heap.size w wr)
  case atStart =>
    have e : (padN s.data.toList 0).length = s.size + 1 + 0 := by rw [padN_length, HS.out.2]
    exact ⟨0, ao, cap, by omega, by rw [← e], by rw [← e]; exact hO2, hB2.size, hB2⟩
  case round =>
    clear hO2 hB2
    obtain ⟨k, ao, cap, hk, rfl, hO, hsz, hB⟩ := hrel
    have hz : zs s.size < 64 := by unfold zs; omega
    by_cases hlt : k = zs s.size
    · have hm : (((s.size : Int) + 1 + k) % 64 != 56) = false := by
        have := (zs_dec s.size k (by omega)).2 hlt
        simp only [bne_eq_false_iff_eq]; omega
      have hO' : OwnB wr w.heap.size (.slice ao (s.size + 1 + k) cap) (padM s.data.toList 0) := by
        have e : padM s.data.toList 0 = padN s.data.toList k := by unfold padM; rw [HS.out.2, ← hlt]; simp
        rw [e]; exact hO
      have HK := hide hlt
      clear hO hlt
      go_wp2
      go_loopg [3, 5] 8 (fun q v i wq => ∃ (m : Nat) (ao : Option Addr) (cap : Nat), m + q = 8 ∧ i = .int .i64 (56 - 8 * (m : Int)) ∧ v = .slice ao (s.size + 1 + k + m) cap ∧ OwnB wq w.heap.size (.slice ao (s.size + 1 + k + m) cap) (padM s.data.toList m) ∧ w.heap.size ≤ wq.heap.size ∧ Below w.heap.size w wq)
      case atStart => exact ⟨0, ao, cap, rfl, rfl, rfl, hO', hsz, hB⟩
      case round =>
        clear hO' hsz hB
        obtain ⟨m, ao, cap, hmq, rfl, rfl, hO, hsz, hB⟩ := hrel
        by_cases hlt : m < 8
        · have hval : (s.size : Int) * 8 / 2 ^ (56 - 8 * m) % 256 = ((len8 s.data.toList.length m : Nat) : Int) := by
            unfold len8
            rw [hl, show (2:Int) ^ (56 - 8 * m) = ((256 ^ (7 - m) : Nat) : Int) by rw [Int.natCast_pow, show 56 - 8 * m = 8 * (7 - m) by omega, Int.pow_mul]; rfl, show ((s.size : Int) * 8) = ((8 * s.size : Nat) : Int) by omega]
            omega
          have HV := hide hval
          clear hval
          go_wp2_with (at_builtin; refine app110 rfl _ _ rfl w.heap.size _ _ (len8 s.data.toList.length m) rfl (hO.alloc _) _ rfl (by have h := unhide HV; rw [← h]; simp) (by rw [padM_length, HS.out.2]; have := HS.out; have := unhide HK; omega) (by simp; omega) ?_; intro v2 w3 hO2 hg2)
          go_roundg (gk - 1)
          case measure => omega
          case rel =>
            rw [padM_succ] at hO2
            obtain ⟨ao', cap', rfl⟩ := hO2.form
            have e : (padM s.data.toList (m + 1)).length = s.size + 1 + k + (m + 1) := by rw [padM_length, HS.out.2, unhide HK]
            have hs2 := hg2.size
            simp at hs2
            refine ⟨m + 1, ao', cap', by omega, by go_num, by rw [← e], by rw [← e]; exact hO2, by omega, ?_⟩
            exact below_grown (hB.alloc hsz _) hg2 (by simp; omega) (fun k hk => by have := OwnB.lt hO k hk; simp; omega) (Nat.le_refl _)
        · obtain rfl : m = 8 := by omega
          go_wp2
          go_ret
          exact ⟨_, rfl, hO, hB⟩
    · have hm : (((s.size : Int) + 1 + k) % 64 != 56) = true := by
        have := mt (zs_dec s.size k (by omega)).1 hlt
        rw [bne_iff_ne]; omega
      go_wp2_with (at_builtin; refine app110 rfl _ _ rfl w.heap.size _ _ 0 rfl (hO.alloc _) _ rfl (by simp) (by rw [padN_length]; have := HS.out; omega) (by simp; omega) ?_; intro v2 w2 hO2 hg2)
      go_roundg (gk - 1)
      case measure => omega
      case rel =>
        rw [padN_succ] at hO2
        obtain ⟨ao', cap', rfl⟩ := hO2.form
        have e : (padN s.data.toList (k + 1)).length = s.size + 1 + (k + 1) := by rw [padN_length, HS.out.2]
        have hs2 := hg2.size
        simp at hs2
        refine ⟨k + 1, ao', cap', by omega, by rw [← e], by rw [← e]; exact hO2, by omega, ?_⟩
        exact below_grown (hB.alloc hsz _) hg2 (by simp; omega) (fun k hk => by have := OwnB.lt hO k hk; simp; omega) (Nat.le_refl _)
end Go.Proofs.YtkmkkmdpjliifaaGreatDoor
namespace Go.Proofs.YtkmkkmdpjliifaaGreatDoor
open Go.ChangeShapes Go.WideShapes Go.ChangeAt Go.RowKit

/-- a string's value -/
def sv (l : List UInt8) : Value := .string ⟨l.toArray⟩
theorem sv_def (l : List UInt8) : sv l = .string ⟨l.toArray⟩ := rfl
/-- A slice of strings, to be read; all that it leads to lies below block B. -/
def Ls (w : World) (B : Nat) (v : Value) (l : List (List UInt8)) : Prop :=
  ∃ a c, v = .slice a l.length c ∧ l.length ≤ c ∧ (0 < l.length → ∃ g o, a = some ⟨g, o, none⟩ ∧ g < B ∧ ∀ j, j < l.length → w.cell? ⟨g, o + j, none⟩ = some (sv (l.getD j [])))
theorem Ls.below {w w' : World} {B : Nat} {v : Value} {l : List (List UInt8)} (h : Ls w B v l) (hb : Below B w w') : Ls w' B v l := by
  obtain ⟨a, c, rfl, hle, h⟩ := h
  refine ⟨a, c, rfl, hle, fun hp => ?_⟩
  obtain ⟨g, o, rfl, hg, h⟩ := h hp
  exact ⟨g, o, rfl, hg, fun j hj => (hb.cell (p := ⟨g, o + j, none⟩) hg).trans (h j hj)⟩
theorem Ls.up {w : World} {B B' : Nat} {v : Value} {l : List (List UInt8)} (h : Ls w B v l) (hb : B ≤ B') : Ls w B' v l := by
  obtain ⟨a, c, rfl, hle, h⟩ := h
  refine ⟨a, c, rfl, hle, fun hp => ?_⟩
  obtain ⟨g, o, rfl, hg, h⟩ := h hp
  exact ⟨g, o, rfl, by omega, h⟩
/-- other blocks than these -/
theorem Ls.keep {w w' : World} {B : Nat} {v : Value} {l : List (List UInt8)} (h : Ls w B v l) (hb : ∀ g, g < B → w'.heap[g]? = w.heap[g]?) : Ls w' B v l := by
  obtain ⟨a, c, rfl, hle, h⟩ := h
  refine ⟨a, c, rfl, hle, fun hp => ?_⟩
  obtain ⟨g, o, rfl, hg, h⟩ := h hp
  exact ⟨g, o, rfl, hg, fun j hj => (World.cell?_of_block (a := ⟨g, o + j, none⟩) (hb g hg)).trans (h j hj)⟩

theorem info9 : (Tryz.prog.info? 9).map (fun i => (i.zero, i.size, i.bytes)) = some (some (.string ⟨#[]⟩), 1, 16) := by kernel_rfl
/-- n empty strings -/
def zst (n : Nat) : Array Value := madeCells #[.string ⟨#[]⟩] n
theorem zst_size (n : Nat) : (zst n).size = n := by simp [zst, madeCells]
theorem zst_get (n j : Nat) (h : j < n) : (zst n)[j]? = some (.string ⟨#[]⟩) := by simp [zst, madeCells, h, Nat.mod_one]
theorem make35 (l c : Int) (h0 : 0 ≤ l) (hlc : l ≤ c) (hc : c ≤ 17592186044416) (u : World) : (Instr.makeSlice 35 (.int .i64 l) (.int .i64 c)).run Tryz.prog u =
    .ok (.slice (some ⟨u.heap.size, 0, none⟩) l.toNat c.toNat) (u.alloc (.cells (zst c.toNat) 9)) := by
  obtain ⟨i0, hi, hz0, hz1, hz2⟩ := info_parts info9
  have h := run_make (P := Tryz.prog) u 35 9 i0 (.string ⟨#[]⟩) Tryz.underlying35 hi hz0 .i64 .i64 l c h0 hlc (by rw [hz2]; omega) (by omega)
  rw [hz1, Nat.mul_one] at h
  exact h

theorem setCells_size (g : Nat) : ∀ (vs : List Value) (o : Nat) (w : World), (w.setCells g o vs).heap.size = w.heap.size
  | [], _, _ => rfl
  | v :: vs, o, w => (setCells_size g vs (o + 1) (w.setCell ⟨g, o, none⟩ v)).trans (by simp [World.setCell])
/-- copy(d, s): d a row of the call's own, s cells that lie in another one; k cells an element -/
theorem copy_any {w : World} {dT sT elem : TypeId} {k : Nat} (hu : Tryz.prog.underlying dT = some (.slice elem)) (hk : (Tryz.prog.info? elem).map (·.size) = some k) {g n cap m cap2 M : Nat} {a : Option Addr} {t : TypeId} {f f2 : Nat → Value}
    (hRow : Row w g t M f) (hn : n * k ≤ M) (hle : m ≤ n) (hsrc : 0 < m → ∃ g2 o2, a = some ⟨g2, o2, none⟩ ∧ ∀ j, j < m * k → w.cell? ⟨g2, o2 + j, none⟩ = some (f2 j)) (h1 : ∀ j, j < m * k → (f2 j).oneCell' = true) (ty : TypeId) :
    ∃ w', (Builtin.copy_ #[dT, sT] ty #[.slice (some ⟨g, 0, none⟩) n cap, .slice a m cap2]).run Tryz.prog w = .ok (goInt m) w' ∧ Row w' g t M (fun j => if j < m * k then f2 j else f j) ∧ w.grownBy w' (some g) ∧ w'.heap.size = w.heap.size := by
  obtain ⟨i, hi, hik⟩ := Option.map_eq_some_iff.1 hk
  have hmin : Nat.min m n = m := Nat.min_eq_left hle
  have hmk : m * k ≤ n * k := Nat.mul_le_mul_right k hle
  by_cases h0 : m = 0
  · subst h0
    refine ⟨w, ?_, hRow.congr (fun j hj => by rw [Nat.zero_mul, if_neg (Nat.not_lt_zero j)]), ⟨rfl, rfl, rfl, Nat.le_refl _, fun _ _ _ => rfl⟩, rfl⟩
    cases a with
    | none => simp [Builtin.copy_, run_underlying hu, Builtin.lenOf, Builtin.firstCells, sizeOf, typeInfo, hi, storeCells]
    | some ad =>
      have hl := run_loadCells_list (P := Tryz.prog) w ad [] (fun j v hv => by simp at hv)
      rw [List.length_nil] at hl
      simp [Builtin.copy_, run_underlying hu, Builtin.lenOf, Builtin.firstCells, sizeOf, typeInfo, hi, storeCells, hl]
  · obtain ⟨g2, o2, rfl, hc⟩ := hsrc (by omega)
    have hal : ((List.range (m * k)).map f2).length = m * k := by simp
    have hl := run_loadCells_list (P := Tryz.prog) w ⟨g2, o2, none⟩ ((List.range (m * k)).map f2) (fun j v hv => by
      have hj : j < m * k := by
        rcases Nat.lt_or_ge j (m * k) with h | h
        · exact h
        · rw [List.getElem?_eq_none (by rw [hal]; exact h)] at hv; cases hv
      have e : v = f2 j := by simpa [hj] using hv.symm
      rw [add_plain, hc j hj, e])
    have hst := run_storeCells_cells (P := Tryz.prog) g 0 ((List.range (m * k)).map f2) 0 w (fun j hj => by
        rw [hal] at hj
        simp [hRow.cell (show j < M by omega)]) (fun j hj => hRow.frozen _) (fun v hv => by
        obtain ⟨j, hj, rfl⟩ := List.mem_map.1 hv
        exact h1 j (List.mem_range.1 hj))
    rw [hal] at hl
    simp only [Nat.add_zero] at hst
    refine ⟨_, ?_, (Row.setCells ((List.range (m * k)).map f2) 0 w f hRow).congr (fun j hj => ?_), grown_setCells g _ 0 w, setCells_size g _ 0 w⟩
    · simp [Builtin.copy_, run_underlying hu, Builtin.lenOf, Builtin.firstCells, sizeOf, typeInfo, hi, hik, hmin, hl, hst]
    · rw [hal, Nat.zero_add, Nat.sub_zero]
      by_cases e : j < m * k
      · rw [if_pos ⟨Nat.zero_le _, e⟩, if_pos e]; simp [List.getD, e]
      · rw [if_neg (fun h => e h.2), if_neg e]

/-- 'beyond', 'spoilt' -/
def beyondL : List UInt8 := [98, 101, 121, 111, 110, 100]
def spoiltL : List UInt8 := [115, 112, 111, 105, 108, 116]
/-- what lent makes -/
def lentF (l : List (List UInt8)) (j : Nat) : Value := if j < l.length then sv (l.getD j []) else sv beyondL
theorem copyLaw {w : World} {ops : Array Oper} {rest : List Oper} {o : Oper} {a : Act} {Q : Exit → Act → World → Prop} (hgd : o.guard = none) (d s : Operand) {dT sT : TypeId}
    (ho : o.op = .call { callee := .builtin .copy, args := #[d, s], argTypes := #[dT, sT] }) {vd vs : Value} {n : Nat} {w' : World} (hd : a.eval d = vd) (hs : a.eval s = vs)
    (hrun : (Builtin.copy_ #[dT, sT] o.type #[vd, vs]).run Tryz.prog w = .ok (goInt n) w')
    (h : wpList Tryz.prog ops Q rest (a.put o.dst (goInt n)) w') : wpList Tryz.prog ops Q (o :: rest) a w := by
  refine wpList_plain hgd fun K hK' => ?_
  unfold Oper.wp
  simp [execOp, ho, resolve, invoke, builtin, hd, hs, hrun, Result.andThen]
  exact hK' _ _ h

set_option maxRecDepth 20000 in
set_option maxHeartbeats 1000000 in
theorem lent_any (v : Value) (l : List (List UInt8)) (w : World) (B : Nat) (hB : B ≤ w.heap.size) (hl : l.length ≤ 8796093022208) (hv : Ls w B v l) :
    Calls Tryz.prog 78 #[v] w fun e w' => e = .returned (.slice (some ⟨w.heap.size, 0, none⟩) l.length (l.length + 4)) ∧ Row w' w.heap.size 9 (l.length + 4) (lentF l) ∧ w'.heap.size = w.heap.size + 1 ∧ Below w.heap.size w w' := by
  obtain ⟨a, c, rfl, hle, hv⟩ := hv
  clear hle
  have HL := hide hl
  have hadd : wrap64 ((l.length : Int) + 4) = (l.length : Int) + 4 := w64 _ (by omega) (by omega)
  have hmk := make35 ((l.length : Int) + 4) ((l.length : Int) + 4) (by omega) (by omega) (by omega)
  have htn : ((l.length : Int) + 4).toNat = l.length + 4 := by omega
  rw [htn] at hmk
  clear hl htn
  have hR0 : Row (w.alloc (.cells (zst (l.length + 4)) 9)) w.heap.size 9 (l.length + 4) (fun _ => .string ⟨#[]⟩) := Row.new w 9 _ _ _ (zst_size _) (fun j hj => zst_get _ j hj)
  obtain ⟨w1, hrun, hR1, hg1, hs1⟩ := copy_any (sT := 35) (cap := l.length + 4) (m := l.length) (cap2 := c) (a := a) (f2 := fun j => sv (l.getD j [])) (n := l.length + 4) Tryz.underlying35 (show (Tryz.prog.info? 9).map (·.size) = some 1 by kernel_rfl) hR0 (by omega) (by omega)
    (fun hp => by
      obtain ⟨g, o, rfl, hg, hc⟩ := hv hp
      refine ⟨g, o, rfl, fun j hj => ?_⟩
      rw [Nat.mul_one] at hj
      exact (((Below.refl w.heap.size w).alloc (Nat.le_refl _) _).cell (p := ⟨g, o + j, none⟩) (by show g < _; omega)).trans (hc j hj)) (fun _ _ => rfl) 3
  have hB1 : Below w.heap.size w w1 := ((Below.refl w.heap.size w).alloc (Nat.le_refl _) _).grown hg1 (by simp) (fun k hk => by cases hk; exact Nat.le_refl _)
  have hs2 : w1.heap.size = w.heap.size + 1 := by rw [hs1]; simp
  clear hR0 hg1 hs1
  go_enter Tryz.func78, Tryz.ntmps78
  go_wp2_with (at_builtin; refine copyLaw rfl _ _ rfl rfl rfl hrun ?_)
  go_loopg [4] 4 (fun q i wr => ∃ k : Nat, k + q = l.length + 4 ∧ l.length ≤ k ∧ i = .int .i64 (k : Nat) ∧ Row wr w.heap.size 9 (l.length + 4) (fun j => if j < k then lentF l j else .string ⟨#[]⟩) ∧ wr.heap.size = w.heap.size + 1 ∧ Below w.heap.size w wr)
  case atStart =>
    refine ⟨l.length, rfl, Nat.le_refl _, rfl, hR1.congr (fun j hj => ?_), hs2, hB1⟩
    unfold lentF
    rw [Nat.mul_one]
    by_cases e : j < l.length
    · rw [if_pos e, if_pos e, if_pos e]
    · rw [if_neg e, if_neg e]
  case round =>
    clear hR1 hs2 hB1 hrun
    obtain ⟨k, hk, hlk, rfl, hR, hsz, hB⟩ := hrel
    by_cases hlt : k < l.length + 4
    · have hc := hR.cell hlt
      have hfz := hR.frozen k
      have hw : wrap64 ((k : Int) + 1) = (k : Int) + 1 := w64 _ (by omega) (by have := unhide HL; omega)
      go_wp2
      go_roundg (gk - 1)
      case measure => omega
      case rel =>
        refine ⟨k + 1, by omega, by omega, by go_num, (hR.set k _).congr (fun j hj => ?_), by simpa [World.setCell] using hsz, hB.setCell (Nat.le_refl _) _⟩
        by_cases e1 : j = k
        · subst e1
          rw [if_pos rfl, if_pos (by omega)]
          unfold lentF
          rw [if_neg (by omega)]; rfl
        · have e2 : (j < k + 1) ↔ j < k := by omega
          simp only [e1, e2, if_false]
    · go_wp2
      go_ret
      refine ⟨rfl, hR.congr (fun j hj => by rw [if_pos (by omega)]), hsz, hB⟩
end Go.Proofs.YtkmkkmdpjliifaaGreatDoor
