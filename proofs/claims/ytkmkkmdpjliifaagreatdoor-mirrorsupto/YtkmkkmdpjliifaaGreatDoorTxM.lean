import Derived.WalkKit
import Derived.Deep.Draws
import Derived.Test.YtkmkkmdpjliifaaGreatDoorProg
import Derived.ProofKit
import Derived.OpenShut
import Derived.Laws.BytesArg
import Derived.Deep.QuietTactic
import Derived.BigQuiet
namespace Go.Proofs.YtkmkkmdpjliifaaGreatDoor
open Go.RowKit

/-- A word of 32 bits, as the number that it is. -/
def wi (x : BitVec 32) : Int := (x.toNat : Int)
theorem wi_nn (x : BitVec 32) : 0 ≤ wi x := Int.natCast_nonneg _
theorem wi_lt (x : BitVec 32) : wi x < 4294967296 := by
  have := x.isLt; unfold wi; omega
theorem ofInt_wi (x : BitVec 32) : BitVec.ofInt 32 (wi x) = x := by
  unfold wi; rw [BitVec.ofInt_natCast]; simp
theorem wrap_wi (x : BitVec 32) : IntKind.u32.wrap (x.toNat : Int) = wi x := by
  have := x.isLt; rw [IntKind.wrap_u32]; unfold wi; omega
theorem xor32 (a b : BitVec 32) : bits .xor .u32 (wi a) (wi b) = wi (a ^^^ b) := by
  show IntKind.u32.wrap ((BitVec.ofInt 32 (wi a) ^^^ BitVec.ofInt 32 (wi b)).toNat : Int) = _
  rw [ofInt_wi, ofInt_wi, wrap_wi]
theorem and32 (a b : BitVec 32) : bits .and .u32 (wi a) (wi b) = wi (a &&& b) := by
  show IntKind.u32.wrap ((BitVec.ofInt 32 (wi a) &&& BitVec.ofInt 32 (wi b)).toNat : Int) = _
  rw [ofInt_wi, ofInt_wi, wrap_wi]
theorem or32 (a b : BitVec 32) : bits .or .u32 (wi a) (wi b) = wi (a ||| b) := by
  show IntKind.u32.wrap ((BitVec.ofInt 32 (wi a) ||| BitVec.ofInt 32 (wi b)).toNat : Int) = _
  rw [ofInt_wi, ofInt_wi, wrap_wi]
theorem add32 (a b : BitVec 32) : IntKind.u32.wrap (wi a + wi b) = wi (a + b) := by
  rw [IntKind.wrap_u32]; unfold wi; rw [BitVec.toNat_add]; omega
theorem ofInt64 (a : BitVec 32) : (BitVec.ofInt 64 (wi a)).toNat = a.toNat := by
  have := a.isLt
  unfold wi; rw [BitVec.ofInt_natCast, BitVec.toNat_ofNat]; omega
theorem wrap64_wi (a : BitVec 32) : IntKind.i64.wrap (a.toNat : Int) = wi a := by
  have := a.isLt; rw [IntKind.wrap_i64]; unfold wi; omega
theorem xor64 (a b : BitVec 32) : bits .xor .i64 (wi a) (wi b) = wi (a ^^^ b) := by
  show IntKind.i64.wrap ((BitVec.ofInt 64 (wi a) ^^^ BitVec.ofInt 64 (wi b)).toNat : Int) = _
  rw [BitVec.toNat_xor, ofInt64, ofInt64, ← BitVec.toNat_xor, wrap64_wi]
theorem and64 (a b : BitVec 32) : bits .and .i64 (wi a) (wi b) = wi (a &&& b) := by
  show IntKind.i64.wrap ((BitVec.ofInt 64 (wi a) &&& BitVec.ofInt 64 (wi b)).toNat : Int) = _
  rw [BitVec.toNat_and, ofInt64, ofInt64, ← BitVec.toNat_and, wrap64_wi]
theorem not64 (a : BitVec 32) : 4294967295 - wi a = wi (~~~ a) := by
  have := a.isLt
  unfold wi; rw [BitVec.toNat_not]; omega
theorem add64 (a b : BitVec 32) : (wi a + wi b) % 4294967296 = wi (a + b) := by
  unfold wi; rw [BitVec.toNat_add]; omega
theorem add64' (a b : BitVec 32) (r : Int) : (wi a + wi b + r) % 4294967296 = (wi (a + b) + r) % 4294967296 := by
  unfold wi; rw [BitVec.toNat_add]; omega
/-- turned right, by less than 32 -/
def rotr (x : BitVec 32) (k : Nat) : BitVec 32 := x.rotateRight k
theorem rotr_eq (x : BitVec 32) (k : Nat) (h : k < 32) : rotr x k = (x >>> k ||| x <<< (32 - k)) := by
  unfold rotr BitVec.rotateRight BitVec.rotateRightAux
  rw [Nat.mod_eq_of_lt h]
theorem wi_shr (x : BitVec 32) (k : Nat) : wi (x >>> k) = wi x / 2 ^ k := by
  unfold wi
  rw [BitVec.toNat_ushiftRight, Nat.shiftRight_eq_div_pow]
  push_cast
  rfl
theorem wi_shl (x : BitVec 32) (k : Nat) : wi (x <<< k) = (wi x * 2 ^ k) % 4294967296 := by
  unfold wi
  rw [BitVec.toNat_shiftLeft, Nat.shiftLeft_eq, Int.natCast_emod, Int.natCast_mul, Int.natCast_pow]
  rfl
theorem wi_or (a b : BitVec 32) : wi (a ||| b) = ((a.toNat ||| b.toNat : Nat) : Int) := by unfold wi; rw [BitVec.toNat_or]
theorem rot32 (x : BitVec 32) (k : Nat) (_h0 : 0 < k) (h : k < 32) :
    bits .or .u32 (IntKind.u32.wrap (wi x * 2 ^ (32 - k))) (wi x / 2 ^ k) = wi (rotr x k) := by
  rw [IntKind.wrap_u32, ← wi_shl, ← wi_shr, or32, rotr_eq x k h, BitVec.or_comm]
theorem rot64 (x : BitVec 32) (k : Nat) (h0 : 0 < k) (h : k < 32) :
    (bits .or .i64 (wi x / 2 ^ k) (wrap64 (wi x * 2 ^ (32 - k)))).tmod 4294967296 = wi (rotr x k) := by
  have hx := x.isLt
  have hp : (2:Nat) ^ (32 - k) ≤ 2 ^ 31 := Nat.pow_le_pow_right (by decide) (by omega)
  have hm : x.toNat * 2 ^ (32 - k) < 2 ^ 32 * 2 ^ 31 := by
    have h1 : x.toNat * 2 ^ (32 - k) ≤ x.toNat * 2 ^ 31 := Nat.mul_le_mul_left _ hp
    omega
  have e1 : wrap64 (wi x * 2 ^ (32 - k)) = ((x.toNat * 2 ^ (32 - k) : Nat) : Int) := by
    have e : wi x * 2 ^ (32 - k) = ((x.toNat * 2 ^ (32 - k) : Nat) : Int) := by unfold wi; push_cast; rfl
    rw [e]; unfold wrap64; omega
  have e2 : wi x / 2 ^ k = ((x.toNat / 2 ^ k : Nat) : Int) := by unfold wi; push_cast; rfl
  have hd : x.toNat / 2 ^ k ≤ x.toNat := Nat.div_le_self _ _
  rw [e1, e2]
  have e3 : bits .or .i64 ((x.toNat / 2 ^ k : Nat) : Int) ((x.toNat * 2 ^ (32 - k) : Nat) : Int) = ((x.toNat / 2 ^ k ||| x.toNat * 2 ^ (32 - k) : Nat) : Int) := by
    have ho : x.toNat / 2 ^ k ||| x.toNat * 2 ^ (32 - k) < 2 ^ 63 := Nat.or_lt_two_pow (by omega) (by omega)
    show IntKind.i64.wrap ((BitVec.ofInt 64 _ ||| BitVec.ofInt 64 _).toNat : Int) = _
    rw [BitVec.toNat_or, BitVec.ofInt_natCast, BitVec.ofInt_natCast, BitVec.toNat_ofNat, BitVec.toNat_ofNat, Nat.mod_eq_of_lt (by omega), Nat.mod_eq_of_lt (by omega), IntKind.wrap_i64]
    omega
  rw [e3, rotr_eq x k h, wi_or, BitVec.toNat_ushiftRight, BitVec.toNat_shiftLeft, Nat.shiftRight_eq_div_pow, Nat.shiftLeft_eq]
  rw [Int.tmod_eq_emod_of_nonneg (Int.natCast_nonneg _)]
  have e4 : (x.toNat / 2 ^ k ||| x.toNat * 2 ^ (32 - k)) % 2 ^ 32 = (x.toNat / 2 ^ k ||| x.toNat * 2 ^ (32 - k) % 2 ^ 32) := by
    rw [Nat.or_mod_two_pow, Nat.mod_eq_of_lt (a := x.toNat / 2 ^ k) (by omega)]
  rw [← e4, Int.natCast_emod]
  rfl
theorem w64 (n : Int) (h0 : -9223372036854775808 ≤ n) (h1 : n < 9223372036854775808) : wrap64 n = n := by unfold wrap64; omega
theorem tmodw (n : Int) (h : 0 ≤ n) : n.tmod 4294967296 = n % 4294967296 := Int.tmod_eq_emod_of_nonneg h
theorem sum2 (a b : BitVec 32) : (wrap64 (wi a + wi b)).tmod 4294967296 = wi (a + b) := by
  have := wi_nn a; have := wi_nn b; have := wi_lt a; have := wi_lt b
  rw [w64 _ (by omega) (by omega), tmodw _ (by omega), add64]
theorem sum3 (a b c : BitVec 32) : (wrap64 (wrap64 (wi a + wi b) + wi c)).tmod 4294967296 = wi (a + b + c) := by
  have := wi_nn a; have := wi_nn b; have := wi_lt a; have := wi_lt b; have := wi_nn c; have := wi_lt c
  rw [w64 (wi a + wi b) (by omega) (by omega), w64 _ (by omega) (by omega), tmodw _ (by omega), add64', add64]
theorem sum4 (a b c d : BitVec 32) : (wrap64 (wrap64 (wrap64 (wi a + wi b) + wi c) + wi d)).tmod 4294967296 = wi (a + b + c + d) := by
  have := wi_nn a; have := wi_nn b; have := wi_lt a; have := wi_lt b; have := wi_nn c; have := wi_lt c; have := wi_nn d; have := wi_lt d
  rw [w64 (wi a + wi b) (by omega) (by omega), w64 (wi a + wi b + wi c) (by omega) (by omega), w64 _ (by omega) (by omega), tmodw _ (by omega)]
  rw [show wi a + wi b + wi c + wi d = wi a + wi b + (wi c + wi d) by omega, add64', ← Int.add_assoc, add64', add64]
theorem sum5 (a b c d e : BitVec 32) : (wrap64 (wrap64 (wrap64 (wrap64 (wi a + wi b) + wi c) + wi d) + wi e)).tmod 4294967296 = wi (a + b + c + d + e) := by
  have := wi_nn a; have := wi_nn b; have := wi_lt a; have := wi_lt b; have := wi_nn c; have := wi_lt c; have := wi_nn d; have := wi_lt d; have := wi_nn e; have := wi_lt e
  rw [w64 (wi a + wi b) (by omega) (by omega), w64 (wi a + wi b + wi c) (by omega) (by omega), w64 (wi a + wi b + wi c + wi d) (by omega) (by omega), w64 _ (by omega) (by omega), tmodw _ (by omega)]
  rw [show wi a + wi b + wi c + wi d + wi e = wi a + wi b + (wi c + wi d + wi e) by omega, add64', show wi (a + b) + (wi c + wi d + wi e) = wi (a + b) + wi c + (wi d + wi e) by omega, add64', ← Int.add_assoc, add64', add64]
theorem not64w (a : BitVec 32) : wrap64 (4294967295 - wi a) = wi (~~~ a) := by
  have := wi_nn a; have := wi_lt a
  rw [w64 _ (by omega) (by omega), not64]
theorem wi_ofNat (a : Nat) (h : a < 4294967296) : wi (BitVec.ofNat 32 a) = (a : Int) := by
  unfold wi; rw [BitVec.toNat_ofNat]; omega
theorem xorN (a b : Nat) (ha : a < 256) (hb : b < 256) : bits .xor .i64 (a : Int) (b : Int) = ((a ^^^ b : Nat) : Int) := by
  rw [← wi_ofNat a (by omega), ← wi_ofNat b (by omega), xor64]
  unfold wi
  rw [BitVec.toNat_xor, BitVec.toNat_ofNat, BitVec.toNat_ofNat, Nat.mod_eq_of_lt (by omega), Nat.mod_eq_of_lt (by omega)]
theorem xorN_lt (a b : Nat) (ha : a < 256) (hb : b < 256) : a ^^^ b < 256 := Nat.xor_lt_two_pow (n := 8) ha hb
theorem xor8 (a b : Nat) (ha : a < 256) (hb : b < 256) : bits .xor .u8 (a : Int) (b : Int) = ((a ^^^ b : Nat) : Int) := by
  have h := xorN_lt a b ha hb
  show IntKind.u8.wrap ((BitVec.ofInt 8 (a : Int) ^^^ BitVec.ofInt 8 (b : Int)).toNat : Int) = _
  rw [BitVec.toNat_xor, BitVec.ofInt_natCast, BitVec.ofInt_natCast, BitVec.toNat_ofNat, BitVec.toNat_ofNat, Nat.mod_eq_of_lt (by omega), Nat.mod_eq_of_lt (by omega), IntKind.wrap_u8]
  omega
theorem bits_u64_31 (k : Nat) (h0 : 0 < k) (h : k < 32) : bits .and .u64 (IntKind.u64.wrap (-(k : Int))) 31 = 32 - (k : Int) := by
  have : ∀ k : Fin 32, 0 < k.val → bits .and .u64 (IntKind.u64.wrap (-(k.val : Int))) 31 = 32 - (k.val : Int) := by decide
  exact this ⟨k, h⟩ h0
end Go.Proofs.YtkmkkmdpjliifaaGreatDoor
namespace Go.Proofs.YtkmkkmdpjliifaaGreatDoor
open Go.RowKit

theorem hide {p : Prop} (h : p) : Hid p := h
theorem unhide {p : Prop} (h : Hid p) : p := h
theorem below_drewN' {B : Nat} {a w : World} (h : Below B a w) (n : Nat) : Below B a (w.drewN n) := h.trans ⟨rfl, rfl, rfl, Nat.le_refl _, fun _ _ => rfl⟩

/-- Block g is a row of n cells, not frozen; f tells what they hold. -/
def Row (w : World) (g : Nat) (t : TypeId) (n : Nat) (f : Nat → Value) : Prop :=
  ∃ cs : Array Value, w.heap[g]? = some (.cells cs t (0, 0)) ∧ cs.size = n ∧ ∀ j, j < n → cs[j]? = some (f j)

section
variable {w : World} {g : Nat} {t : TypeId} {n : Nat} {f : Nat → Value}

theorem Row.lt (h : Row w g t n f) : g < w.heap.size := by
  obtain ⟨cs, h1, _⟩ := h
  rcases Nat.lt_or_ge g w.heap.size with h | h
  · exact h
  · rw [Array.getElem?_eq_none h] at h1; cases h1
theorem Row.cell (h : Row w g t n f) {j : Nat} (hj : j < n) : w.cell? ⟨g, j, none⟩ = some (f j) := by
  obtain ⟨cs, h1, h2, h3⟩ := h
  rw [cell_of_row w g j cs t _ h1]; exact h3 j hj
theorem Row.frozen (h : Row w g t n f) (j : Nat) : w.frozen? ⟨g, j, none⟩ = false := by
  obtain ⟨cs, h1, _, _⟩ := h
  exact frozen_of_row w g j cs t h1
theorem Row.congr (h : Row w g t n f) {f' : Nat → Value} (e : ∀ j, j < n → f j = f' j) : Row w g t n f' := by
  obtain ⟨cs, h1, h2, h3⟩ := h
  exact ⟨cs, h1, h2, fun j hj => by rw [h3 j hj, e j hj]⟩
theorem Row.set (h : Row w g t n f) (k : Nat) (v : Value) : Row (w.setCell ⟨g, k, none⟩ v) g t n (fun j => if j = k then v else f j) := by
  obtain ⟨cs, h1, h2, h3⟩ := h
  refine ⟨_, heap_setCell_same w g k cs t v h1, by simpa using h2, fun j hj => ?_⟩
  by_cases e : j = k
  · subst e; simp [h2, hj]
  · simp [e, h3 j hj, Ne.symm e]
theorem Row.other (h : Row w g t n f) {a : Addr} (hne : g ≠ a.block) (v : Value) : Row (w.setCell a v) g t n f := by
  obtain ⟨cs, h1, h2, h3⟩ := h
  exact ⟨cs, by rw [heap_setCell_other w a g v hne]; exact h1, h2, h3⟩
theorem Row.drewN (h : Row w g t n f) (q : Nat) : Row (w.drewN q) g t n f := h
theorem Row.drew (h : Row w g t n f) : Row w.drew g t n f := h
theorem Row.alloc (h : Row w g t n f) (o : Obj) : Row (w.alloc o) g t n f := by
  have hl := h.lt
  obtain ⟨cs, h1, h2, h3⟩ := h
  exact ⟨cs, by rw [Below.heap_alloc w o g hl]; exact h1, h2, h3⟩
theorem Row.below {w' : World} {B : Nat} (h : Row w g t n f) (hb : Below B w w') (hg : g < B) : Row w' g t n f := by
  obtain ⟨cs, h1, h2, h3⟩ := h
  exact ⟨cs, by rw [hb.block g hg]; exact h1, h2, h3⟩
theorem Row.new (w : World) (t : TypeId) (cs : Array Value) (f : Nat → Value) (n : Nat) (hn : cs.size = n) (hf : ∀ j, j < n → cs[j]? = some (f j)) : Row (w.alloc (.cells cs t)) w.heap.size t n f :=
  ⟨cs, heap_alloc_new w _, hn, hf⟩
/-- the cells as one array -/
def arrOf (n : Nat) (f : Nat → Value) : Array Value := (Array.range n).map f
theorem arrOf_size (n : Nat) (f : Nat → Value) : (arrOf n f).size = n := by simp [arrOf]
theorem arrOf_get (n : Nat) (f : Nat → Value) (j : Nat) (hj : j < n) : (arrOf n f)[j]? = some (f j) := by simp [arrOf, hj]
theorem Row.whole (h : Row w g t n f) : w.heap[g]? = some (.cells (arrOf n f) t (0, 0)) := by
  obtain ⟨cs, h1, h2, h3⟩ := h
  have : cs = arrOf n f := by
    apply Array.ext (by rw [h2, arrOf_size])
    intro i hi1 hi2
    have e1 := h3 i (by omega)
    have e2 := arrOf_get n f i (by omega)
    rw [Array.getElem?_eq_getElem hi1] at e1
    rw [Array.getElem?_eq_getElem hi2] at e2
    rw [Option.some.inj e1, Option.some.inj e2]
  rw [h1, this]
end
/-- n cells of block g from o on, none of them frozen; f tells what they hold. -/
def Cel (w : World) (g o n : Nat) (f : Nat → Value) : Prop := ∀ j, j < n → w.cell? ⟨g, o + j, none⟩ = some (f j) ∧ w.frozen? ⟨g, o + j, none⟩ = false
section
variable {w : World} {g o n : Nat} {f : Nat → Value}
theorem Cel.cell (h : Cel w g o n f) {j : Nat} (hj : j < n) : w.cell? ⟨g, o + j, none⟩ = some (f j) := (h j hj).1
theorem Cel.cell0 (h : Cel w g 0 n f) {j : Nat} (hj : j < n) : w.cell? ⟨g, j, none⟩ = some (f j) := by have := (h j hj).1; rwa [Nat.zero_add] at this
theorem Cel.frozen0 (h : Cel w g 0 n f) {j : Nat} (hj : j < n) : w.frozen? ⟨g, j, none⟩ = false := by have := (h j hj).2; rwa [Nat.zero_add] at this
theorem Cel.congr (h : Cel w g o n f) {f' : Nat → Value} (e : ∀ j, j < n → f j = f' j) : Cel w g o n f' := fun j hj => by rw [← e j hj]; exact h j hj
theorem Cel.set (h : Cel w g 0 n f) (k : Nat) (v : Value) : Cel (w.setCell ⟨g, k, none⟩ v) g 0 n (fun j => if j = k then v else f j) := fun j hj => by
  have h1 := h j hj
  rw [Nat.zero_add] at *
  refine ⟨?_, by rw [World.frozen?_setCell]; exact h1.2⟩
  show _ = some (if j = k then v else f j)
  by_cases e : j = k
  · subst e; rw [if_pos rfl]; exact World.cell?_setCell_same _ _ _ h1.1
  · rw [if_neg e, World.cell?_setCell_other]
    · exact h1.1
    · intro hh; injection hh with _ h2; exact e h2.symm
theorem Cel.other (h : Cel w g o n f) {a : Addr} (hne : g ≠ a.block) (v : Value) : Cel (w.setCell a v) g o n f := fun j hj => by
  have h1 := h j hj
  refine ⟨?_, by rw [World.frozen?_setCell]; exact h1.2⟩
  rw [World.cell?_setCell_other]
  · exact h1.1
  · intro hh; subst hh; exact hne rfl
theorem Cel.drewN (h : Cel w g o n f) (q : Nat) : Cel (w.drewN q) g o n f := h
theorem Cel.below {w' : World} {B : Nat} (h : Cel w g o n f) (hb : Below B w w') (hg : g < B) : Cel w' g o n f := fun j hj =>
  ⟨(hb.cell (p := ⟨g, o + j, none⟩) hg).trans (h j hj).1, (hb.frozen (p := ⟨g, o + j, none⟩) hg).trans (h j hj).2⟩
theorem Cel.alloc (h : Cel w g o n f) (hg : g < w.heap.size) (ob : Obj) : Cel (w.alloc ob) g o n f := h.below ((Below.refl w.heap.size w).alloc (Nat.le_refl _) ob) hg
theorem Row.cel {t : TypeId} (h : Row w g t n f) : Cel w g 0 n f := fun j hj => by rw [Nat.zero_add]; exact ⟨h.cell hj, h.frozen j⟩
theorem ownsRow_cel {base : Nat} {e : TypeId} {v : Value} {xs : List Value} (h : w.ownsRow base e 1 v n xs) : n = 0 ∨ ∃ g cap, v = .slice (some ⟨g, 0, none⟩) n cap ∧ base ≤ g ∧ g < w.heap.size ∧ Cel w g 0 n (fun j => xs.getD j undef) := by
  obtain ⟨h1, h2⟩ := h
  rcases h2 with ⟨_, h2⟩ | ⟨g, cap, cur, hv, hg, hh, hc, hm, hs, ht⟩
  · exact Or.inl h2
  · refine Or.inr ⟨g, cap, hv, hg, ?_, fun j hj => ⟨?_, frozen_of_row w g _ cur e hh⟩⟩
    · rcases Nat.lt_or_ge g w.heap.size with h | h
      · exact h
      · rw [Array.getElem?_eq_none h] at hh; cases hh
    · rw [cell_of_row w g _ cur e _ hh, Nat.zero_add]
      have hx : xs[j]? = cur[j]? := by
        rw [← ht, List.getElem?_take_of_lt (by omega)]; simp
      have hj' : j < cur.size := by omega
      show _ = some (xs.getD j undef)
      rw [List.getD_eq_getElem?_getD, hx, Array.getElem?_eq_getElem hj']; rfl
end
theorem bcell {W w1 : World} (hb : Below W.heap.size W w1) : (∀ b o, b < W.heap.size → w1.cell? ⟨b, o, none⟩ = W.cell? ⟨b, o, none⟩) ∧ (∀ b o, b < W.heap.size → w1.frozen? ⟨b, o, none⟩ = W.frozen? ⟨b, o, none⟩) :=
  ⟨fun b o h => hb.cell (p := ⟨b, o, none⟩) h, fun b o h => hb.frozen (p := ⟨b, o, none⟩) h⟩
end Go.Proofs.YtkmkkmdpjliifaaGreatDoor
namespace Go.Proofs.YtkmkkmdpjliifaaGreatDoor
open Go.ChangeShapes Go.WideShapes Go.ChangeAt Go.RowKit

theorem ret_int {k : IntKind} {a b : Int} (h : a = b) : Ending.returned (.int k a) = .returned (.int k b) := by rw [h]

theorem info5 : (Tryz.prog.info? 5).map (fun i => (i.zero, i.size, i.bytes)) = some (some (.int .u8 0), 1, 1) := by kernel_rfl
theorem info3 : (Tryz.prog.info? 3).map (fun i => (i.zero, i.size, i.bytes)) = some (some (.int .i64 0), 1, 8) := by kernel_rfl
/-- n noughts -/
def zc (k : IntKind) (n : Nat) : Array Value := madeCells #[.int k 0] n
theorem zc_size (k : IntKind) (n : Nat) : (zc k n).size = n := by simp [zc, madeCells]
theorem zc_get (k : IntKind) (n j : Nat) (h : j < n) : (zc k n)[j]? = some (.int k 0) := by simp [zc, madeCells, h, Nat.mod_one]
theorem make8 (l c : Int) (h0 : 0 ≤ l) (hlc : l ≤ c) (hc : c ≤ 281474976710656) (u : World) : (Instr.makeSlice 110 (.int .i64 l) (.int .i64 c)).run Tryz.prog u =
    .ok (.slice (some ⟨u.heap.size, 0, none⟩) l.toNat c.toNat) (u.alloc (.cells (zc .u8 c.toNat) 5)) := by
  obtain ⟨i0, hi, hz0, hz1, hz2⟩ := info_parts info5
  have h := run_make (P := Tryz.prog) u 110 5 i0 (.int .u8 0) Tryz.underlying110 hi hz0 .i64 .i64 l c h0 hlc (by rw [hz2]; omega) (by omega)
  rw [hz1, Nat.mul_one] at h
  exact h
theorem make187 (l c : Int) (h0 : 0 ≤ l) (hlc : l ≤ c) (hc : c ≤ 35184372088832) (u : World) : (Instr.makeSlice 25 (.int .i64 l) (.int .i64 c)).run Tryz.prog u =
    .ok (.slice (some ⟨u.heap.size, 0, none⟩) l.toNat c.toNat) (u.alloc (.cells (zc .i64 c.toNat) 3)) := by
  obtain ⟨i0, hi, hz0, hz1, hz2⟩ := info_parts info3
  have h := run_make (P := Tryz.prog) u 25 3 i0 (.int .i64 0) Tryz.underlying25 hi hz0 .i64 .i64 l c h0 hlc (by rw [hz2]; omega) (by omega)
  rw [hz1, Nat.mul_one] at h
  exact h
theorem Row.zc (w : World) (k : IntKind) (n : Nat) (t : TypeId) : Row (w.alloc (.cells (zc k n) t)) w.heap.size t n (fun _ => .int k 0) :=
  Row.new w t _ _ n (zc_size k n) (fun j hj => zc_get k n j hj)

/-- n bytes -/
def bs (n : Nat) (f : Nat → Nat) : List UInt8 := (List.range n).map (fun j => UInt8.ofNat (f j))
theorem bs_length (n : Nat) (f : Nat → Nat) : (bs n f).length = n := by simp [bs]
/-- string(b[0:n]) -/
theorem conv8 {w : World} (b o n cap : Nat) (f : Nat → Nat) (h : ∀ i, i < n → w.cell? ⟨b, o + i, none⟩ = some (.int .u8 (f i : Int))) :
    (convert 110 9 (.slice (some ⟨b, o, none⟩) n cap)).run Tryz.prog w = .ok (.string ⟨(bs n f).toArray⟩) w := by
  have := run_convert_bytes_arg (P := Tryz.prog) w 110 5 Tryz.underlying110 Tryz.underlying5 b o n cap ((List.range n).map (fun j => (f j : Int))) (by simp)
    (fun i hi => by rw [h i hi]; simp [List.getD, hi]) 9 Tryz.underlying9
  have e : strOfNums ((List.range n).map (fun j => (f j : Int))) = ⟨(bs n f).toArray⟩ := by
    simp only [strOfNums, bs, List.map_map, Function.comp_def, Int.toNat_natCast]
  rw [this, e]

set_option maxHeartbeats 400000 in
theorem turnRight_any (x : BitVec 32) (k : Nat) (w : World) (h0 : 0 < k) (h1 : k < 32) :
    Calls Tryz.prog 219 #[.int .u32 (wi x), .int .i64 k] w fun e w' => e = .returned (.int .u32 (wi (rotr x k))) ∧ w' = w := by
  have hb := bits_u64_31 k h0 h1
  have hx := wi_nn x
  have hx' := wi_lt x
  go_enter Tryz.func219, Tryz.ntmps219
  go_wp2
  go_ret
  refine ⟨ret_int ?_, rfl⟩
  rw [← rot32 x k h0 h1, IntKind.wrap_u32, show 32 - (32 - k) = k by omega]

set_option maxHeartbeats 400000 in
theorem right_any (x : BitVec 32) (k : Nat) (w : World) (h0 : 0 < k) (h1 : k < 32) :
    Calls Tryz.prog 217 #[.int .i64 (wi x), .int .i64 k] w fun e w' => e = .returned (.int .i64 (wi (rotr x k))) ∧ ∃ n, w' = w.drewN n := by
  have hx := wi_nn x
  have hx' := wi_lt x
  go_enter Tryz.func217, Tryz.ntmps217
  go_wp2
  go_quiet (fail)
  go_wp2
  go_ret
  refine ⟨ret_int ?_, _, rfl⟩
  exact rot64 x k h0 h1

theorem turnThrice_any (x : BitVec 32) (a b c : Nat) (w : World) (a0 : 0 < a) (a1 : a < 32) (b0 : 0 < b) (b1 : b < 32) (c0 : 0 < c) (c1 : c < 32) :
    Calls Tryz.prog 198 #[.int .u32 (wi x), .int .i64 a, .int .i64 b, .int .i64 c] w fun e w' => e = .returned (.int .u32 (wi (rotr x a ^^^ rotr x b ^^^ rotr x c))) ∧ w' = w := by
  go_enter Tryz.func198, Tryz.ntmps198
  go_wp2_with (go_at_call 219; refine (turnRight_any _ _ _ (by assumption) (by assumption)).mono ?_; rintro e w' ⟨rfl, rfl⟩)
  go_ret
  refine ⟨ret_int ?_, rfl⟩
  rw [xor32, xor32]

theorem turnAndShift_any (x : BitVec 32) (a b c : Nat) (w : World) (a0 : 0 < a) (a1 : a < 32) (b0 : 0 < b) (b1 : b < 32) (c0 : 0 < c) (c1 : c < 32) :
    Calls Tryz.prog 218 #[.int .u32 (wi x), .int .i64 a, .int .i64 b, .int .i64 c] w fun e w' => e = .returned (.int .u32 (wi (rotr x a ^^^ rotr x b ^^^ x >>> c))) ∧ ∃ n, w' = w.drewN n := by
  have hx := wi_nn x
  have hx' := wi_lt x
  go_enter Tryz.func218, Tryz.ntmps218
  go_wp2
  go_quiet ((go_at_call 219; exact Calls.quiet_of_same (turnRight_any _ _ _ (by assumption) (by assumption))))
  go_wp2
  go_ret
  refine ⟨ret_int ?_, _, rfl⟩
  rw [xor32, ← wi_shr, xor32]
end Go.Proofs.YtkmkkmdpjliifaaGreatDoor
namespace Go.Proofs.YtkmkkmdpjliifaaGreatDoor

/-- the byte at a place (0 behind the end) -/
def by_ (l : List UInt8) (p : Nat) : Nat := (l.getD p 0).toNat
theorem by_lt (l : List UInt8) (p : Nat) : by_ l p < 256 := (l.getD p 0).toNat_lt
theorem by_get (s : ByteArray) (p : Nat) (h : p < s.size) : (s[p]'h).toNat = by_ s.data.toList p := by
  unfold by_
  have : s.data.toList.getD p 0 = s[p] := by
    rw [List.getD_eq_getElem?_getD, List.getElem?_eq_getElem (by simpa using h)]
    rfl
  rw [this]
/-- n bytes at p, the high one first -/
def num (l : List UInt8) (p : Nat) : Nat → Nat
  | 0 => 0
  | n + 1 => 256 * num l p n + by_ l (p + n)
theorem num_lt (l : List UInt8) (p : Nat) : ∀ n, num l p n < 256 ^ n
  | 0 => by simp [num]
  | n + 1 => by have := num_lt l p n; have := by_lt l (p + n); rw [num, Nat.pow_succ]; omega
def wordAt (l : List UInt8) (p : Nat) : BitVec 32 := BitVec.ofNat 32 (num l p 4)
theorem wi_wordAt (l : List UInt8) (p : Nat) : wi (wordAt l p) = (num l p 4 : Int) := by
  have := num_lt l p 4
  unfold wi wordAt; rw [BitVec.toNat_ofNat]; omega
/-- the four bytes of a word, the high one first -/
def b4 (x : BitVec 32) (j : Nat) : Nat := x.toNat / 256 ^ (3 - j) % 256
def b4s (x : BitVec 32) : List UInt8 := [UInt8.ofNat (b4 x 0), UInt8.ofNat (b4 x 1), UInt8.ofNat (b4 x 2), UInt8.ofNat (b4 x 3)]

theorem orN32 (x y : Nat) (hx : x < 4294967296) (hy : y < 4294967296) : bits .or .u32 (x : Int) (y : Int) = ((x ||| y : Nat) : Int) := by
  rw [← wi_ofNat x hx, ← wi_ofNat y hy, or32]
  unfold wi
  rw [BitVec.toNat_or, BitVec.toNat_ofNat, BitVec.toNat_ofNat, Nat.mod_eq_of_lt (by omega), Nat.mod_eq_of_lt (by omega)]
theorem or_add (x i y : Nat) (h : y < 2 ^ i) : 2 ^ i * x ||| y = 2 ^ i * x + y := (Nat.two_pow_add_eq_or_of_lt h x).symm
theorem word_or (l : List UInt8) (p : Nat) :
    bits .or .u32 (bits .or .u32 (bits .or .u32 ((by_ l p : Int) % 4294967296 * 16777216 % 4294967296) ((by_ l (p + 1) : Int) % 4294967296 * 65536 % 4294967296)) ((by_ l (p + 2) : Int) % 4294967296 * 256 % 4294967296)) ((by_ l (p + 3) : Int) % 4294967296) = wi (wordAt l p) := by
  rw [wi_wordAt]
  have h0 := by_lt l p
  have h1 := by_lt l (p + 1)
  have h2 := by_lt l (p + 2)
  have h3 := by_lt l (p + 3)
  simp only [num, Nat.add_zero, Nat.mul_zero, Nat.zero_add]
  generalize by_ l p = a at *
  generalize by_ l (p + 1) = b at *
  generalize by_ l (p + 2) = c at *
  generalize by_ l (p + 3) = d at *
  rw [show (a : Int) % 4294967296 * 16777216 % 4294967296 = ((2 ^ 24 * a : Nat) : Int) by omega, show (b : Int) % 4294967296 * 65536 % 4294967296 = ((2 ^ 16 * b : Nat) : Int) by omega,
    show (c : Int) % 4294967296 * 256 % 4294967296 = ((2 ^ 8 * c : Nat) : Int) by omega, show (d : Int) % 4294967296 = (d : Int) by omega]
  rw [orN32 _ _ (by omega) (by omega), or_add a 24 _ (by omega), show 2 ^ 24 * a + 2 ^ 16 * b = 2 ^ 16 * (256 * a + b) by omega]
  rw [orN32 _ _ (by omega) (by omega), or_add _ 16 _ (by omega), show 2 ^ 16 * (256 * a + b) + 2 ^ 8 * c = 2 ^ 8 * (256 * (256 * a + b) + c) by omega]
  rw [orN32 _ _ (by omega) (by omega), or_add _ 8 _ (by omega)]
/-- s and the three turns of the document -/
def sg (x : BitVec 32) (a b c : Nat) : BitVec 32 := rotr x a ^^^ rotr x b ^^^ x >>> c
def sg3 (x : BitVec 32) (a b c : Nat) : BitVec 32 := rotr x a ^^^ rotr x b ^^^ rotr x c
def wext (f : Nat → BitVec 32) (t : Nat) : BitVec 32 := f (t - 16) + sg (f (t - 15)) 7 18 3 + f (t - 7) + sg (f (t - 2)) 17 19 10
/-- the words of a block, 16 and n of them -/
def Wk (l : List UInt8) : Nat → Nat → BitVec 32
  | 0 => fun t => wordAt l (4 * t)
  | n + 1 => fun t => if t = 16 + n then wext (Wk l n) t else Wk l n t
structure S8 where
  a : BitVec 32
  b : BitVec 32
  c : BitVec 32
  d : BitVec 32
  e : BitVec 32
  f : BitVec 32
  g : BitVec 32
  h : BitVec 32
def tt (k w : BitVec 32) (s : S8) : BitVec 32 := s.h + sg3 s.e 6 11 25 + (s.e &&& s.f ^^^ ~~~ s.e &&& s.g) + k + w
def uu (s : S8) : BitVec 32 := sg3 s.a 2 13 22 + (s.a &&& s.b ^^^ s.a &&& s.c ^^^ s.b &&& s.c)
def rnd (k w : BitVec 32) (s : S8) : S8 := ⟨tt k w s + uu s, s.a, s.b, s.c, s.d + tt k w s, s.e, s.f, s.g⟩
def rounds (K W : Nat → BitVec 32) (s : S8) : Nat → S8
  | 0 => s
  | n + 1 => rnd (K n) (W n) (rounds K W s n)
def S8.at (s : S8) : Nat → BitVec 32
  | 0 => s.a
  | 1 => s.b
  | 2 => s.c
  | 3 => s.d
  | 4 => s.e
  | 5 => s.f
  | 6 => s.g
  | _ => s.h
theorem S8.cells (s : S8) (F : BitVec 32 → Go.Value) (j : Nat) (hj : j < 8) : #[F s.a, F s.b, F s.c, F s.d, F s.e, F s.f, F s.g, F s.h][j]? = some (F (s.at j)) := by
  have : j = 0 ∨ j = 1 ∨ j = 2 ∨ j = 3 ∨ j = 4 ∨ j = 5 ∨ j = 6 ∨ j = 7 := by omega
  rcases this with rfl | rfl | rfl | rfl | rfl | rfl | rfl | rfl <;> rfl
def S8.of (h : Nat → BitVec 32) : S8 := ⟨h 0, h 1, h 2, h 3, h 4, h 5, h 6, h 7⟩
/-- one block more -/
def blk (K : Nat → BitVec 32) (h : Nat → BitVec 32) (l : List UInt8) (j : Nat) : BitVec 32 := h j + (rounds K (Wk l 48) (S8.of h) 64).at j
end Go.Proofs.YtkmkkmdpjliifaaGreatDoor
namespace Go.Proofs.YtkmkkmdpjliifaaGreatDoor
open Go.ChangeShapes Go.WideShapes Go.ChangeAt Go.RowKit

theorem mixed_any (x : BitVec 32) (a b c : Nat) (w : World) (a0 : 0 < a) (a1 : a < 32) (b0 : 0 < b) (b1 : b < 32) (c0 : 0 < c) (c1 : c < 32) :
    Calls Tryz.prog 195 #[.int .i64 (wi x), .int .i64 a, .int .i64 b, .int .i64 c] w fun e w' => e = .returned (.int .i64 (wi (sg x a b c))) ∧ ∃ n, w' = w.drewN n := by
  have hx := wi_nn x
  have hx' := wi_lt x
  go_enter Tryz.func195, Tryz.ntmps195
  go_wp2_with (go_at_call 217; refine (right_any _ _ _ (by assumption) (by assumption)).mono ?_; rintro e w' ⟨rfl, nq, rfl⟩)
  go_ret
  refine ⟨ret_int ?_, _, rfl⟩
  rw [xor64, ← wi_shr, xor64]; rfl
theorem turns_any (x : BitVec 32) (a b c : Nat) (w : World) (a0 : 0 < a) (a1 : a < 32) (b0 : 0 < b) (b1 : b < 32) (c0 : 0 < c) (c1 : c < 32) :
    Calls Tryz.prog 196 #[.int .i64 (wi x), .int .i64 a, .int .i64 b, .int .i64 c] w fun e w' => e = .returned (.int .i64 (wi (sg3 x a b c))) ∧ ∃ n, w' = w.drewN n := by
  go_enter Tryz.func196, Tryz.ntmps196
  go_wp2_with (go_at_call 217; refine (right_any _ _ _ (by assumption) (by assumption)).mono ?_; rintro e w' ⟨rfl, nq, rfl⟩)
  go_ret
  refine ⟨ret_int ?_, _, rfl⟩
  rw [xor64, xor64]; rfl

theorem mixed7 (x : BitVec 32) (w : World) :
    Calls Tryz.prog 195 #[.int .i64 (wi x), .int .i64 7, .int .i64 18, .int .i64 3] w fun e w' => e = .returned (.int .i64 (wi (sg x 7 18 3))) ∧ ∃ n, w' = w.drewN n :=
  mixed_any x 7 18 3 w (by decide) (by decide) (by decide) (by decide) (by decide) (by decide)
theorem mixed17 (x : BitVec 32) (w : World) :
    Calls Tryz.prog 195 #[.int .i64 (wi x), .int .i64 17, .int .i64 19, .int .i64 10] w fun e w' => e = .returned (.int .i64 (wi (sg x 17 19 10))) ∧ ∃ n, w' = w.drewN n :=
  mixed_any x 17 19 10 w (by decide) (by decide) (by decide) (by decide) (by decide) (by decide)
theorem turns6 (x : BitVec 32) (w : World) :
    Calls Tryz.prog 196 #[.int .i64 (wi x), .int .i64 6, .int .i64 11, .int .i64 25] w fun e w' => e = .returned (.int .i64 (wi (sg3 x 6 11 25))) ∧ ∃ n, w' = w.drewN n :=
  turns_any x 6 11 25 w (by decide) (by decide) (by decide) (by decide) (by decide) (by decide)
theorem turns2 (x : BitVec 32) (w : World) :
    Calls Tryz.prog 196 #[.int .i64 (wi x), .int .i64 2, .int .i64 13, .int .i64 22] w fun e w' => e = .returned (.int .i64 (wi (sg3 x 2 13 22))) ∧ ∃ n, w' = w.drewN n :=
  turns_any x 2 13 22 w (by decide) (by decide) (by decide) (by decide) (by decide) (by decide)
theorem shift7 (x : BitVec 32) (w : World) :
    Calls Tryz.prog 218 #[.int .u32 (wi x), .int .i64 7, .int .i64 18, .int .i64 3] w fun e w' => e = .returned (.int .u32 (wi (sg x 7 18 3))) ∧ ∃ n, w' = w.drewN n :=
  turnAndShift_any x 7 18 3 w (by decide) (by decide) (by decide) (by decide) (by decide) (by decide)
theorem shift17 (x : BitVec 32) (w : World) :
    Calls Tryz.prog 218 #[.int .u32 (wi x), .int .i64 17, .int .i64 19, .int .i64 10] w fun e w' => e = .returned (.int .u32 (wi (sg x 17 19 10))) ∧ ∃ n, w' = w.drewN n :=
  turnAndShift_any x 17 19 10 w (by decide) (by decide) (by decide) (by decide) (by decide) (by decide)
theorem thrice6 (x : BitVec 32) (w : World) :
    Calls Tryz.prog 198 #[.int .u32 (wi x), .int .i64 6, .int .i64 11, .int .i64 25] w fun e w' => e = .returned (.int .u32 (wi (sg3 x 6 11 25))) ∧ w' = w :=
  turnThrice_any x 6 11 25 w (by decide) (by decide) (by decide) (by decide) (by decide) (by decide)
theorem thrice2 (x : BitVec 32) (w : World) :
    Calls Tryz.prog 198 #[.int .u32 (wi x), .int .i64 2, .int .i64 13, .int .i64 22] w fun e w' => e = .returned (.int .u32 (wi (sg3 x 2 13 22))) ∧ w' = w :=
  turnThrice_any x 2 13 22 w (by decide) (by decide) (by decide) (by decide) (by decide) (by decide)

set_option maxHeartbeats 400000 in
theorem N_any (s : ByteArray) (a : Int) (w : World) (h0 : 0 ≤ a) (h1 : a + 4 ≤ s.size) (hs : s.size ≤ 4194304) :
    Calls Tryz.prog 194 #[.string s, .int .i64 a, .int .i64 4] w fun e w' => e = .returned (.int .i64 (wi (wordAt s.data.toList a.toNat))) ∧ w' = w := by
  obtain ⟨p, rfl⟩ := Int.eq_ofNat_of_zero_le h0
  rw [Int.toNat_natCast]
  go_enter Tryz.func194, Tryz.ntmps194
  go_wp2
  go_loop [7, 8] (fun v i => ∃ k : Nat, k ≤ 4 ∧ i = .int .i64 k ∧ v = .int .i64 (num s.data.toList p k)) (fun _ i => 4 - (intOf i).toNat)
  case atStart => exact ⟨0, by omega, rfl, rfl⟩
  case round =>
    obtain ⟨k, hk, rfl, rfl⟩ := hrel
    by_cases hlt : k < 4
    · have hn := num_lt s.data.toList p k
      have hn' : (256:Nat) ^ k ≤ 16777216 := Nat.le_trans (Nat.pow_le_pow_right (n := 256) (j := 3) (by decide) (by omega)) (by decide)
      have hn2 : num s.data.toList p k < 16777216 := by generalize 256 ^ k = y at hn hn'; omega
      have HN : Hid (num s.data.toList p k < 16777216) := hn2
      clear hn hn' hn2
      go_wp2
      go_round
      case rel =>
        refine ⟨k + 1, by omega, by go_num, ?_⟩
        have hn2 := HN.out
        have hpk : p + k < s.size := by omega
        have hb : (s[p + k]'hpk).toNat = by_ s.data.toList (p + k) := by_get s (p + k) hpk
        have hbl := by_lt s.data.toList (p + k)
        rw [hb, w64 (256 * (num s.data.toList p k : Int)) (by omega) (by omega), w64 (by_ s.data.toList (p + k) : Int) (by omega) (by omega), w64 _ (by omega) (by omega)]
        exact congrArg (Value.int .i64) (by rw [num]; omega)
      case measure => simp [intOf]; omega
    · go_wp2
      go_ret
      obtain rfl : k = 4 := by omega
      exact ⟨ret_int (wi_wordAt _ _).symm, rfl⟩

set_option maxHeartbeats 400000 in
theorem U_any (x : BitVec 32) (w : World) :
    Calls Tryz.prog 164 #[.int .i64 (wi x), .int .i64 4] w fun e w' => e = .returned (.string ⟨(b4s x).toArray⟩) ∧ Below w.heap.size w w' := by
  have hx := wi_nn x
  have hmk : ∀ u : World, (Instr.makeSlice 110 (.int .i64 4) (.int .i64 4)).run Tryz.prog u = .ok (.slice (some ⟨u.heap.size, 0, none⟩) 4 4) (u.alloc (.cells (zc .u8 4) 5)) := make8 4 4 (by decide) (by decide) (by decide)
  go_enter Tryz.func164, Tryz.ntmps164
  go_wp2
  go_loopw [6] (fun i wr => ∃ k : Nat, k ≤ 4 ∧ i = .int .i64 k ∧ Row wr w.heap.size 5 4 (fun j => .int .u8 (if j < k then (b4 x j : Int) else 0)) ∧ Below w.heap.size w wr) (fun i _ => 4 - (intOf i).toNat)
  case atStart => exact ⟨0, by omega, rfl, (Row.zc w .u8 4 5).congr (fun j hj => by simp), (Below.refl _ _).alloc (Nat.le_refl _) _⟩
  case round =>
    obtain ⟨k, hk, rfl, hR, hB⟩ := hrel
    have hfz := hR.frozen k
    by_cases hlt : k < 4
    · have hc := hR.cell hlt
      go_wp2
      go_roundw
      case rel =>
        refine ⟨k + 1, by omega, by go_num, (hR.set k _).congr (fun j hj => ?_), hB.setCell (Nat.le_refl _) _⟩
        have e : wi x / 2 ^ (8 * (3 - k)) % 256 = (b4 x k : Int) := by
          unfold b4 wi
          rw [show (2:Int) ^ (8 * (3 - k)) = ((256 ^ (3 - k) : Nat) : Int) by rw [Int.natCast_pow, Int.pow_mul]; rfl]
          omega
        by_cases e1 : j = k
        · subst e1; simp [e]
        · have e2 : (j < k + 1) ↔ j < k := by omega
          simp [e1, e2]
      case measure => simp [intOf]; omega
    · obtain rfl : k = 4 := by omega
      have hcv := conv8 (w := wr) w.heap.size 0 4 4 (b4 x) (fun i hi => by rw [Nat.zero_add, hR.cell hi]; simp [hi])
      go_wp2
      go_ret
      exact ⟨rfl, hB⟩
end Go.Proofs.YtkmkkmdpjliifaaGreatDoor
