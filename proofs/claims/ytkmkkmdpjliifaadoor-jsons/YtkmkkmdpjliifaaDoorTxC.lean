import Derived.Test.YtkmkkmdpjliifaaDoorTxB
import Derived.Laws.IdiomStrings
namespace Go.Proofs.YtkmkkmdpjliifaaDoor
open Go.ChangeShapes Go.WideShapes Go.ChangeAt Go.RowKit

/-- the text, a byte 80 and k noughts -/
def padTo (s : ByteArray) (k : Nat) : ByteArray := ⟨(s.data.toList ++ 128 :: List.replicate k 0).toArray⟩
theorem padTo_size (s : ByteArray) (k : Nat) : (padTo s k).size = s.size + 1 + k := by
  show (s.data.toList ++ 128 :: List.replicate k 0).toArray.size = _
  rw [List.size_toArray, List.length_append, List.length_cons, List.length_replicate, Array.length_toList]
  show s.data.size + _ = s.data.size + 1 + k
  omega
theorem ba_append (a b : ByteArray) : a ++ b = ⟨(a.data.toList ++ b.data.toList).toArray⟩ := by
  apply ByteArray.ext; simp
theorem padTo_zero (s : ByteArray) : s ++ ⟨#[128]⟩ = padTo s 0 := by
  rw [ba_append]; simp [padTo]
theorem padTo_succ (s : ByteArray) (k : Nat) : padTo s k ++ ⟨#[0]⟩ = padTo s (k + 1) := by
  rw [ba_append]; simp [padTo, List.replicate_succ']
/-- how many noughts -/
def zs (n : Nat) : Nat := (119 - n % 64) % 64
/-- the eight bytes of a length, in bits -/
def len8 (n : Nat) (j : Nat) : Nat := 8 * n / 256 ^ (7 - j) % 256
def padL (l : List UInt8) : List UInt8 := (l ++ 128 :: List.replicate (zs l.length) 0) ++ bs 8 (len8 l.length)
theorem zs_dec (n k : Nat) (h : k ≤ zs n) : ((n + 1 + k) % 64 = 56) ↔ k = zs n := by unfold zs at *; omega
theorem padL_length (l : List UInt8) : (padL l).length % 64 = 0 := by
  simp only [padL, List.length_append, List.length_cons, List.length_replicate, bs_length]
  unfold zs; omega

def strLen : Value → Nat | .string t => t.size | _ => 0

set_option maxHeartbeats 400000 in
theorem padded_any (s : ByteArray) (w : World) (hs : s.size ≤ 4194304) :
    Calls Tryd.prog 60 #[.string s] w fun e w' => e = .returned (.string ⟨(padL s.data.toList).toArray⟩) ∧ Below w.heap.size w w' := by
  have hadd0 : ∀ u, (Op.stringOp .add s ⟨#[128]⟩).run Tryd.prog u = .ok (.string (padTo s 0)) u := fun u => by
    rw [run_string_add_sum (w := u) _ _ (by have : (ByteArray.mk #[128]).size = 1 := rfl; omega), padTo_zero]
  have hmk : ∀ u : World, (Instr.makeSlice 33 (.int .i64 8) (.int .i64 8)).run Tryd.prog u = .ok (.slice (some ⟨u.heap.size, 0, none⟩) 8 8) (u.alloc (.cells (zc .u8 8) 5)) := make8 8 8 (by decide) (by decide) (by decide)
  go_enter Tryd.func60, Tryd.ntmps60
  go_wp2
  go_loop [4] (fun o => ∃ k : Nat, k ≤ zs s.size ∧ o = .string (padTo s k)) (fun o => zs s.size + s.size + 1 - strLen o)
  case atStart => exact ⟨0, by omega, rfl⟩
  case round =>
    obtain ⟨k, hk, rfl⟩ := hrel
    have hsz := padTo_size s k
    have hz : zs s.size < 64 := by unfold zs; omega
    by_cases hlt : k = zs s.size
    · have hm : (((s.size : Int) + 1 + k) % 64 != 56) = false := by
        have := (zs_dec s.size k hk).2 hlt
        simp only [bne_eq_false_iff_eq]; omega
      have hadd2 : ∀ u, (Op.stringOp .add (padTo s k) ⟨(bs 8 (len8 s.size)).toArray⟩).run Tryd.prog u = .ok (.string ⟨(padL s.data.toList).toArray⟩) u := fun u => by
        have h8 : (ByteArray.mk (bs 8 (len8 s.size)).toArray).size = 8 := rfl
        rw [run_string_add_sum (w := u) _ _ (by omega)]
        have : padTo s k ++ ⟨(bs 8 (len8 s.size)).toArray⟩ = ⟨(padL s.data.toList).toArray⟩ := by
          rw [ba_append]; subst hlt; rfl
        rw [this]
      have HK : Hid (k = zs s.size) := hlt
      clear hlt
      go_wp2
      go_loopw [6] (fun i wr => ∃ m : Nat, m ≤ 8 ∧ i = .int .i64 m ∧ Row wr w.heap.size 5 8 (fun j => .int .u8 (if j < m then (len8 s.size j : Int) else 0)) ∧ Below w.heap.size w wr) (fun i _ => 8 - (intOf i).toNat)
      case atStart => exact ⟨0, by omega, rfl, (Row.zc w .u8 8 5).congr (fun j hj => by simp), (Below.refl _ _).alloc (Nat.le_refl _) _⟩
      case round =>
        obtain ⟨m, hm8, rfl, hR, hB⟩ := hrel
        have hfz := hR.frozen m
        by_cases hlt : m < 8
        · have hc := hR.cell hlt
          go_wp2
          go_roundw
          case rel =>
            refine ⟨m + 1, by omega, by go_num, (hR.set m _).congr (fun j hj => ?_), hB.setCell (Nat.le_refl _) _⟩
            have e : 8 * (s.size : Int) / 2 ^ (56 - 8 * m) % 256 = (len8 s.size m : Int) := by
              unfold len8
              rw [show (2:Int) ^ (56 - 8 * m) = ((256 ^ (7 - m) : Nat) : Int) by rw [Int.natCast_pow, show 56 - 8 * m = 8 * (7 - m) by omega, Int.pow_mul]; rfl, show (8 * (s.size : Int)) = ((8 * s.size : Nat) : Int) by omega]
              omega
            by_cases e1 : j = m
            · subst e1; simp [e]
            · have e2 : (j < m + 1) ↔ j < m := by omega
              simp [e1, e2]
          case measure => simp [intOf]; omega
        · obtain rfl : m = 8 := by omega
          have hcv := conv8 (w := wr) w.heap.size 0 8 8 (len8 s.size) (fun i hi => by rw [Nat.zero_add, hR.cell hi]; simp [hi])
          go_wp2
          go_ret
          exact ⟨rfl, hB⟩
    · have hadd : ∀ u, (Op.stringOp .add (padTo s k) ⟨#[0]⟩).run Tryd.prog u = .ok (.string (padTo s (k+1))) u := fun u => by
        rw [run_string_add_sum (w := u) _ _ (by have : (ByteArray.mk #[0]).size = 1 := rfl; omega), padTo_succ]
      have hm : (((s.size : Int) + 1 + k) % 64 != 56) = true := by
        have := mt (zs_dec s.size k hk).1 hlt
        rw [bne_iff_ne]; omega
      go_wp2
      go_round
      case rel => exact ⟨k + 1, by omega, rfl⟩
      case measure => simp [strLen, padTo_size]; omega

/-- []byte(s): what it makes -/
def capB (w : World) (s : ByteArray) : Nat := grownCap w s.size 0 5
def wB (w : World) (s : ByteArray) : World := w.drew.alloc (.cells (bytesRow s (capB w s)) 5 ((bytesRow s (capB w s)).size, (bytesRow s (capB w s)).size + 1))
theorem toB (s : ByteArray) (w : World) : (convert 9 33 (.string s)).run Tryd.prog w = .ok (.slice (some ⟨w.heap.size, 0, none⟩) s.size (capB w s)) (wB w s) :=
  run_bytes_of_string w 9 33 5 s Tryd.underlying9 Tryd.underlying33 Tryd.underlying5
theorem wB_below (w : World) (s : ByteArray) : Below w.heap.size w (wB w s) := (Below.refl w.heap.size w).drew.alloc (Nat.le_refl _) _
theorem wB_size (w : World) (s : ByteArray) : (wB w s).heap.size = w.heap.size + 1 := by
  show (w.heap.push _).size = _
  simp
theorem wB_cel (w : World) (s : ByteArray) : Cel (wB w s) w.heap.size 0 s.size (fun j => .int .u8 (by_ s.data.toList j)) := fun j hj => by
  rw [Nat.zero_add]
  have hj' : j < s.data.size := hj
  have hsz : s.data.size ≤ (bytesRow s (capB w s)).size := by simp [bytesRow]
  refine ⟨?_, ?_⟩
  · have := World.cell?_alloc_mark w.drew (bytesRow s (capB w s)) 5 ((bytesRow s (capB w s)).size, (bytesRow s (capB w s)).size + 1) j
    have h2 := bytesRow_at s (capB w s) j hj'
    refine this.trans (h2.trans ?_)
    have h3 : s.data[j].toNat = by_ s.data.toList j := by_get s j hj
    rw [h3]
  · have := World.frozen?_alloc_mark w.drew (bytesRow s (capB w s)) 5 (bytesRow s (capB w s)).size ((bytesRow s (capB w s)).size + 1) j
    refine this.trans ?_
    simp only [Bool.and_eq_false_iff, decide_eq_false_iff_not]
    exact Or.inl (by omega)

set_option maxHeartbeats 400000 in
theorem turnedR_any (s : ByteArray) (m : Nat) (w : World) (hs : s.size = 64) (hm : m < 256) :
    Calls Tryd.prog 29 #[.string s, .int .i64 m] w fun e w' => e = .returned (.string ⟨(bs 64 (fun j => by_ s.data.toList j ^^^ m)).toArray⟩) ∧ Below w.heap.size w w' := by
  have hcv := toB s
  go_enter Tryd.func29, Tryd.ntmps29
  go_wp2
  go_loopw [6] (fun i wr => ∃ k : Nat, k ≤ 64 ∧ i = .int .i64 k ∧ Cel wr w.heap.size 0 64 (fun j => .int .u8 (if j < k then ((by_ s.data.toList j ^^^ m : Nat) : Int) else by_ s.data.toList j)) ∧ Below w.heap.size w wr) (fun i _ => 64 - (intOf i).toNat)
  case atStart =>
    have h1 := wB_cel w s
    rw [hs] at h1
    exact ⟨0, by omega, rfl, h1.congr (fun j hj => by simp), wB_below w s⟩
  case round =>
    obtain ⟨k, hk, rfl, hR, hB⟩ := hrel
    by_cases hlt : k < 64
    · have hc := hR.cell0 hlt
      have hfz := hR.frozen0 hlt
      simp only [Nat.lt_irrefl, if_false] at hc
      go_wp2
      go_roundw
      case rel =>
        refine ⟨k + 1, by omega, by go_num, (hR.set k _).congr (fun j hj => ?_), hB.setCell (Nat.le_refl _) _⟩
        have hb := by_lt s.data.toList k
        have hx := xorN_lt _ m hb hm
        have e : bits BinOp.xor IntKind.i64 (wrap64 (by_ s.data.toList k : Int)) (m : Int) % 256 = ((by_ s.data.toList k ^^^ m : Nat) : Int) := by
          rw [w64 _ (by omega) (by omega), xorN _ _ hb hm]; omega
        by_cases e1 : j = k
        · subst e1; simp only [e, if_true, Nat.lt_succ_self]
        · have e2 : (j < k + 1) ↔ j < k := by omega
          simp only [e1, e2, if_false]
      case measure => simp [intOf]; omega
    · obtain rfl : k = 64 := by omega
      have hcv := conv8 (w := wr) w.heap.size 0 64 (capB w s) (fun j => by_ s.data.toList j ^^^ m) (fun i hi => by rw [Nat.zero_add, hR.cell0 hi]; simp [hi])
      go_wp2
      go_ret
      exact ⟨rfl, hB⟩
end Go.Proofs.YtkmkkmdpjliifaaDoor
