import Derived.Test.YtkmkkmdpjliifaaGreatDoorSvM
import Derived.Test.YtkmkkmdpjliifaaGreatDoorSx
import Derived.Stop.BytesEq
import Derived.Laws.CopyRow
namespace Go.Proofs.YtkmkkmdpjliifaaGreatDoor
open Go.ChangeShapes Go.WideShapes Go.ChangeAt Go.RowKit

/-- the name in a token's head, and whether it is one -/
def kname (h : List UInt8) : List UInt8 := Lib.trimSuffix (Lib.trimPrefix h headL) [34, 125]
def knameB (h : List UInt8) : Bool := Lib.hasPrefix h headL && Lib.hasSuffix (Lib.trimPrefix h headL) [34, 125] && plainB (kname h)
theorem trimP_len (s p : List UInt8) : (Lib.trimPrefix s p).length ≤ s.length := by
  unfold Lib.trimPrefix
  split
  · simp
  · exact Nat.le_refl _
theorem trimS_len (s p : List UInt8) : (Lib.trimSuffix s p).length ≤ s.length := by
  unfold Lib.trimSuffix
  split
  · simp
  · exact Nat.le_refl _

set_option maxRecDepth 20000 in
set_option maxHeartbeats 1000000 in
theorem keyName_any (h : List UInt8) (w : World) (hl : h.length ≤ 9223372036854775807) :
    Calls Tryz.prog 180 #[.string ⟨h.toArray⟩] w fun e w' => e = .returned (.tuple #[.string ⟨(kname h).toArray⟩, .bool (knameB h)]) ∧ w' = w := by
  have C1 := hide (Tryz.cutPrefix ⟨h.toArray⟩ ⟨#[123, 34, 97, 108, 103, 34, 58, 34, 72, 83, 50, 53, 54, 34, 44, 34, 107, 105, 100, 34, 58, 34]⟩ w)
  obtain ⟨r, hr⟩ : ∃ r, Lib.trimPrefix h headL = r := ⟨_, rfl⟩
  obtain ⟨b1, hb1⟩ : ∃ b1, Lib.hasPrefix h headL = b1 := ⟨_, rfl⟩
  have hrl : r.length ≤ 9223372036854775807 := by rw [← hr]; exact Nat.le_trans (trimP_len _ _) hl
  have C1' : Hid (Calls Tryz.prog 209 #[.string ⟨h.toArray⟩, .string ⟨#[123, 34, 97, 108, 103, 34, 58, 34, 72, 83, 50, 53, 54, 34, 44, 34, 107, 105, 100, 34, 58, 34]⟩] w fun e w' => e = .returned (.tuple #[.string ⟨r.toArray⟩, .bool b1]) ∧ w' = w) := by
    rw [← hr, ← hb1]; exact unhide C1
  have C2 := hide (Tryz.cutSuffix ⟨r.toArray⟩ ⟨#[34, 125]⟩ w (by simpa [ByteArray.size] using hrl))
  obtain ⟨nm, hnm⟩ : ∃ nm, Lib.trimSuffix r [34, 125] = nm := ⟨_, rfl⟩
  obtain ⟨b2, hb2⟩ : ∃ b2, Lib.hasSuffix r [34, 125] = b2 := ⟨_, rfl⟩
  have C2' : Hid (Calls Tryz.prog 210 #[.string ⟨r.toArray⟩, .string ⟨#[34, 125]⟩] w fun e w' => e = .returned (.tuple #[.string ⟨nm.toArray⟩, .bool b2]) ∧ w' = w) := by
    rw [← hnm, ← hb2]; exact unhide C2
  have hnl : nm.length ≤ 9223372036854775807 := by rw [← hnm]; exact Nat.le_trans (trimS_len _ _) hrl
  have C3 := hide (IsPlain_any nm w hnl)
  have e1 : kname h = nm := by unfold kname; rw [hr, hnm]
  have e2 : knameB h = (b1 && b2 && plainB nm) := by unfold knameB; rw [hr, hb1, hb2, e1]
  rw [e1, e2]
  clear C1 C2 hr hb1 hnm hb2 hrl hnl e1 e2 hl
  go_enter Tryz.func180, Tryz.ntmps180
  go_wp2_with fail
  refine (unhide C1').mono ?_
  rintro e w1 ⟨rfl, rfl⟩
  go_wp2_with fail
  refine (unhide C2').mono ?_
  rintro e w2 ⟨rfl, rfl⟩
  cases b1 with
  | false =>
    go_wp2_with fail
    go_ret2
    exact ⟨rfl, rfl⟩
  | true =>
  cases b2 with
  | false =>
    go_wp2_with fail
    go_ret2
    exact ⟨rfl, rfl⟩
  | true =>
    go_wp2_with fail
    refine (unhide C3).mono ?_
    rintro e w3 ⟨rfl, rfl⟩
    go_wp2_with fail
    go_ret2
    exact ⟨rfl, rfl⟩
end Go.Proofs.YtkmkkmdpjliifaaGreatDoor
namespace Go.Proofs.YtkmkkmdpjliifaaGreatDoor
open Go.ChangeShapes Go.WideShapes Go.ChangeAt Go.RowKit
open Extern.Stop (cell)

/-- a guarded operation that is wanted -/
theorem wpList_want {P : Program} {ops : Array Oper} {Q : Exit → Act → World → Prop} {a : Act} {w : World} {rest : List Oper} {o : Oper} (hw : Region.wanted o (yielded ops a.tmps) = true) (h : wpList P ops Q ({ o with guard := none } :: rest) a w) : wpList P ops Q (o :: rest) a w := by
  unfold wpList at h ⊢
  rw [if_pos hw]
  rw [if_pos (by simp [Region.wanted])] at h
  exact h
/-- copy of a string's bytes into a row of 32 -/
theorem copy_str {w : World} {g : Nat} {t : TypeId} {f : Nat → Value} (l : List UInt8) (hRow : Row w g t 32 f) (ty : TypeId) :
    ∃ w', (Builtin.copy_ #[110, 9] ty #[.slice (some ⟨g, 0, none⟩) 32 32, .string ⟨l.toArray⟩]).run Tryz.prog w = .ok (goInt (Nat.min l.length 32)) w' ∧ Row w' g t 32 (fun j => if j < l.length then .int .u8 ((l.getD j 0).toNat : Int) else f j) ∧ w.grownBy w' (some g) ∧ w'.heap.size = w.heap.size := by
  obtain ⟨i, hi, _⟩ := Option.map_eq_some_iff.1 (show (Tryz.prog.info? 5).map (·.size) = some 1 by kernel_rfl)
  have hsz : (ByteArray.mk l.toArray).size = l.length := by simp [ByteArray.size]
  have hl : ((l.take (Nat.min l.length 32)).map fun x => Value.int .u8 (x.toNat : Int)).length = Nat.min l.length 32 := by
    rw [List.length_map, List.length_take]; exact Nat.min_eq_left (Nat.min_le_left _ _)
  have hst := run_storeCells_cells (P := Tryz.prog) g 0 ((l.take (Nat.min l.length 32)).map fun x => Value.int .u8 (x.toNat : Int)) 0 w (fun j hj => by
      rw [hl] at hj
      have : j < 32 := Nat.lt_of_lt_of_le hj (Nat.min_le_right _ _)
      simp [hRow.cell this]) (fun j hj => hRow.frozen _) (fun v hv => by
      obtain ⟨x, _, rfl⟩ := List.mem_map.1 hv
      rfl)
  simp only [Nat.add_zero] at hst
  refine ⟨_, ?_, (Row.setCells ((l.take (Nat.min l.length 32)).map fun x => Value.int .u8 (x.toNat : Int)) 0 w f hRow).congr (fun j hj => ?_), grown_setCells g _ 0 w, setCells_size g _ 0 w⟩
  · have ht : List.take (Nat.min l.length 32) (l.map fun x => Value.int .u8 (x.toNat : Int)) = (l.take (Nat.min l.length 32)).map fun x => Value.int .u8 (x.toNat : Int) := by rw [List.map_take]
    simp [Builtin.copy_, run_underlying Tryz.underlying110, Builtin.lenOf, Builtin.firstCells, sizeOf, typeInfo, hi, hsz]
    rw [ht, hst]
    rfl
  · rw [hl, Nat.zero_add, Nat.sub_zero]
    have hm : (0 ≤ j ∧ j < Nat.min l.length 32) ↔ j < l.length := by
      constructor
      · intro h; exact Nat.lt_of_lt_of_le h.2 (Nat.min_le_left _ _)
      · intro h; exact ⟨Nat.zero_le _, Nat.lt_min.2 ⟨h, hj⟩⟩
    by_cases e : j < l.length
    · rw [if_pos (hm.2 e), if_pos e]
      have e2 : j < Nat.min l.length 32 := (hm.2 e).2
      simp [List.getD, e, e2]
    · rw [if_neg (fun h => e (hm.1 h)), if_neg e]
theorem z32 : Array.replicate 32 (Value.int .u8 0) = #[Value.int .u8 0, Value.int .u8 0, Value.int .u8 0, Value.int .u8 0, Value.int .u8 0, Value.int .u8 0, Value.int .u8 0, Value.int .u8 0, Value.int .u8 0, Value.int .u8 0, Value.int .u8 0, Value.int .u8 0, Value.int .u8 0, Value.int .u8 0, Value.int .u8 0, Value.int .u8 0, Value.int .u8 0, Value.int .u8 0, Value.int .u8 0, Value.int .u8 0, Value.int .u8 0, Value.int .u8 0, Value.int .u8 0, Value.int .u8 0, Value.int .u8 0, Value.int .u8 0, Value.int .u8 0, Value.int .u8 0, Value.int .u8 0, Value.int .u8 0, Value.int .u8 0, Value.int .u8 0] := by simp [Array.replicate, List.replicate]
set_option maxRecDepth 20000 in
/-- two rows of 32 bytes, compared -/
theorem eql32 (l : List UInt8) (F : Nat → Nat) (hF : ∀ j, F j < 256) (hl : l.length = 32) (f : Nat → Value) (u : World) :
    (Op.equalIn 10000 105 (.agg (arrOf 32 (fun j => if j < l.length then .int .u8 ((l.getD j 0).toNat : Int) else f j))) (.agg (arrOf 32 (bf F)))).run Tryz.prog u = .ok (l == bs 32 F) u := by
  have e1 : arrOf 32 (fun j => if j < l.length then .int .u8 ((l.getD j 0).toNat : Int) else f j) = (l.map cell).toArray := arrOf_eq 32 _ _ (by simp [hl]) (fun j hj => by
    rw [if_pos (by omega)]
    simp [cell, List.getD, show j < l.length by omega])
  have e2 : arrOf 32 (bf F) = ((bs 32 F).map cell).toArray := arrOf_eq 32 _ _ (by simp [bs_length]) (fun j hj => by
    have := hF j
    simp [cell, bs, bf, hj]
    omega)
  rw [e1, e2]
  exact run_equalIn_bytes u 9998 105 5 32 Tryz.underlying105 Tryz.underlying5 (fun w => by
    obtain ⟨i, hi, hik⟩ := Option.map_eq_some_iff.1 (show (Tryz.prog.info? 5).map (·.size) = some 1 by kernel_rfl)
    simp [sizeOf, typeInfo, hi, hik]) l (bs 32 F) hl (bs_length _ _)

set_option maxRecDepth 20000 in
set_option maxHeartbeats 2000000 in
theorem isMac_any (l : List UInt8) (F : Nat → Nat) (hF : ∀ j, F j < 256) (w : World) :
    Calls Tryz.prog 182 #[.string ⟨l.toArray⟩, .agg (arrOf 32 (bf F))] w fun e w' => e = .returned (.bool (l == bs 32 F)) ∧ Below w.heap.size w w' := by
  obtain ⟨w1, hw1⟩ : ∃ w1, w1 = w.alloc (.cells (arrOf 32 (bf F)) 105) := ⟨_, rfl⟩
  have hs1 : w1.heap.size = w.heap.size + 1 := by rw [hw1]; simp
  have hb1 : Below w.heap.size w w1 := by rw [hw1]; exact (Below.refl _ _).alloc (Nat.le_refl _) _
  have hM1 : Row w1 w.heap.size 105 32 (bf F) := by rw [hw1]; exact Row.arr w 105 32 (bf F)
  obtain ⟨w2, hw2⟩ : ∃ w2, w2 = w1.alloc (.cells (Array.replicate 32 (.int .u8 0)) 105) := ⟨_, rfl⟩
  have hs2 : w2.heap.size = w.heap.size + 1 + 1 := by rw [hw2, ← hs1]; simp
  have hb2 : Below w.heap.size w w2 := by rw [hw2]; exact hb1.alloc (by omega) _
  have hM2 : Row w2 w.heap.size 105 32 (bf F) := by rw [hw2]; exact hM1.alloc _
  have hZ2 : Row w2 (w.heap.size + 1) 105 32 (fun _ => .int .u8 0) := by rw [hw2, ← hs1]; exact Row.new w1 105 (Array.replicate 32 (.int .u8 0)) _ 32 (by simp) (fun j hj => by simp [hj])
  obtain ⟨w3, hrun, hT3, hg3, hs3⟩ := copy_str l hZ2 3
  have hb3 : Below w.heap.size w w3 := hb2.grown hg3 (by omega) (fun k hk => by cases hk; omega)
  have hM3 : Row w3 w.heap.size 105 32 (bf F) := rowGrown hM2 hg3 (by simp)
  rw [hw2, hw1, z32] at hrun
  have HB3 := hide hb3
  clear hw1 hw2 hb1 hb2 hM1 hM2 hZ2 hg3 hb3
  by_cases hl : l.length = 32
  · have hq := eql32 l F hF hl (fun _ => .int .u8 0)
    have hlI : (l.length : Int) = 32 := by omega
    clear hl
    generalize (fun j => if j < l.length then Value.int .u8 ((l.getD j 0).toNat : Int) else .int .u8 0) = tf at hT3 hq
    generalize hbb : (l == bs 32 F) = bb at *
    go_enter Tryz.func182, Tryz.ntmps182
    go_wp2_with (first | (at_builtin; refine copyLaw rfl _ _ rfl rfl rfl hrun ?_) | (refine wpList_want rfl ?_; refine ldRow rfl 105 _ rfl rfl hT3 Tryz.underlying105 sz105 ?_) | (refine wpList_want rfl ?_; refine ldRow rfl 105 _ rfl rfl hM3 Tryz.underlying105 sz105 ?_))
    go_ret
    exact ⟨rfl, unhide HB3⟩
  · have hlI : ¬ (l.length : Int) = 32 := by omega
    have hne : (l == bs 32 F) = false := by
      rw [beq_eq_false_iff_ne]
      intro e
      exact hl (by rw [e]; exact bs_length _ _)
    rw [hne]
    go_enter Tryz.func182, Tryz.ntmps182
    go_wp2_with (at_builtin; refine copyLaw rfl _ _ rfl rfl rfl hrun ?_)
    go_ret
    exact ⟨rfl, unhide HB3⟩
end Go.Proofs.YtkmkkmdpjliifaaGreatDoor
