import Derived.Test.YtkmkkmdpjliifaaDoorTxN
namespace Go.Proofs.YtkmkkmdpjliifaaDoor
open Go.ChangeShapes Go.WideShapes Go.ChangeAt Go.RowKit

set_option maxRecDepth 20000 in
set_option maxHeartbeats 1000000 in
theorem turned_any (f : Nat → Nat) (m : Nat) (w : World) (hf : ∀ j, j < 64 → f j < 256) (hm : m < 256) :
    Calls Tryd.prog 59 #[.agg (arrOf 64 (bf f)), .int .u8 (m : Int)] w fun e w' => e = .returned (.string ⟨(bs 64 (fun j => f j ^^^ m)).toArray⟩) ∧ Below w.heap.size w w' := by
  have HF := hide hf
  clear hf
  go_enter Tryd.func59, Tryd.ntmps59
  go_wp2
  go_loopg [6] 64 (fun q i wr => ∃ k : Nat, k + q = 64 ∧ i = .int .i64 k ∧ Row wr w.heap.size 87 64 (fun j => .int .u8 (if j < k then ((f j ^^^ m : Nat) : Int) else f j)) ∧ Below w.heap.size w wr)
  case atStart => exact ⟨0, rfl, rfl, (Row.arr w 87 64 (bf f)).congr (fun j hj => by rw [if_neg (by omega)]; rfl), (Below.refl _ _).alloc (Nat.le_refl _) _⟩
  case round =>
    obtain ⟨k, hk, rfl, hR, hB⟩ := hrel
    by_cases hlt : k < 64
    · have hc := hR.cell hlt
      have hfz := hR.frozen k
      simp only [Nat.lt_irrefl, if_false] at hc
      go_wp2
      go_roundg (gk - 1)
      case measure => omega
      case rel =>
        refine ⟨k + 1, by omega, by go_num, (hR.set k _).congr (fun j hj => ?_), hB.setCell (Nat.le_refl _) _⟩
        rw [xor8 _ _ (unhide HF k hlt) hm]
        by_cases e1 : j = k
        · subst e1; simp only [if_true, Nat.lt_succ_self]
        · have e2 : (j < k + 1) ↔ j < k := by omega
          simp only [e1, e2, if_false]
    · obtain rfl : k = 64 := by omega
      clear hlt
      have hcv := conv8 (w := wr) w.heap.size 0 64 64 (fun j => f j ^^^ m) (fun i hi => by rw [Nat.zero_add, hR.cell hi]; simp [hi])
      go_wp2
      go_ret
      exact ⟨rfl, hB⟩

theorem byteCells_getD (str : ByteArray) (j : Nat) (hj : j < str.size) : (byteCells str).getD j undef = .int .u8 (by_ str.data.toList j : Nat) := by
  have h2 : j < str.data.toList.length := by rw [Array.length_toList]; exact hj
  unfold byteCells by_
  rw [List.getD_eq_getElem?_getD, List.getElem?_map, List.getElem?_eq_getElem h2, List.getD_eq_getElem?_getD, List.getElem?_eq_getElem h2]; rfl
/-- copy(b, s) -/
theorem copyStr {w : World} {ops : Array Oper} {rest : List Oper} {o : Oper} {a : Act} {Q : Exit → Act → World → Prop} (hgd : o.guard = none) (d s : Operand)
    (ho : o.op = .call { callee := .builtin .copy, args := #[d, s], argTypes := #[33, 9] }) {g n cap : Nat} {f : Nat → Value} {t : TypeId} {str : ByteArray} (hd : a.eval d = .slice (some ⟨g, 0, none⟩) n cap) (hs : a.eval s = .string str)
    (hRow : Row w g t n f) (hlen : str.size ≤ n)
    (h : ∀ w', Row w' g t n (fun j => if j < str.size then .int .u8 (by_ str.data.toList j : Nat) else f j) → w.grownBy w' (some g) → wpList Tryd.prog ops Q rest (a.put o.dst (goInt str.size)) w') : wpList Tryd.prog ops Q (o :: rest) a w := by
  obtain ⟨i0, hi, hz0, hz1, hz2⟩ := info_parts info5
  have hbl := byteCells_length str
  have hst := run_storeCells_cells (P := Tryd.prog) g 0 (byteCells str) 0 w (fun j hj => by simp [hRow.cell (show j < n by omega)]) (fun j hj => hRow.frozen _) (fun v hv => by
    obtain ⟨_, _, rfl⟩ := List.mem_map.1 hv
    rfl)
  have hfc := firstCells_string (P := Tryd.prog) str w
  have hrun : (Builtin.copy_ #[33, 9] o.type #[.slice (some ⟨g, 0, none⟩) n cap, .string str]).run Tryd.prog w = .ok (goInt str.size) (w.setCells g 0 (byteCells str)) := by
    have hmin : Nat.min str.size n = str.size := Nat.min_eq_left hlen
    simp only [Nat.add_zero] at hst
    simp [Builtin.copy_, run_underlying Tryd.underlying33, Builtin.lenOf, sizeOf, typeInfo, hi, hz1, hmin, hfc, hst]
  refine wpList_plain hgd fun K hK' => ?_
  unfold Oper.wp
  simp [execOp, ho, resolve, invoke, builtin, hd, hs, hrun, Result.andThen]
  refine hK' _ _ (h _ ((Row.setCells (byteCells str) 0 w f hRow).congr (fun j hj => ?_)) (grown_setCells g _ 0 w))
  rw [hbl, Nat.zero_add, Nat.sub_zero]
  by_cases e : j < str.size
  · rw [if_pos ⟨Nat.zero_le _, e⟩, byteCells_getD str j e, if_pos e]
  · rw [if_neg (fun h => e h.2), if_neg e]
/-- copy(b, c), c an array's -/
theorem copyRow {w : World} {g g2 n cap m cap2 : Nat} {t t2 : TypeId} {f f2 : Nat → Value} (hRow : Row w g t n f) (hRow2 : Row w g2 t2 m f2) (hle : m ≤ n) (h1 : ∀ j, j < m → (f2 j).oneCell' = true) (ty : TypeId) :
    ∃ w', (Builtin.copy_ #[33, 33] ty #[.slice (some ⟨g, 0, none⟩) n cap, .slice (some ⟨g2, 0, none⟩) m cap2]).run Tryd.prog w = .ok (goInt m) w' ∧ Row w' g t n (fun j => if j < m then f2 j else f j) ∧ w.grownBy w' (some g) := by
  have hal : (arrOf m f2).toList.length = m := by rw [Array.length_toList, arrOf_size]
  have hg : ∀ j, j < m → (arrOf m f2).toList[j]? = some (f2 j) := fun j hj => by rw [Array.getElem?_toList, arrOf_get m f2 j hj]
  have hrun := run_copy_cells (P := Tryd.prog) w 33 33 ty 5 g 0 n cap ⟨g2, 0, none⟩ m cap2 (arrOf m f2).toList Tryd.underlying33 (by kernel_rfl) (by rw [hal]; exact (Nat.min_eq_left hle).symm)
    (fun j v hv => by
      have hj : j < m := by
        rcases Nat.lt_or_ge j m with h | h
        · exact h
        · rw [List.getElem?_eq_none (by omega)] at hv; cases hv
      rw [hg j hj] at hv
      rw [← Option.some.inj hv, Addr.add_mid, Nat.zero_add]
      exact hRow2.cell hj)
    (fun j hj => by rw [Nat.zero_add, hRow.cell (by omega)]; rfl) (fun j hj => hRow.frozen _)
    (fun v hv => by
      obtain ⟨j, hj, rfl⟩ := List.mem_iff_getElem.1 hv
      have hj' : j < m := by omega
      have := hg j hj'
      rw [List.getElem?_eq_getElem hj] at this
      rw [Option.some.inj this]; exact h1 j hj')
  rw [hal] at hrun
  refine ⟨_, hrun, (Row.setCells (arrOf m f2).toList 0 w f hRow).congr (fun j hj => ?_), grown_setCells g _ 0 w⟩
  rw [hal, Nat.zero_add, Nat.sub_zero]
  by_cases e : j < m
  · rw [if_pos ⟨Nat.zero_le _, e⟩, if_pos e, List.getD_eq_getElem?_getD, hg j e]; rfl
  · rw [if_neg (fun h => e h.2), if_neg e]
theorem hashL (l : List UInt8) (w : World) (hs : l.length ≤ 4194304) (h0 : 0 < w.heap.size) (hK : Rd w 0 0 64 (fun j => .int .u32 (wi (K0 j)))) :
    Calls Tryd.prog 58 #[.string ⟨l.toArray⟩] w fun e w' => e = .returned (.agg (arrOf 32 (bf (shaF K0 H0 l)))) ∧ Below w.heap.size w w' :=
  hash_any ⟨l.toArray⟩ w hs h0 hK

set_option maxRecDepth 20000 in
set_option maxHeartbeats 1000000 in
theorem keyBlock_any (l : List UInt8) (w : World) (hl : l.length ≤ 2097152) (h0 : 0 < w.heap.size) (hK : Rd w 0 0 64 (fun j => .int .u32 (wi (K0 j)))) :
    Calls Tryd.prog 57 #[.string ⟨l.toArray⟩] w fun e w' => e = .returned (.agg (arrOf 64 (bf (by_ (keyL K0 H0 l))))) ∧ Below w.heap.size w w' := by
  have hsz : (ByteArray.mk l.toArray).size = l.length := by simp [ByteArray.size]
  have HSZ := hide hsz
  have hRa : ∀ o, Row ((w.alloc (.cells (Array.replicate 64 (.int .u8 0)) 87)).alloc o) w.heap.size 87 64 (fun _ => .int .u8 0) := fun o =>
    (Row.new w 87 (Array.replicate 64 (.int .u8 0)) _ 64 (by simp) (fun j hj => by simp [hj])).alloc _
  have hRb : Row ((w.alloc (.cells (Array.replicate 64 (.int .u8 0)) 87)).alloc (.cells (Array.replicate 64 (.int .u8 0)) 87)) (w.heap.size + 1) 87 64 (fun _ => .int .u8 0) := by
    have h := Row.new (w.alloc (.cells (Array.replicate 64 (.int .u8 0)) 87)) 87 (Array.replicate 64 (.int .u8 0)) (fun _ => .int .u8 0) 64 (by simp) (fun j hj => by simp [hj])
    rw [show (w.alloc (.cells (Array.replicate 64 (.int .u8 0)) 87)).heap.size = w.heap.size + 1 by simp] at h
    exact h
  clear hsz
  go_enter Tryd.func57, Tryd.ntmps57
  by_cases h64 : 64 < l.length
  · have hkl : keyL K0 H0 l = shaL K0 H0 l := by unfold keyL; rw [if_pos h64]
    have HK := hide hkl
    clear hkl
    have hK2 : ∀ o1 o2, Rd ((w.alloc o1).alloc o2) 0 0 64 (fun j => .int .u32 (wi (K0 j))) := fun o1 o2 => (hK.alloc h0 _).alloc (by simp) _
    go_wp2_with fail
    refine (hashL l _ (by omega) (by simp) (hK2 _ _)).mono ?_
    rintro e w1 ⟨rfl, hb1⟩
    have hs1 : w.heap.size + 2 ≤ w1.heap.size := by have := hb1.size; simp at this; omega
    have hR0 := (hRa (.cells (Array.replicate 64 (.int .u8 0)) 87)).below hb1 (by simp; omega)
    have hR1 := hRb.below hb1 (by simp)
    have hB1 : Below w.heap.size w w1 := (((Below.refl w.heap.size w).alloc (Nat.le_refl _) _).alloc (by simp) _).trans (hb1.mono (by simp; omega))
    clear hb1 hRa hRb hK2
    go_wp2_with (refine stRow rfl 26 _ _ rfl rfl rfl (Row.new w1 26 (Array.replicate 32 (.int .u8 0)) (fun _ => .int .u8 0) 32 (by simp) (fun j hj => by simp [hj])) sz26 (fun _ _ => rfl) ?_; intro w2 hS hg2)
    have hs2 := hg2.size
    simp at hs2
    have hR0' := (hR0.alloc _).grown hg2 (by simp; omega)
    have hR1' := (hR1.alloc _).grown hg2 (by simp; omega)
    have hB2 := (hB1.alloc (by omega) _).grown hg2 (by simp; omega) (fun k hk => by cases hk; omega)
    clear hR0 hR1 hB1 hg2
    obtain ⟨w3, hcp, hR3, hg3⟩ := copyRow (cap := 64) (cap2 := 32) hR1'.drew hS.drew (by decide) (fun _ _ => rfl) 3
    have hR0'' := hR0'.drew.grown hg3 (by simp)
    have hB3 := hB2.drew.grown hg3 (by have := hB2.size; exact this) (fun k hk => by cases hk; omega)
    have hR3' : Row w3 (w.heap.size + 1) 87 64 (bf (by_ (keyL K0 H0 l))) := hR3.congr (fun j hj => by
      unfold bf
      rw [unhide HK]
      unfold shaL by_ bs
      rw [List.getD_eq_getElem?_getD, List.getElem?_map]
      by_cases e : j < 32
      · rw [if_pos e, List.getElem?_range e]
        show _ = Value.int .u8 ((UInt8.ofNat (shaF K0 H0 l j)).toNat : Int)
        rw [UInt8.toNat_ofNat', Nat.mod_eq_of_lt]
        exact Nat.mod_lt _ (by decide)
      · rw [if_neg e, List.getElem?_eq_none (by simp; omega)]; rfl)
    clear hR3 hS hR0' hR1' hB2
    go_region
    go_wp2_with (first | (refine ldRow rfl 87 _ rfl rfl hR3' Tryd.underlying87 sz87 ?_) | (refine stRow rfl 87 _ _ rfl rfl rfl hR0'' sz87 (fun _ _ => rfl) ?_; intro w4 hR4 hg4))
    refine ret_row Tryd.results57 _ hR4 rfl Tryd.underlying87 (Or.inr ⟨_, _, rfl⟩) sz87 rfl ⟨rfl, ?_⟩
    exact hB3.grown hg4 hB3.size (fun k hk => by cases hk; exact Nat.le_refl _)
  · have hkl : keyL K0 H0 l = l := by unfold keyL; rw [if_neg h64]
    have HK := hide hkl
    clear hkl
    go_wp2_with (first | (refine copyStr rfl _ _ rfl rfl rfl hRb (by rw [unhide HSZ]; omega) ?_; intro w2 hR2 hg2; have hR0 := (hRa (.cells (Array.replicate 64 (.int .u8 0)) 87)).grown hg2 (by simp)) | (refine ldRow rfl 87 _ rfl rfl hR2 Tryd.underlying87 sz87 ?_) | (refine stRow rfl 87 _ _ rfl rfl rfl hR0 sz87 (fun j _ => by show Value.oneCell' (if _ then _ else _) = true; split <;> rfl) ?_; intro w4 hR4 hg4))
    refine ret_row Tryd.results57 _ hR4 rfl Tryd.underlying87 (Or.inr ⟨_, _, rfl⟩) sz87 rfl ⟨?_, ?_⟩
    · refine congrArg (fun c => Ending.returned (.agg c)) (arrOf_congr 64 (fun j hj => ?_))
      unfold bf
      rw [unhide HK, unhide HSZ]
      by_cases e : j < l.length
      · rw [if_pos e]
      · rw [if_neg e]
        unfold by_
        rw [List.getD_eq_getElem?_getD, List.getElem?_eq_none (by omega)]; rfl
    · have hs2 := hg2.size
      simp at hs2
      have hB2 : Below w.heap.size w w2 := (((Below.refl w.heap.size w).alloc (Nat.le_refl _) _).alloc (by simp) _).grown hg2 (by simp; omega) (fun k hk => by cases hk; omega)
      exact hB2.grown hg4 hB2.size (fun k hk => by cases hk; exact Nat.le_refl _)
end Go.Proofs.YtkmkkmdpjliifaaDoor
