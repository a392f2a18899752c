import Derived.Test.YtkmkkmdpjliifaaGreatDoorTxH
import Derived.Test.YtkmkkmdpjliifaaGreatDoorTxC
import Derived.BigRegion
import Derived.Deep.LoopGhost
import Derived.Deep.RegionWith
namespace Go.Proofs.YtkmkkmdpjliifaaGreatDoor
open Go.ChangeShapes Go.WideShapes Go.ChangeAt Go.RowKit

set_option maxRecDepth 20000 in
set_option maxHeartbeats 1000000 in
theorem turned_any (f : Nat → Nat) (m : Nat) (w : World) (hf : ∀ j, j < 64 → f j < 256) (hm : m < 256) :
    Calls Tryz.prog 133 #[.agg (arrOf 64 (bf f)), .int .u8 (m : Int)] w fun e w' => e = .returned (.string ⟨(bs 64 (fun j => f j ^^^ m)).toArray⟩) ∧ Below w.heap.size w w' := by
  have HF := hide hf
  clear hf
  go_enter Tryz.func133, Tryz.ntmps133
  go_wp2
  go_loopg [6] 64 (fun q i wr => ∃ k : Nat, k + q = 64 ∧ i = .int .i64 k ∧ Row wr w.heap.size 188 64 (fun j => .int .u8 (if j < k then ((f j ^^^ m : Nat) : Int) else f j)) ∧ Below w.heap.size w wr)
  case atStart => exact ⟨0, rfl, rfl, (Row.arr w 188 64 (bf f)).congr (fun j hj => by rw [if_neg (by omega)]; rfl), (Below.refl _ _).alloc (Nat.le_refl _) _⟩
  case round =>
    obtain ⟨k, hk, rfl, hR, hB⟩ := hrel
    by_cases hlt : k < 64
    · have hc := hR.cell hlt
      have hfz := hR.frozen k
      simp only [Nat.lt_irrefl, if_false] at hc
      go_wp2
      go_roundg (gk - 1)
      case measure => omega
      case rel =>
        refine ⟨k + 1, by omega, by go_num, (hR.set k _).congr (fun j hj => ?_), hB.setCell (Nat.le_refl _) _⟩
        rw [xor8 _ _ (unhide HF k hlt) hm]
        by_cases e1 : j = k
        · subst e1; simp only [if_true, Nat.lt_succ_self]
        · have e2 : (j < k + 1) ↔ j < k := by omega
          simp only [e1, e2, if_false]
    · obtain rfl : k = 64 := by omega
      clear hlt
      have hcv := conv8 (w := wr) w.heap.size 0 64 64 (fun j => f j ^^^ m) (fun i hi => by rw [Nat.zero_add, hR.cell hi]; simp [hi])
      go_wp2
      go_ret
      exact ⟨rfl, hB⟩

theorem byteCells_getD (str : ByteArray) (j : Nat) (hj : j < str.size) : (byteCells str).getD j undef = .int .u8 (by_ str.data.toList j : Nat) := by
  have h2 : j < str.data.toList.length := by rw [Array.length_toList]; exact hj
  unfold byteCells by_
  rw [List.getD_eq_getElem?_getD, List.getElem?_map, List.getElem?_eq_getElem h2, List.getD_eq_getElem?_getD, List.getElem?_eq_getElem h2]; rfl
/-- copy(b, s) -/
theorem copyStr {w : World} {ops : Array Oper} {rest : List Oper} {o : Oper} {a : Act} {Q : Exit → Act → World → Prop} (hgd : o.guard = none) (d s : Operand)
    (ho : o.op = .call { callee := .builtin .copy, args := #[d, s], argTypes := #[110, 9] }) {g n cap : Nat} {f : Nat → Value} {t : TypeId} {str : ByteArray} (hd : a.eval d = .slice (some ⟨g, 0, none⟩) n cap) (hs : a.eval s = .string str)
    (hRow : Row w g t n f) (hlen : str.size ≤ n)
    (h : ∀ w', Row w' g t n (fun j => if j < str.size then .int .u8 (by_ str.data.toList j : Nat) else f j) → w.grownBy w' (some g) → wpList Tryz.prog ops Q rest (a.put o.dst (goInt str.size)) w') : wpList Tryz.prog ops Q (o :: rest) a w := by
  obtain ⟨i0, hi, hz0, hz1, hz2⟩ := info_parts info5
  have hbl := byteCells_length str
  have hst := run_storeCells_cells (P := Tryz.prog) g 0 (byteCells str) 0 w (fun j hj => by simp [hRow.cell (show j < n by omega)]) (fun j hj => hRow.frozen _) (fun v hv => by
    obtain ⟨_, _, rfl⟩ := List.mem_map.1 hv
    rfl)
  have hfc := firstCells_string (P := Tryz.prog) str w
  have hrun : (Builtin.copy_ #[110, 9] o.type #[.slice (some ⟨g, 0, none⟩) n cap, .string str]).run Tryz.prog w = .ok (goInt str.size) (w.setCells g 0 (byteCells str)) := by
    have hmin : Nat.min str.size n = str.size := Nat.min_eq_left hlen
    simp only [Nat.add_zero] at hst
    simp [Builtin.copy_, run_underlying Tryz.underlying110, Builtin.lenOf, sizeOf, typeInfo, hi, hz1, hmin, hfc, hst]
  refine wpList_plain hgd fun K hK' => ?_
  unfold Oper.wp
  simp [execOp, ho, resolve, invoke, builtin, hd, hs, hrun, Result.andThen]
  refine hK' _ _ (h _ ((Row.setCells (byteCells str) 0 w f hRow).congr (fun j hj => ?_)) (grown_setCells g _ 0 w))
  rw [hbl, Nat.zero_add, Nat.sub_zero]
  by_cases e : j < str.size
  · rw [if_pos ⟨Nat.zero_le _, e⟩, byteCells_getD str j e, if_pos e]
  · rw [if_neg (fun h => e h.2), if_neg e]
/-- copy(b, c), c an array's -/
theorem copyRow {w : World} {g g2 n cap m cap2 : Nat} {t t2 : TypeId} {f f2 : Nat → Value} (hRow : Row w g t n f) (hRow2 : Row w g2 t2 m f2) (hle : m ≤ n) (h1 : ∀ j, j < m → (f2 j).oneCell' = true) (ty : TypeId) :
    ∃ w', (Builtin.copy_ #[110, 110] ty #[.slice (some ⟨g, 0, none⟩) n cap, .slice (some ⟨g2, 0, none⟩) m cap2]).run Tryz.prog w = .ok (goInt m) w' ∧ Row w' g t n (fun j => if j < m then f2 j else f j) ∧ w.grownBy w' (some g) := by
  have hal : (arrOf m f2).toList.length = m := by rw [Array.length_toList, arrOf_size]
  have hg : ∀ j, j < m → (arrOf m f2).toList[j]? = some (f2 j) := fun j hj => by rw [Array.getElem?_toList, arrOf_get m f2 j hj]
  have hrun := run_copy_cells (P := Tryz.prog) w 110 110 ty 5 g 0 n cap ⟨g2, 0, none⟩ m cap2 (arrOf m f2).toList Tryz.underlying110 (by kernel_rfl) (by rw [hal]; exact (Nat.min_eq_left hle).symm)
    (fun j v hv => by
      have hj : j < m := by
        rcases Nat.lt_or_ge j m with h | h
        · exact h
        · rw [List.getElem?_eq_none (by omega)] at hv; cases hv
      rw [hg j hj] at hv
      rw [← Option.some.inj hv, Addr.add_mid, Nat.zero_add]
      exact hRow2.cell hj)
    (fun j hj => by rw [Nat.zero_add, hRow.cell (by omega)]; rfl) (fun j hj => hRow.frozen _)
    (fun v hv => by
      obtain ⟨j, hj, rfl⟩ := List.mem_iff_getElem.1 hv
      have hj' : j < m := by omega
      have := hg j hj'
      rw [List.getElem?_eq_getElem hj] at this
      rw [Option.some.inj this]; exact h1 j hj')
  rw [hal] at hrun
  refine ⟨_, hrun, (Row.setCells (arrOf m f2).toList 0 w f hRow).congr (fun j hj => ?_), grown_setCells g _ 0 w⟩
  rw [hal, Nat.zero_add, Nat.sub_zero]
  by_cases e : j < m
  · rw [if_pos ⟨Nat.zero_le _, e⟩, if_pos e, List.getD_eq_getElem?_getD, hg j e]; rfl
  · rw [if_neg (fun h => e h.2), if_neg e]
theorem hashL (l : List UInt8) (w : World) (hs : l.length ≤ 4194304) (h0 : 2 < w.heap.size) (hK : Rk w 2 0 64 (fun j => .int .u32 (wi (K0 j)))) :
    Calls Tryz.prog 132 #[.string ⟨l.toArray⟩] w fun e w' => e = .returned (.agg (arrOf 32 (bf (shaF K0 H0 l)))) ∧ Below w.heap.size w w' :=
  hash_any ⟨l.toArray⟩ w hs h0 hK

set_option maxRecDepth 20000 in
set_option maxHeartbeats 1000000 in
theorem keyBlock_any (l : List UInt8) (w : World) (hl : l.length ≤ 2097152) (h0 : 2 < w.heap.size) (hK : Rk w 2 0 64 (fun j => .int .u32 (wi (K0 j)))) :
    Calls Tryz.prog 131 #[.string ⟨l.toArray⟩] w fun e w' => e = .returned (.agg (arrOf 64 (bf (by_ (keyL K0 H0 l))))) ∧ Below w.heap.size w w' := by
  have hsz : (ByteArray.mk l.toArray).size = l.length := by simp [ByteArray.size]
  have HSZ := hide hsz
  have hRa : ∀ o, Row ((w.alloc (.cells (Array.replicate 64 (.int .u8 0)) 188)).alloc o) w.heap.size 188 64 (fun _ => .int .u8 0) := fun o =>
    (Row.new w 188 (Array.replicate 64 (.int .u8 0)) _ 64 (by simp) (fun j hj => by simp [hj])).alloc _
  have hRb : Row ((w.alloc (.cells (Array.replicate 64 (.int .u8 0)) 188)).alloc (.cells (Array.replicate 64 (.int .u8 0)) 188)) (w.heap.size + 1) 188 64 (fun _ => .int .u8 0) := by
    have h := Row.new (w.alloc (.cells (Array.replicate 64 (.int .u8 0)) 188)) 188 (Array.replicate 64 (.int .u8 0)) (fun _ => .int .u8 0) 64 (by simp) (fun j hj => by simp [hj])
    rw [show (w.alloc (.cells (Array.replicate 64 (.int .u8 0)) 188)).heap.size = w.heap.size + 1 by simp] at h
    exact h
  clear hsz
  go_enter Tryz.func131, Tryz.ntmps131
  by_cases h64 : 64 < l.length
  · have hkl : keyL K0 H0 l = shaL K0 H0 l := by unfold keyL; rw [if_pos h64]
    have HK := hide hkl
    clear hkl
    have hK2 : ∀ o1 o2, Rk ((w.alloc o1).alloc o2) 2 0 64 (fun j => .int .u32 (wi (K0 j))) := fun o1 o2 => (hK.alloc h0 _).alloc (by simp; omega) _
    go_wp2_with fail
    refine (hashL l _ (by omega) (by simp; omega) (hK2 _ _)).mono ?_
    rintro e w1 ⟨rfl, hb1⟩
    have hs1 : w.heap.size + 2 ≤ w1.heap.size := by have := hb1.size; simp at this; omega
    have hR0 := (hRa (.cells (Array.replicate 64 (.int .u8 0)) 188)).below hb1 (by simp; omega)
    have hR1 := hRb.below hb1 (by simp)
    have hB1 : Below w.heap.size w w1 := (((Below.refl w.heap.size w).alloc (Nat.le_refl _) _).alloc (by simp) _).trans (hb1.mono (by simp; omega))
    clear hb1 hRa hRb hK2
    go_wp2_with (refine stRow rfl 105 _ _ rfl rfl rfl (Row.new w1 105 (Array.replicate 32 (.int .u8 0)) (fun _ => .int .u8 0) 32 (by simp) (fun j hj => by simp [hj])) sz105 (fun _ _ => rfl) ?_; intro w2 hS hg2)
    have hs2 := hg2.size
    simp at hs2
    have hR0' := (hR0.alloc _).grown hg2 (by simp; omega)
    have hR1' := (hR1.alloc _).grown hg2 (by simp; omega)
    have hB2 := (hB1.alloc (by omega) _).grown hg2 (by simp; omega) (fun k hk => by cases hk; omega)
    clear hR0 hR1 hB1 hg2
    obtain ⟨w3, hcp, hR3, hg3⟩ := copyRow (cap := 64) (cap2 := 32) hR1'.drew hS.drew (by decide) (fun _ _ => rfl) 3
    have hR0'' := hR0'.drew.grown hg3 (by simp)
    have hB3 := hB2.drew.grown hg3 (by have := hB2.size; exact this) (fun k hk => by cases hk; omega)
    have hR3' : Row w3 (w.heap.size + 1) 188 64 (bf (by_ (keyL K0 H0 l))) := hR3.congr (fun j hj => by
      unfold bf
      rw [unhide HK]
      unfold shaL by_ bs
      rw [List.getD_eq_getElem?_getD, List.getElem?_map]
      by_cases e : j < 32
      · rw [if_pos e, List.getElem?_range e]
        show _ = Value.int .u8 ((UInt8.ofNat (shaF K0 H0 l j)).toNat : Int)
        rw [UInt8.toNat_ofNat', Nat.mod_eq_of_lt]
        exact Nat.mod_lt _ (by decide)
      · rw [if_neg e, List.getElem?_eq_none (by simp; omega)]; rfl)
    clear hR3 hS hR0' hR1' hB2
    go_region
    go_wp2_with (first | (refine ldRow rfl 188 _ rfl rfl hR3' Tryz.underlying188 sz188 ?_) | (refine stRow rfl 188 _ _ rfl rfl rfl hR0'' sz188 (fun _ _ => rfl) ?_; intro w4 hR4 hg4))
    refine ret_row Tryz.results131 _ hR4 rfl Tryz.underlying188 (Or.inr ⟨_, _, rfl⟩) sz188 rfl ⟨rfl, ?_⟩
    exact hB3.grown hg4 hB3.size (fun k hk => by cases hk; exact Nat.le_refl _)
  · have hkl : keyL K0 H0 l = l := by unfold keyL; rw [if_neg h64]
    have HK := hide hkl
    clear hkl
    go_wp2_with (first | (refine copyStr rfl _ _ rfl rfl rfl hRb (by rw [unhide HSZ]; omega) ?_; intro w2 hR2 hg2; have hR0 := (hRa (.cells (Array.replicate 64 (.int .u8 0)) 188)).grown hg2 (by simp)) | (refine ldRow rfl 188 _ rfl rfl hR2 Tryz.underlying188 sz188 ?_) | (refine stRow rfl 188 _ _ rfl rfl rfl hR0 sz188 (fun j _ => by show Value.oneCell' (if _ then _ else _) = true; split <;> rfl) ?_; intro w4 hR4 hg4))
    refine ret_row Tryz.results131 _ hR4 rfl Tryz.underlying188 (Or.inr ⟨_, _, rfl⟩) sz188 rfl ⟨?_, ?_⟩
    · refine congrArg (fun c => Ending.returned (.agg c)) (arrOf_congr 64 (fun j hj => ?_))
      unfold bf
      rw [unhide HK, unhide HSZ]
      by_cases e : j < l.length
      · rw [if_pos e]
      · rw [if_neg e]
        unfold by_
        rw [List.getD_eq_getElem?_getD, List.getElem?_eq_none (by omega)]; rfl
    · have hs2 := hg2.size
      simp at hs2
      have hB2 : Below w.heap.size w w2 := (((Below.refl w.heap.size w).alloc (Nat.le_refl _) _).alloc (by simp) _).grown hg2 (by simp; omega) (fun k hk => by cases hk; omega)
      exact hB2.grown hg4 hB2.size (fun k hk => by cases hk; exact Nat.le_refl _)
end Go.Proofs.YtkmkkmdpjliifaaGreatDoor
namespace Go.Proofs.YtkmkkmdpjliifaaGreatDoor
open Go.ChangeShapes Go.WideShapes Go.ChangeAt Go.RowKit

set_option maxRecDepth 100000 in
set_option maxHeartbeats 1000000 in
theorem block_any (K h : Nat → BitVec 32) (s : ByteArray) (vH : Value) (gK gh capK caph : Nat) (w : World)
    (hs : s.size = 64) (hgK : gK < w.heap.size) (hgh : gh < w.heap.size)
    (hK : Cel w gK 0 64 (fun j => .int .i64 (wi (K j)))) (hh : Cel w gh 0 8 (fun j => .int .i64 (wi (h j)))) :
    Calls Tryz.prog 163 #[.agg #[vH, .slice (some ⟨gK, 0, none⟩) 64 capK], .slice (some ⟨gh, 0, none⟩) 8 caph, .string s] w fun e w' =>
      ∃ g, e = .returned (.slice (some ⟨g, 0, none⟩) 8 8) ∧ w.heap.size ≤ g ∧ g < w'.heap.size ∧ Cel w' g 0 8 (fun j => .int .i64 (wi (blk K h s.data.toList j))) ∧ Below w.heap.size w w' := by
  have hmk : ∀ u : World, (Instr.makeSlice 25 (.int .i64 64) (.int .i64 64)).run Tryz.prog u = .ok (.slice (some ⟨u.heap.size, 0, none⟩) 64 64) (u.alloc (.cells (zc .i64 64) 3)) := make187 64 64 (by decide) (by decide) (by decide)
  have hmk2 : ∀ u : World, (Instr.makeSlice 25 (.int .i64 8) (.int .i64 8)).run Tryz.prog u = .ok (.slice (some ⟨u.heap.size, 0, none⟩) 8 8) (u.alloc (.cells (zc .i64 8) 3)) := make187 8 8 (by decide) (by decide) (by decide)
  go_enter Tryz.func163, Tryz.ntmps163
  go_wp2
  go_loopw [8] (fun i wr => ∃ k : Nat, k ≤ 16 ∧ i = .int .i64 k ∧ Cel wr (w.heap.size + 1) 0 64 (fun j => .int .i64 (if j < k then wi (wordAt s.data.toList (4 * j)) else 0)) ∧ w.heap.size + 1 < wr.heap.size ∧ Below (w.heap.size + 1) (w.alloc (.cells #[vH, .slice (some ⟨gK, 0, none⟩) 64 capK] 27)) wr) (fun i _ => 16 - (intOf i).toNat)
  case atStart =>
    exact ⟨0, by omega, rfl, by simpa using (Row.zc (w.alloc (.cells #[vH, .slice (some ⟨gK, 0, none⟩) 64 capK] 27)) .i64 64 3).cel, by simp, (Below.refl _ _).alloc (by simp) _⟩
  case round =>
    obtain ⟨k, hk, rfl, hR, hZ, hB⟩ := hrel
    by_cases hlt : k < 16
    · have hc := hR.cell0 (j := k) (by omega)
      have hfz := hR.frozen0 (j := k) (by omega)
      simp only [Nat.lt_irrefl, if_false] at hc
      go_wp2_with (go_at_call 194; refine (N_any _ _ _ (by omega) (by omega) (by omega)).mono ?_; rintro e w' ⟨rfl, rfl⟩)
      go_roundw
      case rel =>
        refine ⟨k + 1, by omega, by go_num, (hR.set k _).congr (fun j hj => ?_), by simpa using hZ, hB.setCell (Nat.le_refl _) _⟩
        have e : (4 * (k : Int)).toNat = 4 * k := by omega
        by_cases e1 : j = k
        · subst e1; simp only [if_true, Nat.lt_succ_self]
        · have e2 : (j < k + 1) ↔ j < k := by omega
          simp only [e1, e2, if_false]
      case measure => simp [intOf]; omega
    · obtain rfl : k = 16 := by omega
      clear hlt
      go_wp2
      go_loopg [9] 48 (fun q i wr => ∃ n : Nat, n + q = 48 ∧ i = .int .i64 (16 + n) ∧ Cel wr (w.heap.size + 1) 0 64 (fun j => .int .i64 (if j < 16 + n then wi (Wk s.data.toList n j) else 0)) ∧ w.heap.size + 1 < wr.heap.size ∧ Below (w.heap.size + 1) (w.alloc (.cells #[vH, .slice (some ⟨gK, 0, none⟩) 64 capK] 27)) wr)
      case atStart => exact ⟨0, rfl, rfl, hR, hZ, hB⟩
      case round =>
        clear hR hZ hB
        obtain ⟨n, hn, rfl, hR, hZ, hB⟩ := hrel
        by_cases hlt : n < 48
        · have hc := hR.cell0 (j := 16 + n) (by omega)
          have hfz := hR.frozen0 (j := 16 + n) (by omega)
          have hc16 := hR.cell0 (j := 16 + n - 16) (by omega)
          have hc15 := hR.cell0 (j := 16 + n - 15) (by omega)
          have hc7 := hR.cell0 (j := 16 + n - 7) (by omega)
          have hc2 := hR.cell0 (j := 16 + n - 2) (by omega)
          rw [if_neg (by omega)] at hc
          rw [if_pos (by omega)] at hc16 hc15 hc7 hc2
          have hc16' := hc16
          rw [show 16 + n - 16 = n by omega] at hc16'
          go_wp2_with fail
          refine (mixed7 _ _).mono ?_
          rintro e w' ⟨rfl, nq, rfl⟩
          go_wp2_with fail
          refine (mixed17 _ _).mono ?_
          rintro e w' ⟨rfl, nq2, rfl⟩
          go_wp2_with fail
          go_region
          go_wp2
          go_roundg (gk - 1)
          case measure => omega
          case rel =>
            refine ⟨n + 1, by omega, by go_num, ((hR.drewN _).set (16 + n) _).congr (fun j hj => ?_), by simpa using hZ, (below_drewN' hB _).setCell (Nat.le_refl _) _⟩
            show (if j = 16 + n then Value.int IntKind.i64 _ else _) = _
            rw [sum4]
            by_cases e1 : j = 16 + n
            · rw [if_pos e1, if_pos (by omega)]
              subst e1
              show _ = Value.int .i64 (wi (if 16 + n = 16 + n then wext (Wk s.data.toList n) (16 + n) else Wk s.data.toList n (16 + n)))
              rw [if_pos rfl]
              unfold wext
              rw [show 16 + n - 16 = n by omega]
            · have e2 : (j < 16 + (n + 1)) ↔ j < 16 + n := by omega
              rw [if_neg e1]
              simp only [e2]
              show _ = Value.int .i64 (if _ then wi (if j = 16 + n then wext (Wk s.data.toList n) j else Wk s.data.toList n j) else 0)
              rw [if_neg e1]
        · obtain rfl : n = 48 := by omega
          clear hlt
          have hh' : Cel wr gh 0 8 (fun j => .int .i64 (wi (h j))) := (hh.alloc hgh _).below hB (by omega)
          have hK' : Cel wr gK 0 64 (fun j => .int .i64 (wi (K j))) := (hK.alloc hgK _).below hB (by omega)
          have hbox : wr.cell? ⟨w.heap.size, 1, none⟩ = some (.slice (some ⟨gK, 0, none⟩) 64 capK) := by
            rw [hB.cell (p := ⟨w.heap.size, 1, none⟩) (Nat.lt_succ_self _)]; simp
          have h0 := hh'.cell0 (j := 0) (by omega)
          have h1 := hh'.cell0 (j := 1) (by omega)
          have h2 := hh'.cell0 (j := 2) (by omega)
          have h3 := hh'.cell0 (j := 3) (by omega)
          have h4 := hh'.cell0 (j := 4) (by omega)
          have h5 := hh'.cell0 (j := 5) (by omega)
          have h6 := hh'.cell0 (j := 6) (by omega)
          have h7 := hh'.cell0 (j := 7) (by omega)
          go_wp2
          clear h0 h1 h2 h3 h4 h5 h6 h7
          go_loopg [12, 13, 14, 15, 16, 17, 18, 19, 20] 64 (fun q a b c d e f g r i wq => ∃ n : Nat, n + q = 64 ∧ i = .int .i64 n ∧
            a = .int .i64 (wi (rounds K (Wk s.data.toList 48) (S8.of h) n).a) ∧ b = .int .i64 (wi (rounds K (Wk s.data.toList 48) (S8.of h) n).b) ∧
            c = .int .i64 (wi (rounds K (Wk s.data.toList 48) (S8.of h) n).c) ∧ d = .int .i64 (wi (rounds K (Wk s.data.toList 48) (S8.of h) n).d) ∧
            e = .int .i64 (wi (rounds K (Wk s.data.toList 48) (S8.of h) n).e) ∧ f = .int .i64 (wi (rounds K (Wk s.data.toList 48) (S8.of h) n).f) ∧
            g = .int .i64 (wi (rounds K (Wk s.data.toList 48) (S8.of h) n).g) ∧ r = .int .i64 (wi (rounds K (Wk s.data.toList 48) (S8.of h) n).h) ∧
            ∃ nq, wq = wr.drewN nq)
          case atStart => exact ⟨0, rfl, rfl, rfl, rfl, rfl, rfl, rfl, rfl, rfl, rfl, 0, rfl⟩
          case round =>
            obtain ⟨n, hn, rfl, rfl, rfl, rfl, rfl, rfl, rfl, rfl, rfl, nq, rfl⟩ := hrel
            generalize hS : rounds K (Wk s.data.toList 48) (S8.of h) n = S
            have HS : Hid (rounds K (Wk s.data.toList 48) (S8.of h) n = S) := hS
            clear hS
            by_cases hlt : n < 64
            · have hKc := hK'.cell0 (j := n) (by omega)
              have hWc := hR.cell0 (j := n) (by omega)
              rw [if_pos (by omega)] at hWc
              go_wp2_with fail
              refine (turns6 _ _).mono ?_
              rintro e w' ⟨rfl, nq1, rfl⟩
              go_wp2_with fail
              go_quiet (fail)
              go_wp2_with fail
              refine (turns2 _ _).mono ?_
              rintro e w' ⟨rfl, nq2, rfl⟩
              go_wp2
              go_roundg (gk - 1)
              case measure => omega
              case rel =>
                refine ⟨n + 1, by omega, by go_num, ?_⟩
                have hr : rounds K (Wk s.data.toList 48) (S8.of h) (n + 1) = rnd (K n) (Wk s.data.toList 48 n) S := by
                  show rnd _ _ (rounds K (Wk s.data.toList 48) (S8.of h) n) = _
                  rw [HS.out]
                rw [hr]
                simp only [not64w, and64, xor64, sum5, sum3, sum2]
                exact ⟨by show _ = Value.int .i64 (wi (tt _ _ _ + uu _)); unfold tt uu; rw [← BitVec.add_assoc], rfl, rfl, rfl, rfl, rfl, rfl, rfl, _, rfl⟩
            · obtain rfl : n = 64 := by omega
              clear hlt
              go_wp2
              have hx : Cel ((wr.drewN nq).alloc (.cells #[.int .i64 (wi S.a), .int .i64 (wi S.b), .int .i64 (wi S.c), .int .i64 (wi S.d), .int .i64 (wi S.e), .int .i64 (wi S.f), .int .i64 (wi S.g), .int .i64 (wi S.h)] 3)) wr.heap.size 0 8 (fun j => .int .i64 (wi (S.at j))) :=
                (Row.new (wr.drewN nq) 3 _ _ 8 rfl (S8.cells S (fun x => .int .i64 (wi x)))).cel
              have hhx := (hh'.drewN nq).alloc (by show gh < wr.heap.size; omega) (.cells #[.int .i64 (wi S.a), .int .i64 (wi S.b), .int .i64 (wi S.c), .int .i64 (wi S.d), .int .i64 (wi S.e), .int .i64 (wi S.f), .int .i64 (wi S.g), .int .i64 (wi S.h)] 3)
              go_loopg [28] 8 (fun q i wq => ∃ k : Nat, k + q = 8 ∧ i = .int .i64 k ∧ Cel wq (wr.heap.size + 1) 0 8 (fun j => .int .i64 (if j < k then wi (h j + S.at j) else 0)) ∧ wr.heap.size + 1 < wq.heap.size ∧
                Below (wr.heap.size + 1) ((wr.drewN nq).alloc (.cells #[.int .i64 (wi S.a), .int .i64 (wi S.b), .int .i64 (wi S.c), .int .i64 (wi S.d), .int .i64 (wi S.e), .int .i64 (wi S.f), .int .i64 (wi S.g), .int .i64 (wi S.h)] 3)) wq)
              case atStart => exact ⟨0, rfl, rfl, by simpa using (Row.zc ((wr.drewN nq).alloc (.cells #[.int .i64 (wi S.a), .int .i64 (wi S.b), .int .i64 (wi S.c), .int .i64 (wi S.d), .int .i64 (wi S.e), .int .i64 (wi S.f), .int .i64 (wi S.g), .int .i64 (wi S.h)] 3)) .i64 8 3).cel, by simp, (Below.refl _ _).alloc (by simp) _⟩
              case round =>
                obtain ⟨k, hk, rfl, hO, hZO, hBO⟩ := hrel
                by_cases hlt : k < 8
                · have hc := hO.cell0 (j := k) (by omega)
                  have hfz := hO.frozen0 (j := k) (by omega)
                  rw [if_neg (by omega)] at hc
                  have hxc := (hx.below hBO (by omega)).cell0 (j := k) (by omega)
                  have hhc := (hhx.below hBO (by omega)).cell0 (j := k) (by omega)
                  go_wp2_with fail
                  go_region
                  go_wp2
                  go_roundg (gk - 1)
                  case measure => omega
                  case rel =>
                    refine ⟨k + 1, by omega, by go_num, ((hO.drewN _).set k _).congr (fun j hj => ?_), by simpa using hZO, (below_drewN' hBO _).setCell (Nat.le_refl _) _⟩
                    show (if j = k then Value.int IntKind.i64 _ else _) = _
                    rw [sum2]
                    by_cases e1 : j = k
                    · subst e1; simp
                    · have e2 : (j < k + 1) ↔ j < k := by omega
                      simp [e1, e2]
                · obtain rfl : k = 8 := by omega
                  go_wp2
                  go_ret
                  refine ⟨_, rfl, by omega, hZO, hO.congr (fun j hj => ?_), ?_⟩
                  · rw [if_pos hj]; unfold blk; rw [HS.out]
                  · refine Below.trans ((Below.refl w.heap.size w).alloc (Nat.le_refl _) _) (Below.trans (hB.mono (by omega)) ?_)
                    exact Below.trans ((below_drewN' (Below.refl _ _) nq).alloc (by rw [World.heap_drewN]; omega) _) (hBO.mono (by omega))
end Go.Proofs.YtkmkkmdpjliifaaGreatDoor
namespace Go.Proofs.YtkmkkmdpjliifaaGreatDoor
open Go.ChangeShapes Go.WideShapes Go.ChangeAt Go.RowKit

theorem slice64 (P : List UInt8) (n : Nat) (h : 64 * n + 64 ≤ P.length) (hl : P.length ≤ 8388608) (u : World) :
    (Instr.slice 9 (.string ⟨P.toArray⟩) (some (.int .i64 (64 * (n : Int)))) (some (.int .i64 (IntKind.i64.wrap (64 * (n : Int) + 64)))) none).run Tryz.prog u = .ok (.string ⟨((P.drop (64 * n)).take 64).toArray⟩) u := by
  have hw : IntKind.i64.wrap (64 * (n : Int) + 64) = 64 * (n : Int) + 64 := by rw [IntKind.wrap_i64]; omega
  have hsz : (ByteArray.mk P.toArray).size = P.length := by simp [ByteArray.size]
  rw [hw, run_slice_string (w := u) 9 _ .i64 .i64 _ _ Tryz.underlying9 (by omega) (by omega) (by omega), ByteArray.extract_mk,
    show (64 * (n : Int)).toNat = 64 * n by omega, show (64 * (n : Int) + 64).toNat - 64 * n = 64 by omega]
/-- one text behind another -/
theorem cat_any (a b c : List UInt8) (hc : a ++ b = c) (hl : c.length ≤ 16777216) (u : World) : (Op.stringOp .add ⟨a.toArray⟩ ⟨b.toArray⟩).run Tryz.prog u = .ok (.string ⟨c.toArray⟩) u := by
  subst hc
  have h1 : (ByteArray.mk a.toArray).size = a.length := by simp [ByteArray.size]
  have h2 : (ByteArray.mk b.toArray).size = b.length := by simp [ByteArray.size]
  rw [List.length_append] at hl
  rw [run_string_add_sum (w := u) _ _ (by omega), ByteArray.mk_append_mk]

set_option maxRecDepth 20000 in
set_option maxHeartbeats 1000000 in
theorem sha_any (K H : Nat → BitVec 32) (s : ByteArray) (gH gK capH capK : Nat) (w : World)
    (hs : s.size ≤ 4194304) (hgH : gH < w.heap.size) (hgK : gK < w.heap.size)
    (hH : Cel w gH 0 8 (fun j => .int .i64 (wi (H j)))) (hK : Cel w gK 0 64 (fun j => .int .i64 (wi (K j)))) :
    Calls Tryz.prog 129 #[.agg #[.slice (some ⟨gH, 0, none⟩) 8 capH, .slice (some ⟨gK, 0, none⟩) 64 capK], .string s] w fun e w' =>
      e = .returned (.string ⟨(shaL K H s.data.toList).toArray⟩) ∧ Below w.heap.size w w' := by
  have hpl : (padL s.data.toList).length ≤ s.size + 72 := padL_le s.data.toList
  have hpm := padL_length s.data.toList
  go_enter Tryz.func129, Tryz.ntmps129
  go_wp2_with fail
  refine (padded_any _ _ hs).mono ?_
  rintro e w1 ⟨rfl, hb1⟩
  obtain ⟨P, hP⟩ : ∃ P, P = padL s.data.toList := ⟨_, rfl⟩
  rw [← hP] at hpl hpm ⊢
  have HP : Hid (P = padL s.data.toList ∧ s.size ≤ 4194304 ∧ P.length ≤ s.size + 72) := ⟨hP, hs, hpl⟩
  clear hP hs hpl
  go_wp2
  rw [show (w.alloc (.cells #[.slice (some ⟨gH, 0, none⟩) 8 capH, .slice (some ⟨gK, 0, none⟩) 64 capK] 27)).heap.size = w.heap.size + 1 by simp] at hb1
  go_loopg [5, 7] (P.length / 64) (fun q hv i wq => ∃ n : Nat, n + q = P.length / 64 ∧ i = .int .i64 ((64 * n : Nat) : Int) ∧ (∃ g cap, hv = .slice (some ⟨g, 0, none⟩) 8 cap ∧ g < wq.heap.size ∧ Cel wq g 0 8 (fun j => .int .i64 (wi (hk K H P n j)))) ∧
     Below (w.heap.size + 1) (w.alloc (.cells #[.slice (some ⟨gH, 0, none⟩) 8 capH, .slice (some ⟨gK, 0, none⟩) 64 capK] 27)) wq)
  case atStart =>
    have hz := hb1.size
    simp at hz
    exact ⟨0, by omega, rfl, ⟨gH, capH, rfl, by omega, (hH.alloc hgH _).below hb1 (by omega)⟩, hb1⟩
  case round =>
    clear hb1
    obtain ⟨n, hn, rfl, ⟨g, cap, rfl, hg, hC⟩, hB⟩ := hrel
    have hK' := (hK.alloc hgK _).below hB (by omega)
    by_cases hlt : n < P.length / 64
    · have hbox : wr.cell? ⟨w.heap.size, 1, none⟩ = some (.slice (some ⟨gK, 0, none⟩) 64 capK) := by
        rw [hB.cell (p := ⟨w.heap.size, 1, none⟩) (Nat.lt_succ_self _)]; simp
      have hbox0 : wr.cell? ⟨w.heap.size, 0, none⟩ = some (.slice (some ⟨gH, 0, none⟩) 8 capH) := by
        rw [hB.cell (p := ⟨w.heap.size, 0, none⟩) (Nat.lt_succ_self _)]; simp
      have hsl := slice64 P n (by omega) (by have := HP.out; omega)
      have hblk := block_any K (hk K H P n) ⟨((P.drop (64 * n)).take 64).toArray⟩ (.slice (some ⟨gH, 0, none⟩) 8 capH) gK g capK cap wr.drew
        (by simp [ByteArray.size]; omega) (by have := hB.size; simp at this; show gK < wr.heap.size; omega) hg hK' hC
      have HBK := hide hblk
      clear hblk
      go_wp2_with fail
      go_region_with (go_at_call 163; refine (unhide HBK).mono ?_; rintro e w' ⟨g', rfl, h1, h2, h3, h4⟩)
      all_goals go_wp2
      all_goals go_roundg (gk - 1)
      case measure => omega
      case rel =>
        have h5 : Below (w.heap.size + 1) wr.drew w' := h4.mono (by have := hB.size; simp at this; show _ ≤ wr.heap.size; omega)
        have h6 := HP.out
        have h7 : wrap64 (64 * (n : Int) + 64) = ((64 * (n + 1) : Nat) : Int) := by rw [w64 _ (by omega) (by omega)]; omega
        exact ⟨n + 1, by omega, by rw [← h7], ⟨g', 8, rfl, h2, h3⟩, hB.drew.trans h5⟩
    · have hnn : n = P.length / 64 := by omega
      have HN : Hid (n = P.length / 64) := hnn
      have hge : ¬ (64 * (n : Int) < P.length) := by omega
      clear hlt hnn
      go_wp2
      go_loopg [8, 9] 8 (fun q o i wq => ∃ k : Nat, k + q = 8 ∧ i = .int .i64 k ∧ o = .string ⟨(bs (4 * k) (shaF K H s.data.toList)).toArray⟩ ∧ Below wr.heap.size wr wq)
      case atStart => exact ⟨0, rfl, rfl, rfl, Below.refl _ _⟩
      case round =>
        obtain ⟨k, hk8, rfl, rfl, hB2⟩ := hrel
        by_cases hlt : k < 8
        · have hc := (hC.below hB2 hg).cell0 (j := k) hlt
          have hf : ∀ j, shaF K H s.data.toList j = b4 (hk K H P n (j / 4)) (j % 4) := fun j => by
            unfold shaF; rw [HN.out, HP.out.1]
          have hadd := cat_any (bs (4 * k) (shaF K H s.data.toList)) (b4s (hk K H P n k)) _ (bs_four _ _ hf k) (by rw [bs_length]; omega)
          clear hf
          go_wp2_with (go_at_call 164; refine (U_any _ _).mono ?_; rintro e w' ⟨rfl, hb⟩)
          go_roundg (gk - 1)
          case measure => omega
          case rel => exact ⟨k + 1, by omega, by go_num, rfl, hB2.trans (hb.mono hB2.size)⟩
        · obtain rfl : k = 8 := by omega
          go_wp2
          go_ret
          refine ⟨rfl, ?_⟩
          refine Below.trans ((Below.refl w.heap.size w).alloc (Nat.le_refl _) _) (Below.trans (hB.mono (by omega)) (hB2.mono ?_))
          have := hB.size; simp at this; omega
end Go.Proofs.YtkmkkmdpjliifaaGreatDoor
namespace Go.Proofs.YtkmkkmdpjliifaaGreatDoor
open Go.ChangeShapes Go.WideShapes Go.ChangeAt Go.RowKit

theorem tR54 (l : List UInt8) (w : World) (hs : l.length = 64) :
    Calls Tryz.prog 130 #[.string ⟨l.toArray⟩, .int .i64 54] w fun e w' => e = .returned (.string ⟨(tk l 54).toArray⟩) ∧ Below w.heap.size w w' :=
  turnedR_any ⟨l.toArray⟩ 54 w hs (by decide)
theorem tR92 (l : List UInt8) (w : World) (hs : l.length = 64) :
    Calls Tryz.prog 130 #[.string ⟨l.toArray⟩, .int .i64 92] w fun e w' => e = .returned (.string ⟨(tk l 92).toArray⟩) ∧ Below w.heap.size w w' :=
  turnedR_any ⟨l.toArray⟩ 92 w hs (by decide)
theorem shaR (K H : Nat → BitVec 32) (l : List UInt8) (gH gK capH capK : Nat) (w : World)
    (hs : l.length ≤ 4194304) (hgH : gH < w.heap.size) (hgK : gK < w.heap.size)
    (hH : Cel w gH 0 8 (fun j => .int .i64 (wi (H j)))) (hK : Cel w gK 0 64 (fun j => .int .i64 (wi (K j)))) :
    Calls Tryz.prog 129 #[.agg #[.slice (some ⟨gH, 0, none⟩) 8 capH, .slice (some ⟨gK, 0, none⟩) 64 capK], .string ⟨l.toArray⟩] w fun e w' =>
      e = .returned (.string ⟨(shaL K H l).toArray⟩) ∧ Below w.heap.size w w' :=
  sha_any K H ⟨l.toArray⟩ gH gK capH capK w hs hgH hgK hH hK

/-- from the loop that lengthens the key on -/
def kz (l : List UInt8) (k : Nat) : List UInt8 := l ++ List.replicate k 0
theorem kz_length (l : List UInt8) (k : Nat) : (kz l k).length = l.length + k := by simp [kz]
theorem kz_succ (l : List UInt8) (k : Nat) : kz l k ++ [0] = kz l (k + 1) := by simp [kz, List.replicate_succ']

/-- the box of a struct of two -/
theorem box2 {w wq : World} {a b : Value} (hB : Below (w.heap.size + 1) (w.alloc (.cells #[a, b] 27)) wq) :
    wq.cell? ⟨w.heap.size, 0, none⟩ = some a ∧ wq.cell? ⟨w.heap.size, 1, none⟩ = some b ∧ w.heap.size + 1 ≤ wq.heap.size := by
  refine ⟨?_, ?_, ?_⟩
  · rw [hB.cell (p := ⟨w.heap.size, 0, none⟩) (Nat.lt_succ_self _)]; simp
  · rw [hB.cell (p := ⟨w.heap.size, 1, none⟩) (Nat.lt_succ_self _)]; simp
  · have := hB.size; simpa using this
theorem below_next {w w1 w2 : World} {B : Nat} (h : Below B w w1) (h2 : Below w1.heap.size w1 w2) (hB : B ≤ w1.heap.size) : Below B w w2 := h.trans (h2.mono hB)

set_option maxRecDepth 20000 in
set_option maxHeartbeats 1000000 in
theorem macR_any (K H : Nat → BitVec 32) (key text : List UInt8) (gH gK capH capK : Nat) (w : World)
    (hk : key.length ≤ 2097152) (ht : text.length ≤ 2097152) (hgH : gH < w.heap.size) (hgK : gK < w.heap.size)
    (hH : Cel w gH 0 8 (fun j => .int .i64 (wi (H j)))) (hK : Cel w gK 0 64 (fun j => .int .i64 (wi (K j)))) :
    Calls Tryz.prog 91 #[.agg #[.slice (some ⟨gH, 0, none⟩) 8 capH, .slice (some ⟨gK, 0, none⟩) 64 capK], .string ⟨key.toArray⟩, .string ⟨text.toArray⟩] w fun e w' =>
      e = .returned (.string ⟨(macL K H key text).toArray⟩) ∧ Below w.heap.size w w' := by
  have HT : Hid (key.length ≤ 2097152 ∧ text.length ≤ 2097152) := ⟨hk, ht⟩
  clear hk ht
  go_enter Tryz.func91, Tryz.ntmps91
  by_cases h64 : 64 < key.length
  · go_wp2_with fail
    refine (shaR K H _ gH gK capH capK _ (by have := HT.out; omega) (by simp; omega) (by simp; omega) (hH.alloc hgH _) (hK.alloc hgK _)).mono ?_
    rintro e w1 ⟨rfl, hb1⟩
    rw [show (w.alloc (.cells #[.slice (some ⟨gH, 0, none⟩) 8 capH, .slice (some ⟨gK, 0, none⟩) 64 capK] 27)).heap.size = w.heap.size + 1 by simp] at hb1
    obtain ⟨l0, hl0⟩ : ∃ l0, l0 = shaL K H key := ⟨_, rfl⟩
    rw [← hl0]
    have HL : Hid (l0 = keyL K H key ∧ l0.length ≤ 64) := by
      subst hl0; exact ⟨by unfold keyL; rw [if_pos h64], by rw [shaL_length]; omega⟩
    clear hl0
    obtain ⟨_, _, hz1⟩ := box2 hb1
    go_wp2_with fail
    go_loopg [1] (64 - l0.length) (fun q v wq => ∃ k : Nat, k + q = 64 - l0.length ∧ v = .string ⟨(kz l0 k).toArray⟩ ∧ wq = w1)
    case atStart => exact ⟨0, by omega, by simp [kz], rfl⟩
    case round =>
      obtain ⟨k, hk, rfl, rfl⟩ := hrel
      have hkl := kz_length l0 k
      by_cases hlt : l0.length + k < 64
      · have hadd := cat_any (kz l0 k) [0] _ (kz_succ l0 k) (by rw [kz_length]; omega)
        go_wp2
        go_roundg (gk - 1)
        case measure => omega
        case rel => exact ⟨k + 1, by omega, rfl, rfl⟩
      · have hk64 : (kz l0 k).length = 64 := by have := HL.out; omega
        have HK64 := hide hk64
        clear hk64
        go_wp2_with fail
        refine (tR54 _ _ (unhide HK64)).mono ?_
        rintro e w2 ⟨rfl, hb2⟩
        have hB2 := below_next hb1 hb2 hz1
        obtain ⟨_, _, hz2⟩ := box2 hB2
        go_wp2_with fail
        refine (tR92 _ _ (unhide HK64)).mono ?_
        rintro e w3 ⟨rfl, hb3⟩
        have hB3 := below_next hB2 hb3 hz2
        obtain ⟨hx0, hx1, hz3⟩ := box2 hB3
        have hadd1 := cat_any (tk (kz l0 k) 54) text _ rfl (by rw [List.length_append, tk_length]; have := HT.out; omega)
        clear hb2 hb3 hB2
        go_wp2_with fail
        refine (shaR K H _ gH gK capH capK _ (by rw [List.length_append, tk_length]; have := HT.out; omega) (by omega) (by omega) ((hH.alloc hgH _).below hB3 (by omega)) ((hK.alloc hgK _).below hB3 (by omega))).mono ?_
        rintro e w4 ⟨rfl, hb4⟩
        have hB4 := below_next hB3 hb4 hz3
        clear hx0 hx1 hadd1
        obtain ⟨hx0, hx1, hz4⟩ := box2 hB4
        have hadd2 := cat_any (tk (kz l0 k) 92) (shaL K H (tk (kz l0 k) 54 ++ text)) _ rfl (by rw [List.length_append, tk_length, shaL_length]; omega)
        go_wp2_with fail
        refine (shaR K H _ gH gK capH capK _ (by rw [List.length_append, tk_length, shaL_length]; omega) (by omega) (by omega) ((hH.alloc hgH _).below hB4 (by omega)) ((hK.alloc hgK _).below hB4 (by omega))).mono ?_
        rintro e w5 ⟨rfl, hb5⟩
        have hB5 := below_next hB4 hb5 hz4
        go_wp2
        go_ret
        refine ⟨?_, Below.trans ((Below.refl w.heap.size w).alloc (Nat.le_refl _) _) (hB5.mono (by omega))⟩
        have e1 := HL.out.1
        unfold macL
        rw [← e1, ← tk_zeros l0 k, ← tk_zeros l0 k]
        rfl
  · have HL : Hid (key = keyL K H key ∧ key.length ≤ 64) := ⟨by unfold keyL; rw [if_neg h64], by omega⟩
    have hb1 := Below.refl (w.heap.size + 1) (w.alloc (.cells #[.slice (some ⟨gH, 0, none⟩) 8 capH, .slice (some ⟨gK, 0, none⟩) 64 capK] 27))
    obtain ⟨_, _, hz1⟩ := box2 hb1
    go_wp2_with fail
    go_loopg [1] (64 - key.length) (fun q v wq => ∃ k : Nat, k + q = 64 - key.length ∧ v = .string ⟨(kz key k).toArray⟩ ∧ wq = w.alloc (.cells #[.slice (some ⟨gH, 0, none⟩) 8 capH, .slice (some ⟨gK, 0, none⟩) 64 capK] 27))
    case atStart => exact ⟨0, by omega, by simp [kz], rfl⟩
    case round =>
      obtain ⟨k, hk, rfl, rfl⟩ := hrel
      have hkl := kz_length key k
      by_cases hlt : key.length + k < 64
      · have hadd := cat_any (kz key k) [0] _ (kz_succ key k) (by rw [kz_length]; omega)
        go_wp2
        go_roundg (gk - 1)
        case measure => omega
        case rel => exact ⟨k + 1, by omega, rfl, rfl⟩
      · have hk64 : (kz key k).length = 64 := by have := HL.out; omega
        have HK64 := hide hk64
        clear hk64
        go_wp2_with fail
        refine (tR54 _ _ (unhide HK64)).mono ?_
        rintro e w2 ⟨rfl, hb2⟩
        have hB2 := below_next hb1 hb2 hz1
        obtain ⟨_, _, hz2⟩ := box2 hB2
        go_wp2_with fail
        refine (tR92 _ _ (unhide HK64)).mono ?_
        rintro e w3 ⟨rfl, hb3⟩
        have hB3 := below_next hB2 hb3 hz2
        obtain ⟨hx0, hx1, hz3⟩ := box2 hB3
        have hadd1 := cat_any (tk (kz key k) 54) text _ rfl (by rw [List.length_append, tk_length]; have := HT.out; omega)
        clear hb2 hb3 hB2
        go_wp2_with fail
        refine (shaR K H _ gH gK capH capK _ (by rw [List.length_append, tk_length]; have := HT.out; omega) (by omega) (by omega) ((hH.alloc hgH _).below hB3 (by omega)) ((hK.alloc hgK _).below hB3 (by omega))).mono ?_
        rintro e w4 ⟨rfl, hb4⟩
        have hB4 := below_next hB3 hb4 hz3
        clear hx0 hx1 hadd1
        obtain ⟨hx0, hx1, hz4⟩ := box2 hB4
        have hadd2 := cat_any (tk (kz key k) 92) (shaL K H (tk (kz key k) 54 ++ text)) _ rfl (by rw [List.length_append, tk_length, shaL_length]; omega)
        go_wp2_with fail
        refine (shaR K H _ gH gK capH capK _ (by rw [List.length_append, tk_length, shaL_length]; omega) (by omega) (by omega) ((hH.alloc hgH _).below hB4 (by omega)) ((hK.alloc hgK _).below hB4 (by omega))).mono ?_
        rintro e w5 ⟨rfl, hb5⟩
        have hB5 := below_next hB4 hb5 hz4
        go_wp2
        go_ret
        refine ⟨?_, Below.trans ((Below.refl w.heap.size w).alloc (Nat.le_refl _) _) (hB5.mono (by omega))⟩
        have e1 := HL.out.1
        unfold macL
        rw [← e1, ← tk_zeros key k, ← tk_zeros key k]
        rfl
end Go.Proofs.YtkmkkmdpjliifaaGreatDoor
