import Derived.Test.YtkmkkmdpjliifaaDoorTxP
import Derived.Test.YtkmkkmdpjliifaaDoorTxV
import Derived.BigRegion
namespace Go.Proofs.YtkmkkmdpjliifaaDoor
open Go.ChangeShapes Go.WideShapes Go.ChangeAt Go.RowKit

theorem dec_lt {a b : Nat} : decide ((a : Int) < (b : Int)) = decide (a < b) := by simp

set_option maxHeartbeats 400000 in
theorem above_any (a b : Nat → Nat) (la lb ga gb ca cb : Nat) (w : World) (hla : la ≤ 20) (hlb : lb ≤ 20)
    (ha : Cel w ga 0 la (fun j => .int .i64 (a j : Nat))) (hb : Cel w gb 0 lb (fun j => .int .i64 (b j : Nat)))
    (da : ∀ j, j < la → a j < 65536) (db : ∀ j, j < lb → b j < 65536) :
    Calls Tryd.prog 56 #[.slice (some ⟨ga, 0, none⟩) la ca, .slice (some ⟨gb, 0, none⟩) lb cb] w fun e w' => e = .returned (.bool (decide (V b lb < V a la))) ∧ w' = w := by
  have HD : Hid ((∀ j, j < la → a j < 65536) ∧ (∀ j, j < lb → b j < 65536)) := ⟨da, db⟩
  clear da db
  go_enter Tryd.func56, Tryd.ntmps56
  go_wp2
  go_loopg [5, 6, 7] (la + lb + 1) (fun q i x y wr => ∃ z : Int, z = (q : Int) - 1 ∧ q ≤ la + lb + 1 ∧ i = .int .i64 z ∧ wr = w ∧ ∀ j, q ≤ j → (if j < la then a j else 0) = (if j < lb then b j else 0))
  case atStart => exact ⟨_, rfl, by omega, by go_num, rfl, fun j hj => by rw [if_neg (by omega), if_neg (by omega)]⟩
  case round =>
    obtain ⟨z, hz, hq, rfl, rfl, hall⟩ := hrel
    have HA := hide hall
    clear hall
    cases gk with
    | zero => 
      obtain rfl : z = -1 := by omega
      clear hz
      go_wp2
      go_ret
      refine ⟨?_, rfl⟩
      have e : V b lb = V a la := by
        rw [← V_ext b lb la, ← V_ext a la lb, Nat.add_comm lb la]
        exact V_congr (fun j _ => (unhide HA j (by omega)).symm)
      rw [e]; simp
    | succ p =>
      obtain rfl : z = (p : Int) := by omega
      clear hz
      have hfin : ∀ x y : Nat, (if p < la then a p else 0) = x → (if p < lb then b p else 0) = y → ¬ x = y → decide (V b lb < V a la) = decide (y < x) := fun x y hx hy hne => by
        have e1 : V b lb = V (fun j => if j < lb then b j else 0) (la + lb) := by rw [Nat.add_comm la lb, V_ext]
        have e2 : V a la = V (fun j => if j < la then a j else 0) (la + lb) := by rw [V_ext]
        have hd := HD.out
        have hp : p < la + lb := by
          rcases Nat.lt_or_ge p (la + lb) with h | h
          · exact h
          · rw [if_neg (by omega)] at hx hy; omega
        have hall := unhide HA
        rw [e1, e2]
        rcases Nat.lt_or_ge y x with h | h
        · rw [show decide (y < x) = true from decide_eq_true h, decide_eq_true_iff]
          refine V_gt hp (fun j h1 h2 => hall j (by omega)) (by show (if p < lb then b p else 0) < (if p < la then a p else 0); omega) (fun j hj => ?_)
          show (if j < lb then b j else 0) < 65536
          split
          · exact hd.2 j (by assumption)
          · omega
        · rw [show decide (y < x) = false from decide_eq_false (by omega), decide_eq_false_iff_not]
          refine Nat.not_lt.2 (Nat.le_of_lt (V_gt hp (fun j h1 h2 => (hall j (by omega)).symm) (by show (if p < la then a p else 0) < (if p < lb then b p else 0); omega) (fun j hj => ?_)))
          show (if j < la then a j else 0) < 65536
          split
          · exact hd.1 j (by assumption)
          · omega
      have HF := hide hfin
      clear hfin
      by_cases h1 : p < la
      · have hca := ha.cell0 h1
        by_cases h2 : p < lb
        · have hcb := hb.cell0 h2
          by_cases h3 : a p = b p
          · have h3' : (((a p : Nat) : Int) != ((b p : Nat) : Int)) = false := by simp [h3]
            have H3 := hide h3
            clear h3
            go_wp2
            go_roundg p
            case measure => omega
            case rel =>
              refine ⟨_, rfl, by omega, by go_num, rfl, fun j hj => ?_⟩
              by_cases e : j = p
              · subst e; rw [if_pos h1, if_pos h2]; exact unhide H3
              · exact unhide HA j (by omega)
          · have h3' : (((a p : Nat) : Int) != ((b p : Nat) : Int)) = true := by rw [bne_iff_ne]; omega
            have H3 := hide h3
            clear h3
            go_wp2
            go_ret
            refine ⟨?_, rfl⟩
            rw [unhide HF _ _ (if_pos h1) (if_pos h2) (unhide H3), ← dec_lt]
            rfl
        · have hx : ¬ (p : Int) < lb := by omega
          by_cases h3 : a p = 0
          · have h3' : (((a p : Nat) : Int) != 0) = false := by simp [h3]
            have H3 := hide h3
            clear h3
            go_wp2
            go_roundg p
            case measure => omega
            case rel =>
              refine ⟨_, rfl, by omega, by go_num, rfl, fun j hj => ?_⟩
              by_cases e : j = p
              · subst e; rw [if_pos h1, if_neg h2]; exact unhide H3
              · exact unhide HA j (by omega)
          · have h3' : (((a p : Nat) : Int) != 0) = true := by rw [bne_iff_ne]; omega
            have H3 := hide h3
            clear h3
            go_wp2
            go_ret
            refine ⟨?_, rfl⟩
            rw [unhide HF _ _ (if_pos h1) (if_neg h2) (unhide H3), ← dec_lt]
            rfl
      · have hx1 : ¬ (p : Int) < la := by omega
        by_cases h2 : p < lb
        · have hcb := hb.cell0 h2
          by_cases h3 : 0 = b p
          · have h3' : ((0 : Int) != ((b p : Nat) : Int)) = false := by simp [← h3]
            have H3 := hide h3
            clear h3
            go_wp2
            go_roundg p
            case measure => omega
            case rel =>
              refine ⟨_, rfl, by omega, by go_num, rfl, fun j hj => ?_⟩
              by_cases e : j = p
              · subst e; rw [if_neg h1, if_pos h2]; exact unhide H3
              · exact unhide HA j (by omega)
          · have h3' : ((0 : Int) != ((b p : Nat) : Int)) = true := by rw [bne_iff_ne]; omega
            have H3 := hide h3
            clear h3
            go_wp2
            go_ret
            refine ⟨?_, rfl⟩
            rw [unhide HF _ _ (if_neg h1) (if_pos h2) (unhide H3), ← dec_lt]
            rfl
        · have hx : ¬ (p : Int) < lb := by omega
          go_wp2
          go_roundg p
          case measure => omega
          case rel =>
            refine ⟨_, rfl, by omega, by go_num, rfl, fun j hj => ?_⟩
            by_cases e : j = p
            · subst e; rw [if_neg h1, if_neg h2]
            · exact unhide HA j (by omega)

set_option maxHeartbeats 1000000 in
theorem times_any (a b : Nat → Nat) (la lb ga gb ca cb : Nat) (w : World) (hla : la ≤ 8) (hlb : lb ≤ 8) (hla0 : 0 < la) (hlb0 : 0 < lb) (hga : ga < w.heap.size) (hgb : gb < w.heap.size)
    (ha : Cel w ga 0 la (fun j => .int .i64 (a j : Nat))) (hb : Cel w gb 0 lb (fun j => .int .i64 (b j : Nat)))
    (da : ∀ j, j < la → a j < 65536) (db : ∀ j, j < lb → b j < 65536) :
    Calls Tryd.prog 54 #[.slice (some ⟨ga, 0, none⟩) la ca, .slice (some ⟨gb, 0, none⟩) lb cb] w fun e w' => ∃ (g : Nat) (r : Nat → Nat), e = .returned (.slice (some ⟨g, 0, none⟩) (la + lb) (la + lb)) ∧ g < w'.heap.size ∧
      Cel w' g 0 (la + lb) (fun j => .int .i64 (r j : Nat)) ∧ V r (la + lb) = V a la * V b lb ∧ (∀ j, j < la + lb → r j < 65536) ∧ Below w.heap.size w w' := by
  have HD : Hid ((∀ j, j < la → a j < 65536) ∧ (∀ j, j < lb → b j < 65536)) := ⟨da, db⟩
  clear da db
  have hmk : ∀ u : World, (Instr.makeSlice 22 (.int .i64 ((la : Int) + lb)) (.int .i64 ((la : Int) + lb))).run Tryd.prog u = .ok (.slice (some ⟨u.heap.size, 0, none⟩) (la + lb) (la + lb)) (u.alloc (.cells (zc .i64 (la + lb)) 3)) := fun u => by
    rw [make64 _ _ (by omega) (by omega) (by omega)]
    rw [show ((la : Int) + lb).toNat = la + lb by omega]
  go_enter Tryd.func54, Tryd.ntmps54
  go_wp2
  go_loopg [6] la (fun q i wr => ∃ (k : Nat) (f : Nat → Nat), k + q = la ∧ i = .int .i64 k ∧ Cel wr w.heap.size 0 (la + lb) (fun j => .int .i64 (f j : Nat)) ∧ V f (la + lb) = V a k * V b lb ∧ (∀ j, j < la + lb → f j ≤ k * lb * 4294836225) ∧ w.heap.size < wr.heap.size ∧ Below w.heap.size w wr)
  case atStart =>
    refine ⟨0, fun _ => 0, by omega, rfl, (Row.zc w .i64 (la + lb) 3).cel, ?_, fun j hj => Nat.zero_le _, by simp, (Below.refl _ _).alloc (Nat.le_refl _) _⟩
    rw [V_zero]; simp [V]
  case round =>
    obtain ⟨k, f, hk, rfl, hC, hv, hbd, hZ, hB⟩ := hrel
    by_cases hlt : k < la
    · have HX : Hid (V f (la + lb) = V a k * V b lb ∧ ∀ j, j < la + lb → f j ≤ k * lb * 4294836225) := ⟨hv, hbd⟩
      clear hv hbd
      go_wp2
      go_loopg [7] lb (fun q i wq => ∃ (m : Nat) (f : Nat → Nat), m + q = lb ∧ i = .int .i64 m ∧ Cel wq w.heap.size 0 (la + lb) (fun j => .int .i64 (f j : Nat)) ∧ V f (la + lb) = V a k * V b lb + a k * 65536 ^ k * V b m ∧ (∀ j, j < la + lb → f j ≤ (k * lb + m) * 4294836225) ∧ w.heap.size < wq.heap.size ∧ Below w.heap.size w wq)
      case atStart => exact ⟨0, f, by omega, rfl, hC, by rw [HX.out.1]; simp [V], fun j hj => HX.out.2 j hj, hZ, hB⟩
      case round =>
        clear hC hZ hB HX f
        obtain ⟨m, f, hm, rfl, hC, hv, hbd, hZ, hB⟩ := hrel
        have HX : Hid (V f (la + lb) = V a k * V b lb + a k * 65536 ^ k * V b m ∧ ∀ j, j < la + lb → f j ≤ (k * lb + m) * 4294836225) := ⟨hv, hbd⟩
        clear hv hbd
        by_cases hlm : m < lb
        · have hc := hC.cell0 (j := k + m) (by omega)
          have hfz := hC.frozen0 (j := k + m) (by omega)
          have hca := (ha.below hB hga).cell0 hlt
          have hcb := (hb.below hB hgb).cell0 hlm
          go_wp2_with fail
          go_region
          go_wp2
          go_roundg (gk - 1)
          case measure => omega
          case rel =>
            have h1 := HD.out.1 k hlt
            have h2 := HD.out.2 m hlm
            have h3 := HX.out.2 (k + m) (by omega)
            have h4 : a k * b m ≤ 65535 * 65535 := Nat.mul_le_mul (by omega) (by omega)
            have h5 : k * lb ≤ 8 * 8 := Nat.mul_le_mul (by omega) (by omega)
            refine ⟨m + 1, fun j => if j = k + m then f (k + m) + a k * b m else f j, by omega, by go_num, ((hC.drewN _).set (k + m) _).congr (fun j hj => ?_), ?_, fun j hj => ?_, by simpa using hZ, (below_drewN' hB _).setCell (Nat.le_refl _) _⟩
            · generalize hy : a k * b m = y at h4
              have e : wrap64 ((f (k + m) : Int) + wrap64 ((a k : Int) * (b m : Int))) = ((f (k + m) + y : Nat) : Int) := by
                have e0 : (a k : Int) * (b m : Int) = (y : Int) := by rw [← hy]; exact (Int.natCast_mul _ _).symm
                rw [e0, w64 (y : Int) (by omega) (by omega), w64 _ (by omega) (by omega)]; omega
              show (if j = k + m then Value.int .i64 _ else _) = Value.int .i64 ((if j = k + m then f (k + m) + y else f j : Nat) : Int)
              by_cases e1 : j = k + m
              · rw [if_pos e1, if_pos e1, e]
              · rw [if_neg e1, if_neg e1]
            · rw [V_upd f (k + m) (a k * b m) (show k + m < la + lb by omega), HX.out.1, V, Nat.mul_add, Nat.add_assoc]
              congr 2
              rw [Nat.pow_add]
              simp only [Nat.mul_left_comm, Nat.mul_assoc]
            · have h6 := HX.out.2 j hj
              show (if j = k + m then f (k + m) + a k * b m else f j) ≤ _
              rw [← Nat.add_assoc, Nat.succ_mul]
              generalize (k * lb + m) * 4294836225 = zz at h3 h6 ⊢
              have h7 : a k * b m ≤ 4294836225 := h4
              generalize a k * b m = ab at h7 ⊢
              clear h4 h5
              by_cases e1 : j = k + m
              · rw [if_pos e1]; omega
              · rw [if_neg e1]; omega
        · obtain rfl : m = lb := by omega
          go_wp2
          go_roundg (la - (k + 1))
          case measure => omega
          case rel =>
            refine ⟨k + 1, f, by omega, by go_num, hC, ?_, fun j hj => ?_, hZ, hB⟩
            · rw [HX.out.1, V, Nat.add_mul]
            · rw [Nat.succ_mul]; exact HX.out.2 j hj
    · obtain rfl : k = la := by omega
      have HX : Hid (V f (k + lb) = V a k * V b lb ∧ ∀ j, j < k + lb → f j ≤ 274869518400) := ⟨hv, fun j hj => by
        have h1 := hbd j hj
        have h5 : k * lb ≤ 8 * 8 := Nat.mul_le_mul (by omega) (by omega)
        omega⟩
      clear hv hbd hlt
      go_wp2
      go_loopg [8] (k + lb - 1) (fun q i wq => ∃ (m : Nat) (f : Nat → Nat), m + q = k + lb - 1 ∧ i = .int .i64 m ∧ Cel wq w.heap.size 0 (k + lb) (fun j => .int .i64 (f j : Nat)) ∧ V f (k + lb) = V a k * V b lb ∧ (∀ j, j < m → f j < 65536) ∧ f m ≤ 549739036800 ∧ (∀ j, m < j → j < k + lb → f j ≤ 274869518400) ∧ w.heap.size < wq.heap.size ∧ Below w.heap.size w wq)
      case atStart => exact ⟨0, f, by omega, rfl, hC, HX.out.1, fun j hj => by omega, by have := HX.out.2 0 (by omega); omega, fun j _ hj => HX.out.2 j hj, hZ, hB⟩
      case round =>
        clear hC hZ hB HX f
        obtain ⟨m, f, hm, rfl, hC, hv, hd1, hd2, hd3, hZ, hB⟩ := hrel
        have HX : Hid (V f (k + lb) = V a k * V b lb ∧ (∀ j, j < m → f j < 65536) ∧ f m ≤ 549739036800 ∧ (∀ j, m < j → j < k + lb → f j ≤ 274869518400)) := ⟨hv, hd1, hd2, hd3⟩
        clear hv hd1 hd2 hd3
        by_cases hlm : m + 1 < k + lb
        · have hc := hC.cell0 (j := m) (by omega)
          have hfz := hC.frozen0 (j := m) (by omega)
          have hc1 := hC.cell0 (j := m + 1) (by omega)
          have hfz1 := hC.frozen0 (j := m + 1) (by omega)
          go_wp2_with fail
          go_region
          go_wp2
          go_roundg (gk - 1)
          case measure => omega
          case rel =>
            obtain ⟨hv, hd1, hd2, hd3⟩ := HX.out
            have h1 := hd3 (m + 1) (by omega) (by omega)
            refine ⟨m + 1, fun j => if j = m then f m % 65536 else if j = m + 1 then f (m + 1) + f m / 65536 else f j, by omega, by go_num, (((hC.set (m + 1) _).set m _).drewN 1).congr (fun j hj => ?_), ?_, fun j hj => ?_, ?_, fun j h2 h3 => ?_, by simpa using hZ, (((hB.setCell (Nat.le_refl _) _).setCell (Nat.le_refl _) _).drew)⟩
            · have e : wrap64 ((f (m + 1) : Int) + wrap64 ((f m : Int) / 65536)) = ((f (m + 1) + f m / 65536 : Nat) : Int) := by
                rw [w64 ((f m : Int) / 65536) (by omega) (by omega), w64 _ (by omega) (by omega)]; omega
              show (if j = m then Value.int .i64 _ else if j = m + 1 then Value.int .i64 _ else _) = Value.int .i64 ((if j = m then f m % 65536 else if j = m + 1 then f (m + 1) + f m / 65536 else f j : Nat) : Int)
              by_cases e1 : j = m
              · rw [if_pos e1, if_pos e1]; exact congrArg _ (by omega)
              · rw [if_neg e1, if_neg e1]
                by_cases e2 : j = m + 1
                · rw [if_pos e2, if_pos e2, e]
                · rw [if_neg e2, if_neg e2]
            · rw [V_carry f m hlm, hv]
            · show (if j = m then f m % 65536 else if j = m + 1 then f (m + 1) + f m / 65536 else f j) < 65536
              by_cases e1 : j = m
              · rw [if_pos e1]; omega
              · rw [if_neg e1, if_neg (by omega)]; exact hd1 j (by omega)
            · show (if m + 1 = m then f m % 65536 else if m + 1 = m + 1 then f (m + 1) + f m / 65536 else f (m + 1)) ≤ _
              rw [if_neg (by omega), if_pos rfl]; omega
            · show (if j = m then f m % 65536 else if j = m + 1 then f (m + 1) + f m / 65536 else f j) ≤ _
              rw [if_neg (by omega), if_neg (by omega)]; exact hd3 j (by omega) h3
        · obtain ⟨hv, hd1, hd2, hd3⟩ := HX.out
          have hm1 : k + lb = m + 1 := by omega
          have hd := HD.out
          have htop : ∀ j, j < k + lb → f j < 65536 := fun j hj => by
            by_cases e1 : j < m
            · exact hd1 j e1
            · obtain rfl : j = m := by omega
              refine V_top f j ?_
              rw [← hm1, hv, Nat.pow_add]
              exact Nat.mul_lt_mul'' (V_lt hd.1) (V_lt hd.2)
          have HR : Hid (V f (k + lb) = V a k * V b lb ∧ ∀ j, j < k + lb → f j < 65536) := ⟨hv, htop⟩
          clear hv hd1 hd2 hd3 hd htop hm1
          go_wp2
          go_ret
          exact ⟨_, f, rfl, hZ, hC, HR.out.1, HR.out.2, hB⟩
end Go.Proofs.YtkmkkmdpjliifaaDoor
