import Derived.Test.YtkmkkmdpjliifaaDoorJxV
namespace Go.Proofs.YtkmkkmdpjliifaaDoor
open Go.ChangeShapes Go.WideShapes Go.ChangeAt Go.RowKit

def NumR (g : Nat) (t : List UInt8) (b : Bool) (w : World) (e : Ending) (w' : World) : Prop :=
  ∃ (n : Nat) (u : List UInt8) (b' : Bool), e = .returned (.int .i64 (n : Nat)) ∧ n < 10000000000000 ∧ Rd w' g u b' ∧ u.length ≤ t.length ∧ Out b (numS t) n u b' ∧ Gr g w w'
/-- the number so far, or one that is too great already -/
def CapN (s : List UInt8) (k N : Nat) : Prop := (dv s k ≤ 999999999999 ∧ N = dv s k) ∨ (999999999999 < dv s k ∧ 999999999999 < N ∧ N < 10000000000000)
theorem CapN.lt {s : List UInt8} {k N : Nat} (h : CapN s k N) : N < 10000000000000 := by rcases h with h | h <;> omega
theorem CapN.more {s : List UInt8} {k N : Nat} (h : CapN s k N) (hN : N ≤ 999999999999) (hd : 48 ≤ by_ s k ∧ by_ s k ≤ 57) : CapN s (k + 1) (10 * N + (by_ s k - 48)) := by
  rcases h with ⟨h1, rfl⟩ | h
  · unfold CapN
    rw [dv]
    by_cases e : 10 * dv s k + (by_ s k - 48) ≤ 999999999999
    · exact Or.inl ⟨e, rfl⟩
    · exact Or.inr ⟨by omega, by omega, by omega⟩
  · omega
theorem CapN.same {s : List UInt8} {k N : Nat} (h : CapN s k N) (hN : ¬ N ≤ 999999999999) : CapN s (k + 1) N := by
  have := dv_mono s (show k ≤ k + 1 by omega)
  rcases h with ⟨h1, rfl⟩ | h
  · omega
  · exact Or.inr ⟨by omega, h.2⟩
theorem num_bad {s : List UInt8} {b : Bool} {v : Nat} {u : List UInt8} {k : Nat} (hk : k = dk s) (h : k = 0 ∨ (1 < k ∧ by_ s 0 = 48) ∨ 999999999999 < dv s k) : Out b (numT s) v u true := by
  cases b with
  | true => exact Out.still
  | false =>
    refine Out.wrong ?_
    unfold numT
    rw [← hk, if_pos h]
theorem num_good {s : List UInt8} {b : Bool} {k : Nat} (hk : k = dk s) (h : ¬ (k = 0 ∨ (1 < k ∧ by_ s 0 = 48) ∨ 999999999999 < dv s k)) : Out b (numT s) (dv s k) (s.drop k) b := by
  cases b with
  | true => exact Out.still
  | false =>
    refine Out.good ?_
    unfold numT
    rw [← hk, if_neg h]

set_option maxRecDepth 20000 in
set_option maxHeartbeats 2000000 in
theorem number_any (g : Nat) (t : List UInt8) (b : Bool) (w : World) (hl : t.length ≤ 1048576) (hR : Rd w g t b) :
    Calls Tryd.prog 42 #[.pointer (some ⟨g, 0, none⟩)] w (NumR g t b w) := by
  have hbl := blank_any g t b w hR
  have hsk := skipB_le t
  have hsl : (skipB t).length ≤ 1048576 := by omega
  have hnS : numS t = numT (skipB t) := rfl
  have HNS := hide hnS
  clear hR hl hnS
  go_enter Tryd.func42, Tryd.ntmps42
  go_wp2_with fail
  refine hbl.mono ?_
  rintro e w1 ⟨⟨v0, rfl⟩, hR, hB1⟩
  have hG := Gr.ofBut hB1
  clear hbl hB1
  generalize skipB t = s at *
  have hc0 := hR.c0
  have hf0 := hR.frozen 0
  have hf1 := hR.frozen 1
  have hc1 := hR.c1
  have HSL := hide hsl
  clear hsl
  go_wp2_with fail
  go_loopg [3, 4] (dk s) (fun q n i wr => ∃ k N : Nat, k + q = dk s ∧ n = .int .i64 (N : Nat) ∧ i = .int .i64 (k : Nat) ∧ CapN s k N ∧ wr = w1)
  case atStart => exact ⟨0, 0, by omega, rfl, rfl, Or.inl ⟨Nat.zero_le _, rfl⟩, rfl⟩
  case round =>
    obtain ⟨k, N, hk, rfl, rfl, hC, rfl⟩ := hrel
    have hdk := dk_le s
    have hNl := hC.lt
    have HC := hide hC
    clear hC
    by_cases hlt : k < dk s
    · have hd := dk_dig s k hlt
      have hix : ∀ u, _ := ix_any s k (by omega)
      have hks : (k : Int) < (s.length : Int) := by omega
      have f1 : (48 : Int) ≤ by_ s k := by omega
      have f2 : (by_ s k : Int) ≤ 57 := by omega
      have hw1 : wrap64 ((k : Int) + 1) = (k : Int) + 1 := w64 _ (by omega) (by have := unhide HSL; omega)
      have hsub : wrap64 ((by_ s k : Int) - 48) = (by_ s k : Int) - 48 := w64 _ (by omega) (by omega)
      have hsub2 : ((by_ s k : Int) - 48) % 256 = (by_ s k : Int) - 48 := by omega
      have HD := hide hd
      clear hd
      by_cases hN : N ≤ 999999999999
      · have d1 : decide ((N : Int) ≤ 999999999999) = true := decide_eq_true (by omega)
        have e1 : wrap64 (10 * (N : Int)) = 10 * (N : Int) := w64 _ (by omega) (by omega)
        have e2 : wrap64 (10 * (N : Int) + ((by_ s k : Int) - 48)) = 10 * (N : Int) + ((by_ s k : Int) - 48) := w64 _ (by omega) (by omega)
        have HN := hide hN
        generalize hz : ((N : Nat) : Int) = z at *
        have HZ := hide hz
        clear hN hNl hz
        generalize hby : by_ s k = y at *
        have HBY := hide hby
        clear hby
        go_wp2_with fail
        go_roundg (gk - 1)
        case measure => omega
        case rel =>
          have h1 := (unhide HC).more (unhide HN) (by rw [unhide HBY]; exact unhide HD)
          rw [unhide HBY] at h1
          refine ⟨k + 1, 10 * N + (y - 48), by omega, congrArg (Value.int .i64) ?_, congrArg (Value.int .i64) (by rw [hw1]; omega), h1, rfl⟩
          have hzz := unhide HZ
          have hd := unhide HD
          rw [e2]
          omega
      · have d1 : decide ((N : Int) ≤ 999999999999) = false := decide_eq_false (by omega)
        have HN := hide hN
        generalize hz : ((N : Nat) : Int) = z at *
        have HZ := hide hz
        clear hN hNl hz
        go_wp2_with fail
        go_roundg (gk - 1)
        case measure => omega
        case rel =>
          exact ⟨k + 1, N, by omega, congrArg (Value.int .i64) (unhide HZ).symm, congrArg (Value.int .i64) (by rw [hw1]; omega), (unhide HC).same (unhide HN), rfl⟩
    · have hke : k = dk s := by omega
      have hend : (¬ k < s.length) ∨ (∃ y : Nat, (k : Int) < (s.length : Int) ∧ (∀ u, (Instr.index 9 (.string ⟨s.toArray⟩) (.int .i64 (k : Int))).run Tryd.prog u = .ok (.int .u8 (y : Nat)) u) ∧ decide ((48 : Int) ≤ (y : Int)) = false) ∨ (∃ y : Nat, (k : Int) < (s.length : Int) ∧ (∀ u, (Instr.index 9 (.string ⟨s.toArray⟩) (.int .i64 (k : Int))).run Tryd.prog u = .ok (.int .u8 (y : Nat)) u) ∧ (48 : Int) ≤ (y : Int) ∧ decide ((y : Int) ≤ 57) = false) := by
        by_cases h1 : k < s.length
        · have h2 := dk_end s (by omega)
          rw [← hke] at h2
          have h3 := ix_any s k h1
          by_cases h4 : 48 ≤ by_ s k
          · exact Or.inr (Or.inr ⟨by_ s k, by omega, h3, by omega, decide_eq_false (by omega)⟩)
          · exact Or.inr (Or.inl ⟨by_ s k, by omega, h3, decide_eq_false (by omega)⟩)
        · exact Or.inl h1
      have hdr := drop_any s k (by omega)
      have hlen : (s.drop k).length ≤ t.length := by rw [List.length_drop]; omega
      have hcl : (k = 0 ∧ ((k : Int) == 0) = true) ∨ (1 < k ∧ by_ s 0 = 48 ∧ ((k : Int) == 0) = false ∧ decide ((1 : Int) < (k : Int)) = true ∧ (∀ u, (Instr.index 9 (.string ⟨s.toArray⟩) (.int .i64 0)).run Tryd.prog u = .ok (.int .u8 48) u)) ∨
          (k = 1 ∧ ((k : Int) == 0) = false ∧ decide ((1 : Int) < (k : Int)) = false) ∨ (∃ y : Nat, 1 < k ∧ by_ s 0 = y ∧ y ≠ 48 ∧ ((k : Int) == 0) = false ∧ decide ((1 : Int) < (k : Int)) = true ∧ (∀ u, (Instr.index 9 (.string ⟨s.toArray⟩) (.int .i64 0)).run Tryd.prog u = .ok (.int .u8 (y : Nat)) u) ∧ ((y : Int) == 48) = false) := by
        by_cases h0 : k = 0
        · exact Or.inl ⟨h0, by simp [h0]⟩
        have hk0 : ((k : Int) == 0) = false := by simp only [beq_eq_false_iff_ne, ne_eq]; omega
        by_cases h1 : k = 1
        · exact Or.inr (Or.inr (Or.inl ⟨h1, hk0, decide_eq_false (by omega)⟩))
        have h3 := ix_any s 0 (by omega)
        by_cases h4 : by_ s 0 = 48
        · rw [h4] at h3
          exact Or.inr (Or.inl ⟨by omega, h4, hk0, decide_eq_true (by omega), h3⟩)
        · exact Or.inr (Or.inr (Or.inr ⟨by_ s 0, by omega, rfl, h4, hk0, decide_eq_true (by omega), h3, by simp only [beq_eq_false_iff_ne, ne_eq]; omega⟩))
      have hNN : decide ((999999999999 : Int) < (N : Int)) = decide (999999999999 < N) := by
        by_cases h : 999999999999 < N
        · rw [decide_eq_true h]; exact decide_eq_true (by omega)
        · rw [decide_eq_false h]; exact decide_eq_false (by omega)
      have HNL := hide hNl
      have HKE := hide hke
      have hbig : decide (999999999999 < N) = decide (999999999999 < dv s k) := by
        rcases unhide HC with ⟨h1, rfl⟩ | ⟨h1, h2, _⟩
        · rfl
        · rw [decide_eq_true h1, decide_eq_true h2]
      have hval : ¬ 999999999999 < dv s k → N = dv s k := fun h => by
        rcases unhide HC with ⟨h1, h2⟩ | ⟨h1, _⟩
        · exact h2
        · exact absurd h1 h
      rw [hbig] at hNN
      have HV := hide hval
      generalize hgr : decide (999999999999 < dv s k) = big at *
      have HGR := hide hgr
      generalize hz : ((N : Nat) : Int) = z at *
      have HZ := hide hz
      clear hbig hval hgr hz hlt hNl hke hsk hdk hk
      rcases hcl with ⟨hk0, m1⟩ | ⟨hk1, hy0, m1, m2, m3⟩ | ⟨hk1, m1, m2⟩ | ⟨y0, hk1, hy0, hy1, m1, m2, m3, m4⟩
      · have HK0 := hide hk0
        clear hk0
        rcases hend with n1 | ⟨y, n1, n2, n3⟩ | ⟨y, n1, n2, n3, n4⟩
        all_goals
          go_wp2_with fail
          go_ret
          exact ⟨N, s.drop k, true, congrArg (fun x => Ending.returned (Value.int .i64 x)) (unhide HZ).symm, unhide HNL, (hR.set1 true).set0 _, hlen, by rw [unhide HNS]; exact num_bad (unhide HKE) (Or.inl (unhide HK0)), (hG.setCell _ _).setCell _ _⟩
      · have HK0 : Hid (1 < k ∧ by_ s 0 = 48) := ⟨hk1, hy0⟩
        clear hk1 hy0
        rcases hend with n1 | ⟨y, n1, n2, n3⟩ | ⟨y, n1, n2, n3, n4⟩
        all_goals
          go_wp2_with fail
          go_ret
          exact ⟨N, s.drop k, true, congrArg (fun x => Ending.returned (Value.int .i64 x)) (unhide HZ).symm, unhide HNL, (hR.set1 true).set0 _, hlen, by rw [unhide HNS]; exact num_bad (unhide HKE) (Or.inr (Or.inl (unhide HK0))), (hG.setCell _ _).setCell _ _⟩
      · have HK0 := hide hk1
        clear hk1
        cases big with
        | true =>
          rcases hend with n1 | ⟨y, n1, n2, n3⟩ | ⟨y, n1, n2, n3, n4⟩
          all_goals
            go_wp2_with fail
            go_ret
            exact ⟨N, s.drop k, true, congrArg (fun x => Ending.returned (Value.int .i64 x)) (unhide HZ).symm, unhide HNL, (hR.set1 true).set0 _, hlen, by rw [unhide HNS]; exact num_bad (unhide HKE) (Or.inr (Or.inr (of_decide_eq_true (unhide HGR)))), (hG.setCell _ _).setCell _ _⟩
        | false =>
          rcases hend with n1 | ⟨y, n1, n2, n3⟩ | ⟨y, n1, n2, n3, n4⟩
          all_goals
            go_wp2_with fail
            go_ret
            exact ⟨N, s.drop k, b, congrArg (fun x => Ending.returned (Value.int .i64 x)) (unhide HZ).symm, unhide HNL, hR.set0 _, hlen, by rw [unhide HNS, unhide HV (of_decide_eq_false (unhide HGR))]; exact num_good (unhide HKE) (by have h1 := unhide HK0; have h2 := of_decide_eq_false (unhide HGR); omega), hG.setCell _ _⟩
      · have HK0 : Hid (1 < k ∧ by_ s 0 ≠ 48) := ⟨hk1, by rw [hy0]; exact hy1⟩
        clear hk1 hy0 hy1
        cases big with
        | true =>
          rcases hend with n1 | ⟨y, n1, n2, n3⟩ | ⟨y, n1, n2, n3, n4⟩
          all_goals
            go_wp2_with fail
            go_ret
            exact ⟨N, s.drop k, true, congrArg (fun x => Ending.returned (Value.int .i64 x)) (unhide HZ).symm, unhide HNL, (hR.set1 true).set0 _, hlen, by rw [unhide HNS]; exact num_bad (unhide HKE) (Or.inr (Or.inr (of_decide_eq_true (unhide HGR)))), (hG.setCell _ _).setCell _ _⟩
        | false =>
          rcases hend with n1 | ⟨y, n1, n2, n3⟩ | ⟨y, n1, n2, n3, n4⟩
          all_goals
            go_wp2_with fail
            go_ret
            exact ⟨N, s.drop k, b, congrArg (fun x => Ending.returned (Value.int .i64 x)) (unhide HZ).symm, unhide HNL, hR.set0 _, hlen, by rw [unhide HNS, unhide HV (of_decide_eq_false (unhide HGR))]; exact num_good (unhide HKE) (by have h1 := unhide HK0; have h2 := of_decide_eq_false (unhide HGR); omega), hG.setCell _ _⟩
end Go.Proofs.YtkmkkmdpjliifaaDoor
