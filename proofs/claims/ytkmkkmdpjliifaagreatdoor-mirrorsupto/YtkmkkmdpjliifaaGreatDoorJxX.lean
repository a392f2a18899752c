import Derived.Test.YtkmkkmdpjliifaaGreatDoorJzG
import Derived.Test.YtkmkkmdpjliifaaGreatDoorNxC
namespace Go.Proofs.YtkmkkmdpjliifaaGreatDoor
open Go.ChangeShapes Go.WideShapes Go.ChangeAt Go.RowKit

def NumR (g : Nat) (t : List UInt8) (b : Bool) (w : World) (e : Ending) (w' : World) : Prop :=
  ∃ (n : Nat) (u : List UInt8) (b' : Bool), e = .returned (.int .i64 (n : Nat)) ∧ n < 10000000000000 ∧ Rd w' g u b' ∧ u.length ≤ t.length ∧ Out b (numS t) n u b' ∧ Gr g w w'
/-- the number so far, or one that is too great already -/
def CapN (s : List UInt8) (k N : Nat) : Prop := (dv s k ≤ 999999999999 ∧ N = dv s k) ∨ (999999999999 < dv s k ∧ 999999999999 < N ∧ N < 10000000000000)
theorem CapN.lt {s : List UInt8} {k N : Nat} (h : CapN s k N) : N < 10000000000000 := by rcases h with h | h <;> omega
theorem CapN.more {s : List UInt8} {k N : Nat} (h : CapN s k N) (hN : N ≤ 999999999999) (hd : 48 ≤ by_ s k ∧ by_ s k ≤ 57) : CapN s (k + 1) (10 * N + (by_ s k - 48)) := by
  rcases h with ⟨h1, rfl⟩ | h
  · unfold CapN
    rw [dv]
    by_cases e : 10 * dv s k + (by_ s k - 48) ≤ 999999999999
    · exact Or.inl ⟨e, rfl⟩
    · exact Or.inr ⟨by omega, by omega, by omega⟩
  · omega
theorem CapN.same {s : List UInt8} {k N : Nat} (h : CapN s k N) (hN : ¬ N ≤ 999999999999) : CapN s (k + 1) N := by
  have := dv_mono s (show k ≤ k + 1 by omega)
  rcases h with ⟨h1, rfl⟩ | h
  · omega
  · exact Or.inr ⟨by omega, h.2⟩
theorem num_bad {s : List UInt8} {b : Bool} {v : Nat} {u : List UInt8} {k : Nat} (hk : k = dk s) (h : k = 0 ∨ (1 < k ∧ by_ s 0 = 48) ∨ 999999999999 < dv s k) : Out b (numT s) v u true := by
  cases b with
  | true => exact Out.still
  | false =>
    refine Out.wrong ?_
    unfold numT
    rw [← hk, if_pos h]
theorem num_good {s : List UInt8} {b : Bool} {k : Nat} (hk : k = dk s) (h : ¬ (k = 0 ∨ (1 < k ∧ by_ s 0 = 48) ∨ 999999999999 < dv s k)) : Out b (numT s) (dv s k) (s.drop k) b := by
  cases b with
  | true => exact Out.still
  | false =>
    refine Out.good ?_
    unfold numT
    rw [← hk, if_neg h]

set_option maxRecDepth 20000 in
set_option maxHeartbeats 2000000 in
theorem number_any (g : Nat) (t : List UInt8) (b : Bool) (w : World) (hl : t.length ≤ 1048576) (hR : Rd w g t b) :
    Calls Tryz.prog 158 #[.pointer (some ⟨g, 0, none⟩)] w (NumR g t b w) := by
  have hbl := blank_any g t b w hR
  have hsk := skipB_le t
  have hsl : (skipB t).length ≤ 1048576 := by omega
  have hnS : numS t = numT (skipB t) := rfl
  have HNS := hide hnS
  clear hR hl hnS
  go_enter Tryz.func158, Tryz.ntmps158
  go_wp2_with fail
  refine hbl.mono ?_
  rintro e w1 ⟨⟨v0, rfl⟩, hR, hB1⟩
  have hG := Gr.ofBut hB1
  clear hbl hB1
  generalize skipB t = s at *
  have hc0 := hR.c0
  have hf0 := hR.frozen 0
  have hf1 := hR.frozen 1
  have hc1 := hR.c1
  have HSL := hide hsl
  clear hsl
  go_wp2_with fail
  go_loopg [3, 4] (dk s) (fun q n i wr => ∃ k N : Nat, k + q = dk s ∧ n = .int .i64 (N : Nat) ∧ i = .int .i64 (k : Nat) ∧ CapN s k N ∧ wr = w1)
  case atStart => exact ⟨0, 0, by omega, rfl, rfl, Or.inl ⟨Nat.zero_le _, rfl⟩, rfl⟩
  case round =>
    obtain ⟨k, N, hk, rfl, rfl, hC, rfl⟩ := hrel
    have hdk := dk_le s
    have hNl := hC.lt
    have HC := hide hC
    clear hC
    by_cases hlt : k < dk s
    · have hd := dk_dig s k hlt
      have hix : ∀ u, _ := ix_any s k (by omega)
      have hks : (k : Int) < (s.length : Int) := by omega
      have f1 : (48 : Int) ≤ by_ s k := by omega
      have f2 : (by_ s k : Int) ≤ 57 := by omega
      have hw1 : wrap64 ((k : Int) + 1) = (k : Int) + 1 := w64 _ (by omega) (by have := unhide HSL; omega)
      have hsub : wrap64 ((by_ s k : Int) - 48) = (by_ s k : Int) - 48 := w64 _ (by omega) (by omega)
      have hsub2 : ((by_ s k : Int) - 48) % 256 = (by_ s k : Int) - 48 := by omega
      have HD := hide hd
      clear hd
      by_cases hN : N ≤ 999999999999
      · have d1 : decide ((N : Int) ≤ 999999999999) = true := decide_eq_true (by omega)
        have e1 : wrap64 (10 * (N : Int)) = 10 * (N : Int) := w64 _ (by omega) (by omega)
        have e2 : wrap64 (10 * (N : Int) + ((by_ s k : Int) - 48)) = 10 * (N : Int) + ((by_ s k : Int) - 48) := w64 _ (by omega) (by omega)
        have HN := hide hN
        generalize hz : ((N : Nat) : Int) = z at *
        have HZ := hide hz
        clear hN hNl hz
        generalize hby : by_ s k = y at *
        have HBY := hide hby
        clear hby
        go_wp2_with fail
        go_roundg (gk - 1)
        case measure => omega
        case rel =>
          have h1 := (unhide HC).more (unhide HN) (by rw [unhide HBY]; exact unhide HD)
          rw [unhide HBY] at h1
          refine ⟨k + 1, 10 * N + (y - 48), by omega, congrArg (Value.int .i64) ?_, congrArg (Value.int .i64) (by rw [hw1]; omega), h1, rfl⟩
          have hzz := unhide HZ
          have hd := unhide HD
          rw [e2]
          omega
      · have d1 : decide ((N : Int) ≤ 999999999999) = false := decide_eq_false (by omega)
        have HN := hide hN
        generalize hz : ((N : Nat) : Int) = z at *
        have HZ := hide hz
        clear hN hNl hz
        go_wp2_with fail
        go_roundg (gk - 1)
        case measure => omega
        case rel =>
          exact ⟨k + 1, N, by omega, congrArg (Value.int .i64) (unhide HZ).symm, congrArg (Value.int .i64) (by rw [hw1]; omega), (unhide HC).same (unhide HN), rfl⟩
    · have hke : k = dk s := by omega
      have hend : (¬ k < s.length) ∨ (∃ y : Nat, (k : Int) < (s.length : Int) ∧ (∀ u, (Instr.index 9 (.string ⟨s.toArray⟩) (.int .i64 (k : Int))).run Tryz.prog u = .ok (.int .u8 (y : Nat)) u) ∧ decide ((48 : Int) ≤ (y : Int)) = false) ∨ (∃ y : Nat, (k : Int) < (s.length : Int) ∧ (∀ u, (Instr.index 9 (.string ⟨s.toArray⟩) (.int .i64 (k : Int))).run Tryz.prog u = .ok (.int .u8 (y : Nat)) u) ∧ (48 : Int) ≤ (y : Int) ∧ decide ((y : Int) ≤ 57) = false) := by
        by_cases h1 : k < s.length
        · have h2 := dk_end s (by omega)
          rw [← hke] at h2
          have h3 := ix_any s k h1
          by_cases h4 : 48 ≤ by_ s k
          · exact Or.inr (Or.inr ⟨by_ s k, by omega, h3, by omega, decide_eq_false (by omega)⟩)
          · exact Or.inr (Or.inl ⟨by_ s k, by omega, h3, decide_eq_false (by omega)⟩)
        · exact Or.inl h1
      have hdr := drop_any s k (by omega)
      have hlen : (s.drop k).length ≤ t.length := by rw [List.length_drop]; omega
      have hcl : (k = 0 ∧ ((k : Int) == 0) = true) ∨ (1 < k ∧ by_ s 0 = 48 ∧ ((k : Int) == 0) = false ∧ decide ((1 : Int) < (k : Int)) = true ∧ (∀ u, (Instr.index 9 (.string ⟨s.toArray⟩) (.int .i64 0)).run Tryz.prog u = .ok (.int .u8 48) u)) ∨
          (k = 1 ∧ ((k : Int) == 0) = false ∧ decide ((1 : Int) < (k : Int)) = false) ∨ (∃ y : Nat, 1 < k ∧ by_ s 0 = y ∧ y ≠ 48 ∧ ((k : Int) == 0) = false ∧ decide ((1 : Int) < (k : Int)) = true ∧ (∀ u, (Instr.index 9 (.string ⟨s.toArray⟩) (.int .i64 0)).run Tryz.prog u = .ok (.int .u8 (y : Nat)) u) ∧ ((y : Int) == 48) = false) := by
        by_cases h0 : k = 0
        · exact Or.inl ⟨h0, by simp [h0]⟩
        have hk0 : ((k : Int) == 0) = false := by simp only [beq_eq_false_iff_ne, ne_eq]; omega
        by_cases h1 : k = 1
        · exact Or.inr (Or.inr (Or.inl ⟨h1, hk0, decide_eq_false (by omega)⟩))
        have h3 := ix_any s 0 (by omega)
        by_cases h4 : by_ s 0 = 48
        · rw [h4] at h3
          exact Or.inr (Or.inl ⟨by omega, h4, hk0, decide_eq_true (by omega), h3⟩)
        · exact Or.inr (Or.inr (Or.inr ⟨by_ s 0, by omega, rfl, h4, hk0, decide_eq_true (by omega), h3, by simp only [beq_eq_false_iff_ne, ne_eq]; omega⟩))
      have hNN : decide ((999999999999 : Int) < (N : Int)) = decide (999999999999 < N) := by
        by_cases h : 999999999999 < N
        · rw [decide_eq_true h]; exact decide_eq_true (by omega)
        · rw [decide_eq_false h]; exact decide_eq_false (by omega)
      have HNL := hide hNl
      have HKE := hide hke
      have hbig : decide (999999999999 < N) = decide (999999999999 < dv s k) := by
        rcases unhide HC with ⟨h1, rfl⟩ | ⟨h1, h2, _⟩
        · rfl
        · rw [decide_eq_true h1, decide_eq_true h2]
      have hval : ¬ 999999999999 < dv s k → N = dv s k := fun h => by
        rcases unhide HC with ⟨h1, h2⟩ | ⟨h1, _⟩
        · exact h2
        · exact absurd h1 h
      rw [hbig] at hNN
      have HV := hide hval
      generalize hgr : decide (999999999999 < dv s k) = big at *
      have HGR := hide hgr
      generalize hz : ((N : Nat) : Int) = z at *
      have HZ := hide hz
      clear hbig hval hgr hz hlt hNl hke hsk hdk hk
      rcases hcl with ⟨hk0, m1⟩ | ⟨hk1, hy0, m1, m2, m3⟩ | ⟨hk1, m1, m2⟩ | ⟨y0, hk1, hy0, hy1, m1, m2, m3, m4⟩
      · have HK0 := hide hk0
        clear hk0
        rcases hend with n1 | ⟨y, n1, n2, n3⟩ | ⟨y, n1, n2, n3, n4⟩
        all_goals
          go_wp2_with fail
          go_ret
          exact ⟨N, s.drop k, true, congrArg (fun x => Ending.returned (Value.int .i64 x)) (unhide HZ).symm, unhide HNL, (hR.set1 true).set0 _, hlen, by rw [unhide HNS]; exact num_bad (unhide HKE) (Or.inl (unhide HK0)), (hG.setCell _ _).setCell _ _⟩
      · have HK0 : Hid (1 < k ∧ by_ s 0 = 48) := ⟨hk1, hy0⟩
        clear hk1 hy0
        rcases hend with n1 | ⟨y, n1, n2, n3⟩ | ⟨y, n1, n2, n3, n4⟩
        all_goals
          go_wp2_with fail
          go_ret
          exact ⟨N, s.drop k, true, congrArg (fun x => Ending.returned (Value.int .i64 x)) (unhide HZ).symm, unhide HNL, (hR.set1 true).set0 _, hlen, by rw [unhide HNS]; exact num_bad (unhide HKE) (Or.inr (Or.inl (unhide HK0))), (hG.setCell _ _).setCell _ _⟩
      · have HK0 := hide hk1
        clear hk1
        cases big with
        | true =>
          rcases hend with n1 | ⟨y, n1, n2, n3⟩ | ⟨y, n1, n2, n3, n4⟩
          all_goals
            go_wp2_with fail
            go_ret
            exact ⟨N, s.drop k, true, congrArg (fun x => Ending.returned (Value.int .i64 x)) (unhide HZ).symm, unhide HNL, (hR.set1 true).set0 _, hlen, by rw [unhide HNS]; exact num_bad (unhide HKE) (Or.inr (Or.inr (of_decide_eq_true (unhide HGR)))), (hG.setCell _ _).setCell _ _⟩
        | false =>
          rcases hend with n1 | ⟨y, n1, n2, n3⟩ | ⟨y, n1, n2, n3, n4⟩
          all_goals
            go_wp2_with fail
            go_ret
            exact ⟨N, s.drop k, b, congrArg (fun x => Ending.returned (Value.int .i64 x)) (unhide HZ).symm, unhide HNL, hR.set0 _, hlen, by rw [unhide HNS, unhide HV (of_decide_eq_false (unhide HGR))]; exact num_good (unhide HKE) (by have h1 := unhide HK0; have h2 := of_decide_eq_false (unhide HGR); omega), hG.setCell _ _⟩
      · have HK0 : Hid (1 < k ∧ by_ s 0 ≠ 48) := ⟨hk1, by rw [hy0]; exact hy1⟩
        clear hk1 hy0 hy1
        cases big with
        | true =>
          rcases hend with n1 | ⟨y, n1, n2, n3⟩ | ⟨y, n1, n2, n3, n4⟩
          all_goals
            go_wp2_with fail
            go_ret
            exact ⟨N, s.drop k, true, congrArg (fun x => Ending.returned (Value.int .i64 x)) (unhide HZ).symm, unhide HNL, (hR.set1 true).set0 _, hlen, by rw [unhide HNS]; exact num_bad (unhide HKE) (Or.inr (Or.inr (of_decide_eq_true (unhide HGR)))), (hG.setCell _ _).setCell _ _⟩
        | false =>
          rcases hend with n1 | ⟨y, n1, n2, n3⟩ | ⟨y, n1, n2, n3, n4⟩
          all_goals
            go_wp2_with fail
            go_ret
            exact ⟨N, s.drop k, b, congrArg (fun x => Ending.returned (Value.int .i64 x)) (unhide HZ).symm, unhide HNL, hR.set0 _, hlen, by rw [unhide HNS, unhide HV (of_decide_eq_false (unhide HGR))]; exact num_good (unhide HKE) (by have h1 := unhide HK0; have h2 := of_decide_eq_false (unhide HGR); omega), hG.setCell _ _⟩
end Go.Proofs.YtkmkkmdpjliifaaGreatDoor
namespace Go.Proofs.YtkmkkmdpjliifaaGreatDoor
open Go.ChangeShapes Go.WideShapes Go.ChangeAt Go.RowKit

/-- a slice of strings that the call made itself, and what it holds -/
def OwnS (w : World) (base : Nat) (v : Value) (l : List (List UInt8)) : Prop := w.ownsRow base 9 1 v l.length (svs l)
theorem OwnS.nil (w : World) (base : Nat) : OwnS w base (.slice none 0 0) [] := World.ownsRow_nil _ _ _ _
theorem OwnS.below {w w' : World} {base : Nat} {v : Value} {l : List (List UInt8)} (h : OwnS w base v l) (hb : Below w.heap.size w w') : OwnS w' base v l := ownsRow_below h hb (Nat.le_refl _)
theorem OwnS.lt {w : World} {base : Nat} {v : Value} {l : List (List UInt8)} (h : OwnS w base v l) : ∀ k, v.ownBlock = some k → base ≤ k ∧ k < w.heap.size := World.ownsRow.lt h
theorem OwnS.keep {w w' : World} {base : Nat} {v : Value} {l : List (List UInt8)} (h : OwnS w base v l) (hb : ∀ k, base ≤ k → k < w.heap.size → w'.heap[k]? = w.heap[k]?) : OwnS w' base v l := by
  have hlt := h.lt
  obtain ⟨h1, h2⟩ := h
  refine ⟨h1, ?_⟩
  rcases h2 with h2 | ⟨g, cap, cur, hv, hg, hh, r⟩
  · exact Or.inl h2
  · have hl := (hlt g (by subst hv; rfl)).2
    exact Or.inr ⟨g, cap, cur, hv, hg, by rw [hb g hg hl]; exact hh, r⟩
theorem OwnS.gr {w w' : World} {base g : Nat} {v : Value} {l : List (List UInt8)} (h : OwnS w base v l) (hb : Gr g w w') (hg : g < base) : OwnS w' base v l := h.keep (fun k hk hl => hb.block k (by omega) hl)
theorem OwnS.down {w : World} {base b2 : Nat} {v : Value} {l : List (List UInt8)} (h : OwnS w base v l) (hb : b2 ≤ base) : OwnS w b2 v l := by
  obtain ⟨h1, h2⟩ := h
  refine ⟨h1, ?_⟩
  rcases h2 with h2 | ⟨g, cap, cur, hv, hg, r⟩
  · exact Or.inl h2
  · exact Or.inr ⟨g, cap, cur, hv, Nat.le_trans hb hg, r⟩
theorem OwnS.ls {w : World} {base : Nat} {v : Value} {l : List (List UInt8)} (h : OwnS w base v l) : Ls w w.heap.size v l := owns_Ls h
theorem app35 {w : World} {ops : Array Oper} {rest : List Oper} {o : Oper} {a : Act} {Q : Exit → Act → World → Prop} (hgd : o.guard = none) (s x : Operand)
    (ho : o.op = .call { callee := .builtin .append, args := #[s, x], argTypes := #[35, 35] })
    (base : Nat) (v : Value) (l : List (List UInt8)) (y : List UInt8) (hs : a.eval s = v) (hown : OwnS w base v l)
    (ad : Addr) (hx : a.eval x = .slice (some ad) 1 1) (hc : w.cell? ad = some (.string ⟨y.toArray⟩)) (hn : l.length ≤ 16777216) (hbase : base ≤ w.heap.size)
    (h : ∀ v' w', OwnS w' base v' (l ++ [y]) → w.grownBy w' v.ownBlock → wpList Tryz.prog ops Q rest (a.put o.dst v') w') : wpList Tryz.prog ops Q (o :: rest) a w := by
  obtain ⟨i0, hi, hz0, hz1, hz2⟩ := info_parts info9
  refine wpList_append_own w hgd s x 35 ho base 9 i0 (.string ⟨#[]⟩) 1 16 Tryz.underlying35 hi hz0 hz1 hz2 rfl (by decide) v l.length _ hs hown ad 1 1 [.string ⟨y.toArray⟩] hx rfl ?_ ?_ ?_ ?_ hbase ?_
  · intro j u hj
    match j, hj with
    | 0, hj => simp at hj; subst hj; simpa [Addr.add] using hc
  · intro u hu; simp at hu; subst hu; rfl
  · unfold maxLen; omega
  · omega
  · intro v' w' h1 h2 _
    refine h v' w' ?_ h2
    unfold OwnS
    simpa [svs, sv] using h1
theorem Gr.grown {g : Nat} {a w w' : World} {base : Nat} {v : Value} (h : Gr g a w) (hg : w.grownBy w' v.ownBlock) (hl : ∀ k, v.ownBlock = some k → base ≤ k ∧ k < w.heap.size) (hb : a.heap.size ≤ base) : Gr g a w' :=
  ⟨hg.os.trans h.os, hg.tape.trans h.tape, hg.output.trans h.output, Nat.le_trans h.size hg.size, fun k hk hlt => by
    rw [hg.block k (Nat.lt_of_lt_of_le hlt h.size) (fun e => by have := hl k e.symm; omega)]
    exact h.block k hk hlt⟩
theorem Rd.grown {w w' : World} {base g : Nat} {v : Value} {t : List UInt8} {b : Bool} (h : Rd w g t b) (hg : w.grownBy w' v.ownBlock) (hl : ∀ k, v.ownBlock = some k → base ≤ k ∧ k < w.heap.size) (hb : g < base) : Rd w' g t b :=
  Row.keep h (hg.block g h.lt (fun e => by have := hl g e.symm; omega))

def LstR (g : Nat) (t : List UInt8) (b : Bool) (w : World) (e : Ending) (w' : World) : Prop :=
  ∃ (l : List (List UInt8)) (v : Value) (u : List UInt8) (b' : Bool), e = .returned v ∧ OwnS w' w.heap.size v l ∧ l.length ≤ t.length + 2 ∧ (∀ s ∈ l, s.length ≤ 4 * t.length) ∧ Rd w' g u b' ∧ u.length ≤ t.length ∧ Out b (listS t) l u b' ∧ Gr g w w'
/-- where the reading of a list is -/
def LInv (b : Bool) (t : List UInt8) (out : List (List UInt8)) (u : List UInt8) (b' : Bool) : Prop :=
  (b = true ∧ b' = true) ∨ (b = false ∧ b' = false ∧ listS t = (itemsS u).map (fun r => (out ++ r.1, r.2))) ∨ (b = false ∧ b' = true ∧ listS t = none)
theorem LInv.bad {b : Bool} {t : List UInt8} {out o2 : List (List UInt8)} {u u2 : List UInt8} (h : LInv b t out u true) : Out b (listS t) o2 u2 true := by
  rcases h with ⟨rfl, _⟩ | ⟨_, h, _⟩ | ⟨rfl, _, h⟩
  · exact Out.still
  · cases h
  · exact Out.wrong h
theorem LInv.on {b : Bool} {t : List UInt8} {out o2 : List (List UInt8)} {u u2 : List UInt8} (h : LInv b t out u true) : LInv b t o2 u2 true := by
  rcases h with h | ⟨_, h, _⟩ | h
  · exact Or.inl h
  · cases h
  · exact Or.inr (Or.inr h)
theorem LInv.no {b : Bool} {t : List UInt8} {out o2 : List (List UInt8)} {u u2 : List UInt8} (h : LInv b t out u false) (hn : textS u = none) : LInv b t o2 u2 true := by
  rcases h with ⟨_, h⟩ | ⟨h0, _, h⟩ | ⟨_, h, _⟩
  · cases h
  · refine Or.inr (Or.inr ⟨h0, rfl, ?_⟩)
    rw [h, itemsS_step, hn]; rfl
  · cases h
theorem LInv.more {b : Bool} {t : List UInt8} {out : List (List UInt8)} {u v u2 u3 : List UInt8} (h : LInv b t out u false) (hn : textS u = some (v, u2)) (hs : seesS 44 u2 = some u3) : LInv b t (out ++ [v]) u3 false := by
  rcases h with ⟨_, h⟩ | ⟨h0, _, h⟩ | ⟨_, h, _⟩
  · cases h
  · refine Or.inr (Or.inl ⟨h0, rfl, ?_⟩)
    rw [h, itemsS_step, hn]
    simp only [hs, Option.map_map]
    congr 1
    funext r
    simp
  · cases h
theorem LInv.last {b : Bool} {t : List UInt8} {out : List (List UInt8)} {u v u2 : List UInt8} (h : LInv b t out u false) (hn : textS u = some (v, u2)) (hs : seesS 44 u2 = none) : Out b (listS t) (out ++ [v]) ((seesS 93 (skipB u2)).getD (skipB (skipB u2))) (false || (seesS 93 (skipB u2)).isNone) := by
  have hk : ∀ l : List UInt8, skipB (skipB l) = skipB l := by
    intro l
    induction l with
    | nil => rfl
    | cons c l ih =>
      rw [skipB]
      split
      · exact ih
      · rename_i hc; rw [skipB, if_neg hc]
  have h2 : seesS 93 (skipB u2) = seesS 93 u2 := by unfold seesS; rw [hk]
  rcases h with ⟨_, h⟩ | ⟨rfl, _, h⟩ | ⟨_, h, _⟩
  · cases h
  · rw [itemsS_step, hn] at h
    simp only [hs] at h
    rw [h2]
    cases h3 : seesS 93 u2 with
    | none => rw [h3] at h; exact Out.wrong h
    | some u4 => rw [h3] at h; exact Out.good h
  · cases h

set_option maxRecDepth 20000 in
set_option maxHeartbeats 2000000 in
theorem list_any (g : Nat) (t : List UInt8) (b : Bool) (w : World) (hl : t.length ≤ 1048576) (hR : Rd w g t b) :
    Calls Tryz.prog 159 #[.pointer (some ⟨g, 0, none⟩)] w (LstR g t b w) := by
  have HL := hide hl
  clear hl
  have hgl := hR.lt
  have hsk := skipB_le t
  go_enter Tryz.func159, Tryz.ntmps159
  go_wp2_with fail
  refine (must_any g 91 t b _ hR).mono ?_
  rintro e w1 ⟨⟨v0, rfl⟩, hR1, hB1⟩
  have hG1 := Gr.ofBut hB1
  clear hB1 hR
  have hu1 : ((seesS 91 t).getD (skipB t)).length ≤ t.length := by
    cases h : seesS 91 t with
    | none => exact hsk
    | some u => exact Nat.le_of_lt (seesS_lt h)
  have hI1 : (b = true ∧ (b || (seesS 91 t).isNone) = true) ∨ (b = false ∧ (b || (seesS 91 t).isNone) = false ∧ listS t = restS ((seesS 91 t).getD (skipB t))) ∨ (b = false ∧ (b || (seesS 91 t).isNone) = true ∧ listS t = none) := by
    cases b with
    | true => exact Or.inl ⟨rfl, rfl⟩
    | false =>
      cases h : seesS 91 t with
      | none => exact Or.inr (Or.inr ⟨rfl, rfl, by unfold listS; rw [h]; rfl⟩)
      | some u => exact Or.inr (Or.inl ⟨rfl, rfl, by unfold listS; rw [h]; rfl⟩)
  generalize (seesS 91 t).getD (skipB t) = s1 at *
  generalize (b || (seesS 91 t).isNone) = b1 at *
  go_wp2_with fail
  refine (sees_any g 93 s1 b1 _ hR1).mono ?_
  rintro e w2 ⟨rfl, hR2, hB2⟩
  have hG2 := hG1.trans (Gr.ofBut hB2)
  clear hB2 hR1 hG1
  have hsk1 := skipB_le s1
  cases hs : seesS 93 s1 with
  | some u =>
    rw [hs] at hR2
    have hlt := seesS_lt hs
    simp only [Option.isSome]
    have HO : Hid (Out b (listS t) [] u b1) := by
      rcases hI1 with ⟨rfl, rfl⟩ | ⟨rfl, rfl, h⟩ | ⟨rfl, rfl, h⟩
      · exact Out.still
      · exact Out.good (by rw [h]; unfold restS; rw [hs])
      · exact Out.wrong h
    clear hI1
    go_wp2_with fail
    go_ret
    exact ⟨[], _, u, b1, rfl, OwnS.nil _ _, Nat.zero_le _, fun s h => absurd h (by simp), hR2, by omega, unhide HO, hG2⟩
  | none =>
    rw [hs] at hR2
    simp only [Option.isSome]
    have hIn : LInv b t [] (skipB s1) b1 := by
      rcases hI1 with h | ⟨h0, h1, h⟩ | h
      · exact Or.inl h
      · refine Or.inr (Or.inl ⟨h0, h1, ?_⟩)
        rw [h]
        unfold restS
        rw [hs]
        have hk : itemsS s1 = itemsS (skipB s1) := by
          have hk : ∀ l : List UInt8, skipB (skipB l) = skipB l := by
            intro l
            induction l with
            | nil => rfl
            | cons c l ih =>
              rw [skipB]
              split
              · exact ih
              · rename_i hc; rw [skipB, if_neg hc]
          have h2 : textS (skipB s1) = textS s1 := by unfold textS seesS; rw [hk]
          rw [itemsS_step, itemsS_step (skipB s1), h2]
        rw [hk]
        cases itemsS (skipB s1) <;> rfl
      · exact Or.inr (Or.inr h)
    have HI1 := hide hIn
    clear hI1 hIn
    go_wp2_with fail
    go_loopg [4] (t.length + 1) (fun q o wr => ∃ (out : List (List UInt8)) (u : List UInt8) (b' : Bool), OwnS wr w.heap.size o out ∧ Rd wr g u b' ∧ (b' = false → u.length < q) ∧ u.length ≤ t.length ∧ out.length + q ≤ t.length + 1 ∧ (∀ s ∈ out, s.length ≤ 4 * t.length) ∧ LInv b t out u b' ∧ Gr g w wr)
    case atStart => exact ⟨[], skipB s1, b1, OwnS.nil _ _, hR2, fun _ => by omega, by omega, by simp, fun s h => absurd h (by simp), unhide HI1, hG2⟩
    case round =>
      clear hR2 hG2
      obtain ⟨out, u, b', hO, hR, hq, hu, hol, hfit, hI, hG⟩ := hrel
      have hc1 := hR.c1
      have HI := hide hI
      have HF := hide hfit
      clear hI hfit
      cases b' with
      | true =>
        go_wp2_with fail
        go_ret
        exact ⟨out, _, u, true, rfl, hO, by omega, unhide HF, hR, hu, (unhide HI).bad, hG⟩
      | false =>
        have hq' := hq rfl
        clear hq
        go_wp2_with fail
        refine (text_any g u false _ (by have := unhide HL; omega) hR).mono ?_
        rintro e w3 ⟨v, u2, b2, rfl, hv, hR3, hl3, hO3, hG3⟩
        have hO4 := hO.gr hG3 hgl
        have hG4 := hG.trans hG3
        have hs4 := hG4.size
        have hfit2 : ∀ s ∈ out ++ [v], s.length ≤ 4 * t.length := fun s h => by
          rcases List.mem_append.1 h with h | h
          · exact unhide HF s h
          · simp at h; subst h; omega
        have HF2 := hide hfit2
        have HO3 := hide hO3
        clear hO hG hR hG3 hfit2 hO3
        have hsz : w.heap.size ≤ (w3.alloc (.cells #[.string ⟨v.toArray⟩] 9)).heap.size := by simp; omega
        go_wp2_with (first | (at_builtin; refine app35 rfl _ _ rfl w.heap.size _ out v rfl (hO4.below ((Below.refl _ _).alloc (Nat.le_refl _) _)) _ rfl (by simp) (by have := unhide HL; omega) hsz ?_; intro v5 w5 hO5 hg5) | fail)
        have hg5' : (w3.alloc (.cells #[.string ⟨v.toArray⟩] 9)).grownBy w5 u4.ownBlock := hg5
        have hlt5 : ∀ k, u4.ownBlock = some k → w.heap.size ≤ k ∧ k < (w3.alloc (.cells #[.string ⟨v.toArray⟩] 9)).heap.size := fun k h => by
          have := hO4.lt k h
          exact ⟨this.1, by simp; omega⟩
        have hR5 := (hR3.alloc (.cells #[.string ⟨v.toArray⟩] 9)).grown hg5' hlt5 hgl
        have hG5 := (hG4.alloc (.cells #[.string ⟨v.toArray⟩] 9)).grown hg5' hlt5 (Nat.le_refl _)
        clear hg5 hg5' hlt5 hO4 hG4 hR3 hsz
        refine (sees_any g 44 u2 b2 _ hR5).mono ?_
        rintro e w6 ⟨rfl, hR6, hB6⟩
        have hG6 := hG5.trans (Gr.ofBut hB6)
        have hO6 := hO5.gr (Gr.ofBut hB6) hgl
        clear hR5 hG5 hO5 hB6
        have hII : (b2 = true ∧ LInv b t (out ++ [v]) u2 true) ∨ (b2 = false ∧ textS u = some (v, u2)) := by
          rcases (unhide HO3).2 rfl with ⟨h1, h2⟩ | ⟨h1, h2⟩
          · exact Or.inr ⟨h2, h1⟩
          · exact Or.inl ⟨h2, (unhide HI).no h1⟩
        have hlen : (out ++ [v]).length = out.length + 1 := by simp
        have hsk2 := skipB_le u2
        cases hs2 : seesS 44 u2 with
        | some u3 =>
          rw [hs2] at hR6
          have hlt3 := seesS_lt hs2
          have HII : Hid (LInv b t (out ++ [v]) u3 b2 ∧ (b2 = false → u2.length < u.length)) := by
            rcases hII with ⟨rfl, h⟩ | ⟨rfl, h⟩
            · exact ⟨h.on, fun h => by cases h⟩
            · exact ⟨(unhide HI).more h hs2, fun _ => (textS_lt h).1⟩
          clear hII
          simp only [Option.isSome]
          go_wp2_with fail
          go_roundg (gk - 1)
          case measure => omega
          case rel => exact ⟨out ++ [v], u3, b2, hO6, hR6, fun h => by have := (unhide HII).2 h; omega, by omega, by omega, unhide HF2, (unhide HII).1, hG6⟩
        | none =>
          rw [hs2] at hR6
          simp only [Option.isSome]
          have HII : Hid (Out b (listS t) (out ++ [v]) ((seesS 93 (skipB u2)).getD (skipB (skipB u2))) (b2 || (seesS 93 (skipB u2)).isNone)) := by
            rcases hII with ⟨rfl, h⟩ | ⟨rfl, h⟩
            · exact h.bad
            · exact (unhide HI).last h hs2
          have hu5 : ((seesS 93 (skipB u2)).getD (skipB (skipB u2))).length ≤ t.length := by
            have := skipB_le (skipB u2)
            cases h : seesS 93 (skipB u2) with
            | none => simp; omega
            | some u => have := seesS_lt h; simp; omega
          clear hII
          go_wp2_with fail
          refine (must_any g 93 (skipB u2) b2 _ hR6).mono ?_
          rintro e w7 ⟨⟨v7, rfl⟩, hR7, hB7⟩
          have hG7 := hG6.trans (Gr.ofBut hB7)
          have hO7 := hO6.gr (Gr.ofBut hB7) hgl
          clear hR6 hG6 hO6 hB7
          go_wp2_with fail
          go_ret
          exact ⟨out ++ [v], _, _, _, rfl, hO7, by omega, unhide HF2, hR7, hu5, unhide HII, hG7⟩
end Go.Proofs.YtkmkkmdpjliifaaGreatDoor
namespace Go.Proofs.YtkmkkmdpjliifaaGreatDoor
open Go.ChangeShapes Go.WideShapes Go.ChangeAt Go.RowKit

/-- claims, as Go has them -/
structure Cz where
  id : Int
  sub : List UInt8
  scp : List (List UInt8)
  aud : List (List UInt8)
  act : List (List UInt8)
  exp : Int
def Cm.z (c : Cm) : Cz := ⟨(c.id : Int), c.sub, c.scp, c.aud, c.act, (c.exp : Int)⟩
def cz0 : Cz := ⟨0, [], [], [], [], 0⟩
/-- may they be? -/
def rightB (c : Cz) : Bool := nameN c.sub && listB c.scp && listB c.aud && listB c.act && decide (0 ≤ c.id) && decide (c.id ≤ 999999999999) && decide (0 ≤ c.exp) && decide (c.exp ≤ 999999999999)
/-- claims as a value: the lists' places -/
structure Pl where
  a2 : Option Addr
  c2 : Nat
  a3 : Option Addr
  c3 : Nat
  a4 : Option Addr
  c4 : Nat
def czF (c : Cz) (p : Pl) (j : Nat) : Value :=
  if j = 0 then .int .i64 c.id else if j = 1 then .string ⟨c.sub.toArray⟩ else if j = 2 then .slice p.a2 c.scp.length p.c2 else if j = 3 then .slice p.a3 c.aud.length p.c3
  else if j = 4 then .slice p.a4 c.act.length p.c4 else .int .i64 c.exp
def czA (c : Cz) (p : Pl) : Array Value := #[.int .i64 c.id, .string ⟨c.sub.toArray⟩, .slice p.a2 c.scp.length p.c2, .slice p.a3 c.aud.length p.c3, .slice p.a4 c.act.length p.c4, .int .i64 c.exp]
structure CzL (w : World) (B : Nat) (c : Cz) (p : Pl) : Prop where
  k2 : Ls w B (.slice p.a2 c.scp.length p.c2) c.scp
  k3 : Ls w B (.slice p.a3 c.aud.length p.c3) c.aud
  k4 : Ls w B (.slice p.a4 c.act.length p.c4) c.act
theorem CzL.below {w w' : World} {B : Nat} {c : Cz} {p : Pl} (h : CzL w B c p) (hb : Below B w w') : CzL w' B c p := ⟨h.k2.below hb, h.k3.below hb, h.k4.below hb⟩
theorem CzL.up {w : World} {B B' : Nat} {c : Cz} {p : Pl} (h : CzL w B c p) (hb : B ≤ B') : CzL w B' c p := ⟨h.k2.up hb, h.k3.up hb, h.k4.up hb⟩
/-- nothing is too great -/
structure CzS (c : Cz) : Prop where
  sub : c.sub.length ≤ 9223372036854775807
  l2 : c.scp.length ≤ 8796093022208
  l3 : c.aud.length ≤ 8796093022208
  l4 : c.act.length ≤ 8796093022208
  f2 : Fits c.scp
  f3 : Fits c.aud
  f4 : Fits c.act
def numsB (i e : Int) : Bool := decide (0 ≤ i) && decide (i ≤ 999999999999) && decide (0 ≤ e) && decide (e ≤ 999999999999)
theorem rightB_eq (c : Cz) : rightB c = (nameN c.sub && (listB c.scp && (listB c.aud && (listB c.act && numsB c.id c.exp)))) := by
  unfold rightB numsB
  simp only [Bool.and_assoc]

set_option maxRecDepth 20000 in
set_option maxHeartbeats 2000000 in
theorem Right_any (c : Cz) (p : Pl) (w : World) (B : Nat) (hB : B ≤ w.heap.size) (hS : CzS c) (hL : CzL w B c p) :
    Calls Tryz.prog 161 #[.agg (czA c p)] w fun e w' => e = .returned (.bool (rightB c)) ∧ Below w.heap.size w w' := by
  generalize hr : rightB c = r
  rw [rightB_eq] at hr
  have HR := hide hr
  clear hr
  unfold czA
  have HS := hide hS
  obtain ⟨wa, hwa⟩ : ∃ wa, wa = w.alloc (.cells #[.int .i64 c.id, .string ⟨c.sub.toArray⟩, .slice p.a2 c.scp.length p.c2, .slice p.a3 c.aud.length p.c3, .slice p.a4 c.act.length p.c4, .int .i64 c.exp] 60) := ⟨_, rfl⟩
  have hba : Below w.heap.size w wa := by rw [hwa]; exact (Below.refl _ _).alloc (Nat.le_refl _) _
  have hsa : wa.heap.size = w.heap.size + 1 := by rw [hwa]; simp
  have HLa := hide (hL.below (hba.mono hB))
  have g0 : wa.cell? ⟨w.heap.size, 0, none⟩ = some (.int .i64 c.id) := by rw [hwa]; simp
  have g1 : wa.cell? ⟨w.heap.size, 1, none⟩ = some (.string ⟨c.sub.toArray⟩) := by rw [hwa]; simp
  have g2 : wa.cell? ⟨w.heap.size, 2, none⟩ = some (.slice p.a2 c.scp.length p.c2) := by rw [hwa]; simp
  have g3 : wa.cell? ⟨w.heap.size, 3, none⟩ = some (.slice p.a3 c.aud.length p.c3) := by rw [hwa]; simp
  have g4 : wa.cell? ⟨w.heap.size, 4, none⟩ = some (.slice p.a4 c.act.length p.c4) := by rw [hwa]; simp
  have g5 : wa.cell? ⟨w.heap.size, 5, none⟩ = some (.int .i64 c.exp) := by rw [hwa]; simp
  have HWA := hide hwa
  clear hS hL hwa
  go_enter Tryz.func161, Tryz.ntmps161
  go_wp2_with fail
  rw [← unhide HWA]
  clear HWA
  go_wp2_with fail
  refine (Name_any c.sub _ (unhide HS).sub).mono ?_
  rintro e w1 ⟨rfl, hb1⟩
  have hs1 := hb1.size
  have u : ∀ j, w1.cell? ⟨w.heap.size, j, none⟩ = wa.cell? ⟨w.heap.size, j, none⟩ := fun j => hb1.cell (p := ⟨w.heap.size, j, none⟩) (by show w.heap.size < _; omega)
  have HL1 := hide ((unhide HLa).below (hb1.mono (by omega)))
  have hbb1 := hba.trans (hb1.mono (by omega))
  rw [← u 0] at g0
  rw [← u 2] at g2
  rw [← u 3] at g3
  rw [← u 4] at g4
  rw [← u 5] at g5
  clear u g1 HLa hb1 hba
  generalize nameN c.sub = n1 at HR ⊢
  go_wp2_with fail
  refine (ListR_any _ c.scp _ B (by omega) (unhide HS).l2 (unhide HS).f2 (unhide HL1).k2).mono ?_
  rintro e w2 ⟨rfl, hb2⟩
  have hs2 := hb2.size
  have u : ∀ j, w2.cell? ⟨w.heap.size, j, none⟩ = w1.cell? ⟨w.heap.size, j, none⟩ := fun j => hb2.cell (p := ⟨w.heap.size, j, none⟩) (by show w.heap.size < _; omega)
  have HL2 := hide ((unhide HL1).below (hb2.mono (by omega)))
  have hbb2 := hbb1.trans (hb2.mono (by omega))
  rw [← u 0] at g0
  rw [← u 3] at g3
  rw [← u 4] at g4
  rw [← u 5] at g5
  clear u g2 HL1 hb2 hbb1
  generalize listB c.scp = n2 at HR ⊢
  go_wp2_with fail
  refine (ListR_any _ c.aud _ B (by omega) (unhide HS).l3 (unhide HS).f3 (unhide HL2).k3).mono ?_
  rintro e w3 ⟨rfl, hb3⟩
  have hs3 := hb3.size
  have u : ∀ j, w3.cell? ⟨w.heap.size, j, none⟩ = w2.cell? ⟨w.heap.size, j, none⟩ := fun j => hb3.cell (p := ⟨w.heap.size, j, none⟩) (by show w.heap.size < _; omega)
  have HL3 := hide ((unhide HL2).below (hb3.mono (by omega)))
  have hbb3 := hbb2.trans (hb3.mono (by omega))
  rw [← u 0] at g0
  rw [← u 4] at g4
  rw [← u 5] at g5
  clear u g3 HL2 hb3 hbb2
  generalize listB c.aud = n3 at HR ⊢
  go_wp2_with fail
  refine (ListR_any _ c.act _ B (by omega) (unhide HS).l4 (unhide HS).f4 (unhide HL3).k4).mono ?_
  rintro e w4 ⟨rfl, hb4⟩
  have u : ∀ j, w4.cell? ⟨w.heap.size, j, none⟩ = w3.cell? ⟨w.heap.size, j, none⟩ := fun j => hb4.cell (p := ⟨w.heap.size, j, none⟩) (by show w.heap.size < _; omega)
  have hbb4 := hbb3.trans (hb4.mono (by omega))
  rw [← u 0] at g0
  rw [← u 5] at g5
  clear u g4 HL3 hb4 hbb3
  generalize listB c.act = n4 at HR ⊢
  have HNB : Hid (numsB c.id c.exp = (decide (0 ≤ c.id) && decide (c.id ≤ 999999999999) && decide (0 ≤ c.exp) && decide (c.exp ≤ 999999999999))) := rfl
  generalize c.id = ci at *
  generalize c.exp = ce at *
  generalize hd1 : decide (0 ≤ ci) = d1 at HNB
  generalize hd2 : decide (ci ≤ 999999999999) = d2 at HNB
  generalize hd3 : decide (0 ≤ ce) = d3 at HNB
  generalize hd4 : decide (ce ≤ 999999999999) = d4 at HNB
  generalize numsB ci ce = nb at *
  clear HS hs1 hs2 hs3 hsa
  cases n1 with
  | false => go_wp2_with fail; go_ret; exact ⟨by rw [← unhide HR]; rfl, hbb4⟩
  | true =>
  cases n2 with
  | false => go_wp2_with fail; go_ret; exact ⟨by rw [← unhide HR]; rfl, hbb4⟩
  | true =>
  cases n3 with
  | false => go_wp2_with fail; go_ret; exact ⟨by rw [← unhide HR]; rfl, hbb4⟩
  | true =>
  cases n4 with
  | false => go_wp2_with fail; go_ret; exact ⟨by rw [← unhide HR]; rfl, hbb4⟩
  | true =>
  cases d1 with
  | false => go_wp2_with fail; go_ret; exact ⟨by rw [← unhide HR, unhide HNB]; rfl, hbb4⟩
  | true =>
  cases d2 with
  | false => go_wp2_with fail; go_ret; exact ⟨by rw [← unhide HR, unhide HNB]; rfl, hbb4⟩
  | true =>
  cases d3 with
  | false => go_wp2_with fail; go_ret; exact ⟨by rw [← unhide HR, unhide HNB]; rfl, hbb4⟩
  | true =>
  cases d4 with
  | false => go_wp2_with fail; go_ret; exact ⟨by rw [← unhide HR, unhide HNB]; rfl, hbb4⟩
  | true => go_wp2_with fail; go_ret; exact ⟨by rw [← unhide HR, unhide HNB]; rfl, hbb4⟩
end Go.Proofs.YtkmkkmdpjliifaaGreatDoor
