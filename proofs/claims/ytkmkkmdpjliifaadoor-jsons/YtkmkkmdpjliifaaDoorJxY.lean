import Derived.Test.YtkmkkmdpjliifaaDoorJxX
import Derived.Test.YtkmkkmdpjliifaaDoorNyI
namespace Go.Proofs.YtkmkkmdpjliifaaDoor
open Go.ChangeShapes Go.WideShapes Go.ChangeAt Go.RowKit

/-- a slice of strings that the call made itself, and what it holds -/
def OwnS (w : World) (base : Nat) (v : Value) (l : List (List UInt8)) : Prop := w.ownsRow base 9 1 v l.length (svs l)
theorem OwnS.nil (w : World) (base : Nat) : OwnS w base (.slice none 0 0) [] := World.ownsRow_nil _ _ _ _
theorem OwnS.below {w w' : World} {base : Nat} {v : Value} {l : List (List UInt8)} (h : OwnS w base v l) (hb : Below w.heap.size w w') : OwnS w' base v l := ownsRow_below h hb (Nat.le_refl _)
theorem OwnS.lt {w : World} {base : Nat} {v : Value} {l : List (List UInt8)} (h : OwnS w base v l) : ∀ k, v.ownBlock = some k → base ≤ k ∧ k < w.heap.size := World.ownsRow.lt h
theorem OwnS.keep {w w' : World} {base : Nat} {v : Value} {l : List (List UInt8)} (h : OwnS w base v l) (hb : ∀ k, base ≤ k → k < w.heap.size → w'.heap[k]? = w.heap[k]?) : OwnS w' base v l := by
  have hlt := h.lt
  obtain ⟨h1, h2⟩ := h
  refine ⟨h1, ?_⟩
  rcases h2 with h2 | ⟨g, cap, cur, hv, hg, hh, r⟩
  · exact Or.inl h2
  · have hl := (hlt g (by subst hv; rfl)).2
    exact Or.inr ⟨g, cap, cur, hv, hg, by rw [hb g hg hl]; exact hh, r⟩
theorem OwnS.gr {w w' : World} {base g : Nat} {v : Value} {l : List (List UInt8)} (h : OwnS w base v l) (hb : Gr g w w') (hg : g < base) : OwnS w' base v l := h.keep (fun k hk hl => hb.block k (by omega) hl)
theorem OwnS.down {w : World} {base b2 : Nat} {v : Value} {l : List (List UInt8)} (h : OwnS w base v l) (hb : b2 ≤ base) : OwnS w b2 v l := by
  obtain ⟨h1, h2⟩ := h
  refine ⟨h1, ?_⟩
  rcases h2 with h2 | ⟨g, cap, cur, hv, hg, r⟩
  · exact Or.inl h2
  · exact Or.inr ⟨g, cap, cur, hv, Nat.le_trans hb hg, r⟩
theorem OwnS.ls {w : World} {base : Nat} {v : Value} {l : List (List UInt8)} (h : OwnS w base v l) : Ls w w.heap.size v l := owns_Ls h
theorem app35 {w : World} {ops : Array Oper} {rest : List Oper} {o : Oper} {a : Act} {Q : Exit → Act → World → Prop} (hgd : o.guard = none) (s x : Operand)
    (ho : o.op = .call { callee := .builtin .append, args := #[s, x], argTypes := #[35, 35] })
    (base : Nat) (v : Value) (l : List (List UInt8)) (y : List UInt8) (hs : a.eval s = v) (hown : OwnS w base v l)
    (ad : Addr) (hx : a.eval x = .slice (some ad) 1 1) (hc : w.cell? ad = some (.string ⟨y.toArray⟩)) (hn : l.length ≤ 16777216) (hbase : base ≤ w.heap.size)
    (h : ∀ v' w', OwnS w' base v' (l ++ [y]) → w.grownBy w' v.ownBlock → wpList Tryd.prog ops Q rest (a.put o.dst v') w') : wpList Tryd.prog ops Q (o :: rest) a w := by
  obtain ⟨i0, hi, hz0, hz1, hz2⟩ := info_parts info9
  refine wpList_append_own w hgd s x 35 ho base 9 i0 (.string ⟨#[]⟩) 1 16 Tryd.underlying35 hi hz0 hz1 hz2 rfl (by decide) v l.length _ hs hown ad 1 1 [.string ⟨y.toArray⟩] hx rfl ?_ ?_ ?_ ?_ hbase ?_
  · intro j u hj
    match j, hj with
    | 0, hj => simp at hj; subst hj; simpa [Addr.add] using hc
  · intro u hu; simp at hu; subst hu; rfl
  · unfold maxLen; omega
  · omega
  · intro v' w' h1 h2 _
    refine h v' w' ?_ h2
    unfold OwnS
    simpa [svs, sv] using h1
theorem Gr.grown {g : Nat} {a w w' : World} {base : Nat} {v : Value} (h : Gr g a w) (hg : w.grownBy w' v.ownBlock) (hl : ∀ k, v.ownBlock = some k → base ≤ k ∧ k < w.heap.size) (hb : a.heap.size ≤ base) : Gr g a w' :=
  ⟨hg.os.trans h.os, hg.tape.trans h.tape, hg.output.trans h.output, Nat.le_trans h.size hg.size, fun k hk hlt => by
    rw [hg.block k (Nat.lt_of_lt_of_le hlt h.size) (fun e => by have := hl k e.symm; omega)]
    exact h.block k hk hlt⟩
theorem Rd.grown {w w' : World} {base g : Nat} {v : Value} {t : List UInt8} {b : Bool} (h : Rd w g t b) (hg : w.grownBy w' v.ownBlock) (hl : ∀ k, v.ownBlock = some k → base ≤ k ∧ k < w.heap.size) (hb : g < base) : Rd w' g t b :=
  Row.keep h (hg.block g h.lt (fun e => by have := hl g e.symm; omega))

def LstR (g : Nat) (t : List UInt8) (b : Bool) (w : World) (e : Ending) (w' : World) : Prop :=
  ∃ (l : List (List UInt8)) (v : Value) (u : List UInt8) (b' : Bool), e = .returned v ∧ OwnS w' w.heap.size v l ∧ l.length ≤ t.length + 2 ∧ (∀ s ∈ l, s.length ≤ 4 * t.length) ∧ Rd w' g u b' ∧ u.length ≤ t.length ∧ Out b (listS t) l u b' ∧ Gr g w w'
/-- where the reading of a list is -/
def LInv (b : Bool) (t : List UInt8) (out : List (List UInt8)) (u : List UInt8) (b' : Bool) : Prop :=
  (b = true ∧ b' = true) ∨ (b = false ∧ b' = false ∧ listS t = (itemsS u).map (fun r => (out ++ r.1, r.2))) ∨ (b = false ∧ b' = true ∧ listS t = none)
theorem LInv.bad {b : Bool} {t : List UInt8} {out o2 : List (List UInt8)} {u u2 : List UInt8} (h : LInv b t out u true) : Out b (listS t) o2 u2 true := by
  rcases h with ⟨rfl, _⟩ | ⟨_, h, _⟩ | ⟨rfl, _, h⟩
  · exact Out.still
  · cases h
  · exact Out.wrong h
theorem LInv.on {b : Bool} {t : List UInt8} {out o2 : List (List UInt8)} {u u2 : List UInt8} (h : LInv b t out u true) : LInv b t o2 u2 true := by
  rcases h with h | ⟨_, h, _⟩ | h
  · exact Or.inl h
  · cases h
  · exact Or.inr (Or.inr h)
theorem LInv.no {b : Bool} {t : List UInt8} {out o2 : List (List UInt8)} {u u2 : List UInt8} (h : LInv b t out u false) (hn : textS u = none) : LInv b t o2 u2 true := by
  rcases h with ⟨_, h⟩ | ⟨h0, _, h⟩ | ⟨_, h, _⟩
  · cases h
  · refine Or.inr (Or.inr ⟨h0, rfl, ?_⟩)
    rw [h, itemsS_step, hn]; rfl
  · cases h
theorem LInv.more {b : Bool} {t : List UInt8} {out : List (List UInt8)} {u v u2 u3 : List UInt8} (h : LInv b t out u false) (hn : textS u = some (v, u2)) (hs : seesS 44 u2 = some u3) : LInv b t (out ++ [v]) u3 false := by
  rcases h with ⟨_, h⟩ | ⟨h0, _, h⟩ | ⟨_, h, _⟩
  · cases h
  · refine Or.inr (Or.inl ⟨h0, rfl, ?_⟩)
    rw [h, itemsS_step, hn]
    simp only [hs, Option.map_map]
    congr 1
    funext r
    simp
  · cases h
theorem LInv.last {b : Bool} {t : List UInt8} {out : List (List UInt8)} {u v u2 : List UInt8} (h : LInv b t out u false) (hn : textS u = some (v, u2)) (hs : seesS 44 u2 = none) : Out b (listS t) (out ++ [v]) ((seesS 93 (skipB u2)).getD (skipB (skipB u2))) (false || (seesS 93 (skipB u2)).isNone) := by
  have hk : ∀ l : List UInt8, skipB (skipB l) = skipB l := by
    intro l
    induction l with
    | nil => rfl
    | cons c l ih =>
      rw [skipB]
      split
      · exact ih
      · rename_i hc; rw [skipB, if_neg hc]
  have h2 : seesS 93 (skipB u2) = seesS 93 u2 := by unfold seesS; rw [hk]
  rcases h with ⟨_, h⟩ | ⟨rfl, _, h⟩ | ⟨_, h, _⟩
  · cases h
  · rw [itemsS_step, hn] at h
    simp only [hs] at h
    rw [h2]
    cases h3 : seesS 93 u2 with
    | none => rw [h3] at h; exact Out.wrong h
    | some u4 => rw [h3] at h; exact Out.good h
  · cases h

set_option maxRecDepth 20000 in
set_option maxHeartbeats 2000000 in
theorem list_any (g : Nat) (t : List UInt8) (b : Bool) (w : World) (hl : t.length ≤ 1048576) (hR : Rd w g t b) :
    Calls Tryd.prog 43 #[.pointer (some ⟨g, 0, none⟩)] w (LstR g t b w) := by
  have HL := hide hl
  clear hl
  have hgl := hR.lt
  have hsk := skipB_le t
  go_enter Tryd.func43, Tryd.ntmps43
  go_wp2_with fail
  refine (must_any g 91 t b _ hR).mono ?_
  rintro e w1 ⟨⟨v0, rfl⟩, hR1, hB1⟩
  have hG1 := Gr.ofBut hB1
  clear hB1 hR
  have hu1 : ((seesS 91 t).getD (skipB t)).length ≤ t.length := by
    cases h : seesS 91 t with
    | none => exact hsk
    | some u => exact Nat.le_of_lt (seesS_lt h)
  have hI1 : (b = true ∧ (b || (seesS 91 t).isNone) = true) ∨ (b = false ∧ (b || (seesS 91 t).isNone) = false ∧ listS t = restS ((seesS 91 t).getD (skipB t))) ∨ (b = false ∧ (b || (seesS 91 t).isNone) = true ∧ listS t = none) := by
    cases b with
    | true => exact Or.inl ⟨rfl, rfl⟩
    | false =>
      cases h : seesS 91 t with
      | none => exact Or.inr (Or.inr ⟨rfl, rfl, by unfold listS; rw [h]; rfl⟩)
      | some u => exact Or.inr (Or.inl ⟨rfl, rfl, by unfold listS; rw [h]; rfl⟩)
  generalize (seesS 91 t).getD (skipB t) = s1 at *
  generalize (b || (seesS 91 t).isNone) = b1 at *
  go_wp2_with fail
  refine (sees_any g 93 s1 b1 _ hR1).mono ?_
  rintro e w2 ⟨rfl, hR2, hB2⟩
  have hG2 := hG1.trans (Gr.ofBut hB2)
  clear hB2 hR1 hG1
  have hsk1 := skipB_le s1
  cases hs : seesS 93 s1 with
  | some u =>
    rw [hs] at hR2
    have hlt := seesS_lt hs
    simp only [Option.isSome]
    have HO : Hid (Out b (listS t) [] u b1) := by
      rcases hI1 with ⟨rfl, rfl⟩ | ⟨rfl, rfl, h⟩ | ⟨rfl, rfl, h⟩
      · exact Out.still
      · exact Out.good (by rw [h]; unfold restS; rw [hs])
      · exact Out.wrong h
    clear hI1
    go_wp2_with fail
    go_ret
    exact ⟨[], _, u, b1, rfl, OwnS.nil _ _, Nat.zero_le _, fun s h => absurd h (by simp), hR2, by omega, unhide HO, hG2⟩
  | none =>
    rw [hs] at hR2
    simp only [Option.isSome]
    have hIn : LInv b t [] (skipB s1) b1 := by
      rcases hI1 with h | ⟨h0, h1, h⟩ | h
      · exact Or.inl h
      · refine Or.inr (Or.inl ⟨h0, h1, ?_⟩)
        rw [h]
        unfold restS
        rw [hs]
        have hk : itemsS s1 = itemsS (skipB s1) := by
          have hk : ∀ l : List UInt8, skipB (skipB l) = skipB l := by
            intro l
            induction l with
            | nil => rfl
            | cons c l ih =>
              rw [skipB]
              split
              · exact ih
              · rename_i hc; rw [skipB, if_neg hc]
          have h2 : textS (skipB s1) = textS s1 := by unfold textS seesS; rw [hk]
          rw [itemsS_step, itemsS_step (skipB s1), h2]
        rw [hk]
        cases itemsS (skipB s1) <;> rfl
      · exact Or.inr (Or.inr h)
    have HI1 := hide hIn
    clear hI1 hIn
    go_wp2_with fail
    go_loopg [4] (t.length + 1) (fun q o wr => ∃ (out : List (List UInt8)) (u : List UInt8) (b' : Bool), OwnS wr w.heap.size o out ∧ Rd wr g u b' ∧ (b' = false → u.length < q) ∧ u.length ≤ t.length ∧ out.length + q ≤ t.length + 1 ∧ (∀ s ∈ out, s.length ≤ 4 * t.length) ∧ LInv b t out u b' ∧ Gr g w wr)
    case atStart => exact ⟨[], skipB s1, b1, OwnS.nil _ _, hR2, fun _ => by omega, by omega, by simp, fun s h => absurd h (by simp), unhide HI1, hG2⟩
    case round =>
      clear hR2 hG2
      obtain ⟨out, u, b', hO, hR, hq, hu, hol, hfit, hI, hG⟩ := hrel
      have hc1 := hR.c1
      have HI := hide hI
      have HF := hide hfit
      clear hI hfit
      cases b' with
      | true =>
        go_wp2_with fail
        go_ret
        exact ⟨out, _, u, true, rfl, hO, by omega, unhide HF, hR, hu, (unhide HI).bad, hG⟩
      | false =>
        have hq' := hq rfl
        clear hq
        go_wp2_with fail
        refine (text_any g u false _ (by have := unhide HL; omega) hR).mono ?_
        rintro e w3 ⟨v, u2, b2, rfl, hv, hR3, hl3, hO3, hG3⟩
        have hO4 := hO.gr hG3 hgl
        have hG4 := hG.trans hG3
        have hs4 := hG4.size
        have hfit2 : ∀ s ∈ out ++ [v], s.length ≤ 4 * t.length := fun s h => by
          rcases List.mem_append.1 h with h | h
          · exact unhide HF s h
          · simp at h; subst h; omega
        have HF2 := hide hfit2
        have HO3 := hide hO3
        clear hO hG hR hG3 hfit2 hO3
        have hsz : w.heap.size ≤ (w3.alloc (.cells #[.string ⟨v.toArray⟩] 9)).heap.size := by simp; omega
        go_wp2_with (first | (at_builtin; refine app35 rfl _ _ rfl w.heap.size _ out v rfl (hO4.below ((Below.refl _ _).alloc (Nat.le_refl _) _)) _ rfl (by simp) (by have := unhide HL; omega) hsz ?_; intro v5 w5 hO5 hg5) | fail)
        have hg5' : (w3.alloc (.cells #[.string ⟨v.toArray⟩] 9)).grownBy w5 u4.ownBlock := hg5
        have hlt5 : ∀ k, u4.ownBlock = some k → w.heap.size ≤ k ∧ k < (w3.alloc (.cells #[.string ⟨v.toArray⟩] 9)).heap.size := fun k h => by
          have := hO4.lt k h
          exact ⟨this.1, by simp; omega⟩
        have hR5 := (hR3.alloc (.cells #[.string ⟨v.toArray⟩] 9)).grown hg5' hlt5 hgl
        have hG5 := (hG4.alloc (.cells #[.string ⟨v.toArray⟩] 9)).grown hg5' hlt5 (Nat.le_refl _)
        clear hg5 hg5' hlt5 hO4 hG4 hR3 hsz
        refine (sees_any g 44 u2 b2 _ hR5).mono ?_
        rintro e w6 ⟨rfl, hR6, hB6⟩
        have hG6 := hG5.trans (Gr.ofBut hB6)
        have hO6 := hO5.gr (Gr.ofBut hB6) hgl
        clear hR5 hG5 hO5 hB6
        have hII : (b2 = true ∧ LInv b t (out ++ [v]) u2 true) ∨ (b2 = false ∧ textS u = some (v, u2)) := by
          rcases (unhide HO3).2 rfl with ⟨h1, h2⟩ | ⟨h1, h2⟩
          · exact Or.inr ⟨h2, h1⟩
          · exact Or.inl ⟨h2, (unhide HI).no h1⟩
        have hlen : (out ++ [v]).length = out.length + 1 := by simp
        have hsk2 := skipB_le u2
        cases hs2 : seesS 44 u2 with
        | some u3 =>
          rw [hs2] at hR6
          have hlt3 := seesS_lt hs2
          have HII : Hid (LInv b t (out ++ [v]) u3 b2 ∧ (b2 = false → u2.length < u.length)) := by
            rcases hII with ⟨rfl, h⟩ | ⟨rfl, h⟩
            · exact ⟨h.on, fun h => by cases h⟩
            · exact ⟨(unhide HI).more h hs2, fun _ => (textS_lt h).1⟩
          clear hII
          simp only [Option.isSome]
          go_wp2_with fail
          go_roundg (gk - 1)
          case measure => omega
          case rel => exact ⟨out ++ [v], u3, b2, hO6, hR6, fun h => by have := (unhide HII).2 h; omega, by omega, by omega, unhide HF2, (unhide HII).1, hG6⟩
        | none =>
          rw [hs2] at hR6
          simp only [Option.isSome]
          have HII : Hid (Out b (listS t) (out ++ [v]) ((seesS 93 (skipB u2)).getD (skipB (skipB u2))) (b2 || (seesS 93 (skipB u2)).isNone)) := by
            rcases hII with ⟨rfl, h⟩ | ⟨rfl, h⟩
            · exact h.bad
            · exact (unhide HI).last h hs2
          have hu5 : ((seesS 93 (skipB u2)).getD (skipB (skipB u2))).length ≤ t.length := by
            have := skipB_le (skipB u2)
            cases h : seesS 93 (skipB u2) with
            | none => simp; omega
            | some u => have := seesS_lt h; simp; omega
          clear hII
          go_wp2_with fail
          refine (must_any g 93 (skipB u2) b2 _ hR6).mono ?_
          rintro e w7 ⟨⟨v7, rfl⟩, hR7, hB7⟩
          have hG7 := hG6.trans (Gr.ofBut hB7)
          have hO7 := hO6.gr (Gr.ofBut hB7) hgl
          clear hR6 hG6 hO6 hB7
          go_wp2_with fail
          go_ret
          exact ⟨out ++ [v], _, _, _, rfl, hO7, by omega, unhide HF2, hR7, hu5, unhide HII, hG7⟩
end Go.Proofs.YtkmkkmdpjliifaaDoor
