import Derived.Test.YtkmkkmdpjliifaaDoorJzG
import Derived.Test.YtkmkkmdpjliifaaDoorJzC
import Derived.Test.YtkmkkmdpjliifaaDoorJxV
namespace Go.Proofs.YtkmkkmdpjliifaaDoor
open Go.ChangeShapes Go.WideShapes Go.ChangeAt Go.RowKit

/-- a sign -/
def sgF (k : Nat) (t : List UInt8) (n j : Nat) : Value := if j = 0 then .int .i64 (k : Nat) else if j = 1 then .string ⟨t.toArray⟩ else .int .i64 (n : Nat)
def sgA (k : Nat) (t : List UInt8) (n : Nat) : Array Value := #[.int .i64 (k : Nat), .string ⟨t.toArray⟩, .int .i64 (n : Nat)]
theorem arr3 (k : Nat) (t : List UInt8) (n : Nat) : arrOf 3 (sgF k t n) = sgA k t n := by
  apply Array.ext (by rw [arrOf_size]; rfl)
  intro i h1 h2
  have e := arrOf_get 3 (sgF k t n) i (by rw [arrOf_size] at h1; exact h1)
  rw [Array.getElem?_eq_getElem h1] at e
  rw [Option.some.inj e]
  rw [arrOf_size] at h1
  rcases (show i = 0 ∨ i = 1 ∨ i = 2 by omega) with rfl | rfl | rfl <;> rfl
theorem three {P : Nat → Prop} (h0 : P 0) (h1 : P 1) (h2 : P 2) : ∀ j, j < 3 → P j := by
  intro j hj
  rcases (show j = 0 ∨ j = 1 ∨ j = 2 by omega) with rfl | rfl | rfl <;> assumption
theorem ret_sg {fn : Func} {q : Tmp} (h : fn.results = #[.cell q 155]) {a : Act} {w : World} {R : Ending → World → Prop} {g k n : Nat} {t : List UInt8} (hRow : Row w g 155 3 (sgF k t n))
    (hp : a.tmps.getD q undef = .pointer (some ⟨g, 0, none⟩)) (hdef : a.defers = []) (hR : R (.returned (.agg (sgA k t n))) w) : bodyPost Tryd.prog fn R Exit.ret a w := by
  refine ret_rowN h _ hRow hp Tryd.underlying155 ⟨_, rfl⟩ (by kernel_rfl) hdef ?_
  rw [arr3]
  exact hR
/-- a sign, stored whole -/
def st3 (w : World) (g k : Nat) (t : List UInt8) (n : Nat) : World := ((w.setCell ⟨g, 0, none⟩ (.int .i64 (k : Nat))).setCell ⟨g, 1, none⟩ (.string ⟨t.toArray⟩)).setCell ⟨g, 2, none⟩ (.int .i64 (n : Nat))
theorem st3_row {w : World} {g : Nat} {f : Nat → Value} (h : Row w g 155 3 f) (k : Nat) (t : List UInt8) (n : Nat) : Row (st3 w g k t n) g 155 3 (sgF k t n) :=
  (((h.set 0 _).set 1 _).set 2 _).congr (three rfl rfl rfl)
theorem st3_but (w : World) (g k : Nat) (t : List UInt8) (n : Nat) : But g w (st3 w g k t n) := (((But.refl g w).setCell 0 _).setCell 1 _).setCell 2 _
theorem UT.gr {w w' : World} {g : Nat} (h : UT w) (hg : 2 < g) (hb : Gr g w w') : UT w' := h.below (B := 3) (by decide) (hb.below hg h.lt)
theorem OwnU.gr {w w' : World} {base g : Nat} {v : Value} {l : List UInt8} (h : OwnU w base v l) (hb : Gr g w w') (hg : g < base) : OwnU w' base v l := by
  have hlt := h.lt
  obtain ⟨h1, h2⟩ := h
  refine ⟨h1, ?_⟩
  rcases h2 with h2 | ⟨q, cap, cur, hv, hq, hh, r⟩
  · exact Or.inl h2
  · have hl := (hlt q (by subst hv; rfl)).2
    exact Or.inr ⟨q, cap, cur, hv, hq, by rw [hb.block q (by omega) hl]; exact hh, r⟩
/-- the memory of readText: the scanner, what it answers, the bytes so far -/
structure TM (w0 wr : World) (g : Nat) (T : List UInt8) (b : Nat) (v : Value) (out : List UInt8) : Prop where
  sc : Sc wr g T b
  res : Row wr w0.heap.size 155 3 (sgF 0 [] 0)
  own : OwnU wr (w0.heap.size + 1) v out
  gr : Gr g w0 wr
  sz : w0.heap.size + 1 ≤ wr.heap.size
  ut : UT wr
theorem TM.go {w0 wr w1 : World} {g : Nat} {T : List UInt8} {b b' : Nat} {v : Value} {out : List UInt8} (h : TM w0 wr g T b v out) (h2 : 2 < g) (hgl : g < w0.heap.size) (hg : Gr g wr w1) (hs : Sc w1 g T b') : TM w0 w1 g T b' v out :=
  have hsz := h.sz
  ⟨hs, Row.keep h.res (hg.block _ (by omega) (by omega)), h.own.gr hg (by omega), h.gr.trans hg, Nat.le_trans hsz hg.size, h.ut.gr h2 hg⟩
theorem TM.app {w0 wr w1 : World} {g : Nat} {T : List UInt8} {b : Nat} {v v' : Value} {out x : List UInt8} {o : Obj} (h : TM w0 wr g T b v out) (h2 : 2 < g) (hgl : g < w0.heap.size) (hO : OwnU w1 (w0.heap.size + 1) v' (out ++ x)) (hg : (wr.alloc o).grownBy w1 v.ownBlock) : TM w0 w1 g T b v' (out ++ x) :=
  have hb : Below (w0.heap.size + 1) wr w1 := apB (Below.refl _ _) h.sz h.own hg
  ⟨Row.keep h.sc (hb.block _ (by omega)), Row.keep h.res (hb.block _ (by omega)), hO, ⟨hb.os.trans h.gr.os, hb.tape.trans h.gr.tape, hb.output.trans h.gr.output, Nat.le_trans h.gr.size hb.size, fun k hk hl => (hb.block k (by omega)).trans (h.gr.block k hk hl)⟩, Nat.le_trans h.sz hb.size, h.ut.below (by omega) hb⟩
theorem TM.drewN {w0 wr : World} {g : Nat} {T : List UInt8} {b : Nat} {v : Value} {out : List UInt8} (h : TM w0 wr g T b v out) (n : Nat) : TM w0 (wr.drewN n) g T b v out := ⟨h.sc.drewN n, h.res.drewN n, h.own, h.gr.drewN n, h.sz, h.ut⟩
theorem TM.start (w w1 : World) (g : Nat) (T : List UInt8) (a : Nat) (h2 : 2 < g) (hs : w1.heap.size = w.heap.size) (hg : Gr g w w1) (hR : Sc w1 g T a) (hU : UT w) : TM w (w1.alloc (.cells #[.int .i64 0, .string ⟨#[]⟩, .int .i64 0] 155)) g T a (.slice none 0 0) [] :=
  have hr : Row (w1.alloc (.cells #[.int .i64 0, .string ⟨#[]⟩, .int .i64 0] 155)) w1.heap.size 155 3 (sgF 0 [] 0) := Row.new w1 155 _ _ 3 rfl (three rfl rfl rfl)
  ⟨Row.alloc hR _, hs ▸ hr, OwnU.nil _ _, hg.alloc _, by simp; omega, (hU.gr h2 hg).belowS ((Below.refl _ _).alloc (Nat.le_refl _) _)⟩
theorem gr_st {w0 wr : World} {g : Nat} (h : Gr g w0 wr) (k : Nat) (t : List UInt8) (n : Nat) : Gr g w0 (st3 wr w0.heap.size k t n) :=
  have hb := st3_but wr w0.heap.size k t n
  ⟨hb.os.trans h.os, hb.tape.trans h.tape, hb.output.trans h.output, by rw [hb.size]; exact h.size, fun j hj hl => (hb.block j (by omega)).trans (h.block j hj hl)⟩
/-- what a sign's reading comes to: the sign of kind K (or a wrong one), and where the scanner is -/
def SigR (g : Nat) (T : List UInt8) (K : Nat → List UInt8 → Nat → List UInt8 → Prop) (w : World) (e : Ending) (w' : World) : Prop :=
  ∃ (k : Nat) (t : List UInt8) (n b : Nat), e = .returned (.agg (sgA k t n)) ∧ b ≤ T.length ∧ t.length ≤ 4 * T.length ∧ Sc w' g T b ∧ Gr g w w' ∧ K k t n (T.drop b)
def TxtK (o : Option (List UInt8 × List UInt8)) (k : Nat) (t : List UInt8) (_n : Nat) (u : List UInt8) : Prop := (k = 8 ∧ o = some (t, u)) ∨ (k = 0 ∧ o = none)

set_option maxRecDepth 20000 in
set_option maxHeartbeats 2000000 in
theorem readText_any (g : Nat) (T : List UInt8) (a : Nat) (w : World) (hT : T.length ≤ 1048576) (ha : a < T.length) (h2 : 2 < g) (hR : Sc w g T a) (hU : UT w) :
    Calls Tryd.prog 127 #[.pointer (some ⟨g, 0, none⟩)] w (SigR g T (TxtK (txtS (T.drop (a + 1)))) w) := by
  have HT := hide hT
  have hgl := hR.lt
  have hw : wrap64 ((a : Int) + 1) = (a : Int) + 1 := w64 _ (by omega) (by omega)
  obtain ⟨w1, hw1⟩ : ∃ w1, w1 = (w.setCell ⟨g, 1, none⟩ (.int .i64 ((a : Int) + 1))).alloc (.cells #[.int .i64 0, .string ⟨#[]⟩, .int .i64 0] 155) := ⟨_, rfl⟩
  have hM1 : TM w w1 g T (a + 1) (.slice none 0 0) [] := by rw [hw1]; exact TM.start w _ g T (a + 1) h2 (by simp [World.setCell]) ((Gr.refl _ _).setCell _ _) (hR.set1 (a + 1) _ rfl) hU
  have hc1 := hR.c1
  have hf1 := hR.frozen 1
  have HW1 := hide hw1
  have hb : a + 1 ≤ T.length := ha
  clear hw1 hT hR hU
  go_enter Tryd.func127, Tryd.ntmps127
  go_wp2_with fail
  rw [← unhide HW1]
  clear HW1 hc1 hf1 hw ha
  generalize a + 1 = b0 at *
  go_loopg [3] (T.length - b0) (fun q o wr => ∃ (b : Nat) (out : List UInt8), b + q = T.length ∧ TM w wr g T b o out ∧ out.length + 4 * (T.length - b) ≤ 4 * T.length ∧ txtS (T.drop b0) = (txtS (T.drop b)).map (fun r => (out ++ r.1, r.2)))
  case atStart =>
    refine ⟨b0, [], by omega, hM1, by simp; omega, ?_⟩
    cases txtS (T.drop b0) <;> rfl
  case round =>
    clear hM1
    obtain ⟨b, out, hq, hM, hol, hI⟩ := hrel
    have hc0 := hM.sc.c0
    have hc1 := hM.sc.c1
    have hf1 := hM.sc.frozen 1
    have HI := hide hI
    have HO := hide hol
    clear hI hol
    have s0 : wr.cell? ⟨w.heap.size, 0, none⟩ = some (.int .i64 0) := hM.res.cell (by decide)
    have s1 : wr.cell? ⟨w.heap.size, 1, none⟩ = some (.string ⟨#[]⟩) := hM.res.cell (by decide)
    have s2 : wr.cell? ⟨w.heap.size, 2, none⟩ = some (.int .i64 0) := hM.res.cell (by decide)
    have z0 := hM.res.frozen 0
    have z1 := hM.res.frozen 1
    have z2 := hM.res.frozen 2
    have hgn : g ≠ w.heap.size := by omega
    by_cases hend : b = T.length
    · have d1 : decide ((b : Int) < (T.length : Int)) = false := decide_eq_false (by omega)
      have d2 : (((b : Nat) : Int) == ((T.length : Nat) : Int)) = true := by simp [hend]
      have HN : Hid (txtS (T.drop b0) = none) := by unfold Hid; rw [unhide HI, List.drop_eq_nil_of_le (by omega)]; rfl
      have hbl : b ≤ T.length := by omega
      have hnl : ¬ b < T.length := by omega
      have HD2 := hide d2
      have HBL := hide hbl
      clear hend d2 hbl
      go_wp2_with fail
      go_quiet (fail)
      go_wp2_with fail
      have d2 := unhide HD2
      go_quiet (fail)
      go_wp2_with fail
      have hbl := unhide HBL
      refine ret_sg Tryd.results127 (st3_row (hM.drewN _).res 0 [] 0) rfl rfl ⟨0, [], 0, b, rfl, hbl, Nat.zero_le _, Row.but (hM.drewN _).sc (st3_but _ _ 0 [] 0) hgn, ?_, Or.inr ⟨rfl, unhide HN⟩⟩
      exact gr_st (hM.drewN _).gr 0 [] 0
    · have hlt : b < T.length := by omega
      have hbl : (b : Int) < (T.length : Int) := by omega
      have hix := ix_any T b hlt
      have hby : by_ T b = (T.getD b 0).toNat := rfl
      rw [hby] at hix
      have hdc := drop_cons hlt
      generalize T.getD b 0 = c at *
      have hcl := c.toNat_lt
      have hw : wrap64 ((b : Int) + 1) = (b : Int) + 1 := w64 _ (by omega) (by have := unhide HT; omega)
      have d2 : (((b : Nat) : Int) == ((T.length : Nat) : Int)) = false := by simp only [beq_eq_false_iff_ne, ne_eq]; omega
      have HD := hide hdc
      clear hdc hend
      by_cases e1 : c = 34
      · subst e1
        have HN : Hid (txtS (T.drop b0) = some (out, T.drop (b + 1))) := by unfold Hid; rw [unhide HI, unhide HD, txtS_cons, if_pos rfl]; simp
        have hcv := fun n x => conv_ownU (((hM.drewN n).own).gr ((Gr.refl g _).setCell 1 x) (by omega))
        go_wp2_with fail
        go_quiet (fail)
        go_wp2_with fail
        go_quiet (fail)
        go_wp2_with fail
        have hM2 := fun n => (hM.drewN n).go h2 hgl ((Gr.refl g _).setCell 1 (.int .i64 ((b : Int) + 1))) ((hM.drewN n).sc.set1 (b + 1) _ rfl)
        exact ret_sg Tryd.results127 (st3_row (hM2 _).res 8 out 0) rfl rfl ⟨8, out, 0, b + 1, rfl, hlt, by have := unhide HO; omega, Row.but (hM2 _).sc (st3_but _ _ 8 out 0) hgn, gr_st (hM2 _).gr 8 out 0, Or.inl ⟨rfl, unhide HN⟩⟩
      · have m1 : (((c.toNat : Nat) : Int) == 34) = false := nb (n := 34) (by decide) e1
        go_wp2_with fail
        go_quiet (fail)
        go_wp2_with fail
        have hMn := fun n => hM.drewN n
        refine (rune_any g T b _ (unhide HT) hlt (hMn _).sc (hMn _).ut).mono ?_
        rintro e w2 ⟨x, ok, d, rfl, hx, hd, hR2, hG2, hO2⟩
        have hM2 := (hMn _).go h2 hgl hG2 hR2
        have HO2 := hide hO2
        clear hO2 hMn
        have t0 : w2.cell? ⟨w.heap.size, 0, none⟩ = some (.int .i64 0) := hM2.res.cell (by decide)
        have t1 : w2.cell? ⟨w.heap.size, 1, none⟩ = some (.string ⟨#[]⟩) := hM2.res.cell (by decide)
        have t2 : w2.cell? ⟨w.heap.size, 2, none⟩ = some (.int .i64 0) := hM2.res.cell (by decide)
        have y0 := hM2.res.frozen 0
        have y1 := hM2.res.frozen 1
        have y2 := hM2.res.frozen 2
        cases ok with
        | false =>
          have HN : Hid (txtS (T.drop b0) = none) := by
            rcases unhide HO2 with ⟨h, _⟩ | ⟨_, h⟩
            · cases h
            · unfold Hid
              rw [unhide HD] at h
              rw [unhide HI, unhide HD, txtS_bad e1 h]; rfl
          go_wp2_with fail
          exact ret_sg Tryd.results127 (st3_row hM2.res 0 [] 0) rfl rfl ⟨0, [], 0, d, rfl, hd, Nat.zero_le _, Row.but hM2.sc (st3_but _ _ 0 [] 0) hgn, gr_st hM2.gr 0 [] 0, Or.inr ⟨rfl, unhide HN⟩⟩
        | true =>
          have hps : pieceS (T.drop b) = some (Lib.encodeRune (x : Int), T.drop d) := by
            rcases unhide HO2 with ⟨_, h⟩ | ⟨h, _⟩
            · exact h
            · cases h
          have hpl := pieceS_lt hps
          rw [List.length_drop, List.length_drop] at hpl
          have HN : Hid (txtS (T.drop b0) = (txtS (T.drop d)).map (fun r => ((out ++ Lib.encodeRune (x : Int)) ++ r.1, r.2))) := by
            unfold Hid
            rw [unhide HD] at hps
            exact txt_more (unhide HI) (by rw [unhide HD]; exact txtS_good e1 hps)
          have HPL := hide hpl
          clear hps hpl
          go_wp2_with fail
          refine (Tryd.appendRune (w.heap.size + 1) _ out.length (Lib.byteCells out) (x : Int) (by omega) (by omega) _ hM2.own (by have h1 := unhide HO; have h2 := unhide HT; omega) hM2.sz).mono ?_
          rintro e w3 ⟨v3, rfl, ho3, ob, hg3⟩
          rw [← Lib.byteCells_encodeRune] at ho3
          have hO3 : OwnU w3 (w.heap.size + 1) v3 (out ++ Lib.encodeRune (x : Int)) := OwnU.of ho3 (by rw [Lib.byteCells_length])
          have hM3 := hM2.app h2 hgl hO3 hg3
          go_wp2_with fail
          go_roundg (T.length - d)
          case measure => have := unhide HPL; omega
          case rel => exact ⟨d, out ++ Lib.encodeRune (x : Int), by omega, hM3, by rw [List.length_append]; have h1 := unhide HPL; have h3 := unhide HO; omega, unhide HN⟩
end Go.Proofs.YtkmkkmdpjliifaaDoor
