import Derived.Test.YtkmkkmdpjliifaaGreatDoorJzE
import Derived.Test.YtkmkkmdpjliifaaGreatDoorJzB
namespace Go.Proofs.YtkmkkmdpjliifaaGreatDoor
open Go.ChangeShapes Go.WideShapes Go.ChangeAt Go.RowKit

/-- a sign -/
def sgF (k : Nat) (t : List UInt8) (n j : Nat) : Value := if j = 0 then .int .i64 (k : Nat) else if j = 1 then .string ⟨t.toArray⟩ else .int .i64 (n : Nat)
def sgA (k : Nat) (t : List UInt8) (n : Nat) : Array Value := #[.int .i64 (k : Nat), .string ⟨t.toArray⟩, .int .i64 (n : Nat)]
theorem arr3 (k : Nat) (t : List UInt8) (n : Nat) : arrOf 3 (sgF k t n) = sgA k t n := by
  apply Array.ext (by rw [arrOf_size]; rfl)
  intro i h1 h2
  have e := arrOf_get 3 (sgF k t n) i (by rw [arrOf_size] at h1; exact h1)
  rw [Array.getElem?_eq_getElem h1] at e
  rw [Option.some.inj e]
  rw [arrOf_size] at h1
  rcases (show i = 0 ∨ i = 1 ∨ i = 2 by omega) with rfl | rfl | rfl <;> rfl
theorem three {P : Nat → Prop} (h0 : P 0) (h1 : P 1) (h2 : P 2) : ∀ j, j < 3 → P j := by
  intro j hj
  rcases (show j = 0 ∨ j = 1 ∨ j = 2 by omega) with rfl | rfl | rfl <;> assumption
theorem ret_sg {fn : Func} {q : Tmp} (h : fn.results = #[.cell q 235]) {a : Act} {w : World} {R : Ending → World → Prop} {g k n : Nat} {t : List UInt8} (hRow : Row w g 235 3 (sgF k t n))
    (hp : a.tmps.getD q undef = .pointer (some ⟨g, 0, none⟩)) (hdef : a.defers = []) (hR : R (.returned (.agg (sgA k t n))) w) : bodyPost Tryz.prog fn R Exit.ret a w := by
  refine ret_rowN h _ hRow hp Tryz.underlying235 ⟨_, rfl⟩ (by kernel_rfl) hdef ?_
  rw [arr3]
  exact hR
/-- a sign, stored whole -/
def st3 (w : World) (g k : Nat) (t : List UInt8) (n : Nat) : World := ((w.setCell ⟨g, 0, none⟩ (.int .i64 (k : Nat))).setCell ⟨g, 1, none⟩ (.string ⟨t.toArray⟩)).setCell ⟨g, 2, none⟩ (.int .i64 (n : Nat))
theorem st3_row {w : World} {g : Nat} {f : Nat → Value} (h : Row w g 235 3 f) (k : Nat) (t : List UInt8) (n : Nat) : Row (st3 w g k t n) g 235 3 (sgF k t n) :=
  (((h.set 0 _).set 1 _).set 2 _).congr (three rfl rfl rfl)
theorem st3_but (w : World) (g k : Nat) (t : List UInt8) (n : Nat) : But g w (st3 w g k t n) := (((But.refl g w).setCell 0 _).setCell 1 _).setCell 2 _
theorem UT.gr {w w' : World} {g : Nat} (h : UT w) (hg : 2 < g) (hb : Gr g w w') : UT w' := h.below (B := 3) (by decide) (hb.below hg h.lt)
theorem OwnU.gr {w w' : World} {base g : Nat} {v : Value} {l : List UInt8} (h : OwnU w base v l) (hb : Gr g w w') (hg : g < base) : OwnU w' base v l := by
  have hlt := h.lt
  obtain ⟨h1, h2⟩ := h
  refine ⟨h1, ?_⟩
  rcases h2 with h2 | ⟨q, cap, cur, hv, hq, hh, r⟩
  · exact Or.inl h2
  · have hl := (hlt q (by subst hv; rfl)).2
    exact Or.inr ⟨q, cap, cur, hv, hq, by rw [hb.block q (by omega) hl]; exact hh, r⟩
/-- the memory of readText: the scanner, what it answers, the bytes so far -/
structure TM (w0 wr : World) (g : Nat) (T : List UInt8) (b : Nat) (v : Value) (out : List UInt8) : Prop where
  sc : Sc wr g T b
  res : Row wr w0.heap.size 235 3 (sgF 0 [] 0)
  own : OwnU wr (w0.heap.size + 1) v out
  gr : Gr g w0 wr
  sz : w0.heap.size + 1 ≤ wr.heap.size
  ut : UT wr
theorem TM.go {w0 wr w1 : World} {g : Nat} {T : List UInt8} {b b' : Nat} {v : Value} {out : List UInt8} (h : TM w0 wr g T b v out) (h2 : 2 < g) (hgl : g < w0.heap.size) (hg : Gr g wr w1) (hs : Sc w1 g T b') : TM w0 w1 g T b' v out :=
  have hsz := h.sz
  ⟨hs, Row.keep h.res (hg.block _ (by omega) (by omega)), h.own.gr hg (by omega), h.gr.trans hg, Nat.le_trans hsz hg.size, h.ut.gr h2 hg⟩
theorem TM.app {w0 wr w1 : World} {g : Nat} {T : List UInt8} {b : Nat} {v v' : Value} {out x : List UInt8} {o : Obj} (h : TM w0 wr g T b v out) (h2 : 2 < g) (hgl : g < w0.heap.size) (hO : OwnU w1 (w0.heap.size + 1) v' (out ++ x)) (hg : (wr.alloc o).grownBy w1 v.ownBlock) : TM w0 w1 g T b v' (out ++ x) :=
  have hb : Below (w0.heap.size + 1) wr w1 := apB (Below.refl _ _) h.sz h.own hg
  ⟨Row.keep h.sc (hb.block _ (by omega)), Row.keep h.res (hb.block _ (by omega)), hO, ⟨hb.os.trans h.gr.os, hb.tape.trans h.gr.tape, hb.output.trans h.gr.output, Nat.le_trans h.gr.size hb.size, fun k hk hl => (hb.block k (by omega)).trans (h.gr.block k hk hl)⟩, Nat.le_trans h.sz hb.size, h.ut.below (by omega) hb⟩
theorem TM.drewN {w0 wr : World} {g : Nat} {T : List UInt8} {b : Nat} {v : Value} {out : List UInt8} (h : TM w0 wr g T b v out) (n : Nat) : TM w0 (wr.drewN n) g T b v out := ⟨h.sc.drewN n, h.res.drewN n, h.own, h.gr.drewN n, h.sz, h.ut⟩
theorem TM.start (w w1 : World) (g : Nat) (T : List UInt8) (a : Nat) (h2 : 2 < g) (hs : w1.heap.size = w.heap.size) (hg : Gr g w w1) (hR : Sc w1 g T a) (hU : UT w) : TM w (w1.alloc (.cells #[.int .i64 0, .string ⟨#[]⟩, .int .i64 0] 235)) g T a (.slice none 0 0) [] :=
  have hr : Row (w1.alloc (.cells #[.int .i64 0, .string ⟨#[]⟩, .int .i64 0] 235)) w1.heap.size 235 3 (sgF 0 [] 0) := Row.new w1 235 _ _ 3 rfl (three rfl rfl rfl)
  ⟨Row.alloc hR _, hs ▸ hr, OwnU.nil _ _, hg.alloc _, by simp; omega, (hU.gr h2 hg).belowS ((Below.refl _ _).alloc (Nat.le_refl _) _)⟩
theorem gr_st {w0 wr : World} {g : Nat} (h : Gr g w0 wr) (k : Nat) (t : List UInt8) (n : Nat) : Gr g w0 (st3 wr w0.heap.size k t n) :=
  have hb := st3_but wr w0.heap.size k t n
  ⟨hb.os.trans h.os, hb.tape.trans h.tape, hb.output.trans h.output, by rw [hb.size]; exact h.size, fun j hj hl => (hb.block j (by omega)).trans (h.block j hj hl)⟩
/-- what a sign's reading comes to: the sign of kind K (or a wrong one), and where the scanner is -/
def SigR (g : Nat) (T : List UInt8) (K : Nat → List UInt8 → Nat → List UInt8 → Prop) (w : World) (e : Ending) (w' : World) : Prop :=
  ∃ (k : Nat) (t : List UInt8) (n b : Nat), e = .returned (.agg (sgA k t n)) ∧ b ≤ T.length ∧ t.length ≤ 4 * T.length ∧ Sc w' g T b ∧ Gr g w w' ∧ K k t n (T.drop b)
def TxtK (o : Option (List UInt8 × List UInt8)) (k : Nat) (t : List UInt8) (_n : Nat) (u : List UInt8) : Prop := (k = 8 ∧ o = some (t, u)) ∨ (k = 0 ∧ o = none)

set_option maxRecDepth 20000 in
set_option maxHeartbeats 2000000 in
theorem readText_any (g : Nat) (T : List UInt8) (a : Nat) (w : World) (hT : T.length ≤ 1048576) (ha : a < T.length) (h2 : 2 < g) (hR : Sc w g T a) (hU : UT w) :
    Calls Tryz.prog 204 #[.pointer (some ⟨g, 0, none⟩)] w (SigR g T (TxtK (txtS (T.drop (a + 1)))) w) := by
  have HT := hide hT
  have hgl := hR.lt
  have hw : wrap64 ((a : Int) + 1) = (a : Int) + 1 := w64 _ (by omega) (by omega)
  obtain ⟨w1, hw1⟩ : ∃ w1, w1 = (w.setCell ⟨g, 1, none⟩ (.int .i64 ((a : Int) + 1))).alloc (.cells #[.int .i64 0, .string ⟨#[]⟩, .int .i64 0] 235) := ⟨_, rfl⟩
  have hM1 : TM w w1 g T (a + 1) (.slice none 0 0) [] := by rw [hw1]; exact TM.start w _ g T (a + 1) h2 (by simp [World.setCell]) ((Gr.refl _ _).setCell _ _) (hR.set1 (a + 1) _ rfl) hU
  have hc1 := hR.c1
  have hf1 := hR.frozen 1
  have HW1 := hide hw1
  have hb : a + 1 ≤ T.length := ha
  clear hw1 hT hR hU
  go_enter Tryz.func204, Tryz.ntmps204
  go_wp2_with fail
  rw [← unhide HW1]
  clear HW1 hc1 hf1 hw ha
  generalize a + 1 = b0 at *
  go_loopg [3] (T.length - b0) (fun q o wr => ∃ (b : Nat) (out : List UInt8), b + q = T.length ∧ TM w wr g T b o out ∧ out.length + 4 * (T.length - b) ≤ 4 * T.length ∧ txtS (T.drop b0) = (txtS (T.drop b)).map (fun r => (out ++ r.1, r.2)))
  case atStart =>
    refine ⟨b0, [], by omega, hM1, by simp; omega, ?_⟩
    cases txtS (T.drop b0) <;> rfl
  case round =>
    clear hM1
    obtain ⟨b, out, hq, hM, hol, hI⟩ := hrel
    have hc0 := hM.sc.c0
    have hc1 := hM.sc.c1
    have hf1 := hM.sc.frozen 1
    have HI := hide hI
    have HO := hide hol
    clear hI hol
    have s0 : wr.cell? ⟨w.heap.size, 0, none⟩ = some (.int .i64 0) := hM.res.cell (by decide)
    have s1 : wr.cell? ⟨w.heap.size, 1, none⟩ = some (.string ⟨#[]⟩) := hM.res.cell (by decide)
    have s2 : wr.cell? ⟨w.heap.size, 2, none⟩ = some (.int .i64 0) := hM.res.cell (by decide)
    have z0 := hM.res.frozen 0
    have z1 := hM.res.frozen 1
    have z2 := hM.res.frozen 2
    have hgn : g ≠ w.heap.size := by omega
    by_cases hend : b = T.length
    · have d1 : decide ((b : Int) < (T.length : Int)) = false := decide_eq_false (by omega)
      have d2 : (((b : Nat) : Int) == ((T.length : Nat) : Int)) = true := by simp [hend]
      have HN : Hid (txtS (T.drop b0) = none) := by unfold Hid; rw [unhide HI, List.drop_eq_nil_of_le (by omega)]; rfl
      have hbl : b ≤ T.length := by omega
      have hnl : ¬ b < T.length := by omega
      have HD2 := hide d2
      have HBL := hide hbl
      clear hend d2 hbl
      go_wp2_with fail
      go_quiet (fail)
      go_wp2_with fail
      have d2 := unhide HD2
      go_quiet (fail)
      go_wp2_with fail
      have hbl := unhide HBL
      refine ret_sg Tryz.results204 (st3_row (hM.drewN _).res 0 [] 0) rfl rfl ⟨0, [], 0, b, rfl, hbl, Nat.zero_le _, Row.but (hM.drewN _).sc (st3_but _ _ 0 [] 0) hgn, ?_, Or.inr ⟨rfl, unhide HN⟩⟩
      exact gr_st (hM.drewN _).gr 0 [] 0
    · have hlt : b < T.length := by omega
      have hbl : (b : Int) < (T.length : Int) := by omega
      have hix := ix_any T b hlt
      have hby : by_ T b = (T.getD b 0).toNat := rfl
      rw [hby] at hix
      have hdc := drop_cons hlt
      generalize T.getD b 0 = c at *
      have hcl := c.toNat_lt
      have hw : wrap64 ((b : Int) + 1) = (b : Int) + 1 := w64 _ (by omega) (by have := unhide HT; omega)
      have d2 : (((b : Nat) : Int) == ((T.length : Nat) : Int)) = false := by simp only [beq_eq_false_iff_ne, ne_eq]; omega
      have HD := hide hdc
      clear hdc hend
      by_cases e1 : c = 34
      · subst e1
        have HN : Hid (txtS (T.drop b0) = some (out, T.drop (b + 1))) := by unfold Hid; rw [unhide HI, unhide HD, txtS_cons, if_pos rfl]; simp
        have hcv := fun n x => conv_ownU (((hM.drewN n).own).gr ((Gr.refl g _).setCell 1 x) (by omega))
        go_wp2_with fail
        go_quiet (fail)
        go_wp2_with fail
        go_quiet (fail)
        go_wp2_with fail
        have hM2 := fun n => (hM.drewN n).go h2 hgl ((Gr.refl g _).setCell 1 (.int .i64 ((b : Int) + 1))) ((hM.drewN n).sc.set1 (b + 1) _ rfl)
        exact ret_sg Tryz.results204 (st3_row (hM2 _).res 8 out 0) rfl rfl ⟨8, out, 0, b + 1, rfl, hlt, by have := unhide HO; omega, Row.but (hM2 _).sc (st3_but _ _ 8 out 0) hgn, gr_st (hM2 _).gr 8 out 0, Or.inl ⟨rfl, unhide HN⟩⟩
      · have m1 : (((c.toNat : Nat) : Int) == 34) = false := nb (n := 34) (by decide) e1
        go_wp2_with fail
        go_quiet (fail)
        go_wp2_with fail
        have hMn := fun n => hM.drewN n
        refine (rune_any g T b _ (unhide HT) hlt (hMn _).sc (hMn _).ut).mono ?_
        rintro e w2 ⟨x, ok, d, rfl, hx, hd, hR2, hG2, hO2⟩
        have hM2 := (hMn _).go h2 hgl hG2 hR2
        have HO2 := hide hO2
        clear hO2 hMn
        have t0 : w2.cell? ⟨w.heap.size, 0, none⟩ = some (.int .i64 0) := hM2.res.cell (by decide)
        have t1 : w2.cell? ⟨w.heap.size, 1, none⟩ = some (.string ⟨#[]⟩) := hM2.res.cell (by decide)
        have t2 : w2.cell? ⟨w.heap.size, 2, none⟩ = some (.int .i64 0) := hM2.res.cell (by decide)
        have y0 := hM2.res.frozen 0
        have y1 := hM2.res.frozen 1
        have y2 := hM2.res.frozen 2
        cases ok with
        | false =>
          have HN : Hid (txtS (T.drop b0) = none) := by
            rcases unhide HO2 with ⟨h, _⟩ | ⟨_, h⟩
            · cases h
            · unfold Hid
              rw [unhide HD] at h
              rw [unhide HI, unhide HD, txtS_bad e1 h]; rfl
          go_wp2_with fail
          exact ret_sg Tryz.results204 (st3_row hM2.res 0 [] 0) rfl rfl ⟨0, [], 0, d, rfl, hd, Nat.zero_le _, Row.but hM2.sc (st3_but _ _ 0 [] 0) hgn, gr_st hM2.gr 0 [] 0, Or.inr ⟨rfl, unhide HN⟩⟩
        | true =>
          have hps : pieceS (T.drop b) = some (Lib.encodeRune (x : Int), T.drop d) := by
            rcases unhide HO2 with ⟨_, h⟩ | ⟨h, _⟩
            · exact h
            · cases h
          have hpl := pieceS_lt hps
          rw [List.length_drop, List.length_drop] at hpl
          have HN : Hid (txtS (T.drop b0) = (txtS (T.drop d)).map (fun r => ((out ++ Lib.encodeRune (x : Int)) ++ r.1, r.2))) := by
            unfold Hid
            rw [unhide HD] at hps
            exact txt_more (unhide HI) (by rw [unhide HD]; exact txtS_good e1 hps)
          have HPL := hide hpl
          clear hps hpl
          go_wp2_with fail
          refine (Tryz.appendRune (w.heap.size + 1) _ out.length (Lib.byteCells out) (x : Int) (by omega) (by omega) _ hM2.own (by have h1 := unhide HO; have h2 := unhide HT; omega) hM2.sz).mono ?_
          rintro e w3 ⟨v3, rfl, ho3, ob, hg3⟩
          rw [← Lib.byteCells_encodeRune] at ho3
          have hO3 : OwnU w3 (w.heap.size + 1) v3 (out ++ Lib.encodeRune (x : Int)) := OwnU.of ho3 (by rw [Lib.byteCells_length])
          have hM3 := hM2.app h2 hgl hO3 hg3
          go_wp2_with fail
          go_roundg (T.length - d)
          case measure => have := unhide HPL; omega
          case rel => exact ⟨d, out ++ Lib.encodeRune (x : Int), by omega, hM3, by rw [List.length_append]; have h1 := unhide HPL; have h3 := unhide HO; omega, unhide HN⟩
end Go.Proofs.YtkmkkmdpjliifaaGreatDoor
namespace Go.Proofs.YtkmkkmdpjliifaaGreatDoor
open Go.ChangeShapes Go.WideShapes Go.ChangeAt Go.RowKit

def NumK (o : Option (Nat × List UInt8)) (k : Nat) (_t : List UInt8) (n : Nat) (u : List UInt8) : Prop := (k = 9 ∧ o = some (n, u)) ∨ (k = 0 ∧ o = none)
theorem by_drop (T : List UInt8) (a k : Nat) : by_ (T.drop a) k = by_ T (a + k) := by
  unfold by_
  simp [List.getD, List.getElem?_drop]
theorem dig_of {s : List UInt8} {k : Nat} (h : k < dk s) : (decide (48 ≤ by_ s k) && decide (by_ s k ≤ 57)) = true := by
  have := dk_dig s k h
  simp [this.1, this.2]
theorem dig_no {s : List UInt8} (h : dk s < s.length) : (decide (48 ≤ by_ s (dk s)) && decide (by_ s (dk s) ≤ 57)) = false := by
  have := dk_end s h
  simp
  omega
theorem numstep {v d : Nat} (hv : v ≤ 999999999999) (h48 : 48 ≤ d) (hd : d ≤ 57) :
    IntKind.i64.wrap (10 * (v : Int)) = 10 * (v : Int) ∧ IntKind.u8.wrap ((d : Int) - 48) = ((d - 48 : Nat) : Int) ∧ IntKind.i64.wrap ((d - 48 : Nat) : Int) = ((d - 48 : Nat) : Int) ∧ IntKind.i64.wrap (10 * (v : Int) + ((d - 48 : Nat) : Int)) = ((10 * v + (d - 48) : Nat) : Int) ∧
    wrap64 (10 * (v : Int)) = 10 * (v : Int) ∧ ((d : Int) - 48) % 256 = ((d - 48 : Nat) : Int) ∧ wrap64 ((d - 48 : Nat) : Int) = ((d - 48 : Nat) : Int) ∧ wrap64 (10 * (v : Int) + ((d - 48 : Nat) : Int)) = ((10 * v + (d - 48) : Nat) : Int) := by
  refine ⟨by rw [IntKind.wrap_i64]; omega, ?_, by rw [IntKind.wrap_i64]; omega, by rw [IntKind.wrap_i64]; omega, w64 _ (by omega) (by omega), by omega, w64 _ (by omega) (by omega), ?_⟩
  · rw [IntKind.wrap_u8]; omega
  · rw [w64 _ (by omega) (by omega)]; omega
theorem numT_big {s : List UInt8} {k : Nat} (h : k ≤ dk s) (hb : 999999999999 < dv s k) : numT s = none := by
  unfold numT
  rw [if_pos (Or.inr (Or.inr (Nat.lt_of_lt_of_le hb (dv_mono s h))))]

set_option maxRecDepth 20000 in
set_option maxHeartbeats 2000000 in
theorem readNumber_any (g : Nat) (T : List UInt8) (a : Nat) (w : World) (hT : T.length ≤ 1048576) (ha : a < T.length) (h2 : 2 < g) (hd0 : 0 < dk (T.drop a)) (hR : Sc w g T a) (hU : UT w) :
    Calls Tryz.prog 205 #[.pointer (some ⟨g, 0, none⟩)] w (SigR g T (NumK (numT (T.drop a))) w) := by
  have HT := hide hT
  have hgl := hR.lt
  obtain ⟨w1, hw1⟩ : ∃ w1, w1 = w.alloc (.cells #[.int .i64 0, .string ⟨#[]⟩, .int .i64 0] 235) := ⟨_, rfl⟩
  have hM1 : TM w w1 g T a (.slice none 0 0) [] := by rw [hw1]; exact TM.start w _ g T a h2 rfl (Gr.refl _ _) hR hU
  have hc1 := hR.c1
  have HW1 := hide hw1
  have hgn : g ≠ w.heap.size := by omega
  clear hw1 hT hR hU
  go_enter Tryz.func205, Tryz.ntmps205
  go_wp2_with fail
  rw [← unhide HW1]
  clear HW1 hc1
  obtain ⟨s, hs⟩ : ∃ s, T.drop a = s := ⟨_, rfl⟩
  have hsl : s.length = T.length - a := by rw [← hs, List.length_drop]
  have hdl := dk_le s
  have HBY : Hid (∀ k, by_ s k = by_ T (a + k)) := fun k => by rw [← hs]; exact by_drop T a k
  have HDR : Hid (∀ k, s.drop k = T.drop (a + k)) := fun k => by rw [← hs, List.drop_drop]
  rw [hs] at hd0
  have HS := hide hs
  go_loopg [4] (T.length - a) (fun q n wr => ∃ (k b : Nat), k + q = T.length - a ∧ b = a + k ∧ k ≤ dk s ∧ dv s k ≤ 999999999999 ∧ n = .int .i64 (dv s k : Nat) ∧ TM w wr g T b (.slice none 0 0) [])
  case atStart => exact ⟨0, a, by omega, rfl, Nat.zero_le _, Nat.zero_le _, rfl, hM1⟩
  case round =>
    clear hM1 hs
    obtain ⟨k, b, hq, hbk, hkd, hv, rfl, hM⟩ := hrel
    have hc0 := hM.sc.c0
    have hc1 := hM.sc.c1
    have hf1 := hM.sc.frozen 1
    have s0 : wr.cell? ⟨w.heap.size, 0, none⟩ = some (.int .i64 0) := hM.res.cell (by decide)
    have s1 : wr.cell? ⟨w.heap.size, 1, none⟩ = some (.string ⟨#[]⟩) := hM.res.cell (by decide)
    have s2 : wr.cell? ⟨w.heap.size, 2, none⟩ = some (.int .i64 0) := hM.res.cell (by decide)
    have z0 := hM.res.frozen 0
    have z1 := hM.res.frozen 1
    have z2 := hM.res.frozen 2
    by_cases hlt : k < dk s
    · have hbT : b < T.length := by omega
      have hbl : (b : Int) < (T.length : Int) := by omega
      have hix := ix_any T b hbT
      have hdd := dk_dig s k hlt
      have hdig := dig_of hlt
      have hdv : dv s (k + 1) = 10 * dv s k + (by_ s k - 48) := rfl
      rw [unhide HBY k, ← hbk] at hdig hdd hdv
      have HC := hide (fun w => isDigit_any (by_ T b) w)
      rw [hdig] at HC
      have hw : wrap64 ((b : Int) + 1) = (b : Int) + 1 := w64 _ (by omega) (by have := unhide HT; omega)
      obtain ⟨e1, e2, e3, e4, e5, e6, e7, e8⟩ := numstep hv hdd.1 hdd.2
      rw [← hdv] at e4 e8
      have hk1 : k + 1 ≤ dk s := hlt
      have hgt : decide ((999999999999 : Int) < ((dv s (k + 1) : Nat) : Int)) = decide (999999999999 < dv s (k + 1)) := by
        by_cases h : 999999999999 < dv s (k + 1)
        · rw [decide_eq_true h]; exact decide_eq_true (Int.ofNat_lt.2 h)
        · rw [decide_eq_false h]; exact decide_eq_false (fun h' => h (Int.ofNat_lt.1 h'))
      have HQ : Hid (k + gk = T.length - a ∧ b = a + k) := ⟨hq, hbk⟩
      have HV := hide hv
      have HB := hide (numT_big hk1)
      generalize hv1 : dv s (k + 1) = v1 at *
      have HV1 := hide hv1
      generalize dv s k = v0 at *
      generalize by_ T b = y at *
      generalize ((y - 48 : Nat) : Int) = z at *
      clear hq hbk hv hdd hdig hdv hkd hlt hv1 hsl hdl
      cases hbig : decide (999999999999 < v1) with
      | true =>
        rw [hbig] at hgt
        have HN : Hid (numT (T.drop a) = none) := by unfold Hid; rw [unhide HS]; exact unhide HB (of_decide_eq_true hbig)
        clear hbig
        go_wp2_with fail
        go_quiet (first | (go_at_call 149; exact Calls.quiet_of_same (unhide HC _)))
        go_wp2_with fail
        go_quiet (fail)
        go_wp2_with fail
        have hMn := fun n => hM.drewN n
        have hbT2 := Nat.le_of_lt hbT
        exact ret_sg Tryz.results205 (st3_row (hMn _).res 0 [] 0) rfl rfl ⟨0, [], 0, b, rfl, hbT2, Nat.zero_le _, Row.but (hMn _).sc (st3_but _ _ 0 [] 0) hgn, gr_st (hMn _).gr 0 [] 0, Or.inr ⟨rfl, unhide HN⟩⟩
      | false =>
        rw [hbig] at hgt
        have HL1 := hide (of_decide_eq_false hbig)
        clear hbig
        go_wp2_with fail
        go_quiet (first | (go_at_call 149; exact Calls.quiet_of_same (unhide HC _)))
        go_wp2_with fail
        go_quiet (fail)
        go_wp2_with fail
        have hMn := fun n => (hM.drewN n).go h2 hgl ((Gr.refl g _).setCell 1 (.int .i64 ((b : Int) + 1))) ((hM.drewN n).sc.set1 (b + 1) _ rfl)
        go_roundg (gk - 1)
        case measure => have := unhide HQ; omega
        case rel => exact ⟨k + 1, b + 1, by have := unhide HQ; omega, by have := unhide HQ; omega, hk1, by rw [unhide HV1]; exact Nat.le_of_not_lt (unhide HL1), by rw [unhide HV1], hMn _⟩
    · have hkk : k = dk s := by omega
      have hbT : b ≤ T.length := by omega
      have hix0 := ix_any T a ha
      have hal : (a : Int) < (T.length : Int) := by omega
      have HW0 : Hid (wrap64 ((a : Int) + 1) = (a : Int) + 1) := hide (w64 _ (by omega) (by have := unhide HT; omega))
      have hy0 : by_ s 0 = by_ T a := unhide HBY 0
      have hdr : s.drop k = T.drop b := by rw [unhide HDR k, hbk]
      have hnum : numT (T.drop a) = if 1 < k ∧ by_ T a = 48 then none else some (dv s k, T.drop b) := by
        rw [unhide HS]
        unfold numT
        rw [← hkk, hdr, hy0]
        by_cases h : 1 < k ∧ by_ T a = 48
        · rw [if_pos (Or.inr (Or.inl h)), if_pos h]
        · rw [if_neg (fun h' => h'.elim (fun h0 => absurd h0 (Nat.ne_of_gt (hkk ▸ hd0))) (fun h' => h'.elim h (fun h0 => Nat.not_lt_of_le hv h0))), if_neg h]
      have HNUM := hide hnum
      have hcs : (((by_ T a : Nat) : Int) == 48) = true ∧ decide ((a : Int) + 1 < (b : Int)) = true ∧ (1 < k ∧ by_ T a = 48) ∨ (((by_ T a : Nat) : Int) == 48) = true ∧ decide ((a : Int) + 1 < (b : Int)) = false ∧ ¬ (1 < k ∧ by_ T a = 48) ∨ (((by_ T a : Nat) : Int) == 48) = false ∧ ¬ (1 < k ∧ by_ T a = 48) := by
        by_cases h1 : by_ T a = 48
        · have h1' : (((by_ T a : Nat) : Int) == 48) = true := by simp [h1]
          by_cases h3 : 1 < k
          · exact Or.inl ⟨h1', decide_eq_true (by omega), h3, h1⟩
          · exact Or.inr (Or.inl ⟨h1', decide_eq_false (by omega), fun h => h3 h.1⟩)
        · exact Or.inr (Or.inr ⟨by simp only [beq_eq_false_iff_ne, ne_eq]; omega, fun h => h1 h.2⟩)
      have HCS := hide hcs
      have hex : (decide ((b : Int) < (T.length : Int)) = false ∧ ¬ b < T.length) ∨ (b < T.length ∧ ∃ y : Nat, (∀ u, (Instr.index 9 (.string ⟨T.toArray⟩) (.int .i64 (b : Nat))).run Tryz.prog u = .ok (.int .u8 (y : Nat)) u) ∧ ∀ w, Calls Tryz.prog 149 #[.int .u8 (y : Nat)] w fun e w' => e = .returned (.bool false) ∧ w' = w) := by
        by_cases h : b < T.length
        · refine Or.inr ⟨h, by_ T b, ix_any T b h, fun w => ?_⟩
          have h1 := isDigit_any (by_ T b) w
          have h3 := dig_no (s := s) (by omega)
          rw [← hkk, unhide HBY k, ← hbk] at h3
          rw [h3] at h1
          exact h1
        · exact Or.inl ⟨decide_eq_false (by omega), h⟩
      generalize dv s k = v0 at *
      generalize by_ T a = ya at *
      clear hnum hcs hdr hy0 hq hbk hkd hv hlt hkk hsl hdl
      have hw0 := unhide HW0
      rcases hex with ⟨d1, hnl⟩ | ⟨hbl0, y, hixb, hcall⟩
      · go_wp2_with fail
        go_quiet (first | (go_at_call 149; fail))
        rcases unhide HCS with ⟨q1, q2, q3⟩ | ⟨q1, q2, q3⟩ | ⟨q1, q3⟩
        · have HN : Hid (numT (T.drop a) = none) := by unfold Hid; rw [unhide HNUM, if_pos q3]
          clear q3
          go_wp2_with fail
          exact ret_sg Tryz.results205 (st3_row (hM.drewN _).res 0 [] 0) rfl rfl ⟨0, [], 0, b, rfl, hbT, Nat.zero_le _, Row.but (hM.drewN _).sc (st3_but _ _ 0 [] 0) hgn, gr_st (hM.drewN _).gr 0 [] 0, Or.inr ⟨rfl, unhide HN⟩⟩
        all_goals
          have HN : Hid (numT (T.drop a) = some (v0, T.drop b)) := by unfold Hid; rw [unhide HNUM, if_neg q3]
          clear q3
          go_wp2_with fail
          exact ret_sg Tryz.results205 (st3_row (hM.drewN _).res 9 [] v0) rfl rfl ⟨9, [], v0, b, rfl, hbT, Nat.zero_le _, Row.but (hM.drewN _).sc (st3_but _ _ 9 [] v0) hgn, gr_st (hM.drewN _).gr 9 [] v0, Or.inl ⟨rfl, unhide HN⟩⟩
      · have hbl : (b : Int) < (T.length : Int) := by omega
        have HC := hide hcall
        clear hcall
        go_wp2_with fail
        go_quiet (first | (go_at_call 149; exact Calls.quiet_of_same (unhide HC _)))
        rcases unhide HCS with ⟨q1, q2, q3⟩ | ⟨q1, q2, q3⟩ | ⟨q1, q3⟩
        · have HN : Hid (numT (T.drop a) = none) := by unfold Hid; rw [unhide HNUM, if_pos q3]
          clear q3
          go_wp2_with fail
          exact ret_sg Tryz.results205 (st3_row (hM.drewN _).res 0 [] 0) rfl rfl ⟨0, [], 0, b, rfl, hbT, Nat.zero_le _, Row.but (hM.drewN _).sc (st3_but _ _ 0 [] 0) hgn, gr_st (hM.drewN _).gr 0 [] 0, Or.inr ⟨rfl, unhide HN⟩⟩
        all_goals
          have HN : Hid (numT (T.drop a) = some (v0, T.drop b)) := by unfold Hid; rw [unhide HNUM, if_neg q3]
          clear q3
          go_wp2_with fail
          exact ret_sg Tryz.results205 (st3_row (hM.drewN _).res 9 [] v0) rfl rfl ⟨9, [], v0, b, rfl, hbT, Nat.zero_le _, Row.but (hM.drewN _).sc (st3_but _ _ 9 [] v0) hgn, gr_st (hM.drewN _).gr 9 [] v0, Or.inl ⟨rfl, unhide HN⟩⟩
end Go.Proofs.YtkmkkmdpjliifaaGreatDoor
namespace Go.Proofs.YtkmkkmdpjliifaaGreatDoor
open Go.ChangeShapes Go.WideShapes Go.ChangeAt Go.RowKit

/-- the next sign of a text -/
def SignK (l : List UInt8) (k : Nat) (t : List UInt8) (n : Nat) (u : List UInt8) : Prop :=
  match skipB l with
  | [] => k = 1
  | c :: r => if c = 34 then TxtK (txtS r) k t n u else if digN c = true then NumK (numT (c :: r)) k t n u else k = markN c ∧ u = r
theorem SignK.nil {l : List UInt8} {t : List UInt8} {n : Nat} {u : List UInt8} (h : skipB l = []) : SignK l 1 t n u := by unfold SignK; rw [h]
theorem SignK.cons {l : List UInt8} {c : UInt8} {r : List UInt8} {k : Nat} {t : List UInt8} {n : Nat} {u : List UInt8} (h : skipB l = c :: r) (hk : if c = 34 then TxtK (txtS r) k t n u else if digN c = true then NumK (numT (c :: r)) k t n u else k = markN c ∧ u = r) : SignK l k t n u := by
  unfold SignK
  rw [h]
  exact hk

set_option maxRecDepth 20000 in
set_option maxHeartbeats 2000000 in
theorem next_any (g : Nat) (T : List UInt8) (a : Nat) (w : World) (hT : T.length ≤ 1048576) (ha : a ≤ T.length) (h2 : 2 < g) (hR : Sc w g T a) (hU : UT w) :
    Calls Tryz.prog 172 #[.pointer (some ⟨g, 0, none⟩)] w (SigR g T (SignK (T.drop a)) w) := by
  have HT := hide hT
  have hgl := hR.lt
  obtain ⟨w1, hw1⟩ : ∃ w1, w1 = w.alloc (.cells #[.int .i64 0, .string ⟨#[]⟩, .int .i64 0] 235) := ⟨_, rfl⟩
  have hM1 : TM w w1 g T a (.slice none 0 0) [] := by rw [hw1]; exact TM.start w _ g T a h2 rfl (Gr.refl _ _) hR hU
  have HW1 := hide hw1
  have hgn : g ≠ w.heap.size := by omega
  clear hw1 hT hR hU
  go_enter Tryz.func172, Tryz.ntmps172
  go_wp2_with fail
  rw [← unhide HW1]
  clear HW1
  refine (skipBlanks_any g T a _ (unhide HT) ha hM1.sc).mono ?_
  rintro e w2 ⟨⟨v2, rfl⟩, ⟨b, hb, hab, hsk, hR2⟩, hB2⟩
  have hM := hM1.go h2 hgl (Gr.ofBut hB2) hR2
  clear hM1 hR2 hB2 hab ha
  have hc0 := hM.sc.c0
  have hc1 := hM.sc.c1
  have hf1 := hM.sc.frozen 1
  have s0 : w2.cell? ⟨w.heap.size, 0, none⟩ = some (.int .i64 0) := hM.res.cell (by decide)
  have s1 : w2.cell? ⟨w.heap.size, 1, none⟩ = some (.string ⟨#[]⟩) := hM.res.cell (by decide)
  have s2 : w2.cell? ⟨w.heap.size, 2, none⟩ = some (.int .i64 0) := hM.res.cell (by decide)
  have z0 := hM.res.frozen 0
  have z1 := hM.res.frozen 1
  have z2 := hM.res.frozen 2
  by_cases hend : b = T.length
  · have d2 : (((b : Nat) : Int) == ((T.length : Nat) : Int)) = true := by simp [hend]
    have HN : Hid (skipB (T.drop a) = []) := by unfold Hid; rw [← hsk, List.drop_eq_nil_of_le (by omega)]
    clear hend hsk
    go_wp2_with fail
    go_quiet (fail)
    go_wp2_with fail
    exact ret_sg Tryz.results172 (st3_row (hM.drewN _).res 1 [] 0) rfl rfl ⟨1, [], 0, b, rfl, hb, Nat.zero_le _, Row.but (hM.drewN _).sc (st3_but _ _ 1 [] 0) hgn, gr_st (hM.drewN _).gr 1 [] 0, SignK.nil (unhide HN)⟩
  · have hlt : b < T.length := by omega
    have hbl : (b : Int) < (T.length : Int) := by omega
    have hix := ix_any T b hlt
    have hby : by_ T b = (T.getD b 0).toNat := rfl
    rw [hby] at hix
    have hdc := drop_cons hlt
    generalize T.getD b 0 = c at *
    have hcl := c.toNat_lt
    have d2 : (((b : Nat) : Int) == ((T.length : Nat) : Int)) = false := by simp only [beq_eq_false_iff_ne, ne_eq]; omega
    have hskc : skipB (T.drop a) = c :: T.drop (b + 1) := by rw [← hsk]; exact hdc
    have HS := hide hskc
    have HDC := hide hdc
    have HW : Hid (wrap64 ((b : Int) + 1) = (b : Int) + 1) := hide (w64 _ (by omega) (by have := unhide HT; omega))
    clear hend hskc hsk hdc
    by_cases e1 : c = 34
    · subst e1
      go_wp2_with fail
      go_quiet (fail)
      go_wp2_with fail
      go_quiet (fail)
      go_wp2_with fail
      refine (readText_any g T b _ (unhide HT) hlt h2 (hM.drewN _).sc (hM.drewN _).ut).mono ?_
      rintro e w3 ⟨k, t, n, d, rfl, hd, htl, hR3, hG3, hK⟩
      have hM3 := (hM.drewN _).go h2 hgl hG3 hR3
      have t0 : w3.cell? ⟨w.heap.size, 0, none⟩ = some (.int .i64 0) := hM3.res.cell (by decide)
      have t1 : w3.cell? ⟨w.heap.size, 1, none⟩ = some (.string ⟨#[]⟩) := hM3.res.cell (by decide)
      have t2 : w3.cell? ⟨w.heap.size, 2, none⟩ = some (.int .i64 0) := hM3.res.cell (by decide)
      have y0 := hM3.res.frozen 0
      have y1 := hM3.res.frozen 1
      have y2 := hM3.res.frozen 2
      have HK := hide hK
      clear hK
      unfold sgA
      go_wp2_with fail
      exact ret_sg Tryz.results172 (st3_row hM3.res k t n) rfl rfl ⟨k, t, n, d, rfl, hd, htl, Row.but hM3.sc (st3_but _ _ k t n) hgn, gr_st hM3.gr k t n, SignK.cons (unhide HS) (by rw [if_pos rfl]; exact unhide HK)⟩
    · have m1 : (((c.toNat : Nat) : Int) == 34) = false := nb (n := 34) (by decide) e1
      have HC := hide (fun w => isDigit_any c.toNat w)
      have hdn : digN c = (decide (48 ≤ c.toNat) && decide (c.toNat ≤ 57)) := rfl
      rw [← hdn] at HC
      clear hdn
      cases hdg : digN c with
      | true =>
        rw [hdg] at HC
        have hd0 : 0 < dk (T.drop b) := by rw [unhide HDC, dk, if_pos hdg]; omega
        have HDG := hide hdg
        clear hdg
        go_wp2_with fail
        go_quiet (fail)
        go_wp2_with fail
        go_quiet (fail)
        go_wp2_with (go_at_call 149; refine (unhide HC _).mono ?_; rintro e w5 ⟨rfl, rfl⟩)
        refine (readNumber_any g T b _ (unhide HT) hlt h2 hd0 (hM.drewN _).sc (hM.drewN _).ut).mono ?_
        rintro e w3 ⟨k, t, n, d, rfl, hd, htl, hR3, hG3, hK⟩
        have hM3 := (hM.drewN _).go h2 hgl hG3 hR3
        have t0 : w3.cell? ⟨w.heap.size, 0, none⟩ = some (.int .i64 0) := hM3.res.cell (by decide)
        have t1 : w3.cell? ⟨w.heap.size, 1, none⟩ = some (.string ⟨#[]⟩) := hM3.res.cell (by decide)
        have t2 : w3.cell? ⟨w.heap.size, 2, none⟩ = some (.int .i64 0) := hM3.res.cell (by decide)
        have y0 := hM3.res.frozen 0
        have y1 := hM3.res.frozen 1
        have y2 := hM3.res.frozen 2
        have HK := hide hK
        clear hK
        unfold sgA
        go_wp2_with fail
        exact ret_sg Tryz.results172 (st3_row hM3.res k t n) rfl rfl ⟨k, t, n, d, rfl, hd, htl, Row.but hM3.sc (st3_but _ _ k t n) hgn, gr_st hM3.gr k t n, SignK.cons (unhide HS) (by rw [if_neg e1, if_pos (unhide HDG), ← unhide HDC]; exact unhide HK)⟩
      | false =>
        rw [hdg] at HC
        have HDG := hide hdg
        have HMK := hide (fun w => markKind_any c w)
        have hw := unhide HW
        have hM2 := fun n => (hM.drewN n).go h2 hgl ((Gr.refl g _).setCell 1 (.int .i64 ((b : Int) + 1))) ((hM.drewN n).sc.set1 (b + 1) _ rfl)
        clear hdg
        go_wp2_with fail
        go_quiet (fail)
        go_wp2_with fail
        go_quiet (fail)
        go_wp2_with (first | (go_at_call 149; refine (unhide HC _).mono ?_; rintro e w5 ⟨rfl, rfl⟩) | (go_at_call 206; refine (unhide HMK _).mono ?_; rintro e w6 ⟨rfl, rfl⟩))
        exact ret_sg Tryz.results172 (st3_row (hM2 _).res (markN c) [] 0) rfl rfl ⟨markN c, [], 0, b + 1, rfl, hlt, Nat.zero_le _, Row.but (hM2 _).sc (st3_but _ _ (markN c) [] 0) hgn, gr_st (hM2 _).gr (markN c) [] 0, SignK.cons (unhide HS) (by rw [if_neg e1, if_neg (by rw [unhide HDG]; decide)]; exact ⟨rfl, rfl⟩)⟩
end Go.Proofs.YtkmkkmdpjliifaaGreatDoor
