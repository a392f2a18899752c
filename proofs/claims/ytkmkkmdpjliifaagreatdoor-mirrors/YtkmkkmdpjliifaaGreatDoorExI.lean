import Derived.Test.YtkmkkmdpjliifaaGreatDoorExH
namespace Go.Proofs.YtkmkkmdpjliifaaGreatDoor
open Go.ChangeShapes Go.WideShapes Go.ChangeAt Go.RowKit

theorem LsN.both {w w' : World} {N1 N2 N' : Nat → Prop} {v : Value} {l : List (List UInt8)} (h1 : LsN w N1 v l) (h2 : LsN w N2 v l) (hk : ∀ k, N1 k → N2 k → w'.heap[k]? = w.heap[k]? ∧ N' k) : LsN w' N' v l := by
  obtain ⟨a, c, rfl, hle, h1⟩ := h1
  obtain ⟨a2, c2, e, _, h2⟩ := h2
  injection e with e1 e2 e3
  subst e1
  refine ⟨a, c, rfl, hle, fun hp => ?_⟩
  obtain ⟨g, o, rfl, hg, h⟩ := h1 hp
  obtain ⟨g2, o2, e4, hg2, _⟩ := h2 hp
  injection e4 with e4
  injection e4 with e5 e6
  subst e5
  have := hk g hg hg2
  exact ⟨g, o, rfl, this.2, fun j hj => (World.cell?_of_block (a := ⟨g, o + j, none⟩) this.1).trans (h j hj)⟩
theorem CzN.both {w w' : World} {N1 N2 N' : Nat → Prop} {c : Cm} {n : Nat} {p : Pl} (h1 : CzN w N1 ({ c with id := n } : Cm).z p) (h2 : CzN w N2 c.z p) (hk : ∀ k, N1 k → N2 k → w'.heap[k]? = w.heap[k]? ∧ N' k) : CzN w' N' ({ c with id := n } : Cm).z p :=
  ⟨h1.k2.both h2.k2 hk, h1.k3.both h2.k3 hk, h1.k4.both h2.k4 hk⟩
/-- a cell of the caller's own, written behind it all -/
theorem GaveR.fin {w wa w1 : World} {s R O now : Nat} {vk vs vg : Value} {ks : List Ky} {cs : List Cl} {Qs : List Nat} {G : List Gt} {h : Nat} {pp : Option Nat} {c : Cm} {b3 : Nat} (hS : Sv w s R O now vk vs vg ks cs Qs G) (hb : Below w.heap.size w wa) (hg : GaveR wa s R O now vk vs vg ks cs Qs G h pp c w1) (h3 : w.heap.size ≤ b3) (h3a : b3 < wa.heap.size) (v : Value) :
    GaveR w s R O now vk vs vg ks cs Qs G h pp c (w1.setCell ⟨b3, 0, none⟩ v) := by
  obtain ⟨vg', b, pl, hS1, hb1, hf, hn⟩ := hg
  have hB : But b3 w1 (w1.setCell ⟨b3, 0, none⟩ v) := (But.refl _ _).setCell 0 _
  have hsl := hS.lt
  have hs1 := hb1.size
  have hff := (hf b3 h3a (hS.fresh h3)).2
  generalize w1.setCell ⟨b3, 0, none⟩ v = w2 at *
  have hfar : ∀ k, k < w.heap.size → FrS s vg G k → w2.heap[k]? = w.heap[k]? := fun k hk hfr => (hB.block k (by omega)).trans (((hf k (by have := hb.size; omega) hfr).1).trans (hb.block k hk))
  have hn2 : CzN w2 (New w w2) c.z pl := hn.keep (fun k hk => ⟨hB.block k (by have := hk.1; omega), by have h1 : wa.heap.size ≤ k := hk.1; have := hb.size; show w.heap.size ≤ k; omega, by rw [hB.size]; exact hk.2⟩)
  have hbs : Below s w1 w2 := hB.below (by omega)
  refine ⟨vg', b, pl, hS1.keep hbs (fun k hk hnf => hB.block k (fun e => hnf (e ▸ hff))) (fun i hi => ?_), ((hb.mono (Nat.le_of_lt hsl)).trans hb1).trans hbs, fun k hk hfr => ⟨hfar k hk hfr, (hf k (by have := hb.size; omega) hfr).2⟩, hn2⟩
  have hs2 : w2.heap.size = w1.heap.size := hB.size
  have hsa := hb.size
  by_cases hlt : i < G.length
  · rw [getG_left hlt]
    exact (hS.ls i hlt).keep (fun k hk => ⟨hfar k hk.1 hk.2, by rw [hs2]; have := hk.1; omega, (hf k (by have := hk.1; omega) hk.2).2⟩)
  · have hl := hS1.ls i hi
    have hi' : i = G.length := by rw [List.length_append, List.length_singleton] at hi; omega
    have hget : (G ++ [⟨b, h, pp, false, { c with id := G.length + 1 }, pl⟩] : List Gt).getD G.length default = ⟨b, h, pp, false, { c with id := G.length + 1 }, pl⟩ := by rw [getG_right (Nat.le_refl _), Nat.sub_self]; rfl
    rw [hi', hget] at hl ⊢
    refine CzN.both hl hn (fun k hk1 hk2 => ⟨hB.block k ?_, by rw [hs2]; exact hk1.1, hk1.2⟩)
    have h1 : wa.heap.size ≤ k := hk2.1
    omega

set_option maxRecDepth 20000 in
set_option maxHeartbeats 2000000 in
/-- what Exchange does with a token that is taken -/
theorem exT_any (m q i : Nat) (actor : List UInt8) (v1 v2 : Value) (t1 t2 : List (List UInt8)) (life : Int) (b0 b2 b3 : Nat) (w : World) (s R O now : Nat) (vk vs vg : Value) (ks : List Ky) (cs : List Cl) (Qs : List Nat) (G : List Gt) (hS : Sv w s R O now vk vs vg ks cs Qs G) (hT : Tb s w) (hm : MX w) (h4 : 4 < s) (hnow : now ≤ 999999999999) (hi : i < G.length) (hq : Qs[m]? = some q) (ha : actor.length ≤ 1048576)
    (l1 : t1.length ≤ 8796093022208) (l2 : t2.length ≤ 8796093022208) (f1 : Fits t1) (f2 : Fits t2) (k1 : Ls w w.heap.size v1 t1) (k2 : Ls w w.heap.size v2 t2)
    (c0 : w.cell? ⟨b0, 0, none⟩ = some (.pointer (some ⟨s, 0, none⟩))) (r2 : Row w b2 124 4 (fun j => if j = 0 then .string ⟨actor.toArray⟩ else if j = 1 then v1 else if j = 2 then v2 else .int .i64 life)) (r3 : Row w b3 9 1 (fun _ => .string ⟨#[]⟩)) (hf3 : FrS s vg G b3) :
    Calls Tryz.prog 73 #[.pointer (some ⟨q, 0, none⟩), .pointer (some ⟨(G.getD i default).b, 0, none⟩), .pointer (some ⟨b0, 0, none⟩), .pointer (some ⟨b2, 0, none⟩), .pointer (some ⟨b3, 0, none⟩)] w fun e w' => ∃ w1,
      (exE ks cs G now m i actor t1 t2 life ≠ 0 ∧ e = .returned (.int .i64 (exE ks cs G now m i actor t1 t2 life)) ∧ Below w.heap.size w w1 ∧ w' = w1.setCell ⟨b3, 0, none⟩ (.string ⟨#[]⟩)) ∨
      (exE ks cs G now m i actor t1 t2 life = 0 ∧ e = .returned (.int .i64 0) ∧ GaveR w s R O now vk vs vg ks cs Qs G m (some i) (exC ks cs G now m i actor t1 t2 life) w1 ∧ Row w1 b3 9 1 (fun _ => .string ⟨#[]⟩) ∧ w' = w1.setCell ⟨b3, 0, none⟩ (.string ⟨(tokS (ks.getD 0 default) (plainS { exC ks cs G now m i actor t1 t2 life with id := G.length + 1 })).toArray⟩)) := by
  have hX := exchange_any m q i actor v1 v2 t1 t2 life w s R O now vk vs vg ks cs Qs G hS hT hm h4 hnow hi hq ha l1 l2 f1 f2 k1 k2
  obtain ⟨a1, d1, rfl, x1⟩ := k1
  obtain ⟨a2, d2, rfl, x2⟩ := k2
  have HX := hide hX
  have g0 : w.cell? ⟨b2, 0, none⟩ = some (.string ⟨actor.toArray⟩) := r2.cell (by decide)
  have g1 : w.cell? ⟨b2, 1, none⟩ = some (.slice a1 t1.length d1) := r2.cell (by decide)
  have g2 : w.cell? ⟨b2, 2, none⟩ = some (.slice a2 t2.length d2) := r2.cell (by decide)
  have g3 : w.cell? ⟨b2, 3, none⟩ = some (.int .i64 life) := r2.cell (by decide)
  have HR3 := hide (And.intro r3 hf3)
  clear hX hS hT hm h4 hnow hi hq ha l1 l2 f1 f2 x1 x2 r2 r3 hf3
  generalize exE ks cs G now m i actor t1 t2 life = ex at *
  generalize exC ks cs G now m i actor t1 t2 life = cx at *
  generalize (G.getD i default).b = gb at *
  generalize htok : tokS (ks.getD 0 default) (plainS { cx with id := G.length + 1 }) = tok at *
  go_enter Tryz.func73, Tryz.ntmps73
  go_wp2_with fail
  refine (unhide HX).mono ?_
  rintro e w1 (⟨hne, rfl, hb⟩ | ⟨h0, rfl, hg⟩)
  · have r31 := (unhide HR3).1.below hb (unhide HR3).1.lt
    have c3 := r31.cell (j := 0) (by decide)
    have z3 := r31.frozen 0
    have HF := hide (And.intro hne hb)
    clear hne hb HX r31
    go_wp2_with fail
    go_ret
    exact ⟨w1, Or.inl ⟨(unhide HF).1, rfl, (unhide HF).2, rfl⟩⟩
  · have r31 : Row w1 b3 9 1 (fun _ => .string ⟨#[]⟩) := by
      obtain ⟨vg', b, pl, _, _, hf, _⟩ := hg
      exact (unhide HR3).1.keep (hf b3 (unhide HR3).1.lt (unhide HR3).2).1
    have c3 := r31.cell (j := 0) (by decide)
    have z3 := r31.frozen 0
    have HF := hide (And.intro h0 (And.intro hg r31))
    clear h0 hg HX r31
    go_wp2_with fail
    go_ret
    exact ⟨w1, Or.inr ⟨(unhide HF).1, rfl, (unhide HF).2.1, (unhide HF).2.2, rfl⟩⟩

/-- what Exchange answers besides the token -/
def exchE (ks : List Ky) (cs : List Cl) (G : List Gt) (now : Nat) (n sec t actor : List UInt8) (t1 t2 : List (List UInt8)) (life : Int) : Int :=
  match loginK cs n sec with
  | none => 5
  | some m => match takeS ks G now t with
    | (none, e) => e
    | (some i, _) => exE ks cs G now m i actor t1 t2 life

set_option maxRecDepth 20000 in
set_option maxHeartbeats 4000000 in
theorem Exchange_any (n sec t actor : List UInt8) (v1 v2 : Value) (t1 t2 : List (List UInt8)) (life : Int) (w : World) (s R O now : Nat) (vk vs vg : Value) (ks : List Ky) (cs : List Cl) (Qs : List Nat) (G : List Gt) (hS : Sv w s R O now vk vs vg ks cs Qs G) (hT : Tb s w) (hm : MX w) (h4 : 4 < s) (hnow : now ≤ 999999999999) (ht : t.length ≤ 1048576) (ha : actor.length ≤ 1048576)
    (l1 : t1.length ≤ 8796093022208) (l2 : t2.length ≤ 8796093022208) (f1 : Fits t1) (f2 : Fits t2) (k1 : Ls w w.heap.size v1 t1) (k2 : Ls w w.heap.size v2 t2) :
    Calls Tryz.prog 33 #[.pointer (some ⟨s, 0, none⟩), .agg #[.string ⟨n.toArray⟩, .string ⟨sec.toArray⟩], .string ⟨t.toArray⟩, .string ⟨actor.toArray⟩, v1, v2, .int .i64 life] w fun e w' =>
      (exchE ks cs G now n sec t actor t1 t2 life ≠ 0 ∧ e = .returned (.tuple #[.string ⟨#[]⟩, .int .i64 (exchE ks cs G now n sec t actor t1 t2 life)]) ∧ Below w.heap.size w w') ∨
      (exchE ks cs G now n sec t actor t1 t2 life = 0 ∧ ∃ m i, loginK cs n sec = some m ∧ takeS ks G now t = (some i, 0) ∧ i < G.length ∧ e = .returned (.tuple #[.string ⟨(tokS (ks.getD 0 default) (plainS { exC ks cs G now m i actor t1 t2 life with id := G.length + 1 })).toArray⟩, .int .i64 0]) ∧ GaveR w s R O now vk vs vg ks cs Qs G m (some i) (exC ks cs G now m i actor t1 t2 life) w') := by
  have hsl := hS.lt
  have HK1 := hide k1
  have HK2 := hide k2
  obtain ⟨a1, d1, rfl, x1⟩ := k1
  obtain ⟨a2, d2, rfl, x2⟩ := k2
  clear x1 x2
  obtain ⟨w4, hw4⟩ : ∃ w4, w4 = allocL w [.cells #[.pointer (some ⟨s, 0, none⟩)] 46, .cells #[.string ⟨n.toArray⟩, .string ⟨sec.toArray⟩] 81, .cells #[.string ⟨actor.toArray⟩, .slice a1 t1.length d1, .slice a2 t2.length d2, .int .i64 life] 124, .cells #[.string ⟨#[]⟩] 9] := ⟨_, rfl⟩
  have hb4 : Below w.heap.size w w4 := by rw [hw4]; exact allocL_below _ _
  have hs4 : w4.heap.size = w.heap.size + 4 := by rw [hw4, allocL_size]; rfl
  have c0 : w4.cell? ⟨w.heap.size, 0, none⟩ = some (.pointer (some ⟨s, 0, none⟩)) := by rw [hw4]; exact (allocL_cell (i := 0) rfl 0).trans rfl
  have c10 : w4.cell? ⟨w.heap.size + 1, 0, none⟩ = some (.string ⟨n.toArray⟩) := by rw [hw4]; exact (allocL_cell (i := 1) rfl 0).trans rfl
  have c11 : w4.cell? ⟨w.heap.size + 1, 1, none⟩ = some (.string ⟨sec.toArray⟩) := by rw [hw4]; exact (allocL_cell (i := 1) rfl 1).trans rfl
  have r2 : Row w4 (w.heap.size + 2) 124 4 (fun j => if j = 0 then .string ⟨actor.toArray⟩ else if j = 1 then .slice a1 t1.length d1 else if j = 2 then .slice a2 t2.length d2 else .int .i64 life) := by
    rw [hw4]
    exact ⟨_, allocL_heap _ w 2 _ rfl, rfl, four rfl rfl rfl rfl⟩
  have r3 : Row w4 (w.heap.size + 3) 9 1 (fun _ => .string ⟨#[]⟩) := by
    rw [hw4]
    exact ⟨_, allocL_heap _ w 3 _ rfl, rfl, fun j hj => by
      have : j = 0 := by omega
      subst this
      rfl⟩
  have hS4 := hS.below hb4
  obtain ⟨L, hL⟩ : ∃ L, L = exchE ks cs G now n sec t actor t1 t2 life := ⟨_, rfl⟩
  have hRun := run_any 73 69 #[.pointer (some ⟨w.heap.size, 0, none⟩), .pointer (some ⟨w.heap.size + 2, 0, none⟩), .pointer (some ⟨w.heap.size + 3, 0, none⟩)] #[] n sec t w4 s R O now vk vs vg ks cs Qs G
    (fun e w' => e = .returned (.int .i64 L) ∧ ((L ≠ 0 ∧ Row w' (w.heap.size + 3) 9 1 (fun _ => .string ⟨#[]⟩) ∧ Below w.heap.size w w') ∨ (L = 0 ∧ ∃ m i, loginK cs n sec = some m ∧ takeS ks G now t = (some i, 0) ∧ i < G.length ∧ Row w' (w.heap.size + 3) 9 1 (fun _ => .string ⟨(tokS (ks.getD 0 default) (plainS { exC ks cs G now m i actor t1 t2 life with id := G.length + 1 })).toArray⟩) ∧ GaveR w s R O now vk vs vg ks cs Qs G m (some i) (exC ks cs G now m i actor t1 t2 life) w')))
    Tryz.call73 Tryz.call69 (fun e w' ⟨h, _⟩ => ⟨_, h⟩) hS4 (hT.below (hb4.mono (Nat.le_of_lt hsl))) (hm.below (show 4 < w.heap.size by omega) hb4) h4 ht
    (fun hl w' hb => by
      have e : L = 5 := by rw [hL]; unfold exchE; rw [hl]
      rw [e]
      exact ⟨rfl, Or.inl ⟨by decide, r3.below hb (by omega), hb4.trans (hb.mono (by omega))⟩⟩)
    (fun m hl hz w' hb => by
      have e : L = (takeS ks G now t).2 := by
        rw [hL]; unfold exchE; rw [hl]; dsimp only
        have h1 := takeS_none hz
        generalize takeS ks G now t = x at h1 ⊢
        obtain ⟨x1, x2⟩ := x
        dsimp only at h1
        subst h1
        rfl
      rw [← e] at hz ⊢
      refine (passOn_any _ w').mono ?_
      rintro e w2 ⟨rfl, rfl⟩
      exact ⟨rfl, Or.inl ⟨hz, r3.below hb (by omega), hb4.trans (hb.mono (by omega))⟩⟩)
    (fun m q i hl hq htk hi hal w' hb => by
      have e : L = exE ks cs G now m i actor t1 t2 life := by rw [hL]; unfold exchE; rw [hl]; dsimp only; rw [htk]
      have hs' := hb.size
      have hB := hb4.trans (hb.mono (show w.heap.size ≤ w4.heap.size by omega))
      refine (exT_any m q i actor (.slice a1 t1.length d1) (.slice a2 t2.length d2) t1 t2 life w.heap.size (w.heap.size + 2) (w.heap.size + 3) w' s R O now vk vs vg ks cs Qs G (hS.below hB) (hT.below (hB.mono (Nat.le_of_lt hsl))) (hm.below (show 4 < w.heap.size by omega) hB) h4 hnow hi hq ha l1 l2 f1 f2 (((unhide HK1).below hB).up (by omega)) (((unhide HK2).below hB).up (by omega))
        ((hb.cell (p := ⟨w.heap.size, 0, none⟩) (show w.heap.size < w4.heap.size by omega)).trans c0) (r2.below hb (by omega)) (r3.below hb (by omega)) (hS.fresh (by omega))).mono ?_
      rintro e2 w2 ⟨w1, ⟨h1, rfl, h2, rfl⟩ | ⟨h1, rfl, h2, h3, rfl⟩⟩
      · rw [← e] at h1 ⊢
        refine ⟨rfl, Or.inl ⟨h1, (((r3.below hb (by omega)).below h2 (by omega)).set 0 _).congr (oneR rfl), (hB.trans (h2.mono (by omega))).setCell (show w.heap.size ≤ w.heap.size + 3 by omega) _⟩⟩
      · rw [← e] at h1
        refine ⟨by rw [h1], Or.inr ⟨h1, m, i, hl, htk, hi, (h3.set 0 _).congr (oneR rfl), GaveR.fin hS hB h2 (by omega) (by omega) _⟩⟩)
  have HRun := hide hRun
  have HW4 : Hid (w4 = (((w.alloc (.cells #[.pointer (some ⟨s, 0, none⟩)] 46)).alloc (.cells #[.string ⟨n.toArray⟩, .string ⟨sec.toArray⟩] 81)).alloc (.cells #[.string ⟨actor.toArray⟩, .slice a1 t1.length d1, .slice a2 t2.length d2, .int .i64 life] 124)).alloc (.cells #[.string ⟨#[]⟩] 9)) := hw4
  rw [← hL]
  clear hRun hS hT hm h4 ht hS4 r2 r3 hb4 hw4 hL hsl l1 l2 f1 f2 ha hnow
  go_enter Tryz.func33, Tryz.ntmps33
  go_wp2_with fail
  rw [← unhide HW4]
  rw [show w.heap.size + 1 + 1 = w.heap.size + 2 from rfl, show w.heap.size + 2 + 1 = w.heap.size + 3 from rfl]
  refine (unhide HRun).mono ?_
  rintro e w5 ⟨rfl, hrest⟩
  clear HRun HW4 c0 c10 c11
  generalize hb3 : w.heap.size + 3 = b3 at *
  clear hb3
  rcases hrest with ⟨h1, h2, h3⟩ | ⟨h1, m, i, h2, h3, h4, h5, h6⟩
  · have c3 := h2.cell (j := 0) (by decide)
    have HF := hide (And.intro h1 h3)
    clear h1 h2 h3
    go_wp2_with fail
    go_ret2
    exact Or.inl ⟨(unhide HF).1, rfl, (unhide HF).2⟩
  · have c3 := h5.cell (j := 0) (by decide)
    have HF := hide (And.intro h1 (And.intro h2 (And.intro h3 (And.intro h4 h6))))
    clear h2 h3 h4 h5 h6
    generalize htok : tokS (ks.getD 0 default) (plainS { exC ks cs G now m i actor t1 t2 life with id := G.length + 1 }) = tok at *
    have HTok := hide htok
    clear htok
    go_wp2_with fail
    go_ret2
    obtain ⟨g1, g2, g3, g4, g5⟩ := unhide HF
    exact Or.inr ⟨g1, m, i, g2, g3, g4, by rw [unhide HTok]; rfl, g5⟩
end Go.Proofs.YtkmkkmdpjliifaaGreatDoor
