import Derived.Test.YtkmkkmdpjliifaaGreatDoorKnB
import Derived.Test.YtkmkkmdpjliifaaGreatDoorTrA
namespace Go.Proofs.YtkmkkmdpjliifaaGreatDoor
open Go.ChangeShapes Go.WideShapes Go.ChangeAt Go.RowKit

/-- what grown holds, cell by cell -/
def trF (s : Nat) (vt vc vp : Value) (wr : Bool) (j : Nat) : Value :=
  if j = 0 then .pointer (some ⟨s, 0, none⟩) else if j = 1 then vt else if j = 2 then vc else if j = 3 then vp else .bool wr
/-- the cells of claims -/
def cmA (x : Cm × Pl) : List Value := (czA x.1.z x.2).toList
def cmsL (C : List (Cm × Pl)) : List Value := C.flatMap cmA
def intsL (l : List Int) : List Value := l.map (Value.int .i64)
theorem cmsL_more (C : List (Cm × Pl)) (x : Cm × Pl) : cmsL (C ++ [x]) = cmsL C ++ cmA x := by simp [cmsL]
theorem intsL_more (l : List Int) (x : Int) : intsL (l ++ [x]) = intsL l ++ [.int .i64 x] := by simp [intsL]
theorem cmA_len (x : Cm × Pl) : (cmA x).length = 6 := rfl
theorem cmsL_get : ∀ (C : List (Cm × Pl)) (i j : Nat), i < C.length → j < 6 → (cmsL C)[i * 6 + j]? = some (czF (C.getD i (cm0, pl0)).1.z (C.getD i (cm0, pl0)).2 j)
  | [], i, j, h, _ => absurd h (Nat.not_lt_zero _)
  | x :: C, 0, j, _, hj => by
    show (cmA x ++ cmsL C)[0 * 6 + j]? = _
    rw [Nat.zero_mul, Nat.zero_add, List.getElem?_append_left (by rw [cmA_len]; exact hj)]
    rcases (show j = 0 ∨ j = 1 ∨ j = 2 ∨ j = 3 ∨ j = 4 ∨ j = 5 by omega) with rfl | rfl | rfl | rfl | rfl | rfl <;> rfl
  | x :: C, i + 1, j, h, hj => by
    show (cmA x ++ cmsL C)[(i + 1) * 6 + j]? = _
    rw [List.getElem?_append_right (by rw [cmA_len]; omega), cmA_len, show (i + 1) * 6 + j - 6 = i * 6 + j by omega]
    exact cmsL_get C i j (by simpa using h) hj
/-- a block that the growing does not write -/
structure FrT (s : Nat) (vg : Value) (G : List Gt) (gp : Nat) (vt vc vp : Value) (k : Nat) : Prop where
  fs : FrS s vg G k
  g : k ≠ gp
  t : vt.ownBlock ≠ some k
  c : vc.ownBlock ≠ some k
  p : vp.ownBlock ≠ some k
/-- a server and its tokens, as they are kept -/
structure Tr (w : World) (gp s R O now : Nat) (vk vs vg : Value) (Qs : List Nat) (G : List Gt) (vt vc vp : Value) (wr : Bool) (T : List (List UInt8)) (C : List (Cm × Pl)) (Pa : List Int) : Prop where
  sv : Sv w s R O now vk vs vg ks0 cs0 Qs G
  gs : s < gp
  row : Row w gp 77 5 (trF s vt vc vp wr)
  tx : OwnS w (gp + 1) vt T
  cl : w.ownsRow (gp + 1) 60 6 vc C.length (cmsL C)
  pa : w.ownsRow (gp + 1) 3 1 vp Pa.length (intsL Pa)
  fg : FrS s vg G gp
  ft : ∀ k, vt.ownBlock = some k → FrS s vg G k
  fc : ∀ k, vc.ownBlock = some k → FrS s vg G k
  fp : ∀ k, vp.ownBlock = some k → FrS s vg G k
  tc : ∀ k, vt.ownBlock = some k → vc.ownBlock ≠ some k
  tp : ∀ k, vt.ownBlock = some k → vp.ownBlock ≠ some k
  cp : ∀ k, vc.ownBlock = some k → vp.ownBlock ≠ some k
  gl : ∀ i, i < G.length → CzN w (fun k => k < w.heap.size ∧ FrT s vg G gp vt vc vp k) (G.getD i default).c.z (G.getD i default).pl
  ls : ∀ x ∈ C, CzN w (fun k => k < w.heap.size ∧ FrT s vg G gp vt vc vp k) x.1.z x.2
/-- what a step of the growing leaves of the rest -/
def TFar (gp s : Nat) (vg vg' : Value) (G G' : List Gt) (vt vt' vc vc' vp vp' : Value) (w w' : World) : Prop := ∀ k, k < w.heap.size → FrT s vg G gp vt vc vp k → w'.heap[k]? = w.heap[k]? ∧ FrT s vg' G' gp vt' vc' vp' k
theorem TFar.trans {gp s : Nat} {vg vg' vg2 vt vt' vt2 vc vc' vc2 vp vp' vp2 : Value} {G G' G2 : List Gt} {w w' w2 : World} (h1 : TFar gp s vg vg' G G' vt vt' vc vc' vp vp' w w') (hs : w.heap.size ≤ w'.heap.size) (h2 : TFar gp s vg' vg2 G' G2 vt' vt2 vc' vc2 vp' vp2 w' w2) : TFar gp s vg vg2 G G2 vt vt2 vc vc2 vp vp2 w w2 := fun k hk hf => by
  obtain ⟨a1, a2⟩ := h1 k hk hf
  obtain ⟨b1, b2⟩ := h2 k (Nat.lt_of_lt_of_le hk hs) a2
  exact ⟨b1.trans a1, b2⟩

section
variable {w w' : World} {gp s R O now now' : Nat} {vk vs vg vg' : Value} {Qs : List Nat} {G G' : List Gt} {vt vc vp : Value} {wr : Bool} {T : List (List UInt8)} {C : List (Cm × Pl)} {Pa : List Int}
theorem Tr.lt (h : Tr w gp s R O now vk vs vg Qs G vt vc vp wr T C Pa) : gp < w.heap.size := h.row.lt
theorem Tr.far (hF : SFar s vg vg' G G' w w') : TFar gp s vg vg' G G' vt vt vc vc vp vp w w' := fun k hk hf => ⟨(hF k hk hf.fs).1, (hF k hk hf.fs).2, hf.g, hf.t, hf.c, hf.p⟩
/-- the server turns -/
theorem Tr.turn (h : Tr w gp s R O now vk vs vg Qs G vt vc vp wr T C Pa) (hS : Sv w' s R O now' vk vs vg' ks0 cs0 Qs G') (hsz : w.heap.size ≤ w'.heap.size) (hF : SFar s vg vg' G G' w w')
    (hG : ∀ i, i < G'.length → CzN w' (fun k => k < w'.heap.size ∧ FrT s vg' G' gp vt vc vp k) (G'.getD i default).c.z (G'.getD i default).pl) : Tr w' gp s R O now' vk vs vg' Qs G' vt vc vp wr T C Pa where
  sv := hS
  gs := h.gs
  row := h.row.keep (hF gp h.row.lt h.fg).1
  tx := ownsRow_at h.tx (fun k e => (hF k (World.ownsRow.lt h.tx k e).2 (h.ft k e)).1)
  cl := ownsRow_at h.cl (fun k e => (hF k (World.ownsRow.lt h.cl k e).2 (h.fc k e)).1)
  pa := ownsRow_at h.pa (fun k e => (hF k (World.ownsRow.lt h.pa k e).2 (h.fp k e)).1)
  fg := (hF gp h.row.lt h.fg).2
  ft := fun k e => (hF k (World.ownsRow.lt h.tx k e).2 (h.ft k e)).2
  fc := fun k e => (hF k (World.ownsRow.lt h.cl k e).2 (h.fc k e)).2
  fp := fun k e => (hF k (World.ownsRow.lt h.pa k e).2 (h.fp k e)).2
  tc := h.tc
  tp := h.tp
  cp := h.cp
  gl := hG
  ls := fun x hx => (h.ls x hx).keep (fun k hk => ⟨(hF k hk.1 hk.2.fs).1, Nat.lt_of_lt_of_le hk.1 hsz, (Tr.far (vt := vt) (vc := vc) (vp := vp) (gp := gp) hF k hk.1 hk.2).2⟩)
/-- new blocks alone -/
theorem Tr.below (h : Tr w gp s R O now vk vs vg Qs G vt vc vp wr T C Pa) (hb : Below w.heap.size w w') : Tr w' gp s R O now vk vs vg Qs G vt vc vp wr T C Pa :=
  h.turn (h.sv.below hb) hb.size (fun k hk hf => ⟨hb.block k hk, hf⟩) (fun i hi => (h.gl i hi).keep (fun k hk => ⟨hb.block k hk.1, Nat.lt_of_lt_of_le hk.1 hb.size, hk.2⟩))
theorem TFar.below (hb : Below w.heap.size w w') : TFar gp s vg vg G G vt vt vc vc vp vp w w' := fun k hk hf => ⟨hb.block k hk, hf⟩
/-- a block that is new is not written -/
theorem Tr.fresh (h : Tr w gp s R O now vk vs vg Qs G vt vc vp wr T C Pa) {k : Nat} (hk : w.heap.size ≤ k) : FrT s vg G gp vt vc vp k :=
  ⟨h.sv.fresh hk, fun e => by have := h.lt; omega, fun e => by have := (World.ownsRow.lt h.tx k e).2; omega, fun e => by have := (World.ownsRow.lt h.cl k e).2; omega, fun e => by have := (World.ownsRow.lt h.pa k e).2; omega⟩
/-- what lies below the server is not written -/
theorem Tr.low (h : Tr w gp s R O now vk vs vg Qs G vt vc vp wr T C Pa) {k : Nat} (hk : k < s) : FrT s vg G gp vt vc vp k :=
  ⟨⟨by omega, fun e => by have := (World.ownsRow.lt h.sv.own k e).1; omega, fun i hi e => by have := h.sv.gs i hi; omega⟩, by have := h.gs; omega, fun e => by have := (World.ownsRow.lt h.tx k e).1; have := h.gs; omega, fun e => by have := (World.ownsRow.lt h.cl k e).1; have := h.gs; omega, fun e => by have := (World.ownsRow.lt h.pa k e).1; have := h.gs; omega⟩
/-- a token was given -/
theorem Tr.gave {hh : Nat} {pp : Option Nat} {c : Cm} (h : Tr w gp s R O now vk vs vg Qs G vt vc vp wr T C Pa) (hg : GaveR w s R O now vk vs vg ks0 cs0 Qs G hh pp c w') :
    ∃ vg' b pl, Tr w' gp s R O now vk vs vg' Qs (G ++ [⟨b, hh, pp, false, { c with id := G.length + 1 }, pl⟩]) vt vc vp wr T C Pa ∧ Below s w w' ∧ TFar gp s vg vg' G (G ++ [⟨b, hh, pp, false, { c with id := G.length + 1 }, pl⟩]) vt vt vc vc vp vp w w' := by
  obtain ⟨vg', b, pl, hS, hb, hF, hN⟩ := hg
  refine ⟨vg', b, pl, h.turn hS hb.size hF (fun i hi => ?_), hb, Tr.far hF⟩
  by_cases e : i < G.length
  · rw [getG_left e]
    exact (h.gl i e).keep (fun k hk => ⟨(hF k hk.1 hk.2.fs).1, Nat.lt_of_lt_of_le hk.1 hb.size, (Tr.far (vt := vt) (vc := vc) (vp := vp) (gp := gp) hF k hk.1 hk.2).2⟩)
  · have hi' : i = G.length := by simp at hi; omega
    subst hi'
    rw [getG_right (Nat.le_refl _), Nat.sub_self]
    have hq := hS.ls G.length (by simp)
    rw [getG_right (Nat.le_refl _), Nat.sub_self] at hq
    exact CzN.both (N1 := fun k => k < w'.heap.size ∧ FrS s vg' (G ++ [⟨b, hh, pp, false, { c with id := G.length + 1 }, pl⟩]) k) (N2 := New w w') hq hN (fun k h1 h2 => ⟨rfl, h2.2, h1.2, (h.fresh h2.1).g, (h.fresh h2.1).t, (h.fresh h2.1).c, (h.fresh h2.1).p⟩)

/-- a list grown and put back: the rest -/
theorem grown_rest {v v5 : Value} {w4 : World} {ob : Obj} {j : Nat} (hg : (w.alloc ob).grownBy w4 v.ownBlock) {k : Nat} (hk : k < w.heap.size) (hgp : k ≠ gp) (hv : v.ownBlock ≠ some k) : (w4.setCell ⟨gp, j, none⟩ v5).heap[k]? = w.heap[k]? := by
  have hB : But gp w4 (w4.setCell ⟨gp, j, none⟩ v5) := (But.refl gp w4).setCell j v5
  rw [hB.block k hgp, hg.block k (by simp; omega) (fun e => hv e.symm)]
  exact ((Below.refl w.heap.size w).alloc (Nat.le_refl _) ob).block k hk
theorem grown_size {v v5 : Value} {w4 : World} {ob : Obj} {j : Nat} (hg : (w.alloc ob).grownBy w4 v.ownBlock) : w.heap.size ≤ (w4.setCell ⟨gp, j, none⟩ v5).heap.size := by
  have hB : But gp w4 (w4.setCell ⟨gp, j, none⟩ v5) := (But.refl gp w4).setCell j v5
  have := hg.size
  rw [hB.size]
  simp at this
  omega
theorem grown_below {v v5 : Value} {w4 : World} {ob : Obj} {j : Nat} (hg : (w.alloc ob).grownBy w4 v.ownBlock) (hsl : s < w.heap.size) (hgs : s < gp) (hv : ∀ k, v.ownBlock = some k → s < k) : Below s w (w4.setCell ⟨gp, j, none⟩ v5) := by
  have hB : But gp w4 (w4.setCell ⟨gp, j, none⟩ v5) := (But.refl gp w4).setCell j v5
  have hb := (Below.refl w.heap.size w).alloc (Nat.le_refl _) ob
  exact ⟨(hB.os.trans hg.os).trans hb.os, (hB.tape.trans hg.tape).trans hb.tape, (hB.output.trans hg.output).trans hb.output, grown_size hg, fun k hk => grown_rest hg (by omega) (by omega) (fun e => by have := hv k e; omega)⟩
/-- the server, where a list of the growing's own was turned -/
theorem Tr.svRest (h : Tr w gp s R O now vk vs vg Qs G vt vc vp wr T C Pa) {v v5 : Value} {w4 : World} {ob : Obj} {j : Nat} (hg : (w.alloc ob).grownBy w4 v.ownBlock) (hf : ∀ k, v.ownBlock = some k → FrS s vg G k) (hs : ∀ k, v.ownBlock = some k → s < k) (hl : ∀ k, FrT s vg G gp vt vc vp k → v.ownBlock ≠ some k) :
    Sv (w4.setCell ⟨gp, j, none⟩ v5) s R O now vk vs vg ks0 cs0 Qs G :=
  h.sv.keep (grown_below hg h.sv.lt h.gs hs) (fun k hk hn => grown_rest hg hk (fun e => hn (e ▸ h.fg)) (fun e => hn (hf k e))) (fun i hi => (h.gl i hi).keep (fun k hk => ⟨grown_rest hg hk.1 hk.2.g (hl k hk.2), Nat.lt_of_lt_of_le hk.1 (grown_size hg), hk.2.fs⟩))
theorem at_ne {v v2 : Value} {ob : Obj} {g4 : Nat} (hat : v.ownBlock = some g4 ∨ g4 = (w.alloc ob).heap.size) (h2 : ∀ k, v2.ownBlock = some k → k < w.heap.size) (hd : ∀ k, v.ownBlock = some k → v2.ownBlock ≠ some k) : v2.ownBlock ≠ some g4 := by
  rcases hat with e | e
  · exact hd g4 e
  · intro h
    have := h2 g4 h
    rw [e] at this
    simp at this
    omega
theorem at_k {v : Value} {ob : Obj} {g4 k : Nat} (hat : v.ownBlock = some g4 ∨ g4 = (w.alloc ob).heap.size) (hk : k < w.heap.size) (hv : v.ownBlock ≠ some k) : k ≠ g4 := by
  rcases hat with e | e
  · intro h; subst h; exact hv e
  · rw [e]; simp; omega
theorem at_own {g4 n c4 k : Nat} (h : (Value.slice (some ⟨g4, 0, none⟩) n c4).ownBlock = some k) : g4 = k := Option.some.inj h
theorem trRow (h : Tr w gp s R O now vk vs vg Qs G vt vc vp wr T C Pa) {v : Value} {w4 : World} {ob : Obj} (hg : (w.alloc ob).grownBy w4 v.ownBlock) (hv : ∀ k, v.ownBlock = some k → gp + 1 ≤ k) : Row w4 gp 77 5 (trF s vt vc vp wr) :=
  h.row.keep (by
    have hl := h.lt
    rw [hg.block gp (by simp; omega) (fun e => by have := hv gp e.symm; omega)]
    exact ((Below.refl w.heap.size w).alloc (Nat.le_refl _) ob).block gp hl)
theorem fiveR {f g : Nat → Value} (h0 : f 0 = g 0) (h1 : f 1 = g 1) (h2 : f 2 = g 2) (h3 : f 3 = g 3) (h4 : f 4 = g 4) : ∀ j, j < 5 → f j = g j := fun j hj => by
  rcases (show j = 0 ∨ j = 1 ∨ j = 2 ∨ j = 3 ∨ j = 4 by omega) with rfl | rfl | rfl | rfl | rfl <;> assumption
theorem Tr.addT (h : Tr w gp s R O now vk vs vg Qs G vt vc vp wr T C Pa) {w4 : World} {ob : Obj} {g4 c4 : Nat} {t : List UInt8} (ho : w4.ownsRow (gp + 1) 9 1 (.slice (some ⟨g4, 0, none⟩) (T.length + 1) c4) (T.length + 1) (svs T ++ [.string ⟨t.toArray⟩])) (hg : (w.alloc ob).grownBy w4 vt.ownBlock) (hat : vt.ownBlock = some g4 ∨ g4 = (w.alloc ob).heap.size) :
    Tr (w4.setCell ⟨gp, 1, none⟩ (.slice (some ⟨g4, 0, none⟩) (T.length + 1) c4)) gp s R O now vk vs vg Qs G (.slice (some ⟨g4, 0, none⟩) (T.length + 1) c4) vc vp wr (T ++ [t]) C Pa ∧ Below s w (w4.setCell ⟨gp, 1, none⟩ (.slice (some ⟨g4, 0, none⟩) (T.length + 1) c4)) ∧ TFar gp s vg vg G G vt (.slice (some ⟨g4, 0, none⟩) (T.length + 1) c4) vc vc vp vp w (w4.setCell ⟨gp, 1, none⟩ (.slice (some ⟨g4, 0, none⟩) (T.length + 1) c4)) := by
  have hgs := h.gs
  have hlt := World.ownsRow.lt h.tx
  have hs : ∀ k, vt.ownBlock = some k → s < k := fun k e => by have := (hlt k e).1; omega
  have hB : But gp w4 (w4.setCell ⟨gp, 1, none⟩ (.slice (some ⟨g4, 0, none⟩) (T.length + 1) c4)) := (But.refl gp w4).setCell 1 _
  have hg4 : gp + 1 ≤ g4 := by
    rcases hat with e | e
    · exact (hlt g4 e).1
    · have := h.lt
      rw [e]; simp; omega
  have hbel : Below s w (w4.setCell ⟨gp, 1, none⟩ (.slice (some ⟨g4, 0, none⟩) (T.length + 1) c4)) := grown_below hg h.sv.lt hgs hs
  have hfar : TFar gp s vg vg G G vt (.slice (some ⟨g4, 0, none⟩) (T.length + 1) c4) vc vc vp vp w (w4.setCell ⟨gp, 1, none⟩ (.slice (some ⟨g4, 0, none⟩) (T.length + 1) c4)) := fun k hk hf => ⟨grown_rest hg hk hf.g hf.t, ⟨(hf).fs, (hf).g, fun e => at_k hat (hk) ((hf).t) (at_own e).symm, (hf).c, (hf).p⟩⟩
  refine ⟨?_, hbel, hfar⟩
  constructor
  · exact h.svRest hg h.ft hs (fun k hf => hf.t)
  · exact hgs
  · exact (Row.set (trRow h hg (fun k e => (hlt k e).1)) 1 _).congr (fiveR rfl rfl rfl rfl rfl)
  · rw [show svs T ++ [.string ⟨t.toArray⟩] = svs (T ++ [t]) by simp [svs]; rfl, show T.length + 1 = (T ++ [t]).length by simp] at ho
    rw [show T.length + 1 = (T ++ [t]).length by simp] at hB ⊢
    exact ownsRow_at ho (fun k e => hB.block k (by have := at_own e; omega))
  · exact ownsRow_at h.cl (fun k e => grown_rest hg (World.ownsRow.lt h.cl k e).2 (by have := (World.ownsRow.lt h.cl k e).1; omega) (fun e2 => (h.tc) k e2 e))
  · exact ownsRow_at h.pa (fun k e => grown_rest hg (World.ownsRow.lt h.pa k e).2 (by have := (World.ownsRow.lt h.pa k e).1; omega) (fun e2 => (h.tp) k e2 e))
  · exact h.fg
  · intro k e
    have hk := at_own e
    subst hk
    rcases hat with e2 | e2
    · exact h.ft _ e2
    · exact h.sv.fresh (by rw [e2]; simp)
  · exact h.fc
  · exact h.fp
  · intro k e
    have hk := at_own e
    subst hk
    exact at_ne hat (fun k e => (World.ownsRow.lt h.cl k e).2) (h.tc)
  · intro k e
    have hk := at_own e
    subst hk
    exact at_ne hat (fun k e => (World.ownsRow.lt h.pa k e).2) (h.tp)
  · exact h.cp
  · exact fun i hi => (h.gl i hi).keep (fun k hk => ⟨(hfar k hk.1 hk.2).1, Nat.lt_of_lt_of_le hk.1 (grown_size hg), (hfar k hk.1 hk.2).2⟩)
  · exact fun y hy => (h.ls y hy).keep (fun k hk => ⟨(hfar k hk.1 hk.2).1, Nat.lt_of_lt_of_le hk.1 (grown_size hg), (hfar k hk.1 hk.2).2⟩)
theorem Tr.addC (h : Tr w gp s R O now vk vs vg Qs G vt vc vp wr T C Pa) {w4 : World} {ob : Obj} {g4 c4 : Nat} {x : Cm × Pl} (hx : CzN w (fun k => k < w.heap.size ∧ FrT s vg G gp vt vc vp k) x.1.z x.2) (ho : w4.ownsRow (gp + 1) 60 6 (.slice (some ⟨g4, 0, none⟩) (C.length + 1) c4) (C.length + 1) (cmsL C ++ cmA x)) (hg : (w.alloc ob).grownBy w4 vc.ownBlock) (hat : vc.ownBlock = some g4 ∨ g4 = (w.alloc ob).heap.size) :
    Tr (w4.setCell ⟨gp, 2, none⟩ (.slice (some ⟨g4, 0, none⟩) (C.length + 1) c4)) gp s R O now vk vs vg Qs G vt (.slice (some ⟨g4, 0, none⟩) (C.length + 1) c4) vp wr T (C ++ [x]) Pa ∧ Below s w (w4.setCell ⟨gp, 2, none⟩ (.slice (some ⟨g4, 0, none⟩) (C.length + 1) c4)) ∧ TFar gp s vg vg G G vt vt vc (.slice (some ⟨g4, 0, none⟩) (C.length + 1) c4) vp vp w (w4.setCell ⟨gp, 2, none⟩ (.slice (some ⟨g4, 0, none⟩) (C.length + 1) c4)) := by
  have hgs := h.gs
  have hlt := World.ownsRow.lt h.cl
  have hs : ∀ k, vc.ownBlock = some k → s < k := fun k e => by have := (hlt k e).1; omega
  have hB : But gp w4 (w4.setCell ⟨gp, 2, none⟩ (.slice (some ⟨g4, 0, none⟩) (C.length + 1) c4)) := (But.refl gp w4).setCell 2 _
  have hg4 : gp + 1 ≤ g4 := by
    rcases hat with e | e
    · exact (hlt g4 e).1
    · have := h.lt
      rw [e]; simp; omega
  have hbel : Below s w (w4.setCell ⟨gp, 2, none⟩ (.slice (some ⟨g4, 0, none⟩) (C.length + 1) c4)) := grown_below hg h.sv.lt hgs hs
  have hfar : TFar gp s vg vg G G vt vt vc (.slice (some ⟨g4, 0, none⟩) (C.length + 1) c4) vp vp w (w4.setCell ⟨gp, 2, none⟩ (.slice (some ⟨g4, 0, none⟩) (C.length + 1) c4)) := fun k hk hf => ⟨grown_rest hg hk hf.g hf.c, ⟨(hf).fs, (hf).g, (hf).t, fun e => at_k hat (hk) ((hf).c) (at_own e).symm, (hf).p⟩⟩
  refine ⟨?_, hbel, hfar⟩
  constructor
  · exact h.svRest hg h.fc hs (fun k hf => hf.c)
  · exact hgs
  · exact (Row.set (trRow h hg (fun k e => (hlt k e).1)) 2 _).congr (fiveR rfl rfl rfl rfl rfl)
  · exact ownsRow_at h.tx (fun k e => grown_rest hg (World.ownsRow.lt h.tx k e).2 (by have := (World.ownsRow.lt h.tx k e).1; omega) (fun e2 => (fun k e e2 => h.tc k e2 e) k e2 e))
  · rw [← cmsL_more, show C.length + 1 = (C ++ [x]).length by simp] at ho
    rw [show C.length + 1 = (C ++ [x]).length by simp] at hB ⊢
    exact ownsRow_at ho (fun k e => hB.block k (by have := at_own e; omega))
  · exact ownsRow_at h.pa (fun k e => grown_rest hg (World.ownsRow.lt h.pa k e).2 (by have := (World.ownsRow.lt h.pa k e).1; omega) (fun e2 => (h.cp) k e2 e))
  · exact h.fg
  · exact h.ft
  · intro k e
    have hk := at_own e
    subst hk
    rcases hat with e2 | e2
    · exact h.fc _ e2
    · exact h.sv.fresh (by rw [e2]; simp)
  · exact h.fp
  · intro k e e2
    have hk := at_own e2
    subst hk
    exact at_ne hat (fun k e => (World.ownsRow.lt h.tx k e).2) (fun k e e2 => h.tc k e2 e) e
  · exact h.tp
  · intro k e
    have hk := at_own e
    subst hk
    exact at_ne hat (fun k e => (World.ownsRow.lt h.pa k e).2) (h.cp)
  · exact fun i hi => (h.gl i hi).keep (fun k hk => ⟨(hfar k hk.1 hk.2).1, Nat.lt_of_lt_of_le hk.1 (grown_size hg), (hfar k hk.1 hk.2).2⟩)
  · intro y hy
    rcases List.mem_append.1 hy with hy | hy
    · exact (h.ls y hy).keep (fun k hk => ⟨(hfar k hk.1 hk.2).1, Nat.lt_of_lt_of_le hk.1 (grown_size hg), (hfar k hk.1 hk.2).2⟩)
    · rw [List.mem_singleton.1 hy]
      exact hx.keep (fun k hk => ⟨(hfar k hk.1 hk.2).1, Nat.lt_of_lt_of_le hk.1 (grown_size hg), (hfar k hk.1 hk.2).2⟩)
theorem Tr.addP (h : Tr w gp s R O now vk vs vg Qs G vt vc vp wr T C Pa) {w4 : World} {ob : Obj} {g4 c4 : Nat} {x : Int} (ho : w4.ownsRow (gp + 1) 3 1 (.slice (some ⟨g4, 0, none⟩) (Pa.length + 1) c4) (Pa.length + 1) (intsL Pa ++ [.int .i64 x])) (hg : (w.alloc ob).grownBy w4 vp.ownBlock) (hat : vp.ownBlock = some g4 ∨ g4 = (w.alloc ob).heap.size) :
    Tr (w4.setCell ⟨gp, 3, none⟩ (.slice (some ⟨g4, 0, none⟩) (Pa.length + 1) c4)) gp s R O now vk vs vg Qs G vt vc (.slice (some ⟨g4, 0, none⟩) (Pa.length + 1) c4) wr T C (Pa ++ [x]) ∧ Below s w (w4.setCell ⟨gp, 3, none⟩ (.slice (some ⟨g4, 0, none⟩) (Pa.length + 1) c4)) ∧ TFar gp s vg vg G G vt vt vc vc vp (.slice (some ⟨g4, 0, none⟩) (Pa.length + 1) c4) w (w4.setCell ⟨gp, 3, none⟩ (.slice (some ⟨g4, 0, none⟩) (Pa.length + 1) c4)) := by
  have hgs := h.gs
  have hlt := World.ownsRow.lt h.pa
  have hs : ∀ k, vp.ownBlock = some k → s < k := fun k e => by have := (hlt k e).1; omega
  have hB : But gp w4 (w4.setCell ⟨gp, 3, none⟩ (.slice (some ⟨g4, 0, none⟩) (Pa.length + 1) c4)) := (But.refl gp w4).setCell 3 _
  have hg4 : gp + 1 ≤ g4 := by
    rcases hat with e | e
    · exact (hlt g4 e).1
    · have := h.lt
      rw [e]; simp; omega
  have hbel : Below s w (w4.setCell ⟨gp, 3, none⟩ (.slice (some ⟨g4, 0, none⟩) (Pa.length + 1) c4)) := grown_below hg h.sv.lt hgs hs
  have hfar : TFar gp s vg vg G G vt vt vc vc vp (.slice (some ⟨g4, 0, none⟩) (Pa.length + 1) c4) w (w4.setCell ⟨gp, 3, none⟩ (.slice (some ⟨g4, 0, none⟩) (Pa.length + 1) c4)) := fun k hk hf => ⟨grown_rest hg hk hf.g hf.p, ⟨(hf).fs, (hf).g, (hf).t, (hf).c, fun e => at_k hat (hk) ((hf).p) (at_own e).symm⟩⟩
  refine ⟨?_, hbel, hfar⟩
  constructor
  · exact h.svRest hg h.fp hs (fun k hf => hf.p)
  · exact hgs
  · exact (Row.set (trRow h hg (fun k e => (hlt k e).1)) 3 _).congr (fiveR rfl rfl rfl rfl rfl)
  · exact ownsRow_at h.tx (fun k e => grown_rest hg (World.ownsRow.lt h.tx k e).2 (by have := (World.ownsRow.lt h.tx k e).1; omega) (fun e2 => (fun k e e2 => h.tp k e2 e) k e2 e))
  · exact ownsRow_at h.cl (fun k e => grown_rest hg (World.ownsRow.lt h.cl k e).2 (by have := (World.ownsRow.lt h.cl k e).1; omega) (fun e2 => (fun k e e2 => h.cp k e2 e) k e2 e))
  · rw [← intsL_more, show Pa.length + 1 = (Pa ++ [x]).length by simp] at ho
    rw [show Pa.length + 1 = (Pa ++ [x]).length by simp] at hB ⊢
    exact ownsRow_at ho (fun k e => hB.block k (by have := at_own e; omega))
  · exact h.fg
  · exact h.ft
  · exact h.fc
  · intro k e
    have hk := at_own e
    subst hk
    rcases hat with e2 | e2
    · exact h.fp _ e2
    · exact h.sv.fresh (by rw [e2]; simp)
  · exact h.tc
  · intro k e e2
    have hk := at_own e2
    subst hk
    exact at_ne hat (fun k e => (World.ownsRow.lt h.tx k e).2) (fun k e e2 => h.tp k e2 e) e
  · intro k e e2
    have hk := at_own e2
    subst hk
    exact at_ne hat (fun k e => (World.ownsRow.lt h.cl k e).2) (fun k e e2 => h.cp k e2 e) e
  · exact fun i hi => (h.gl i hi).keep (fun k hk => ⟨(hfar k hk.1 hk.2).1, Nat.lt_of_lt_of_le hk.1 (grown_size hg), (hfar k hk.1 hk.2).2⟩)
  · exact fun y hy => (h.ls y hy).keep (fun k hk => ⟨(hfar k hk.1 hk.2).1, Nat.lt_of_lt_of_le hk.1 (grown_size hg), (hfar k hk.1 hk.2).2⟩)
/-- the kept claims, cell by cell -/
theorem Tr.claims (h : Tr w gp s R O now vk vs vg Qs G vt vc vp wr T C Pa) (hp : 0 < C.length) : ∃ gc cc, vc = .slice (some ⟨gc, 0, none⟩) C.length cc ∧ FrS s vg G gc ∧ gc ≠ gp ∧ gc < w.heap.size ∧ ∀ i, i < C.length → ∀ j, j < 6 → w.cell? ⟨gc, i * 6 + j, none⟩ = some (czF (C.getD i (cm0, pl0)).1.z (C.getD i (cm0, pl0)).2 j) := by
  rcases owns_cells h.cl with ⟨_, h0⟩ | ⟨gc, cc, e, _, hb, hl, hc⟩
  · omega
  · exact ⟨gc, cc, e, h.fc gc (by rw [e]; rfl), by omega, hl, fun i hi j hj => hc _ _ (cmsL_get C i j hi hj)⟩
theorem Tr.parents (h : Tr w gp s R O now vk vs vg Qs G vt vc vp wr T C Pa) (hp : 0 < Pa.length) : ∃ gc cc, vp = .slice (some ⟨gc, 0, none⟩) Pa.length cc ∧ FrS s vg G gc ∧ gc ≠ gp ∧ gc < w.heap.size ∧ ∀ i, i < Pa.length → w.cell? ⟨gc, i, none⟩ = some (.int .i64 (Pa.getD i 0)) := by
  rcases owns_cells h.pa with ⟨_, h0⟩ | ⟨gc, cc, e, _, hb, hl, hc⟩
  · omega
  · exact ⟨gc, cc, e, h.fp gc (by rw [e]; rfl), by omega, hl, fun i hi => hc _ _ (by unfold intsL; rw [List.getElem?_map, List.getElem?_eq_getElem hi, List.getD_eq_getElem?_getD, List.getElem?_eq_getElem hi]; rfl)⟩
theorem Tr.texts (h : Tr w gp s R O now vk vs vg Qs G vt vc vp wr T C Pa) (hp : 0 < T.length) : ∃ gc cc, vt = .slice (some ⟨gc, 0, none⟩) T.length cc ∧ FrS s vg G gc ∧ gc ≠ gp ∧ gc < w.heap.size ∧ ∀ i, i < T.length → w.cell? ⟨gc, i, none⟩ = some (.string ⟨(T.getD i []).toArray⟩) := by
  rcases owns_cells h.tx with ⟨_, h0⟩ | ⟨gc, cc, e, _, hb, hl, hc⟩
  · omega
  · exact ⟨gc, cc, e, h.ft gc (by rw [e]; rfl), by omega, hl, fun i hi => hc _ _ (svs_get T i hi)⟩
end
end Go.Proofs.YtkmkkmdpjliifaaGreatDoor
namespace Go.Proofs.YtkmkkmdpjliifaaGreatDoor

/-- what a token may, against what it came of -/
structure Below1 (a p : Cm) : Prop where
  scp : ∀ x ∈ a.scp, x ∈ p.scp
  aud : ∀ x ∈ a.aud, x ∈ p.aud
  exp : a.exp ≤ p.exp
  sub : a.sub = p.sub
  act : a.act = p.act ∨ ∃ x, a.act = x :: p.act
/-- a name that no token bears -/
def zoe : List UInt8 := [122, 111, 101]
/-- it stands nowhere in the claims, and their end is near -/
structure NZ (c : Cm) : Prop where
  scp : zoe ∉ c.scp
  aud : zoe ∉ c.aud
  act : zoe ∉ c.act
  sub : c.sub ≠ zoe
  exp : c.exp ≤ 1000
/-- tokens as they were given, none taken back, the time still 0 -/
structure GOk (G : List Gt) : Prop where
  rev : ∀ i, i < G.length → (G.getD i default).rev = false
  exp : ∀ i, i < G.length → 0 < (G.getD i default).c.exp
  scp : ∀ i, i < G.length → 0 < (G.getD i default).c.scp.length
  aud : ∀ i, i < G.length → 0 < (G.getD i default).c.aud.length
  root : ∀ i, i < G.length → (G.getD i default).p = none → (G.getD i default).h = 0
  par : ∀ i, i < G.length → ∀ k, (G.getD i default).p = some k → k < i ∧ Below1 (G.getD i default).c (G.getD k default).c
  nz : ∀ i, i < G.length → NZ (G.getD i default).c
theorem GOk.nil : GOk [] := by
  constructor
  all_goals exact fun i hi => absurd hi (Nat.not_lt_zero _)
theorem GOk.more {G : List Gt} (h : GOk G) {g : Gt} (h1 : g.rev = false) (h2 : 0 < g.c.exp) (h3 : 0 < g.c.scp.length) (h4 : 0 < g.c.aud.length) (h5 : g.p = none → g.h = 0) (h6 : ∀ k, g.p = some k → k < G.length ∧ Below1 g.c (G.getD k default).c) (h7 : NZ g.c) : GOk (G ++ [g]) := by
  have key : ∀ i, i < (G ++ [g]).length → (i < G.length ∧ (G ++ [g]).getD i default = G.getD i default) ∨ (i = G.length ∧ (G ++ [g]).getD i default = g) := fun i hi => by
    by_cases e : i < G.length
    · exact Or.inl ⟨e, getG_left e⟩
    · have hi' : i = G.length := by simp at hi; omega
      subst hi'
      exact Or.inr ⟨rfl, by rw [getG_right (Nat.le_refl _), Nat.sub_self]; rfl⟩
  constructor
  · intro i hi
    rcases key i hi with ⟨e, r⟩ | ⟨e, r⟩ <;> rw [r]
    · exact h.rev i e
    · exact h1
  · intro i hi
    rcases key i hi with ⟨e, r⟩ | ⟨e, r⟩ <;> rw [r]
    · exact h.exp i e
    · exact h2
  · intro i hi
    rcases key i hi with ⟨e, r⟩ | ⟨e, r⟩ <;> rw [r]
    · exact h.scp i e
    · exact h3
  · intro i hi
    rcases key i hi with ⟨e, r⟩ | ⟨e, r⟩ <;> rw [r]
    · exact h.aud i e
    · exact h4
  · intro i hi
    rcases key i hi with ⟨e, r⟩ | ⟨e, r⟩ <;> rw [r]
    · exact h.root i e
    · exact h5
  · intro i hi k hk
    rcases key i hi with ⟨e, r⟩ | ⟨e, r⟩ <;> rw [r] at hk ⊢
    · obtain ⟨a, b⟩ := h.par i e k hk
      rw [getG_left (by omega)]
      exact ⟨a, b⟩
    · obtain ⟨a, b⟩ := h6 k hk
      rw [getG_left a]
      exact ⟨by omega, b⟩
  · intro i hi
    rcases key i hi with ⟨e, r⟩ | ⟨e, r⟩ <;> rw [r]
    · exact h.nz i e
    · exact h7
theorem GOk.pr {G : List Gt} (h : GOk G) : ∀ i, i < G.length → ∀ k, (G.getD i default).p = some k → k < i := fun i hi k hk => (h.par i hi k hk).1
theorem alive_none (G : List Gt) (now : Nat) : aliveG G now none = true := by unfold aliveG; rfl
/-- at a time: alive by one's own end -/
theorem GOk.alive {G : List Gt} (h : GOk G) (now : Nat) : ∀ (n i : Nat), i < n → i < G.length → aliveG G now (some i) = decide (now < (G.getD i default).c.exp)
  | 0, i, hn, _ => absurd hn (Nat.not_lt_zero _)
  | n + 1, i, hn, hi => by
    rw [aliveG_step h.pr hi, h.rev i hi]
    cases hp : (G.getD i default).p with
    | none => rw [alive_none]; simp
    | some k =>
      obtain ⟨hk, hb⟩ := h.par i hi k hp
      rw [GOk.alive h now n k (by omega) (by omega)]
      by_cases e : now < (G.getD i default).c.exp
      · rw [decide_eq_true e, decide_eq_true (Nat.lt_of_lt_of_le e hb.exp)]; rfl
      · rw [decide_eq_false e]; rfl
theorem GOk.alive0 {G : List Gt} (h : GOk G) {i : Nat} (hi : i < G.length) : aliveG G 0 (some i) = true := by
  rw [h.alive 0 (i + 1) i (Nat.lt_succ_self _) hi, decide_eq_true (h.exp i hi)]
theorem ks0_two : 0 < ks0.length := by decide
/-- the text of the token i -/
def tokG (G : List Gt) (i : Nat) : List UInt8 := tokS (ks0.getD 0 default) (plainS (G.getD i default).c)
theorem take_now {G : List Gt} {w : World} {s R O now : Nat} {vk vs vg : Value} {cs : List Cl} {Qs : List Nat} (hS : Sv w s R O now vk vs vg ks0 cs Qs G) {i : Nat} (t : Nat) (hi : i < G.length) : takeS ks0 G t (tokG G i) = if aliveG G t (some i) = true then (some i, 0) else (none, 6) :=
  take_tok kn_keys ks0_two hi (hS.id i hi) (hS.right i hi)
theorem GOk.take {G : List Gt} {w : World} {s R O now : Nat} {vk vs vg : Value} {cs : List Cl} {Qs : List Nat} (h : GOk G) (hS : Sv w s R O now vk vs vg ks0 cs Qs G) {i : Nat} (hi : i < G.length) : takeS ks0 G 0 (tokG G i) = (some i, 0) := by
  rw [take_now hS 0 hi, if_pos (h.alive0 hi)]
theorem tokG_len {G : List Gt} {w : World} {s R O now : Nat} {vk vs vg : Value} {cs : List Cl} {Qs : List Nat} (hS : Sv w s R O now vk vs vg ks0 cs Qs G) {i : Nat} (hi : i < G.length) : (tokG G i).length ≤ 1048576 := tok_len0 (hS.right i hi)
theorem tokG_left {G F : List Gt} {i : Nat} (hi : i < G.length) : tokG (G ++ F) i = tokG G i := by
  unfold tokG
  rw [getG_left hi]
theorem choose_in {all told L : List (List UInt8)} : ∀ x ∈ chooseL all told L, x ∈ all := by
  intro x hx
  unfold chooseL at hx
  split at hx
  · exact (List.mem_filter.1 hx).1
  · split at hx
    · rename_i h
      unfold someC at h
      rw [Bool.and_eq_true, List.all_eq_true] at h
      obtain ⟨k, hk, rfl⟩ := List.mem_iff_getElem.1 hx
      have := h.1 k (List.mem_range.2 hk)
      rw [List.getD_eq_getElem?_getD, List.getElem?_eq_getElem hk] at this
      unfold mayC at this
      rw [Bool.and_eq_true] at this
      exact (hasB_mem _ _).1 this.2
    · cases hx
theorem narrow_pos {c : Cz} {x : Cl} {t1 t2 : List (List UInt8)} (h : (narrowS c x t1 t2).2 = 0) : 0 < (chooseL c.scp t1 x.sc).length ∧ 0 < (chooseL c.aud t2 x.tg).length := by
  unfold narrowS at h
  split at h
  · cases h
  · split at h
    · cases h
    · rename_i h1
      split at h
      · cases h
      · rename_i h2
        exact ⟨by omega, by omega⟩
theorem act_form (ks : List Ky) (cs : List Cl) (G : List Gt) (now m i : Nat) (actor : List UInt8) : (actS ks cs G now m i actor).1 = [] ∨ ∃ x, (actS ks cs G now m i actor).1 = [x] := by
  have := actS_len ks cs G now m i actor
  cases h : (actS ks cs G now m i actor).1 with
  | nil => exact Or.inl rfl
  | cons x l =>
    rw [h] at this
    cases l with
    | nil => exact Or.inr ⟨x, rfl⟩
    | cons y l => simp at this
theorem act_sub {ks : List Ky} {cs : List Cl} {G : List Gt} {now m i : Nat} {actor x : List UInt8} (h : x ∈ (actS ks cs G now m i actor).1) : ∃ j, j < G.length ∧ x = (G.getD j default).c.sub := by
  unfold actS at h
  split at h
  · split at h <;> cases h
  · split at h
    · cases h
    · rename_i j e hj
      split at h
      · refine ⟨j, ?_, List.mem_singleton.1 h⟩
        unfold takeS at hj
        split at hj
        · split at hj
          · cases hj
          · split at hj
            · cases hj
            · rename_i hf
              split at hj
              · cases hj
                exact findG_lt hf
              · cases hj
        · cases hj
      · cases h
/-- one more, by an exchange -/
theorem GOk.ex {G : List Gt} (h : GOk G) {ks : List Ky} {cs : List Cl} {m i b : Nat} {actor : List UInt8} {t1 t2 : List (List UInt8)} {life : Int} {pl : Pl} (hi : i < G.length) (he : exE ks cs G 0 m i actor t1 t2 life = 0) :
    GOk (G ++ [⟨b, m, some i, false, { exC ks cs G 0 m i actor t1 t2 life with id := G.length + 1 }, pl⟩]) := by
  unfold exE at he
  split at he
  · rename_i hc; exact absurd he hc
  · split at he
    · rename_i hc; exact absurd he hc
    · rename_i hn
      split at he
      · rename_i hc; exact absurd he hc
      · rename_i hr
        have hn0 : (narrowS (G.getD i default).c.z (cs.getD m default) t1 t2).2 = 0 := by simpa using hn
        have hr0 : roomE 0 life G.length = 0 := by simpa using hr
        obtain ⟨p1, p2⟩ := narrow_pos hn0
        obtain ⟨l1, _⟩ := room0 hr0
        have hz := h.nz i hi
        refine h.more rfl ?_ p1 p2 (fun e => by cases e) (fun k e => ?_) ⟨fun e => hz.scp (choose_in _ e), fun e => hz.aud (choose_in _ e), fun e => ?_, hz.sub, Nat.le_trans (Nat.min_le_left _ _) hz.exp⟩
        · show 0 < min (G.getD i default).c.exp (0 + life.toNat)
          have := h.exp i hi
          omega
        · obtain rfl : i = k := Option.some.inj e
          refine ⟨hi, choose_in, choose_in, Nat.min_le_left _ _, rfl, ?_⟩
          show (actS ks cs G 0 m i actor).1 ++ (G.getD i default).c.act = _ ∨ ∃ x, (actS ks cs G 0 m i actor).1 ++ (G.getD i default).c.act = _
          rcases act_form ks cs G 0 m i actor with e | ⟨x, e⟩ <;> rw [e]
          · exact Or.inl rfl
          · exact Or.inr ⟨x, rfl⟩
        · rcases List.mem_append.1 (show zoe ∈ (actS ks cs G 0 m i actor).1 ++ (G.getD i default).c.act from e) with e | e
          · obtain ⟨j, hj, ej⟩ := act_sub e
            exact (h.nz j hj).sub ej.symm
          · exact hz.act e
/-- one more, a first one -/
theorem GOk.first {G : List Gt} (h : GOk G) {b : Nat} {sub : List UInt8} {scp aud : List (List UInt8)} {exp : Nat} {pl : Pl} (h1 : 0 < exp) (h2 : 0 < scp.length) (h3 : 0 < aud.length) (h4 : NZ (firstC sub scp aud exp)) :
    GOk (G ++ [⟨b, 0, none, false, { firstC sub scp aud exp with id := G.length + 1 }, pl⟩]) := h.more rfl h1 h2 h3 (fun _ => rfl) (fun k e => by cases e) ⟨h4.scp, h4.aud, h4.act, h4.sub, h4.exp⟩
end Go.Proofs.YtkmkkmdpjliifaaGreatDoor
