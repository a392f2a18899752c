import Derived.Test.YtkmkkmdpjliifaaGreatDoorTrH
namespace Go.Proofs.YtkmkkmdpjliifaaGreatDoor
open Go.ChangeShapes Go.WideShapes Go.ChangeAt Go.RowKit

/-- what is read of the tokens as they are kept, all below block B -/
structure TrV (B : Nat) (w : World) (gp s gt ct gc cc ga ca : Nat) (G : List Gt) (P : Nat → Pl) : Prop where
  r0 : w.cell? ⟨gp, 0, none⟩ = some (.pointer (some ⟨s, 0, none⟩))
  r1 : w.cell? ⟨gp, 1, none⟩ = some (.slice (some ⟨gt, 0, none⟩) G.length ct)
  r2 : w.cell? ⟨gp, 2, none⟩ = some (.slice (some ⟨gc, 0, none⟩) G.length cc)
  r3 : w.cell? ⟨gp, 3, none⟩ = some (.slice (some ⟨ga, 0, none⟩) G.length ca)
  t : ∀ i, i < G.length → w.cell? ⟨gt, i, none⟩ = some (.string ⟨(tokG G i).toArray⟩)
  c : ∀ i, i < G.length → ∀ j, j < 6 → w.cell? ⟨gc, i * 6 + j, none⟩ = some (czF (G.getD i default).c.z (P i) j)
  l : ∀ i, i < G.length → CzL w B (G.getD i default).c.z (P i)
  p : ∀ i, i < G.length → w.cell? ⟨ga, i, none⟩ = some (.int .i64 (parI (G.getD i default)))
  b1 : gp < B
  b2 : gt < B
  b3 : gc < B
  b4 : ga < B
theorem TrV.below {B : Nat} {w w' : World} {gp s gt ct gc cc ga ca : Nat} {G : List Gt} {P : Nat → Pl} (h : TrV B w gp s gt ct gc cc ga ca G P) (hb : Below B w w') : TrV B w' gp s gt ct gc cc ga ca G P where
  r0 := (hb.cell (p := ⟨gp, 0, none⟩) h.b1).trans h.r0
  r1 := (hb.cell (p := ⟨gp, 1, none⟩) h.b1).trans h.r1
  r2 := (hb.cell (p := ⟨gp, 2, none⟩) h.b1).trans h.r2
  r3 := (hb.cell (p := ⟨gp, 3, none⟩) h.b1).trans h.r3
  t := fun i hi => (hb.cell (p := ⟨gt, i, none⟩) h.b2).trans (h.t i hi)
  c := fun i hi j hj => (hb.cell (p := ⟨gc, i * 6 + j, none⟩) h.b3).trans (h.c i hi j hj)
  l := fun i hi => (h.l i hi).below hb
  p := fun i hi => (hb.cell (p := ⟨ga, i, none⟩) h.b4).trans (h.p i hi)
  b1 := h.b1
  b2 := h.b2
  b3 := h.b3
  b4 := h.b4
section
variable {w0 w w' : World} {gp s R O now now' : Nat} {vk vs vg vg' : Value} {Qs : List Nat} {G G' : List Gt} {vt vc vp : Value} {C : List (Cm × Pl)}
/-- the kept, whatever the server came to -/
theorem Tr.view (h : Tr w gp s R O now vk vs vg Qs G' vt vc vp false ((List.range G.length).map (tokG G)) C (G.map parI)) (hc : C.map Prod.fst = G.map (fun g => g.c)) (h3 : 3 ≤ G.length) : ∃ gt ct gc cc ga ca, TrV w.heap.size w gp s gt ct gc cc ga ca G (fun i => (C.getD i (cm0, pl0)).2) := by
  have hl := TrS.tlen G
  have hpl : (G.map parI).length = G.length := by simp
  have hC : C.length = G.length := by have := congrArg List.length hc; simpa using this
  obtain ⟨gt, ct, e1, _, _, b1, h1⟩ := h.texts (by rw [hl]; omega)
  obtain ⟨gc, cc, e2, _, _, b2, h2⟩ := h.claims (by omega)
  obtain ⟨ga, ca, e3, _, _, b3, h4⟩ := h.parents (by omega)
  rw [hl] at e1
  rw [hC] at e2
  rw [hpl] at e3
  have hAt : ∀ i, i < G.length → (C.getD i (cm0, pl0)).1 = (G.getD i default).c := fun i hi => by
    have := congrArg (fun l => l[i]?) hc
    simp only [List.getElem?_map] at this
    rw [List.getElem?_eq_getElem (by omega), List.getElem?_eq_getElem hi] at this
    rw [List.getD_eq_getElem?_getD, List.getD_eq_getElem?_getD, List.getElem?_eq_getElem (by omega), List.getElem?_eq_getElem hi]
    simpa using this
  refine ⟨gt, ct, gc, cc, ga, ca, h.row.cell (j := 0) (by decide), (h.row.cell (j := 1) (by decide)).trans (congrArg some e1), (h.row.cell (j := 2) (by decide)).trans (congrArg some e2), (h.row.cell (j := 3) (by decide)).trans (congrArg some e3), fun i hi => ?_, fun i hi j hj => ?_, fun i hi => ?_, fun i hi => ?_, h.lt, b1, b2, b3⟩
  · rw [← tok_at G hi]
    exact h1 i (by rw [hl]; exact hi)
  · rw [← hAt i hi]
    exact h2 i (by omega) j hj
  · rw [← hAt i hi]
    refine (h.ls (C.getD i (cm0, pl0)) ?_).l (fun k hk => hk.1)
    rw [List.getD_eq_getElem?_getD, List.getElem?_eq_getElem (by omega)]
    exact List.getElem_mem _
  · rw [h4 i (by omega), List.getD_eq_getElem?_getD, List.getElem?_map, List.getD_eq_getElem?_getD, List.getElem?_eq_getElem hi]
    rfl
/-- the time was set -/
theorem Tr.tick {T : List (List UInt8)} {Pa : List Int} (h : Tr w gp s R O now vk vs vg Qs G vt vc vp false T C Pa) (hS : Sv w' s R O now' vk vs vg ks0 cs0 Qs G) (hB : But s w w') : Tr w' gp s R O now' vk vs vg Qs G vt vc vp false T C Pa :=
  h.turn hS (Nat.le_of_eq hB.size.symm) (fun k _ hf => ⟨hB.block k hf.s, hf⟩) (fun i hi => (h.gl i hi).keep (fun k hk => ⟨hB.block k hk.2.fs.s, by rw [hB.size]; exact hk.1, hk.2⟩))
/-- what a look hands back -/
def lkC (G : List Gt) (B : Bool) (i : Nat) : Cz := if B = true then (G.getD i default).c.z else cz0
theorem look_tr {m i : Nat} {tx : List UInt8} (hS : Sv w s R O now vk vs vg ks0 cs0 Qs G) (hT : Tb s w) (hm : MX w) (h4 : 4 < s) (hm4 : m < 4) (hi : i < G.length) (htx : tx = tokG G i) :
    Calls Tryz.prog 32 #[.pointer (some ⟨s, 0, none⟩), .agg #[.string ⟨#[99, UInt8.ofNat (48 + m)]⟩, .string ⟨#[115, UInt8.ofNat (48 + m)]⟩], .string ⟨tx.toArray⟩] w fun e w' => ∃ p', e = .returned (.tuple #[.agg (czA (lkC G (aliveG G now (some i)) i) p'), .bool (aliveG G now (some i)), .int .i64 0]) ∧ CzN w' (New w w') (lkC G (aliveG G now (some i)) i) p' ∧ Below w.heap.size w w' := by
  subst htx
  have hlog : loginK cs0 [99, UInt8.ofNat (48 + m)] [115, UInt8.ofNat (48 + m)] = some m := by
    rcases (show m = 0 ∨ m = 1 ∨ m = 2 ∨ m = 3 by omega) with rfl | rfl | rfl | rfl <;> decide +kernel
  have h := Look_any [99, UInt8.ofNat (48 + m)] [115, UInt8.ofNat (48 + m)] (tokG G i) w s R O now vk vs vg ks0 cs0 Qs G hS hT hm h4 (tokG_len hS hi)
  have ht := take_now hS now hi
  cases hA : aliveG G now (some i) with
  | true =>
    rw [hA, if_pos rfl] at ht
    rw [look_of hlog ht] at h
    exact h
  | false =>
    rw [hA, if_neg (by decide)] at ht
    rw [look_of hlog ht] at h
    exact h
/-- what a look has laid down -/
def LkQ (w : World) (c : Cz) (B : Bool) (pt ok er : Value) (wc : World) : Prop :=
  ∃ p' g, ok = .bool B ∧ er = .int .i64 0 ∧ pt = .pointer (some ⟨g, 0, none⟩) ∧ Row wc g 60 6 (czF c p') ∧ CzN wc (fun k => w.heap.size ≤ k ∧ k ≠ g ∧ k < wc.heap.size) c p' ∧ w.heap.size ≤ g ∧ Below w.heap.size w wc
theorem lkq_of {c : Cz} {B : Bool} {pt : Value} (h : GrQ w c pt (.bool true) (.int .i64 0) w') : LkQ w c B pt (.bool B) (.int .i64 0) w' := by
  obtain ⟨p', g, _, _, h3, h4⟩ := h
  exact ⟨p', g, rfl, rfl, h3, h4⟩
end
end Go.Proofs.YtkmkkmdpjliifaaGreatDoor
