import Derived.Test.YtkmkkmdpjliifaaDoorJzR
import Derived.Test.YtkmkkmdpjliifaaDoorJzL
namespace Go.Proofs.YtkmkkmdpjliifaaDoor
open Go.ChangeShapes Go.WideShapes Go.ChangeAt Go.RowKit

theorem ownB (a : Option Addr) (n c : Nat) : (Value.slice a n c).ownBlock = a.map (·.block) := by cases a <;> rfl
theorem OwnS.at {w w' : World} {base : Nat} {v : Value} {l : List (List UInt8)} (h : OwnS w base v l) (hb : ∀ k, v.ownBlock = some k → w'.heap[k]? = w.heap[k]?) : OwnS w' base v l := by
  obtain ⟨h1, h2⟩ := h
  refine ⟨h1, ?_⟩
  rcases h2 with h2 | ⟨g, cap, cur, hv, hg, hh, r⟩
  · exact Or.inl h2
  · exact Or.inr ⟨g, cap, cur, hv, hg, by rw [hb g (by rw [hv]; rfl)]; exact hh, r⟩
theorem Bo.fresh {w : World} {b o : Nat} {vB : Value} {E : List En} (h : Bo w b o vB E) {k : Nat} (hk : w.heap.size ≤ k) : Fr o vB E k :=
  ⟨fun e => by have := h.lt; omega, fun e => by have := (h.own.lt k e).2; omega, fun i hi e => by have := h.el i hi k e; omega⟩
theorem Apart.ne {a b : Option Addr} (h : Apart a b) {k : Nat} (hk : b.map (·.block) = some k) : a.map (·.block) ≠ some k := by
  intro e
  cases a with
  | none => cases e
  | some x =>
    cases b with
    | none => cases hk
    | some y =>
      have h2 := h x y rfl rfl
      simp at e hk
      omega
theorem OwnS.blk {w : World} {base n c : Nat} {a : Option Addr} {l : List (List UInt8)} (h : OwnS w base (.slice a n c) l) {k : Nat} (hk : a.map (·.block) = some k) : base ≤ k ∧ k < w.heap.size := h.lt k (by rw [ownB]; exact hk)

set_option maxRecDepth 20000 in
set_option maxHeartbeats 2000000 in
theorem bookTakes_any (w : World) (b o : Nat) (vB : Value) (E : List En) (c : Cm) (p : Pl) (hb : b ≤ w.heap.size) (hB : Bo w b o vB E) (hL : L3 w b c p) (f2 : ∀ k, p.a2.map (·.block) = some k → Fr o vB E k) (f3 : ∀ k, p.a3.map (·.block) = some k → Fr o vB E k)
    (f4 : ∀ k, p.a4.map (·.block) = some k → Fr o vB E k) (n2 : c.scp.length ≤ 65536) (n3 : c.aud.length ≤ 65536) (n4 : c.act.length ≤ 65536) (hE : E.length + 12 < 65536) (h4 : E.length % 4 = 0) :
    Calls Tryd.prog 21 #[.pointer (some ⟨o, 0, none⟩), .agg (czA c.z p)] w fun e w' => (∃ u, e = .returned u) ∧ ∃ vB' F, F.length = 12 ∧ Bo w' b o vB' (E ++ F) ∧ Below b w w' := by
  obtain ⟨wa, hwa⟩ : ∃ wa, wa = w.alloc (.cells #[.int .i64 c.z.id, .string ⟨c.z.sub.toArray⟩, .slice p.a2 c.z.scp.length p.c2, .slice p.a3 c.z.aud.length p.c3, .slice p.a4 c.z.act.length p.c4, .int .i64 c.z.exp] 37) := ⟨_, rfl⟩
  have hba : Below w.heap.size w wa := by rw [hwa]; exact (Below.refl _ _).alloc (Nat.le_refl _) _
  have hsa : wa.heap.size = w.heap.size + 1 := by rw [hwa]; simp
  have hRa : Row wa w.heap.size 37 6 (czF c.z p) := by rw [hwa]; exact Row.new w 37 _ _ 6 rfl (six rfl rfl rfl rfl rfl rfl)
  have B1 := hB.below hba
  have o2 := hL.o2.below hba
  have o3 := hL.o3.below hba
  have o4 := hL.o4.below hba
  have fx : Fr o vB E w.heap.size := hB.fresh (Nat.le_refl _)
  have x2 : p.a2.map (·.block) ≠ some w.heap.size := fun e => by have := (hL.o2.blk e).2; omega
  have x3 : p.a3.map (·.block) ≠ some w.heap.size := fun e => by have := (hL.o3.blk e).2; omega
  have x4 : p.a4.map (·.block) ≠ some w.heap.size := fun e => by have := (hL.o4.blk e).2; omega
  have b3 : ∀ k, p.a3.map (·.block) = some k → k < wa.heap.size := fun k e => (o3.blk e).2
  have b4 : ∀ k, p.a4.map (·.block) = some k → k < wa.heap.size := fun k e => (o4.blk e).2
  have d23 := hL.d23
  have d24 := hL.d24
  have d34 := hL.d34
  have T1 := hide (bookTake_any wa b o vB E p.a2 c.scp.length p.c2 c.scp (by omega) B1 o2 f2 n2 (by omega) h4)
  have T2 := hide (fun (w1 : World) (vB1 : Value) (E1 : List En) hb1 hB1 hO1 hF1 (h1 : E1.length < 65536) h2 => bookTake_any w1 b o vB1 E1 p.a3 c.aud.length p.c3 c.aud hb1 hB1 hO1 hF1 n3 h1 h2)
  have T3 := hide (fun (w1 : World) (vB1 : Value) (E1 : List En) hb1 hB1 hO1 hF1 (h1 : E1.length < 65536) h2 => bookTake_any w1 b o vB1 E1 p.a4 c.act.length p.c4 c.act hb1 hB1 hO1 hF1 n4 h1 h2)
  have HWA := hide hwa
  have HX := hide (And.intro o3 (And.intro o4 (And.intro fx (And.intro x2 (And.intro x3 (And.intro x4 (And.intro f3 (And.intro f4 (And.intro b3 b4)))))))))
  have HD := hide (And.intro d23 (And.intro d24 d34))
  have HE := hide (And.intro hE h4)
  have HR := hide hRa
  have HBA := hide hba
  have g2 : wa.cell? ⟨w.heap.size, 2, none⟩ = some (.slice p.a2 c.z.scp.length p.c2) := hRa.cell (by decide)
  clear hB hL f2 f3 f4 n2 n3 n4 hE h4 hwa hRa B1 o2 o3 o4 fx x2 x3 x4 b3 b4 d23 d24 d34
  unfold czA
  go_enter Tryd.func21, Tryd.ntmps21
  go_wp2_with fail
  rw [← unhide HWA]
  clear HWA
  refine (unhide T1).mono ?_
  rintro e w1 ⟨⟨u1, rfl⟩, vB1, F1, hl1, B1, bel1, far1⟩
  obtain ⟨o3, o4, fx, x2, x3, x4, f3, f4, b3, b4⟩ := unhide HX
  obtain ⟨d23, d24, d34⟩ := unhide HD
  have hs1 := bel1.size
  have R1 := (unhide HR).keep (far1 w.heap.size (by omega) fx x2).1
  have fx1 := (far1 w.heap.size (by omega) fx x2).2
  have O3 : OwnS w1 b (.slice p.a3 c.aud.length p.c3) c.aud := o3.at (fun k e => by rw [ownB] at e; exact (far1 k (b3 k e) (f3 k e) (d23.ne e)).1)
  have O4 : OwnS w1 b (.slice p.a4 c.act.length p.c4) c.act := o4.at (fun k e => by rw [ownB] at e; exact (far1 k (b4 k e) (f4 k e) (d24.ne e)).1)
  have f31 : ∀ k, p.a3.map (·.block) = some k → Fr o vB1 (E ++ F1) k := fun k e => (far1 k (b3 k e) (f3 k e) (d23.ne e)).2
  have f41 : ∀ k, p.a4.map (·.block) = some k → Fr o vB1 (E ++ F1) k := fun k e => (far1 k (b4 k e) (f4 k e) (d24.ne e)).2
  have hE1 : (E ++ F1).length = E.length + 4 := by rw [List.length_append, hl1]
  have T2' := hide ((unhide T2) w1 vB1 (E ++ F1) (by omega) B1 O3 f31 (by rw [hE1]; have := (unhide HE).1; omega) (by rw [hE1]; have := (unhide HE).2; omega))
  have g3 : w1.cell? ⟨w.heap.size, 3, none⟩ = some (.slice p.a3 c.z.aud.length p.c3) := R1.cell (by decide)
  have HR1 := hide R1
  have HX1 := hide (And.intro O4 (And.intro fx1 (And.intro x3 (And.intro x4 (And.intro f41 (And.intro b4 (And.intro d34 (And.intro hl1 (And.intro hE1 (And.intro hs1 bel1))))))))))
  clear T1 T2 HX HD HR g2 B1 bel1 far1 o3 o4 fx x2 x3 x4 f3 f4 b3 b4 d23 d24 d34 R1 fx1 O3 O4 f31 f41 hE1 hs1 hl1
  go_wp2_with fail
  refine (unhide T2').mono ?_
  rintro e w2 ⟨⟨u2, rfl⟩, vB2, F2, hl2, B2, bel2, far2⟩
  obtain ⟨O4, fx1, x3, x4, f41, b4, d34, hl1, hE1, hs1, bel1⟩ := unhide HX1
  have hs2 := bel2.size
  have R2 := (unhide HR1).keep (far2 w.heap.size (by omega) fx1 x3).1
  have O42 : OwnS w2 b (.slice p.a4 c.act.length p.c4) c.act := O4.at (fun k e => by rw [ownB] at e; exact (far2 k (by have := b4 k e; omega) (f41 k e) (d34.ne e)).1)
  have f42 : ∀ k, p.a4.map (·.block) = some k → Fr o vB2 (E ++ F1 ++ F2) k := fun k e => (far2 k (by have := b4 k e; omega) (f41 k e) (d34.ne e)).2
  have hE2 : (E ++ F1 ++ F2).length = E.length + 8 := by rw [List.length_append, hE1, hl2]
  have T3' := hide ((unhide T3) w2 vB2 (E ++ F1 ++ F2) (by omega) B2 O42 f42 (by rw [hE2]; have := (unhide HE).1; omega) (by rw [hE2]; have := (unhide HE).2; omega))
  have g4 : w2.cell? ⟨w.heap.size, 4, none⟩ = some (.slice p.a4 c.z.act.length p.c4) := R2.cell (by decide)
  have HX2 := hide (And.intro hl1 (And.intro hl2 (And.intro bel1 bel2)))
  clear T3 T2' HX1 HR1 g3 B2 bel2 far2 O4 fx1 x3 x4 f41 b4 d34 hl1 hE1 hs1 bel1 hs2 R2 O42 f42 hE2 hl2
  go_wp2_with fail
  refine (unhide T3').mono ?_
  rintro e w3 ⟨⟨u3, rfl⟩, vB3, F3, hl3, B3, bel3, far3⟩
  clear T3' far3 g4
  go_wp2_with fail
  go_end0
  obtain ⟨hl1, hl2, bel1, bel2⟩ := unhide HX2
  refine ⟨⟨_, rfl⟩, vB3, F1 ++ (F2 ++ F3), by simp [hl1, hl2, hl3], ?_, (((unhide HBA).mono hb).trans bel1).trans (bel2.trans bel3)⟩
  rw [← List.append_assoc, ← List.append_assoc]
  exact B3
end Go.Proofs.YtkmkkmdpjliifaaDoor
