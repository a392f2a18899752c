import Derived.Test.YtkmkkmdpjliifaaGreatDoorJzQ
import Derived.Deep.AppendLies
import Derived.Test.YtkmkkmdpjliifaaGreatDoorTxM
import Derived.Deep.LoopGhost
import Derived.BigRegion
namespace Go.Proofs.YtkmkkmdpjliifaaGreatDoor
open Go.ChangeShapes Go.WideShapes Go.ChangeAt Go.RowKit

/-- a token that was given -/
structure Gt where
  b : Nat
  h : Nat
  p : Option Nat
  rev : Bool
  c : Cm
  pl : Pl
instance : Inhabited Gt := ⟨⟨0, 0, none, false, cm0, pl0⟩⟩
def gptr (g : Gt) : Value := .pointer (some ⟨g.b, 0, none⟩)
/-- a grant, cell by cell -/
def gtF (hq : Nat) (pb : Option Nat) (rev : Bool) (c : Cz) (p : Pl) (j : Nat) : Value :=
  if j = 0 then .pointer (some ⟨hq, 0, none⟩) else if j = 1 then .pointer (pb.map fun b => ⟨b, 0, none⟩) else if j = 2 then .bool rev else czF c p (j - 3)
/-- a block that a server does not write -/
structure FrS (s : Nat) (vg : Value) (G : List Gt) (k : Nat) : Prop where
  s : k ≠ s
  q : vg.ownBlock ≠ some k
  g : ∀ i, i < G.length → (G.getD i default).b ≠ k
/-- a server: what turns of it lies in block s, in the row of its grants, in its grants -/
structure Sv (w : World) (s R O now : Nat) (vk vs vg : Value) (ks : List Ky) (cs : List Cl) (Qs : List Nat) (G : List Gt) : Prop where
  sb : Sb w s R O vk vs ks cs Qs
  row : Row w s 132 4 (seF now R O vg)
  own : w.ownsRow (s + 1) 121 1 vg G.length (G.map gptr)
  gr : ∀ i, i < G.length → Row w (G.getD i default).b 166 9 (gtF (Qs.getD (G.getD i default).h 0) ((G.getD i default).p.map fun k => (G.getD k default).b) (G.getD i default).rev (G.getD i default).c.z (G.getD i default).pl)
  hl : ∀ i, i < G.length → (G.getD i default).h < cs.length
  pr : ∀ i, i < G.length → ∀ k, (G.getD i default).p = some k → k < i
  id : ∀ i, i < G.length → (G.getD i default).c.id = i + 1
  ls : ∀ i, i < G.length → CzN w (fun k => k < w.heap.size ∧ FrS s vg G k) (G.getD i default).c.z (G.getD i default).pl
  gs : ∀ i, i < G.length → s < (G.getD i default).b
  gq : ∀ i, i < G.length → vg.ownBlock ≠ some (G.getD i default).b
  inj : ∀ i j, i < G.length → j < i → (G.getD j default).b ≠ (G.getD i default).b
  right : ∀ i, i < G.length → rightB (G.getD i default).c.z = true
  small : G.length ≤ 40
section
variable {w w' : World} {s R O now : Nat} {vk vs vg : Value} {ks : List Ky} {cs : List Cl} {Qs : List Nat} {G : List Gt}
theorem Sv.lt (h : Sv w s R O now vk vs vg ks cs Qs G) : s < w.heap.size := h.row.lt
theorem Sv.glt (h : Sv w s R O now vk vs vg ks cs Qs G) (i : Nat) (hi : i < G.length) : (G.getD i default).b < w.heap.size := (h.gr i hi).lt
/-- what a server does not write may be as it likes -/
theorem Sv.keep (h : Sv w s R O now vk vs vg ks cs Qs G) (hb : Below s w w') (hk : ∀ k, k < w.heap.size → ¬ FrS s vg G k → w'.heap[k]? = w.heap[k]?) (hl : ∀ i, i < G.length → CzN w' (fun k => k < w'.heap.size ∧ FrS s vg G k) (G.getD i default).c.z (G.getD i default).pl) : Sv w' s R O now vk vs vg ks cs Qs G :=
  ⟨h.sb.below hb, h.row.keep (hk s h.lt (fun f => f.s rfl)), ownsRow_at h.own (fun k e => hk k (h.own.lt k e).2 (fun f => f.q e)), fun i hi => (h.gr i hi).keep (hk _ (h.glt i hi) (fun f => f.g i hi rfl)), h.hl, h.pr, h.id, hl, h.gs, h.gq, h.inj, h.right, h.small⟩
theorem Sv.below (h : Sv w s R O now vk vs vg ks cs Qs G) (hb : Below w.heap.size w w') : Sv w' s R O now vk vs vg ks cs Qs G :=
  h.keep (hb.mono (Nat.le_of_lt h.lt)) (fun k hk _ => hb.block k hk) (fun i hi => (h.ls i hi).keep (fun k hk => ⟨hb.block k hk.1, Nat.lt_of_lt_of_le hk.1 hb.size, hk.2⟩))
theorem Sv.fresh (h : Sv w s R O now vk vs vg ks cs Qs G) {k : Nat} (hk : w.heap.size ≤ k) : FrS s vg G k :=
  ⟨fun e => by have := h.lt; omega, fun e => by have := (h.own.lt k e).2; omega, fun i hi e => by have := h.glt i hi; omega⟩
end
theorem getG_left {G F : List Gt} {i : Nat} (h : i < G.length) : (G ++ F).getD i default = G.getD i default := by simp [List.getD, List.getElem?_append_left h]
theorem getG_right {G F : List Gt} {i : Nat} (h : G.length ≤ i) : (G ++ F).getD i default = F.getD (i - G.length) default := by simp [List.getD, List.getElem?_append_right h]
theorem info121 : (Tryz.prog.info? 121).map (fun i => (i.zero, i.size, i.bytes)) = some (some (.pointer none), 1, 8) := by kernel_rfl

/-- a grant more -/
theorem Sv.added {w w1 w3 w6 : World} {s R O now : Nat} {vk vs vg : Value} {ks : List Ky} {cs : List Cl} {Qs : List Nat} {G : List Gt} {h : Nat} {p : Option Nat} {c : Cm} {pl : Pl} {ob : Obj} {g6 c6 : Nat}
    (hS : Sv w s R O now vk vs vg ks cs Qs G) (hb1 : Below w.heap.size w w1) (hN : CzN w1 (New w w1) c.z pl) (hb3 : Below w1.heap.size w1 w3) (hs3 : w3.heap.size = w1.heap.size + 1)
    (hR3 : Row w3 w1.heap.size 166 9 (gtF (Qs.getD h 0) (p.map fun k => (G.getD k default).b) false { c with id := G.length + 1 }.z pl)) (hh : h < cs.length) (hp : ∀ k, p = some k → k < G.length) (hr : rightB { c with id := G.length + 1 }.z = true) (h40 : G.length < 40)
    (ho : w6.ownsRow (s + 1) 121 1 (.slice (some ⟨g6, 0, none⟩) (G.length + 1) c6) (G.length + 1) (G.map gptr ++ [.pointer (some ⟨w1.heap.size, 0, none⟩)])) (hg : (w3.alloc ob).grownBy w6 vg.ownBlock) (hat : vg.ownBlock = some g6 ∨ g6 = (w3.alloc ob).heap.size) :
    Sv (w6.setCell ⟨s, 3, none⟩ (.slice (some ⟨g6, 0, none⟩) (G.length + 1) c6)) s R O now vk vs (.slice (some ⟨g6, 0, none⟩) (G.length + 1) c6) ks cs Qs (G ++ [⟨w1.heap.size, h, p, false, { c with id := G.length + 1 }, pl⟩]) ∧ Below s w (w6.setCell ⟨s, 3, none⟩ (.slice (some ⟨g6, 0, none⟩) (G.length + 1) c6)) ∧
      (∀ k, k < w.heap.size → FrS s vg G k → (w6.setCell ⟨s, 3, none⟩ (.slice (some ⟨g6, 0, none⟩) (G.length + 1) c6)).heap[k]? = w.heap[k]? ∧ FrS s (.slice (some ⟨g6, 0, none⟩) (G.length + 1) c6) (G ++ [⟨w1.heap.size, h, p, false, { c with id := G.length + 1 }, pl⟩]) k) ∧
      CzN (w6.setCell ⟨s, 3, none⟩ (.slice (some ⟨g6, 0, none⟩) (G.length + 1) c6)) (New w (w6.setCell ⟨s, 3, none⟩ (.slice (some ⟨g6, 0, none⟩) (G.length + 1) c6))) c.z pl := by
  generalize hv6 : Value.slice (some ⟨g6, 0, none⟩) (G.length + 1) c6 = v6 at *
  generalize hc' : ({ c with id := G.length + 1 } : Cm) = c' at *
  have hcz : c'.z.scp = c.z.scp ∧ c'.z.aud = c.z.aud ∧ c'.z.act = c.z.act := by rw [← hc']; exact ⟨rfl, rfl, rfl⟩
  have hid : c'.id = G.length + 1 := by rw [← hc']
  have hsl := hS.lt
  have hq : ∀ k, vg.ownBlock = some k → s + 1 ≤ k ∧ k < w.heap.size := hS.own.lt
  have hs1 := hb1.size
  have hsa : (w3.alloc ob).heap.size = w3.heap.size + 1 := by simp
  have hs6 : w3.heap.size + 1 ≤ w6.heap.size := by rw [← hsa]; exact hg.size
  have hv6b : v6.ownBlock = some g6 := by rw [← hv6]; rfl
  have hsw : (w6.setCell ⟨s, 3, none⟩ v6).heap.size = w6.heap.size := by simp [World.setCell]
  have hblk : ∀ k, k < w3.heap.size → k ≠ s → vg.ownBlock ≠ some k → (w6.setCell ⟨s, 3, none⟩ v6).heap[k]? = w3.heap[k]? := fun k hk h1 h2 => by
    rw [Below.heap_setCell _ _ _ _ h1, hg.block k (by omega) (fun e => h2 e.symm)]
    exact ((Below.refl w3.heap.size w3).alloc (Nat.le_refl _) ob).block k hk
  have hfar : ∀ k, k < w.heap.size → k ≠ s → vg.ownBlock ≠ some k → (w6.setCell ⟨s, 3, none⟩ v6).heap[k]? = w.heap[k]? := fun k hk h1 h2 =>
    (hblk k (by omega) h1 h2).trans ((hb3.block k (by omega)).trans (hb1.block k hk))
  have h6s : g6 ≠ s := by
    intro e
    rcases hat with h | h
    · have := (hq g6 h).1; omega
    · omega
  have h6b : g6 ≠ w1.heap.size := by
    intro e
    rcases hat with h | h
    · have := (hq g6 h).2; omega
    · omega
  have hlen : (G ++ [⟨w1.heap.size, h, p, false, c', pl⟩] : List Gt).length = G.length + 1 := by simp
  have hB : Below s w (w6.setCell ⟨s, 3, none⟩ v6) := by
    refine ⟨hg.os.trans (hb3.os.trans hb1.os), hg.tape.trans (hb3.tape.trans hb1.tape), hg.output.trans (hb3.output.trans hb1.output), by rw [hsw]; omega, fun k hk => hfar k (by omega) (by omega) (fun e => by have := (hq k e).1; omega)⟩
  have hFr : ∀ k, k < w.heap.size → FrS s vg G k → FrS s v6 (G ++ [⟨w1.heap.size, h, p, false, c', pl⟩]) k := by
    intro k hk hf
    refine ⟨hf.s, ?_, fun i hi => ?_⟩
    · rw [hv6b]
      intro e
      injection e with e
      subst e
      rcases hat with h | h
      · exact hf.q h
      · omega
    · rw [hlen] at hi
      by_cases hlt : i < G.length
      · rw [getG_left hlt]; exact hf.g i hlt
      · rw [getG_right (by omega), show i - G.length = 0 by omega]
        show w1.heap.size ≠ k
        omega
  have parts : ∀ (Q : Nat → Gt → Prop), (∀ i, i < G.length → Q i (G.getD i default)) → Q G.length ⟨w1.heap.size, h, p, false, c', pl⟩ → ∀ i, i < (G ++ [⟨w1.heap.size, h, p, false, c', pl⟩] : List Gt).length → Q i ((G ++ [⟨w1.heap.size, h, p, false, c', pl⟩] : List Gt).getD i default) := by
    intro Q q0 q1 i hi
    rw [hlen] at hi
    by_cases hlt : i < G.length
    · rw [getG_left hlt]; exact q0 i hlt
    · obtain rfl : i = G.length := by omega
      rw [getG_right (Nat.le_refl _), Nat.sub_self]; exact q1
  have hpm : ∀ (o : Option Nat) (n : Nat), n ≤ G.length → (∀ k, o = some k → k < n) → (o.map fun k => ((G ++ [⟨w1.heap.size, h, p, false, c', pl⟩] : List Gt).getD k default).b) = o.map fun k => (G.getD k default).b := by
    intro o n hn ho
    cases o with
    | none => rfl
    | some k => simp only [Option.map_some]; rw [getG_left (by have := ho k rfl; omega)]
  refine ⟨⟨hS.sb.below hB, ?_, ?_, ?_, ?_, ?_, ?_, ?_, ?_, ?_, ?_, ?_, by rw [hlen]; omega⟩, hB, fun k hk hf => ⟨hfar k hk hf.s hf.q, hFr k hk hf⟩, hN.keep (fun k hk => by
    have h1 : w.heap.size ≤ k := hk.1
    have h2 : k < w1.heap.size := hk.2
    exact ⟨(hblk k (by omega) (by omega) (fun e => by have := (hq k e).2; omega)).trans (hb3.block k h2), h1, by rw [hsw]; omega⟩)⟩
  · have hR : Row w6 s 132 4 (seF now R O vg) := hS.row.keep (by
      rw [hg.block s (by omega) (fun e => by have := (hq s e.symm).1; omega), ((Below.refl w3.heap.size w3).alloc (Nat.le_refl _) ob).block s (by omega), hb3.block s (by omega), hb1.block s hsl])
    refine (hR.set 3 v6).congr (fun j hj => ?_)
    rcases (show j = 0 ∨ j = 1 ∨ j = 2 ∨ j = 3 by omega) with rfl | rfl | rfl | rfl <;> rfl
  · rw [hlen, List.map_append]
    exact ownsRow_at ho (fun k e => Below.heap_setCell _ _ _ _ (show k ≠ s by rw [hv6b] at e; injection e with e; omega))
  · intro i hi
    rw [hlen] at hi
    by_cases hlt : i < G.length
    · rw [getG_left hlt, hpm _ i (by omega) (hS.pr i hlt)]
      exact (hS.gr i hlt).keep (hfar _ (hS.glt i hlt) (by have := hS.gs i hlt; omega) (hS.gq i hlt))
    · obtain rfl : i = G.length := by omega
      rw [getG_right (Nat.le_refl _), Nat.sub_self]
      show Row _ w1.heap.size 166 9 (gtF (Qs.getD h 0) (p.map fun k => ((G ++ [⟨w1.heap.size, h, p, false, c', pl⟩] : List Gt).getD k default).b) false c'.z pl)
      rw [hpm p G.length (Nat.le_refl _) hp]
      exact hR3.keep (hblk _ (by omega) (by omega) (fun e => by have := (hq _ e).2; omega))
  · exact parts (fun i g => g.h < cs.length) hS.hl hh
  · exact parts (fun i g => ∀ k, g.p = some k → k < i) hS.pr hp
  · exact parts (fun i g => g.c.id = i + 1) hS.id hid
  · refine parts (fun i g => CzN (w6.setCell ⟨s, 3, none⟩ v6) (fun k => k < (w6.setCell ⟨s, 3, none⟩ v6).heap.size ∧ FrS s v6 (G ++ [⟨w1.heap.size, h, p, false, c', pl⟩]) k) g.c.z g.pl) ?_ ?_
    · intro i hi
      exact (hS.ls i hi).keep (fun k hk => ⟨hfar k hk.1 hk.2.s hk.2.q, by rw [hsw]; omega, hFr k hk.1 hk.2⟩)
    · have hn : CzN (w6.setCell ⟨s, 3, none⟩ v6) (fun k => k < (w6.setCell ⟨s, 3, none⟩ v6).heap.size ∧ FrS s v6 (G ++ [⟨w1.heap.size, h, p, false, c', pl⟩]) k) c.z pl := hN.keep (fun k hk => by
        have h1 : w.heap.size ≤ k := hk.1
        have h2 : k < w1.heap.size := hk.2
        refine ⟨(hblk k (by omega) (by omega) (fun e => by have := (hq k e).2; omega)).trans (hb3.block k h2), by rw [hsw]; omega, by omega, ?_, fun i hi => ?_⟩
        · rw [hv6b]
          intro e
          injection e with e
          rcases hat with h | h
          · have := (hq g6 h).2; omega
          · omega
        · rw [hlen] at hi
          by_cases hlt : i < G.length
          · rw [getG_left hlt]; have := hS.glt i hlt; omega
          · rw [getG_right (by omega), show i - G.length = 0 by omega]
            show w1.heap.size ≠ k
            omega)
      obtain ⟨e2, e3, e4⟩ := hcz
      refine ⟨?_, ?_, ?_⟩
      · show LsN _ _ (.slice pl.a2 c'.z.scp.length pl.c2) c'.z.scp
        rw [e2]; exact hn.k2
      · show LsN _ _ (.slice pl.a3 c'.z.aud.length pl.c3) c'.z.aud
        rw [e3]; exact hn.k3
      · show LsN _ _ (.slice pl.a4 c'.z.act.length pl.c4) c'.z.act
        rw [e4]; exact hn.k4
  · exact parts (fun i g => s < g.b) hS.gs (by show s < w1.heap.size; omega)
  · refine parts (fun i g => v6.ownBlock ≠ some g.b) ?_ ?_
    · intro i hi e
      rw [hv6b] at e
      injection e with e
      rcases hat with h | h
      · exact hS.gq i hi (e ▸ h)
      · have := hS.glt i hi; omega
    · rw [hv6b]; exact fun e => h6b (Option.some.inj e)
  · intro i j hi hj
    rw [hlen] at hi
    have hjl : j < G.length := by omega
    rw [getG_left hjl]
    by_cases hlt : i < G.length
    · rw [getG_left hlt]; exact hS.inj i j hlt hj
    · rw [getG_right (by omega), show i - G.length = 0 by omega]
      have := hS.glt j hjl
      show (G.getD j default).b ≠ w1.heap.size
      omega
  · exact parts (fun i g => rightB g.c.z = true) hS.right hr
end Go.Proofs.YtkmkkmdpjliifaaGreatDoor
namespace Go.Proofs.YtkmkkmdpjliifaaGreatDoor
open Go.ChangeShapes Go.WideShapes Go.ChangeAt Go.RowKit

/-- what a call that turns a server leaves of the rest -/
def SFar (s : Nat) (vg vg' : Value) (G G' : List Gt) (w w' : World) : Prop := ∀ k, k < w.heap.size → FrS s vg G k → w'.heap[k]? = w.heap[k]? ∧ FrS s vg' G' k
theorem numG (n : Nat) (h : n < 40) : wrap64 ((n : Int) + 1) = ((n + 1 : Nat) : Int) := by rw [w64 _ (by omega) (by omega)]; omega
theorem nine {P : Nat → Prop} (h0 : P 0) (h1 : P 1) (h2 : P 2) (h3 : P 3) (h4 : P 4) (h5 : P 5) (h6 : P 6) (h7 : P 7) (h8 : P 8) : ∀ j, j < 9 → P j := by
  intro j hj
  rcases (show j = 0 ∨ j = 1 ∨ j = 2 ∨ j = 3 ∨ j = 4 ∨ j = 5 ∨ j = 6 ∨ j = 7 ∨ j = 8 by omega) with rfl | rfl | rfl | rfl | rfl | rfl | rfl | rfl | rfl <;> assumption

set_option maxRecDepth 20000 in
set_option maxHeartbeats 2000000 in
theorem Add_any (c : Cm) (p : Pl) (h : Nat) (pp : Option Nat) (w : World) (s R O now : Nat) (vk vs vg : Value) (ks : List Ky) (cs : List Cl) (Qs : List Nat) (G : List Gt) (hS : Sv w s R O now vk vs vg ks cs Qs G) (hcs : CzS c.z) (hL : CzL w w.heap.size c.z p)
    (hh : h < cs.length) (hp : ∀ k, pp = some k → k < G.length) (hr : rightB { c with id := G.length + 1 }.z = true) (h40 : G.length < 40) :
    Calls Tryz.prog 137 #[.pointer (some ⟨s, 3, none⟩), .agg (czA c.z p), .pointer (some ⟨Qs.getD h 0, 0, none⟩), .pointer ((pp.map fun k => (G.getD k default).b).map fun b => ⟨b, 0, none⟩)] w fun e w' =>
      ∃ vg' b pl, e = .returned (.pointer (some ⟨b, 0, none⟩)) ∧ Sv w' s R O now vk vs vg' ks cs Qs (G ++ [⟨b, h, pp, false, { c with id := G.length + 1 }, pl⟩]) ∧ Below s w w' ∧ SFar s vg vg' G (G ++ [⟨b, h, pp, false, { c with id := G.length + 1 }, pl⟩]) w w' ∧ CzN w' (New w w') c.z pl := by
  obtain ⟨wa, hwa⟩ : ∃ wa, wa = w.alloc (.cells #[.int .i64 c.z.id, .string ⟨c.z.sub.toArray⟩, .slice p.a2 c.z.scp.length p.c2, .slice p.a3 c.z.aud.length p.c3, .slice p.a4 c.z.act.length p.c4, .int .i64 c.z.exp] 60) := ⟨_, rfl⟩
  have hba : Below w.heap.size w wa := by rw [hwa]; exact (Below.refl _ _).alloc (Nat.le_refl _) _
  have hsa : wa.heap.size = w.heap.size + 1 := by rw [hwa]; simp
  have HC := hide (copiedL_any c.z p wa w.heap.size (by omega) hcs (hL.below hba))
  obtain ⟨av, cv, hvg⟩ : ∃ av cv, vg = .slice av G.length cv := by
    rcases owns_cells hS.own with ⟨e, h0⟩ | ⟨g, cap, e, _⟩
    · exact ⟨none, 0, by rw [e, h0]⟩
    · exact ⟨_, _, e⟩
  subst hvg
  have HS := hide hS
  have HWA := hide hwa
  have hn := numG G.length h40
  have HH := hide (And.intro hh (And.intro hp (And.intro hr h40)))
  obtain ⟨i0, hi, iz0, iz1, iz2⟩ := info_parts info121
  have HI := hide hi
  have HI0 := hide iz0
  have HI1 := hide iz1
  have HI2 := hide iz2
  have hsl := hS.lt
  clear hi iz0 iz1 iz2 hcs hL hh hp hr h40 hwa hS
  generalize hpa : ((pp.map fun k => (G.getD k default).b).map fun b => (⟨b, 0, none⟩ : Addr)) = pa
  have HPA := hide hpa
  clear hpa
  unfold czA
  go_enter Tryz.func137, Tryz.ntmps137
  go_wp2_with fail
  rw [← unhide HWA]
  clear HWA
  refine (unhide HC).mono ?_
  rintro e w1 ⟨p', rfl, hN, hb1⟩
  have hs1 := hb1.size
  have hbw1 : Below w.heap.size w w1 := hba.trans (hb1.mono (by omega))
  have HN : Hid (CzN w1 (New w w1) c.z p') := hN.keep (fun k hk => ⟨rfl, by have : wa.heap.size ≤ k := hk.1; show w.heap.size ≤ k; omega, hk.2⟩)
  have HB1 := hide hbw1
  clear hN hb1 HC
  have hS1 := (unhide HS).below hbw1
  have hR1 := hS1.row
  have rB : ∀ o, (w1.alloc o).cell? ⟨s, 3, none⟩ = some (.slice av G.length cv) := fun o => (hR1.alloc o).cell (by decide)
  have rC : ∀ o o2, ((w1.alloc o).alloc o2).cell? ⟨s, 3, none⟩ = some (.slice av G.length cv) := fun o o2 => ((hR1.alloc o).alloc o2).cell (by decide)
  have zC : ∀ o o2, ((w1.alloc o).alloc o2).frozen? ⟨s, 3, none⟩ = false := fun o o2 => ((hR1.alloc o).alloc o2).frozen 3
  have HOA : Hid (∀ o o2, ((w1.alloc o).alloc o2).ownsRow (s + 1) 121 1 (.slice av G.length cv) G.length (G.map gptr)) := fun o o2 => ownsRow_below (ownsRow_below hS1.own ((Below.refl _ _).alloc (Nat.le_refl _) o) (Nat.le_refl _)) ((Below.refl _ _).alloc (Nat.le_refl _) o2) (Nat.le_refl _)
  have hqs : some s ≠ (Value.slice av G.length cv).ownBlock := fun e => by have := hS1.own.lt s e.symm; omega
  have HQS := hide hqs
  have HRC := hide rC
  have HZC := hide zC
  have hsl1 : s < w1.heap.size := hS1.lt
  clear hS1 hR1 hqs rC zC
  unfold czA
  go_wp2_with (at_builtin; refine wpList_append_lies _ rfl _ _ 128 rfl (s + 1) 121 i0 _ 1 8 Tryz.underlying128 (unhide HI) (unhide HI0) (unhide HI1) (unhide HI2) rfl (by decide) _ G.length (G.map gptr) rfl (unhide HOA _ _) ⟨w1.heap.size + 1, 0, none⟩ 1 1 [.pointer (some ⟨w1.heap.size, 0, none⟩)] rfl rfl (World.news_of_block (heap_alloc2_new w1 _ _)) (fun u hu => by simp at hu; subst hu; rfl) (by decide) (by unfold maxLen; have := (unhide HH).2.2.2; omega) (by have := (unhide HH).2.2.2; omega) (by simp; omega) _ rfl ?_; intro g6 c6 w6 ho6 hg6 hat6 hlt6; have r6 := (hg6.cell_far ⟨s, 3, none⟩ (by simp; omega) (unhide HQS)).trans (unhide HRC _ _); have z6 := (hg6.frozen_far ⟨s, 3, none⟩ (by simp; omega) (unhide HQS)).trans (unhide HZC _ _))
  go_ret
  obtain ⟨hh, hp, hr, h40⟩ := unhide HH
  obtain ⟨a1, a2, a3, a4⟩ := Sv.added (h := h) (p := pp) (c := c) (pl := p') (unhide HS) (unhide HB1) (unhide HN) ((Below.refl _ _).alloc (Nat.le_refl _) _) (by simp) (by
    refine Row.new w1 166 _ _ 9 rfl ?_
    rw [← unhide HPA]
    exact nine rfl rfl rfl rfl rfl rfl rfl rfl rfl) hh hp hr h40 ho6 hg6 hat6
  exact ⟨_, _, _, rfl, a1, a2, a3, a4⟩
end Go.Proofs.YtkmkkmdpjliifaaGreatDoor
namespace Go.Proofs.YtkmkkmdpjliifaaGreatDoor
open Go.ChangeShapes Go.WideShapes Go.ChangeAt Go.RowKit

theorem right_czs {c : Cm} (h : rightB c.z = true) : CzS c.z := by
  obtain ⟨m, h1, _, _, h2, h3, h4, h5⟩ := right_nums h
  rw [← h1]
  refine ⟨?_, ?_, ?_, ?_, fun i hi => ?_, fun i hi => ?_, fun i hi => ?_⟩
  · show m.sub.length ≤ _; omega
  · show m.scp.length ≤ _; have := h3.1; omega
  · show m.aud.length ≤ _; have := h4.1; omega
  · show m.act.length ≤ _; have := h5.1; omega
  · show (m.scp.getD i []).length ≤ _; have := h3.2 i hi; omega
  · show (m.aud.getD i []).length ≤ _; have := h4.2 i hi; omega
  · show (m.act.getD i []).length ≤ _; have := h5.2 i hi; omega

set_option maxRecDepth 20000 in
set_option maxHeartbeats 2000000 in
theorem Claims_any (i : Nat) (w : World) (s R O now : Nat) (vk vs vg : Value) (ks : List Ky) (cs : List Cl) (Qs : List Nat) (G : List Gt) (hS : Sv w s R O now vk vs vg ks cs Qs G) (hi : i < G.length) :
    Calls Tryz.prog 71 #[.pointer (some ⟨(G.getD i default).b, 0, none⟩)] w fun e w' => ∃ p', e = .returned (.agg (czA (G.getD i default).c.z p')) ∧ CzN w' (New w w') (G.getD i default).c.z p' ∧ Below w.heap.size w w' := by
  have hr := hS.gr i hi
  have hl := (hS.ls i hi).l (B := w.heap.size) (fun k hk => hk.1)
  have hc := right_czs (hS.right i hi)
  generalize G.getD i default = g at *
  obtain ⟨wa, hwa⟩ : ∃ wa, wa = w.alloc (.cells #[.int .i64 0, .string ⟨#[]⟩, .slice none 0 0, .slice none 0 0, .slice none 0 0, .int .i64 0] 60) := ⟨_, rfl⟩
  have hba : Below w.heap.size w wa := by rw [hwa]; exact (Below.refl _ _).alloc (Nat.le_refl _) _
  have hsa : wa.heap.size = w.heap.size + 1 := by rw [hwa]; simp
  have hZ : Row wa w.heap.size 60 6 (czF cz0 pl0) := by rw [hwa]; exact Row.new w 60 _ _ 6 rfl (six rfl rfl rfl rfl rfl rfl)
  have HC := hide (copiedL_any g.c.z g.pl wa w.heap.size (by omega) hc (hl.below hba))
  have hra : ∀ o, Row (w.alloc o) g.b 166 9 _ := fun o => hr.alloc o
  have q3 : ∀ o, (w.alloc o).cell? ⟨g.b, 3, none⟩ = some (.int .i64 g.c.z.id) := fun o => (hra o).cell (by decide)
  have q4 : ∀ o, (w.alloc o).cell? ⟨g.b, 4, none⟩ = some (.string ⟨g.c.z.sub.toArray⟩) := fun o => (hra o).cell (by decide)
  have q5 : ∀ o, (w.alloc o).cell? ⟨g.b, 5, none⟩ = some (.slice g.pl.a2 g.c.z.scp.length g.pl.c2) := fun o => (hra o).cell (by decide)
  have q6 : ∀ o, (w.alloc o).cell? ⟨g.b, 6, none⟩ = some (.slice g.pl.a3 g.c.z.aud.length g.pl.c3) := fun o => (hra o).cell (by decide)
  have q7 : ∀ o, (w.alloc o).cell? ⟨g.b, 7, none⟩ = some (.slice g.pl.a4 g.c.z.act.length g.pl.c4) := fun o => (hra o).cell (by decide)
  have q8 : ∀ o, (w.alloc o).cell? ⟨g.b, 8, none⟩ = some (.int .i64 g.c.z.exp) := fun o => (hra o).cell (by decide)
  have HWA := hide hwa
  have HZ := hide hZ
  clear hr hl hc hwa hZ hra hS hi
  unfold czA
  go_enter Tryz.func71, Tryz.ntmps71
  go_wp2_with fail
  rw [← unhide HWA]
  clear HWA q3 q4 q5 q6 q7 q8
  refine (unhide HC).mono ?_
  rintro e w1 ⟨p', rfl, hN, hb1⟩
  have hs1 := hb1.size
  have Z1 := (unhide HZ).below hb1 (by omega)
  have s0 : w1.cell? ⟨w.heap.size, 0, none⟩ = some (.int .i64 0) := Z1.cell (by decide)
  have sf0 := Z1.frozen 0
  have s1 : w1.cell? ⟨w.heap.size, 1, none⟩ = some (.string ⟨#[]⟩) := Z1.cell (by decide)
  have sf1 := Z1.frozen 1
  have s2 : w1.cell? ⟨w.heap.size, 2, none⟩ = some (.slice none 0 0) := Z1.cell (by decide)
  have sf2 := Z1.frozen 2
  have s3 : w1.cell? ⟨w.heap.size, 3, none⟩ = some (.slice none 0 0) := Z1.cell (by decide)
  have sf3 := Z1.frozen 3
  have s4 : w1.cell? ⟨w.heap.size, 4, none⟩ = some (.slice none 0 0) := Z1.cell (by decide)
  have sf4 := Z1.frozen 4
  have s5 : w1.cell? ⟨w.heap.size, 5, none⟩ = some (.int .i64 0) := Z1.cell (by decide)
  have sf5 := Z1.frozen 5
  have HZ1 := hide Z1
  have hfin : CzN (st6 w1 w.heap.size g.c.z p') (New w (st6 w1 w.heap.size g.c.z p')) g.c.z p' ∧ Below w.heap.size w (st6 w1 w.heap.size g.c.z p') := by
    refine ⟨hN.keep (fun k hk => ?_), (hba.trans (hb1.mono (by omega))).trans ((st6_but w1 w.heap.size g.c.z p').below (Nat.le_refl _))⟩
    have h1 : wa.heap.size ≤ k := hk.1
    exact ⟨(st6_but w1 w.heap.size g.c.z p').block k (by omega), by show w.heap.size ≤ k; omega, by rw [(st6_but w1 w.heap.size g.c.z p').size]; exact hk.2⟩
  have HFin := hide hfin
  clear Z1 hN hb1 HC HZ hfin
  unfold czA
  go_wp2_with fail
  refine ret_czo (c := g.c.z) (p := p') (g := w.heap.size) Tryz.results71 ?_ rfl rfl ?_
  · exact st6_row (unhide HZ1) g.c.z p'
  · exact ⟨p', rfl, unhide HFin⟩
end Go.Proofs.YtkmkkmdpjliifaaGreatDoor
namespace Go.Proofs.YtkmkkmdpjliifaaGreatDoor
open Go.ChangeShapes Go.WideShapes Go.ChangeAt Go.RowKit

section
variable {w : World} {s R O now : Nat} {vk vs vg : Value} {ks : List Ky} {cs : List Cl} {Qs : List Nat} {G : List Gt}
theorem Sv.vgf (h : Sv w s R O now vk vs vg ks cs Qs G) : ∃ a c, vg = .slice a G.length c := by
  rcases owns_cells h.own with ⟨e, h0⟩ | ⟨g, cap, e, _⟩
  · exact ⟨none, 0, by rw [e, h0]⟩
  · exact ⟨_, _, e⟩

set_option maxRecDepth 20000 in
theorem IsFull_any (hS : Sv w s R O now vk vs vg ks cs Qs G) : Calls Tryz.prog 136 #[.pointer (some ⟨s, 3, none⟩)] w fun e w' => e = .returned (.bool (decide (40 ≤ G.length))) ∧ w' = w := by
  obtain ⟨a, c, rfl⟩ := hS.vgf
  have r3 : w.cell? ⟨s, 3, none⟩ = some (.slice a G.length c) := hS.row.cell (by decide)
  clear hS
  go_enter Tryz.func136, Tryz.ntmps136
  go_wp2_with fail
  go_ret
  refine ⟨ret_bool ?_, rfl⟩
  by_cases h : 40 ≤ G.length
  · rw [decide_eq_true h, decide_eq_true (by omega)]
  · rw [decide_eq_false h, decide_eq_false (by omega)]

/-- is there room for a token that lives so long? -/
def roomE (now : Nat) (life : Int) (n : Nat) : Int := if life < 1 ∨ 100000 < life ∨ 999999999999 < (now : Int) + life then 10 else if 40 ≤ n then 12 else 0
set_option maxRecDepth 20000 in
set_option maxHeartbeats 1000000 in
theorem checkRoom_any (life : Int) (hn : now ≤ 999999999999) (hS : Sv w s R O now vk vs vg ks cs Qs G) :
    Calls Tryz.prog 97 #[.pointer (some ⟨s, 0, none⟩), .int .i64 life] w fun e w' => e = .returned (.int .i64 (roomE now life G.length)) ∧ w' = w := by
  have r0 : w.cell? ⟨s, 0, none⟩ = some (.int .i64 (now : Nat)) := hS.row.cell (by decide)
  have HF := hide (IsFull_any hS)
  clear hS
  by_cases h1 : life < 1
  · have e : roomE now life G.length = 10 := by unfold roomE; rw [if_pos (Or.inl h1)]
    rw [e]
    clear e HF
    go_enter Tryz.func97, Tryz.ntmps97
    go_wp2_with fail
    go_ret
    exact ⟨rfl, rfl⟩
  · by_cases h2 : 100000 < life
    · have e : roomE now life G.length = 10 := by unfold roomE; rw [if_pos (Or.inr (Or.inl h2))]
      rw [e]
      clear e HF
      go_enter Tryz.func97, Tryz.ntmps97
      go_wp2_with fail
      go_ret
      exact ⟨rfl, rfl⟩
    · have hw : wrap64 ((now : Int) + life) = (now : Int) + life := w64 _ (by omega) (by omega)
      by_cases h3 : 999999999999 < (now : Int) + life
      · have e : roomE now life G.length = 10 := by unfold roomE; rw [if_pos (Or.inr (Or.inr h3))]
        rw [e]
        clear e HF hn
        generalize ((now : Nat) : Int) = nw at *
        go_enter Tryz.func97, Tryz.ntmps97
        go_wp2_with fail
        go_ret
        exact ⟨rfl, rfl⟩
      · have e : roomE now life G.length = if 40 ≤ G.length then 12 else 0 := by unfold roomE; rw [if_neg (by omega)]
        rw [e]
        clear e hn
        generalize ((now : Nat) : Int) = nw at *
        cases hd : decide (40 ≤ G.length) with
        | true =>
          rw [hd] at HF
          rw [if_pos (of_decide_eq_true hd)]
          clear hd
          go_enter Tryz.func97, Tryz.ntmps97
          go_wp2_with (go_at_call 136; refine (unhide HF).mono ?_; rintro e w1 ⟨rfl, rfl⟩)
          go_ret
          exact ⟨rfl, rfl⟩
        | false =>
          rw [hd] at HF
          rw [if_neg (of_decide_eq_false hd)]
          clear hd
          go_enter Tryz.func97, Tryz.ntmps97
          go_wp2_with (go_at_call 136; refine (unhide HF).mono ?_; rintro e w1 ⟨rfl, rfl⟩)
          go_ret
          exact ⟨rfl, rfl⟩
end
end Go.Proofs.YtkmkkmdpjliifaaGreatDoor
namespace Go.Proofs.YtkmkkmdpjliifaaGreatDoor
open Go.ChangeShapes Go.WideShapes Go.ChangeAt Go.RowKit

end Go.Proofs.YtkmkkmdpjliifaaGreatDoor
namespace Go.Proofs.YtkmkkmdpjliifaaGreatDoor

end Go.Proofs.YtkmkkmdpjliifaaGreatDoor
namespace Go.Proofs.YtkmkkmdpjliifaaGreatDoor
open Go.ChangeShapes Go.WideShapes Go.ChangeAt Go.RowKit

end Go.Proofs.YtkmkkmdpjliifaaGreatDoor
namespace Go.Proofs.YtkmkkmdpjliifaaGreatDoor
open Go.ChangeShapes Go.WideShapes Go.ChangeAt Go.RowKit

end Go.Proofs.YtkmkkmdpjliifaaGreatDoor
namespace Go.Proofs.YtkmkkmdpjliifaaGreatDoor

/-- the words at first, and the 64 of the rounds -/
def hN : List Nat := [1779033703, 3144134277, 1013904242, 2773480762, 1359893119, 2600822924, 528734635, 1541459225]
def kN : List Nat := [1116352408, 1899447441, 3049323471, 3921009573, 961987163, 1508970993, 2453635748, 2870763221, 3624381080, 310598401, 607225278, 1426881987, 1925078388, 2162078206, 2614888103, 3248222580, 3835390401, 4022224774, 264347078, 604807628, 770255983, 1249150122, 1555081692, 1996064986, 2554220882, 2821834349, 2952996808, 3210313671, 3336571891, 3584528711, 113926993, 338241895, 666307205, 773529912, 1294757372, 1396182291, 1695183700, 1986661051, 2177026350, 2456956037, 2730485921, 2820302411, 3259730800, 3345764771, 3516065817, 3600352804, 4094571909, 275423344, 430227734, 506948616, 659060556, 883997877, 958139571, 1322822218, 1537002063, 1747873779, 1955562222, 2024104815, 2227730452, 2361852424, 2428436474, 2756734187, 3204031479, 3329325298]
def H0 (j : Nat) : BitVec 32 := BitVec.ofNat 32 (hN.getD j 0)
def K0 (j : Nat) : BitVec 32 := BitVec.ofNat 32 (kN.getD j 0)
/-- what stands ahead of the point of the roots -/
def q2 : List Nat := [1, 1, 2, 2, 3, 3, 4, 4]
def q3 : List Nat := [1, 1, 1, 1, 2, 2, 2, 2, 2, 3, 3, 3, 3, 3, 3, 3, 3, 3, 4, 4, 4, 4, 4, 4, 4, 4, 4, 4, 4, 4, 5, 5, 5, 5, 5, 5, 5, 5, 5, 5, 5, 5, 5, 5, 5, 5, 5, 6, 6, 6, 6, 6, 6, 6, 6, 6, 6, 6, 6, 6, 6, 6, 6, 6]
def pN : List Nat := [2, 3, 5, 7, 11, 13, 17, 19, 23, 29, 31, 37, 41, 43, 47, 53, 59, 61, 67, 71, 73, 79, 83, 89, 97, 101, 103, 107, 109, 113, 127, 131, 137, 139, 149, 151, 157, 163, 167, 173, 179, 181, 191, 193, 197, 199, 211, 223, 227, 229, 233, 239, 241, 251, 257, 263, 269, 271, 277, 281, 283, 293, 307, 311]
theorem hN_ok : ∀ j, j < 8 → (q2.getD j 0 * 4294967296 + hN.getD j 0) * (q2.getD j 0 * 4294967296 + hN.getD j 0) ≤ pN.getD j 0 * 65536 ^ 4 ∧
    pN.getD j 0 * 65536 ^ 4 < (q2.getD j 0 * 4294967296 + hN.getD j 0 + 1) * (q2.getD j 0 * 4294967296 + hN.getD j 0 + 1) ∧ hN.getD j 0 < 4294967296 := by decide +kernel
theorem kN_ok : ∀ j, j < 64 → (q3.getD j 0 * 4294967296 + kN.getD j 0) * (q3.getD j 0 * 4294967296 + kN.getD j 0) * (q3.getD j 0 * 4294967296 + kN.getD j 0) ≤ pN.getD j 0 * 65536 ^ 6 ∧
    pN.getD j 0 * 65536 ^ 6 < (q3.getD j 0 * 4294967296 + kN.getD j 0 + 1) * (q3.getD j 0 * 4294967296 + kN.getD j 0 + 1) * (q3.getD j 0 * 4294967296 + kN.getD j 0 + 1) ∧ kN.getD j 0 < 4294967296 := by decide +kernel
theorem wi_H0 (j : Nat) (hj : j < 8) : wi (H0 j) = (hN.getD j 0 : Nat) := wi_ofNat _ (hN_ok j hj).2.2
theorem wi_K0 (j : Nat) (hj : j < 64) : wi (K0 j) = (kN.getD j 0 : Nat) := wi_ofNat _ (kN_ok j hj).2.2
theorem kN_length : kN.length = 64 := rfl
end Go.Proofs.YtkmkkmdpjliifaaGreatDoor
namespace Go.Proofs.YtkmkkmdpjliifaaGreatDoor
open Go.ChangeShapes Go.WideShapes Go.ChangeAt Go.RowKit

theorem Row.grown {w w' : World} {g n : Nat} {t : TypeId} {f : Nat → Value} {row : Option Nat} (h : Row w g t n f) (hg : w.grownBy w' row) (hne : some g ≠ row) : Row w' g t n f := by
  have hl := h.lt
  obtain ⟨cs, h1, h2, h3⟩ := h
  exact ⟨cs, by rw [hg.block g hl hne]; exact h1, h2, h3⟩
theorem Cel.grown {w w' : World} {g o n : Nat} {f : Nat → Value} {row : Option Nat} (h : Cel w g o n f) (hl : g < w.heap.size) (hg : w.grownBy w' row) (hne : some g ≠ row) : Cel w' g o n f := fun j hj =>
  ⟨(World.cell?_of_block (a := ⟨g, o + j, none⟩) (hg.block g hl hne)).trans (h j hj).1, (World.frozen?_of_block (a := ⟨g, o + j, none⟩) (hg.block g hl hne)).trans (h j hj).2⟩
/-- a pair of cells -/
def pr (a b : Value) (j : Nat) : Value := if j = 0 then a else b

/-- a result that lies in a row -/
theorem ret_row {fn : Func} {p : Tmp} {ty : TypeId} (h : fn.results = #[.cell p ty]) {a : Act} {w : World} {R : Ending → World → Prop} {g n : Nat} {t : TypeId} {f : Nat → Value} (d : TypeDesc) (hRow : Row w g t n f)
    (hp : a.tmps.getD p undef = .pointer (some ⟨g, 0, none⟩)) (hu : Tryz.prog.underlying ty = some d) (hd : (∃ fs, d = .struct fs) ∨ ∃ n e, d = .array n e)
    (hi : (Tryz.prog.info? ty).map (·.size) = some n) (hdef : a.defers = []) (hR : R (.returned (.agg (arrOf n f))) w) : bodyPost Tryz.prog fn R Exit.ret a w :=
  bodyPost_ret (v := .agg (arrOf n f)) (results_cell_row h a.tmps w g t (arrOf n f) (0, 0) d hp hRow.whole hu (by rcases hd with ⟨_, rfl⟩ | ⟨_, _, rfl⟩ <;> rfl) (by rw [arrOf_size]; exact hi)) hdef hR
theorem arrOf_eq (n : Nat) (f : Nat → Value) (cs : Array Value) (h : cs.size = n) (hc : ∀ j, j < n → cs[j]? = some (f j)) : arrOf n f = cs := by
  apply Array.ext (by rw [arrOf_size, h])
  intro i hi1 hi2
  have e1 := hc i (by omega)
  have e2 := arrOf_get n f i (by omega)
  rw [Array.getElem?_eq_getElem hi2] at e1
  rw [Array.getElem?_eq_getElem hi1] at e2
  rw [Option.some.inj e1, Option.some.inj e2]

end Go.Proofs.YtkmkkmdpjliifaaGreatDoor
