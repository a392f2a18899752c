import Derived.Test.YtkmkkmdpjliifaaGreatDoorJzQ
import Derived.Test.YtkmkkmdpjliifaaGreatDoorTxC
import Derived.Deep.LoopGhost
import Derived.BigRegion
import Derived.Test.YtkmkkmdpjliifaaGreatDoorTxM
import Derived.Deep.RegionHeld3
namespace Go.Proofs.YtkmkkmdpjliifaaGreatDoor
open Go.ChangeShapes Go.WideShapes Go.ChangeAt Go.RowKit

/-- what a call that turns a server leaves of the rest -/
def SFar (s : Nat) (vg vg' : Value) (G G' : List Gt) (w w' : World) : Prop := ∀ k, k < w.heap.size → FrS s vg G k → w'.heap[k]? = w.heap[k]? ∧ FrS s vg' G' k
theorem numG (n : Nat) (h : n < 40) : wrap64 ((n : Int) + 1) = ((n + 1 : Nat) : Int) := by rw [w64 _ (by omega) (by omega)]; omega
theorem nine {P : Nat → Prop} (h0 : P 0) (h1 : P 1) (h2 : P 2) (h3 : P 3) (h4 : P 4) (h5 : P 5) (h6 : P 6) (h7 : P 7) (h8 : P 8) : ∀ j, j < 9 → P j := by
  intro j hj
  rcases (show j = 0 ∨ j = 1 ∨ j = 2 ∨ j = 3 ∨ j = 4 ∨ j = 5 ∨ j = 6 ∨ j = 7 ∨ j = 8 by omega) with rfl | rfl | rfl | rfl | rfl | rfl | rfl | rfl | rfl <;> assumption

set_option maxRecDepth 20000 in
set_option maxHeartbeats 2000000 in
theorem Add_any (c : Cm) (p : Pl) (h : Nat) (pp : Option Nat) (w : World) (s R O now : Nat) (vk vs vg : Value) (ks : List Ky) (cs : List Cl) (Qs : List Nat) (G : List Gt) (hS : Sv w s R O now vk vs vg ks cs Qs G) (hcs : CzS c.z) (hL : CzL w w.heap.size c.z p)
    (hh : h < cs.length) (hp : ∀ k, pp = some k → k < G.length) (hr : rightB { c with id := G.length + 1 }.z = true) (h40 : G.length < 40) :
    Calls Tryz.prog 137 #[.pointer (some ⟨s, 3, none⟩), .agg (czA c.z p), .pointer (some ⟨Qs.getD h 0, 0, none⟩), .pointer ((pp.map fun k => (G.getD k default).b).map fun b => ⟨b, 0, none⟩)] w fun e w' =>
      ∃ vg' b pl, e = .returned (.pointer (some ⟨b, 0, none⟩)) ∧ Sv w' s R O now vk vs vg' ks cs Qs (G ++ [⟨b, h, pp, false, { c with id := G.length + 1 }, pl⟩]) ∧ Below s w w' ∧ SFar s vg vg' G (G ++ [⟨b, h, pp, false, { c with id := G.length + 1 }, pl⟩]) w w' ∧ CzN w' (New w w') c.z pl := by
  obtain ⟨wa, hwa⟩ : ∃ wa, wa = w.alloc (.cells #[.int .i64 c.z.id, .string ⟨c.z.sub.toArray⟩, .slice p.a2 c.z.scp.length p.c2, .slice p.a3 c.z.aud.length p.c3, .slice p.a4 c.z.act.length p.c4, .int .i64 c.z.exp] 60) := ⟨_, rfl⟩
  have hba : Below w.heap.size w wa := by rw [hwa]; exact (Below.refl _ _).alloc (Nat.le_refl _) _
  have hsa : wa.heap.size = w.heap.size + 1 := by rw [hwa]; simp
  have HC := hide (copiedL_any c.z p wa w.heap.size (by omega) hcs (hL.below hba))
  obtain ⟨av, cv, hvg⟩ : ∃ av cv, vg = .slice av G.length cv := by
    rcases owns_cells hS.own with ⟨e, h0⟩ | ⟨g, cap, e, _⟩
    · exact ⟨none, 0, by rw [e, h0]⟩
    · exact ⟨_, _, e⟩
  subst hvg
  have HS := hide hS
  have HWA := hide hwa
  have hn := numG G.length h40
  have HH := hide (And.intro hh (And.intro hp (And.intro hr h40)))
  obtain ⟨i0, hi, iz0, iz1, iz2⟩ := info_parts info121
  have HI := hide hi
  have HI0 := hide iz0
  have HI1 := hide iz1
  have HI2 := hide iz2
  have hsl := hS.lt
  clear hi iz0 iz1 iz2 hcs hL hh hp hr h40 hwa hS
  generalize hpa : ((pp.map fun k => (G.getD k default).b).map fun b => (⟨b, 0, none⟩ : Addr)) = pa
  have HPA := hide hpa
  clear hpa
  unfold czA
  go_enter Tryz.func137, Tryz.ntmps137
  go_wp2_with fail
  rw [← unhide HWA]
  clear HWA
  refine (unhide HC).mono ?_
  rintro e w1 ⟨p', rfl, hN, hb1⟩
  have hs1 := hb1.size
  have hbw1 : Below w.heap.size w w1 := hba.trans (hb1.mono (by omega))
  have HN : Hid (CzN w1 (New w w1) c.z p') := hN.keep (fun k hk => ⟨rfl, by have : wa.heap.size ≤ k := hk.1; show w.heap.size ≤ k; omega, hk.2⟩)
  have HB1 := hide hbw1
  clear hN hb1 HC
  have hS1 := (unhide HS).below hbw1
  have hR1 := hS1.row
  have rB : ∀ o, (w1.alloc o).cell? ⟨s, 3, none⟩ = some (.slice av G.length cv) := fun o => (hR1.alloc o).cell (by decide)
  have rC : ∀ o o2, ((w1.alloc o).alloc o2).cell? ⟨s, 3, none⟩ = some (.slice av G.length cv) := fun o o2 => ((hR1.alloc o).alloc o2).cell (by decide)
  have zC : ∀ o o2, ((w1.alloc o).alloc o2).frozen? ⟨s, 3, none⟩ = false := fun o o2 => ((hR1.alloc o).alloc o2).frozen 3
  have HOA : Hid (∀ o o2, ((w1.alloc o).alloc o2).ownsRow (s + 1) 121 1 (.slice av G.length cv) G.length (G.map gptr)) := fun o o2 => ownsRow_below (ownsRow_below hS1.own ((Below.refl _ _).alloc (Nat.le_refl _) o) (Nat.le_refl _)) ((Below.refl _ _).alloc (Nat.le_refl _) o2) (Nat.le_refl _)
  have hqs : some s ≠ (Value.slice av G.length cv).ownBlock := fun e => by have := hS1.own.lt s e.symm; omega
  have HQS := hide hqs
  have HRC := hide rC
  have HZC := hide zC
  have hsl1 : s < w1.heap.size := hS1.lt
  clear hS1 hR1 hqs rC zC
  unfold czA
  go_wp2_with (at_builtin; refine wpList_append_lies _ rfl _ _ 128 rfl (s + 1) 121 i0 _ 1 8 Tryz.underlying128 (unhide HI) (unhide HI0) (unhide HI1) (unhide HI2) rfl (by decide) _ G.length (G.map gptr) rfl (unhide HOA _ _) ⟨w1.heap.size + 1, 0, none⟩ 1 1 [.pointer (some ⟨w1.heap.size, 0, none⟩)] rfl rfl (World.news_of_block (heap_alloc2_new w1 _ _)) (fun u hu => by simp at hu; subst hu; rfl) (by decide) (by unfold maxLen; have := (unhide HH).2.2.2; omega) (by have := (unhide HH).2.2.2; omega) (by simp; omega) _ rfl ?_; intro g6 c6 w6 ho6 hg6 hat6 hlt6; have r6 := (hg6.cell_far ⟨s, 3, none⟩ (by simp; omega) (unhide HQS)).trans (unhide HRC _ _); have z6 := (hg6.frozen_far ⟨s, 3, none⟩ (by simp; omega) (unhide HQS)).trans (unhide HZC _ _))
  go_ret
  obtain ⟨hh, hp, hr, h40⟩ := unhide HH
  obtain ⟨a1, a2, a3, a4⟩ := Sv.added (h := h) (p := pp) (c := c) (pl := p') (unhide HS) (unhide HB1) (unhide HN) ((Below.refl _ _).alloc (Nat.le_refl _) _) (by simp) (by
    refine Row.new w1 166 _ _ 9 rfl ?_
    rw [← unhide HPA]
    exact nine rfl rfl rfl rfl rfl rfl rfl rfl rfl) hh hp hr h40 ho6 hg6 hat6
  exact ⟨_, _, _, rfl, a1, a2, a3, a4⟩
end Go.Proofs.YtkmkkmdpjliifaaGreatDoor
namespace Go.Proofs.YtkmkkmdpjliifaaGreatDoor
open Go.ChangeShapes Go.WideShapes Go.ChangeAt Go.RowKit

theorem right_czs {c : Cm} (h : rightB c.z = true) : CzS c.z := by
  obtain ⟨m, h1, _, _, h2, h3, h4, h5⟩ := right_nums h
  rw [← h1]
  refine ⟨?_, ?_, ?_, ?_, fun i hi => ?_, fun i hi => ?_, fun i hi => ?_⟩
  · show m.sub.length ≤ _; omega
  · show m.scp.length ≤ _; have := h3.1; omega
  · show m.aud.length ≤ _; have := h4.1; omega
  · show m.act.length ≤ _; have := h5.1; omega
  · show (m.scp.getD i []).length ≤ _; have := h3.2 i hi; omega
  · show (m.aud.getD i []).length ≤ _; have := h4.2 i hi; omega
  · show (m.act.getD i []).length ≤ _; have := h5.2 i hi; omega

set_option maxRecDepth 20000 in
set_option maxHeartbeats 2000000 in
theorem Claims_any (i : Nat) (w : World) (s R O now : Nat) (vk vs vg : Value) (ks : List Ky) (cs : List Cl) (Qs : List Nat) (G : List Gt) (hS : Sv w s R O now vk vs vg ks cs Qs G) (hi : i < G.length) :
    Calls Tryz.prog 71 #[.pointer (some ⟨(G.getD i default).b, 0, none⟩)] w fun e w' => ∃ p', e = .returned (.agg (czA (G.getD i default).c.z p')) ∧ CzN w' (New w w') (G.getD i default).c.z p' ∧ Below w.heap.size w w' := by
  have hr := hS.gr i hi
  have hl := (hS.ls i hi).l (B := w.heap.size) (fun k hk => hk.1)
  have hc := right_czs (hS.right i hi)
  generalize G.getD i default = g at *
  obtain ⟨wa, hwa⟩ : ∃ wa, wa = w.alloc (.cells #[.int .i64 0, .string ⟨#[]⟩, .slice none 0 0, .slice none 0 0, .slice none 0 0, .int .i64 0] 60) := ⟨_, rfl⟩
  have hba : Below w.heap.size w wa := by rw [hwa]; exact (Below.refl _ _).alloc (Nat.le_refl _) _
  have hsa : wa.heap.size = w.heap.size + 1 := by rw [hwa]; simp
  have hZ : Row wa w.heap.size 60 6 (czF cz0 pl0) := by rw [hwa]; exact Row.new w 60 _ _ 6 rfl (six rfl rfl rfl rfl rfl rfl)
  have HC := hide (copiedL_any g.c.z g.pl wa w.heap.size (by omega) hc (hl.below hba))
  have hra : ∀ o, Row (w.alloc o) g.b 166 9 _ := fun o => hr.alloc o
  have q3 : ∀ o, (w.alloc o).cell? ⟨g.b, 3, none⟩ = some (.int .i64 g.c.z.id) := fun o => (hra o).cell (by decide)
  have q4 : ∀ o, (w.alloc o).cell? ⟨g.b, 4, none⟩ = some (.string ⟨g.c.z.sub.toArray⟩) := fun o => (hra o).cell (by decide)
  have q5 : ∀ o, (w.alloc o).cell? ⟨g.b, 5, none⟩ = some (.slice g.pl.a2 g.c.z.scp.length g.pl.c2) := fun o => (hra o).cell (by decide)
  have q6 : ∀ o, (w.alloc o).cell? ⟨g.b, 6, none⟩ = some (.slice g.pl.a3 g.c.z.aud.length g.pl.c3) := fun o => (hra o).cell (by decide)
  have q7 : ∀ o, (w.alloc o).cell? ⟨g.b, 7, none⟩ = some (.slice g.pl.a4 g.c.z.act.length g.pl.c4) := fun o => (hra o).cell (by decide)
  have q8 : ∀ o, (w.alloc o).cell? ⟨g.b, 8, none⟩ = some (.int .i64 g.c.z.exp) := fun o => (hra o).cell (by decide)
  have HWA := hide hwa
  have HZ := hide hZ
  clear hr hl hc hwa hZ hra hS hi
  unfold czA
  go_enter Tryz.func71, Tryz.ntmps71
  go_wp2_with fail
  rw [← unhide HWA]
  clear HWA q3 q4 q5 q6 q7 q8
  refine (unhide HC).mono ?_
  rintro e w1 ⟨p', rfl, hN, hb1⟩
  have hs1 := hb1.size
  have Z1 := (unhide HZ).below hb1 (by omega)
  have s0 : w1.cell? ⟨w.heap.size, 0, none⟩ = some (.int .i64 0) := Z1.cell (by decide)
  have sf0 := Z1.frozen 0
  have s1 : w1.cell? ⟨w.heap.size, 1, none⟩ = some (.string ⟨#[]⟩) := Z1.cell (by decide)
  have sf1 := Z1.frozen 1
  have s2 : w1.cell? ⟨w.heap.size, 2, none⟩ = some (.slice none 0 0) := Z1.cell (by decide)
  have sf2 := Z1.frozen 2
  have s3 : w1.cell? ⟨w.heap.size, 3, none⟩ = some (.slice none 0 0) := Z1.cell (by decide)
  have sf3 := Z1.frozen 3
  have s4 : w1.cell? ⟨w.heap.size, 4, none⟩ = some (.slice none 0 0) := Z1.cell (by decide)
  have sf4 := Z1.frozen 4
  have s5 : w1.cell? ⟨w.heap.size, 5, none⟩ = some (.int .i64 0) := Z1.cell (by decide)
  have sf5 := Z1.frozen 5
  have HZ1 := hide Z1
  have hfin : CzN (st6 w1 w.heap.size g.c.z p') (New w (st6 w1 w.heap.size g.c.z p')) g.c.z p' ∧ Below w.heap.size w (st6 w1 w.heap.size g.c.z p') := by
    refine ⟨hN.keep (fun k hk => ?_), (hba.trans (hb1.mono (by omega))).trans ((st6_but w1 w.heap.size g.c.z p').below (Nat.le_refl _))⟩
    have h1 : wa.heap.size ≤ k := hk.1
    exact ⟨(st6_but w1 w.heap.size g.c.z p').block k (by omega), by show w.heap.size ≤ k; omega, by rw [(st6_but w1 w.heap.size g.c.z p').size]; exact hk.2⟩
  have HFin := hide hfin
  clear Z1 hN hb1 HC HZ hfin
  unfold czA
  go_wp2_with fail
  refine ret_czo (c := g.c.z) (p := p') (g := w.heap.size) Tryz.results71 ?_ rfl rfl ?_
  · exact st6_row (unhide HZ1) g.c.z p'
  · exact ⟨p', rfl, unhide HFin⟩
end Go.Proofs.YtkmkkmdpjliifaaGreatDoor
namespace Go.Proofs.YtkmkkmdpjliifaaGreatDoor
open Go.ChangeShapes Go.WideShapes Go.ChangeAt Go.RowKit

section
variable {w : World} {s R O now : Nat} {vk vs vg : Value} {ks : List Ky} {cs : List Cl} {Qs : List Nat} {G : List Gt}
theorem Sv.vgf (h : Sv w s R O now vk vs vg ks cs Qs G) : ∃ a c, vg = .slice a G.length c := by
  rcases owns_cells h.own with ⟨e, h0⟩ | ⟨g, cap, e, _⟩
  · exact ⟨none, 0, by rw [e, h0]⟩
  · exact ⟨_, _, e⟩

set_option maxRecDepth 20000 in
theorem IsFull_any (hS : Sv w s R O now vk vs vg ks cs Qs G) : Calls Tryz.prog 136 #[.pointer (some ⟨s, 3, none⟩)] w fun e w' => e = .returned (.bool (decide (40 ≤ G.length))) ∧ w' = w := by
  obtain ⟨a, c, rfl⟩ := hS.vgf
  have r3 : w.cell? ⟨s, 3, none⟩ = some (.slice a G.length c) := hS.row.cell (by decide)
  clear hS
  go_enter Tryz.func136, Tryz.ntmps136
  go_wp2_with fail
  go_ret
  refine ⟨ret_bool ?_, rfl⟩
  by_cases h : 40 ≤ G.length
  · rw [decide_eq_true h, decide_eq_true (by omega)]
  · rw [decide_eq_false h, decide_eq_false (by omega)]

/-- is there room for a token that lives so long? -/
def roomE (now : Nat) (life : Int) (n : Nat) : Int := if life < 1 ∨ 100000 < life ∨ 999999999999 < (now : Int) + life then 10 else if 40 ≤ n then 12 else 0
set_option maxRecDepth 20000 in
set_option maxHeartbeats 1000000 in
theorem checkRoom_any (life : Int) (hn : now ≤ 999999999999) (hS : Sv w s R O now vk vs vg ks cs Qs G) :
    Calls Tryz.prog 97 #[.pointer (some ⟨s, 0, none⟩), .int .i64 life] w fun e w' => e = .returned (.int .i64 (roomE now life G.length)) ∧ w' = w := by
  have r0 : w.cell? ⟨s, 0, none⟩ = some (.int .i64 (now : Nat)) := hS.row.cell (by decide)
  have HF := hide (IsFull_any hS)
  clear hS
  by_cases h1 : life < 1
  · have e : roomE now life G.length = 10 := by unfold roomE; rw [if_pos (Or.inl h1)]
    rw [e]
    clear e HF
    go_enter Tryz.func97, Tryz.ntmps97
    go_wp2_with fail
    go_ret
    exact ⟨rfl, rfl⟩
  · by_cases h2 : 100000 < life
    · have e : roomE now life G.length = 10 := by unfold roomE; rw [if_pos (Or.inr (Or.inl h2))]
      rw [e]
      clear e HF
      go_enter Tryz.func97, Tryz.ntmps97
      go_wp2_with fail
      go_ret
      exact ⟨rfl, rfl⟩
    · have hw : wrap64 ((now : Int) + life) = (now : Int) + life := w64 _ (by omega) (by omega)
      by_cases h3 : 999999999999 < (now : Int) + life
      · have e : roomE now life G.length = 10 := by unfold roomE; rw [if_pos (Or.inr (Or.inr h3))]
        rw [e]
        clear e HF hn
        generalize ((now : Nat) : Int) = nw at *
        go_enter Tryz.func97, Tryz.ntmps97
        go_wp2_with fail
        go_ret
        exact ⟨rfl, rfl⟩
      · have e : roomE now life G.length = if 40 ≤ G.length then 12 else 0 := by unfold roomE; rw [if_neg (by omega)]
        rw [e]
        clear e hn
        generalize ((now : Nat) : Int) = nw at *
        cases hd : decide (40 ≤ G.length) with
        | true =>
          rw [hd] at HF
          rw [if_pos (of_decide_eq_true hd)]
          clear hd
          go_enter Tryz.func97, Tryz.ntmps97
          go_wp2_with (go_at_call 136; refine (unhide HF).mono ?_; rintro e w1 ⟨rfl, rfl⟩)
          go_ret
          exact ⟨rfl, rfl⟩
        | false =>
          rw [hd] at HF
          rw [if_neg (of_decide_eq_false hd)]
          clear hd
          go_enter Tryz.func97, Tryz.ntmps97
          go_wp2_with (go_at_call 136; refine (unhide HF).mono ?_; rintro e w1 ⟨rfl, rfl⟩)
          go_ret
          exact ⟨rfl, rfl⟩
end
end Go.Proofs.YtkmkkmdpjliifaaGreatDoor
namespace Go.Proofs.YtkmkkmdpjliifaaGreatDoor
open Go.ChangeShapes Go.WideShapes Go.ChangeAt Go.RowKit

/-- a slice of ints, each a number from 0 on -/
def OwnN (w : World) (base : Nat) (v : Value) (l : List Nat) : Prop := Own w base v (l.map (fun x : Nat => (x : Int)))

theorem OwnN.shape {w : World} {base : Nat} {v : Value} {l : List Nat} (h : OwnN w base v l) : (v = .slice none 0 0 ∧ l = []) ∨ ∃ g cap, v = .slice (some ⟨g, 0, none⟩) l.length cap ∧ base ≤ g ∧ g < w.heap.size ∧ Cel w g 0 l.length (fun j => .int .i64 ((l.getD j 0 : Nat) : Int)) := by
  rcases Own.shape h with ⟨h1, h2⟩ | ⟨g, cap, h1, h2, h3, h4⟩
  · exact Or.inl ⟨h1, by simpa using h2⟩
  · rw [List.length_map] at h1 h4
    refine Or.inr ⟨g, cap, h1, h2, h3, h4.congr (fun j hj => ?_)⟩
    rw [List.getD_eq_getElem?_getD, List.getElem?_map, List.getElem?_eq_getElem hj, List.getD_eq_getElem?_getD, List.getElem?_eq_getElem hj]; rfl
theorem OwnN.form {w : World} {base : Nat} {v : Value} {l : List Nat} (h : OwnN w base v l) : ∃ ao cap, v = .slice ao l.length cap := by
  rcases OwnN.shape h with ⟨h1, h2⟩ | ⟨g, cap, h1, _⟩
  · exact ⟨none, 0, by rw [h1, h2]; rfl⟩
  · exact ⟨_, _, h1⟩
theorem OwnN.below {w w' : World} {base : Nat} {v : Value} {l : List Nat} (h : OwnN w base v l) (hb : Below w.heap.size w w') : OwnN w' base v l := Own.below h hb
theorem OwnN.alloc {w : World} {base : Nat} {v : Value} {l : List Nat} (h : OwnN w base v l) (o : Obj) : OwnN (w.alloc o) base v l := h.below ((Below.refl _ _).alloc (Nat.le_refl _) o)
theorem OwnN.snoc {w : World} {base : Nat} {v : Value} {l : List Nat} {x : Nat} (h : Own w base v (l.map (fun x : Nat => (x : Int)) ++ [(x : Int)])) : OwnN w base v (l ++ [x]) := by
  unfold OwnN; simpa using h
/-- is it a prime? -/
def isPr (n : Nat) : Bool := (List.range n).all (fun d => decide (d < 2) || decide (n < d * d) || !decide (n % d = 0)) && decide (1 < n)
theorem isPr_yes (n : Nat) (h1 : 1 < n) (h : ∀ d, 2 ≤ d → d * d ≤ n → ¬ n % d = 0) : isPr n = true := by
  unfold isPr
  rw [Bool.and_eq_true, List.all_eq_true, decide_eq_true_iff]
  refine ⟨fun d _ => ?_, h1⟩
  by_cases h2 : d < 2
  · simp [h2]
  · by_cases h3 : n < d * d
    · simp [h3]
    · simp [h d (by omega) (by omega)]
theorem isPr_no (n d : Nat) (h1 : 2 ≤ d) (h2 : d * d ≤ n) (h3 : n % d = 0) : isPr n = false := by
  unfold isPr
  rw [Bool.and_eq_false_iff]
  left
  rw [List.all_eq_false]
  have h4 : 2 * d ≤ d * d := Nat.mul_le_mul_right d h1
  refine ⟨d, List.mem_range.2 (by omega), ?_⟩
  simp [h3]; omega

theorem below_trans_size {B : Nat} {w w1 w2 : World} (h : Below B w w1) (h2 : Below w1.heap.size w1 w2) (hB : B ≤ w1.heap.size) : Below B w w2 := h.trans (h2.mono hB)

/-- the primes below n -/
def prs (n : Nat) : List Nat := (List.range n).filter isPr
theorem prs_succ (n : Nat) : prs (n + 1) = if isPr n then prs n ++ [n] else prs n := by
  unfold prs; rw [List.range_succ, List.filter_append]
  by_cases h : isPr n <;> simp [h]
theorem prs_mono (n m : Nat) (h : n ≤ m) : (prs n).length ≤ (prs m).length := by
  unfold prs
  rw [show m = n + (m - n) by omega, List.range_add, List.filter_append, List.length_append]; omega
theorem prs_312 : (prs 312).length = 64 := by decide +kernel
theorem prs_311 : (prs 311).length = 63 := by decide +kernel
theorem prs_le (n : Nat) : (prs n).length ≤ n := by
  unfold prs; exact Nat.le_trans (List.length_filter_le _ _) (by simp)

/-- so many times 16 bits -/
def limb (n : Nat) (k : Nat) : List Nat := (List.range k).map (fun j => n / 65536 ^ j % 65536)
theorem limb_succ (n k : Nat) : limb n (k + 1) = limb n k ++ [n / 65536 ^ k % 65536] := by simp [limb, List.range_succ]
theorem limb_length (n k : Nat) : (limb n k).length = k := by simp [limb]

/-- a number, so many times 16 bits up -/
def shl (n by_ : Nat) : List Nat := List.replicate by_ 0 ++ [n]
theorem ownN_made (w : World) (n : Nat) (hn : n ≤ 1000000) : OwnN (w.alloc (.cells (zc .i64 n) 3)) w.heap.size (.slice (some ⟨w.heap.size, 0, none⟩) n n) (List.replicate n 0) := by
  unfold OwnN Own
  refine ⟨by simp, Or.inr ⟨w.heap.size, n, zc .i64 n, by simp, Nat.le_refl _, heap_alloc_new w _, by simp, by unfold maxLen; omega, by simp [zc_size], ?_⟩⟩
  rw [List.length_map, List.length_replicate, Nat.mul_one]
  apply List.ext_getElem?
  intro i
  rcases Nat.lt_or_ge i n with h | h
  · rw [List.getElem?_take_of_lt h, Array.getElem?_toList, zc_get _ _ _ h]
    simp [h]
  · rw [List.getElem?_eq_none (by simp; omega), List.getElem?_eq_none (by simp; omega)]

end Go.Proofs.YtkmkkmdpjliifaaGreatDoor
namespace Go.Proofs.YtkmkkmdpjliifaaGreatDoor

/-- what the first n of numbers of 16 bits each come to, the lowest first -/
def V (f : Nat → Nat) : Nat → Nat
  | 0 => 0
  | n + 1 => V f n + f n * 65536 ^ n
theorem V_congr {f g : Nat → Nat} : ∀ {n : Nat}, (∀ j, j < n → f j = g j) → V f n = V g n
  | 0, _ => rfl
  | n + 1, h => by rw [V, V, V_congr (fun j hj => h j (by omega)), h n (by omega)]
theorem V_lt {f : Nat → Nat} : ∀ {n : Nat}, (∀ j, j < n → f j < 65536) → V f n < 65536 ^ n
  | 0, _ => by simp [V]
  | n + 1, h => by
    have h1 := V_lt (fun j hj => h j (by omega : j < n + 1)) (n := n)
    have h2 : f n * 65536 ^ n ≤ 65535 * 65536 ^ n := Nat.mul_le_mul_right _ (by have := h n (by omega); omega)
    rw [V, Nat.pow_succ]; omega
theorem V_upd (f : Nat → Nat) (p d : Nat) : ∀ {n : Nat}, p < n → V (fun j => if j = p then f p + d else f j) n = V f n + d * 65536 ^ p
  | 0, h => by omega
  | n + 1, h => by
    rw [V, V]
    by_cases e : p = n
    · subst e
      rw [V_congr (g := f) (fun j hj => if_neg (by omega)), if_pos rfl, Nat.add_mul]; omega
    · rw [V_upd f p d (by omega : p < n), if_neg (fun h => e h.symm)]; omega
theorem V_put (f : Nat → Nat) (p x : Nat) {n : Nat} (h : p < n) : V (fun j => if j = p then x else f j) n + f p * 65536 ^ p = V f n + x * 65536 ^ p := by
  have h1 := V_upd (fun j => if j = p then 0 else f j) p (f p) h
  have h2 := V_upd (fun j => if j = p then 0 else f j) p x h
  have e1 : V (fun j => if j = p then (if p = p then 0 else f p) + f p else if j = p then 0 else f j) n = V f n := V_congr (fun j _ => by
    by_cases e : j = p
    · subst e; simp
    · simp [e])
  have e2 : V (fun j => if j = p then (if p = p then 0 else f p) + x else if j = p then 0 else f j) n = V (fun j => if j = p then x else f j) n := V_congr (fun j _ => by
    by_cases e : j = p
    · subst e; simp
    · simp [e])
  have h1' := e1.symm.trans h1
  have h2' := e2.symm.trans h2
  omega
/-- what goes over goes to the next -/
theorem V_carry (f : Nat → Nat) (p : Nat) {n : Nat} (h : p + 1 < n) :
    V (fun j => if j = p then f p % 65536 else if j = p + 1 then f (p + 1) + f p / 65536 else f j) n = V f n := by
  have h1 := V_upd f (p + 1) (f p / 65536) h
  have h2 := V_put (fun j => if j = p + 1 then f (p + 1) + f p / 65536 else f j) p (f p % 65536) (show p < n by omega)
  rw [if_neg (show ¬ p = p + 1 by omega), h1] at h2
  have e3 : f p / 65536 * 65536 ^ (p + 1) = f p / 65536 * 65536 * 65536 ^ p := by rw [Nat.pow_succ, Nat.mul_assoc, Nat.mul_comm (65536 ^ p)]
  have e4 : f p * 65536 ^ p = f p / 65536 * 65536 * 65536 ^ p + f p % 65536 * 65536 ^ p := by rw [← Nat.add_mul]; congr 1; omega
  omega
theorem V_gt {f g : Nat → Nat} {i : Nat} : ∀ {n : Nat}, i < n → (∀ j, i < j → j < n → f j = g j) → g i < f i → (∀ j, j < i → g j < 65536) → V g n < V f n
  | 0, h, _, _, _ => by omega
  | n + 1, h, h1, h2, h3 => by
    rw [V, V]
    by_cases e : i = n
    · subst e
      have h4 := V_lt h3
      have h5 : (g i + 1) * 65536 ^ i ≤ f i * 65536 ^ i := Nat.mul_le_mul_right _ h2
      rw [Nat.add_mul] at h5
      omega
    · have h4 := V_gt (by omega : i < n) (fun j a b => h1 j a (by omega)) h2 h3
      rw [h1 n (by omega) (by omega)]; omega
theorem V_ext (f : Nat → Nat) (n : Nat) : ∀ k, V (fun j => if j < n then f j else 0) (n + k) = V f n
  | 0 => V_congr (fun j hj => if_pos hj)
  | k + 1 => by
    rw [← Nat.add_assoc, V, V_ext f n k, if_neg (by omega)]; omega
theorem V_top (f : Nat → Nat) (n : Nat) (h : V f (n + 1) < 65536 ^ (n + 1)) : f n < 65536 := by
  rw [V, Nat.pow_succ] at h
  rcases Nat.lt_or_ge (f n) 65536 with h1 | h1
  · exact h1
  · have : 65536 * 65536 ^ n ≤ f n * 65536 ^ n := Nat.mul_le_mul_right _ h1
    omega
theorem V_zero : ∀ n, V (fun _ => 0) n = 0
  | 0 => rfl
  | n + 1 => by rw [V, V_zero n]; simp
theorem V_shift (p by_ : Nat) : V (fun j => if j = by_ then p else 0) (by_ + 1) = p * 65536 ^ by_ := by
  rw [V, if_pos rfl, V_congr (g := fun _ => 0) (fun j hj => if_neg (by omega)), V_zero]; omega
theorem V_limb (n : Nat) : ∀ k, V (fun j => n / 65536 ^ j % 65536) k = n % 65536 ^ k
  | 0 => by simp [V, Nat.mod_one]
  | k + 1 => by
    rw [V, V_limb n k, Nat.pow_succ, Nat.mod_mul, Nat.mul_comm]
end Go.Proofs.YtkmkkmdpjliifaaGreatDoor
namespace Go.Proofs.YtkmkkmdpjliifaaGreatDoor
open Go.ChangeShapes Go.WideShapes Go.ChangeAt Go.RowKit

theorem dec_lt {a b : Nat} : decide ((a : Int) < (b : Int)) = decide (a < b) := by simp

end Go.Proofs.YtkmkkmdpjliifaaGreatDoor
namespace Go.Proofs.YtkmkkmdpjliifaaGreatDoor
open Go.ChangeShapes Go.WideShapes Go.ChangeAt Go.RowKit

theorem shl_get (n by_ j : Nat) (hj : j < by_ + 1) : (shl n by_).getD j 0 = if j = by_ then n else 0 := by
  unfold shl
  rw [List.getD_eq_getElem?_getD]
  by_cases e : j = by_
  · subst e; simp
  · rw [List.getElem?_append_left (by simp; omega), if_neg e, List.getElem?_replicate_of_lt (by omega)]; rfl
theorem mid_eq (lo hi : Nat) (h1 : lo ≤ hi) (h : hi ≤ 1099511627776) : wrap64 ((wrap64 ((lo : Int) + (hi : Int))).tdiv 2) = (((lo + hi) / 2 : Nat) : Int) := by
  rw [w64 ((lo : Int) + hi) (by omega) (by omega), Int.tdiv_eq_ediv_of_nonneg (by omega), w64 _ (by omega) (by omega)]; omega

end Go.Proofs.YtkmkkmdpjliifaaGreatDoor
namespace Go.Proofs.YtkmkkmdpjliifaaGreatDoor

/-- the words at first, and the 64 of the rounds -/
def hN : List Nat := [1779033703, 3144134277, 1013904242, 2773480762, 1359893119, 2600822924, 528734635, 1541459225]
def kN : List Nat := [1116352408, 1899447441, 3049323471, 3921009573, 961987163, 1508970993, 2453635748, 2870763221, 3624381080, 310598401, 607225278, 1426881987, 1925078388, 2162078206, 2614888103, 3248222580, 3835390401, 4022224774, 264347078, 604807628, 770255983, 1249150122, 1555081692, 1996064986, 2554220882, 2821834349, 2952996808, 3210313671, 3336571891, 3584528711, 113926993, 338241895, 666307205, 773529912, 1294757372, 1396182291, 1695183700, 1986661051, 2177026350, 2456956037, 2730485921, 2820302411, 3259730800, 3345764771, 3516065817, 3600352804, 4094571909, 275423344, 430227734, 506948616, 659060556, 883997877, 958139571, 1322822218, 1537002063, 1747873779, 1955562222, 2024104815, 2227730452, 2361852424, 2428436474, 2756734187, 3204031479, 3329325298]
def H0 (j : Nat) : BitVec 32 := BitVec.ofNat 32 (hN.getD j 0)
def K0 (j : Nat) : BitVec 32 := BitVec.ofNat 32 (kN.getD j 0)
/-- what stands ahead of the point of the roots -/
def q2 : List Nat := [1, 1, 2, 2, 3, 3, 4, 4]
def q3 : List Nat := [1, 1, 1, 1, 2, 2, 2, 2, 2, 3, 3, 3, 3, 3, 3, 3, 3, 3, 4, 4, 4, 4, 4, 4, 4, 4, 4, 4, 4, 4, 5, 5, 5, 5, 5, 5, 5, 5, 5, 5, 5, 5, 5, 5, 5, 5, 5, 6, 6, 6, 6, 6, 6, 6, 6, 6, 6, 6, 6, 6, 6, 6, 6, 6]
def pN : List Nat := [2, 3, 5, 7, 11, 13, 17, 19, 23, 29, 31, 37, 41, 43, 47, 53, 59, 61, 67, 71, 73, 79, 83, 89, 97, 101, 103, 107, 109, 113, 127, 131, 137, 139, 149, 151, 157, 163, 167, 173, 179, 181, 191, 193, 197, 199, 211, 223, 227, 229, 233, 239, 241, 251, 257, 263, 269, 271, 277, 281, 283, 293, 307, 311]
theorem hN_ok : ∀ j, j < 8 → (q2.getD j 0 * 4294967296 + hN.getD j 0) * (q2.getD j 0 * 4294967296 + hN.getD j 0) ≤ pN.getD j 0 * 65536 ^ 4 ∧
    pN.getD j 0 * 65536 ^ 4 < (q2.getD j 0 * 4294967296 + hN.getD j 0 + 1) * (q2.getD j 0 * 4294967296 + hN.getD j 0 + 1) ∧ hN.getD j 0 < 4294967296 := by decide +kernel
theorem kN_ok : ∀ j, j < 64 → (q3.getD j 0 * 4294967296 + kN.getD j 0) * (q3.getD j 0 * 4294967296 + kN.getD j 0) * (q3.getD j 0 * 4294967296 + kN.getD j 0) ≤ pN.getD j 0 * 65536 ^ 6 ∧
    pN.getD j 0 * 65536 ^ 6 < (q3.getD j 0 * 4294967296 + kN.getD j 0 + 1) * (q3.getD j 0 * 4294967296 + kN.getD j 0 + 1) * (q3.getD j 0 * 4294967296 + kN.getD j 0 + 1) ∧ kN.getD j 0 < 4294967296 := by decide +kernel
theorem sq_one {x y t : Nat} (h1 : x * x ≤ t) (h2 : t < (y + 1) * (y + 1)) : x ≤ y := by
  rcases Nat.lt_or_ge y x with h | h
  · have : (y + 1) * (y + 1) ≤ x * x := Nat.mul_le_mul h h
    omega
  · exact h
theorem cu_one {x y t : Nat} (h1 : x * x * x ≤ t) (h2 : t < (y + 1) * (y + 1) * (y + 1)) : x ≤ y := by
  rcases Nat.lt_or_ge y x with h | h
  · have : (y + 1) * (y + 1) * (y + 1) ≤ x * x * x := Nat.mul_le_mul (Nat.mul_le_mul h h) h
    omega
  · exact h
theorem hN_root (j x : Nat) (hj : j < 8) (h1 : x * x ≤ pN.getD j 0 * 65536 ^ 4) (h2 : pN.getD j 0 * 65536 ^ 4 < (x + 1) * (x + 1)) : x % 4294967296 = hN.getD j 0 := by
  obtain ⟨a, b, c⟩ := hN_ok j hj
  have := sq_one h1 b
  have := sq_one a h2
  omega
theorem kN_root (j x : Nat) (hj : j < 64) (h1 : x * x * x ≤ pN.getD j 0 * 65536 ^ 6) (h2 : pN.getD j 0 * 65536 ^ 6 < (x + 1) * (x + 1) * (x + 1)) : x % 4294967296 = kN.getD j 0 := by
  obtain ⟨a, b, c⟩ := kN_ok j hj
  have := cu_one h1 b
  have := cu_one a h2
  omega
theorem wi_H0 (j : Nat) (hj : j < 8) : wi (H0 j) = (hN.getD j 0 : Nat) := wi_ofNat _ (hN_ok j hj).2.2
theorem wi_K0 (j : Nat) (hj : j < 64) : wi (K0 j) = (kN.getD j 0 : Nat) := wi_ofNat _ (kN_ok j hj).2.2
theorem hN_length : hN.length = 8 := rfl
theorem kN_length : kN.length = 64 := rfl
theorem pN_lt : ∀ j, j < 64 → pN.getD j 0 < 1000 := by decide +kernel
theorem take_snocN (l : List Nat) (k : Nat) (h : k < l.length) : l.take (k + 1) = l.take k ++ [l.getD k 0] := by
  rw [List.take_succ_eq_append_getElem h, List.getD_eq_getElem?_getD, List.getElem?_eq_getElem h]; rfl
end Go.Proofs.YtkmkkmdpjliifaaGreatDoor
namespace Go.Proofs.YtkmkkmdpjliifaaGreatDoor
open Go.ChangeShapes Go.WideShapes Go.ChangeAt Go.RowKit

theorem prs_pN : prs 312 = pN := by decide +kernel
theorem Row.grown {w w' : World} {g n : Nat} {t : TypeId} {f : Nat → Value} {row : Option Nat} (h : Row w g t n f) (hg : w.grownBy w' row) (hne : some g ≠ row) : Row w' g t n f := by
  have hl := h.lt
  obtain ⟨cs, h1, h2, h3⟩ := h
  exact ⟨cs, by rw [hg.block g hl hne]; exact h1, h2, h3⟩
theorem Cel.grown {w w' : World} {g o n : Nat} {f : Nat → Value} {row : Option Nat} (h : Cel w g o n f) (hl : g < w.heap.size) (hg : w.grownBy w' row) (hne : some g ≠ row) : Cel w' g o n f := fun j hj =>
  ⟨(World.cell?_of_block (a := ⟨g, o + j, none⟩) (hg.block g hl hne)).trans (h j hj).1, (World.frozen?_of_block (a := ⟨g, o + j, none⟩) (hg.block g hl hne)).trans (h j hj).2⟩
theorem OwnN.setCell {w : World} {base : Nat} {v : Value} {l : List Nat} (h : OwnN w base v l) {a : Addr} (ha : a.block < base) (u : Value) : OwnN (w.setCell a u) base v l := ownsRow_setCell_below h ha u
theorem OwnN.form3 {w : World} {base : Nat} {v : Value} {l : List Nat} (h : OwnN w base v l) : ∃ ao n cap, v = .slice ao n cap := by
  obtain ⟨ao, cap, h⟩ := h.form; exact ⟨ao, _, cap, h⟩
/-- a pair of cells -/
def pr (a b : Value) (j : Nat) : Value := if j = 0 then a else b

/-- a result that lies in a row -/
theorem ret_row {fn : Func} {p : Tmp} {ty : TypeId} (h : fn.results = #[.cell p ty]) {a : Act} {w : World} {R : Ending → World → Prop} {g n : Nat} {t : TypeId} {f : Nat → Value} (d : TypeDesc) (hRow : Row w g t n f)
    (hp : a.tmps.getD p undef = .pointer (some ⟨g, 0, none⟩)) (hu : Tryz.prog.underlying ty = some d) (hd : (∃ fs, d = .struct fs) ∨ ∃ n e, d = .array n e)
    (hi : (Tryz.prog.info? ty).map (·.size) = some n) (hdef : a.defers = []) (hR : R (.returned (.agg (arrOf n f))) w) : bodyPost Tryz.prog fn R Exit.ret a w :=
  bodyPost_ret (v := .agg (arrOf n f)) (results_cell_row h a.tmps w g t (arrOf n f) (0, 0) d hp hRow.whole hu (by rcases hd with ⟨_, rfl⟩ | ⟨_, _, rfl⟩ <;> rfl) (by rw [arrOf_size]; exact hi)) hdef hR
theorem arrOf_eq (n : Nat) (f : Nat → Value) (cs : Array Value) (h : cs.size = n) (hc : ∀ j, j < n → cs[j]? = some (f j)) : arrOf n f = cs := by
  apply Array.ext (by rw [arrOf_size, h])
  intro i hi1 hi2
  have e1 := hc i (by omega)
  have e2 := arrOf_get n f i (by omega)
  rw [Array.getElem?_eq_getElem hi2] at e1
  rw [Array.getElem?_eq_getElem hi1] at e2
  rw [Option.some.inj e1, Option.some.inj e2]

end Go.Proofs.YtkmkkmdpjliifaaGreatDoor
namespace Go.Proofs.YtkmkkmdpjliifaaGreatDoor
open Go.ChangeShapes Go.WideShapes Go.ChangeAt Go.RowKit

theorem keep_set {w' : World} {g p j : Nat} {v a : Value} (h : w'.cell? ⟨g, j, none⟩ = some a) (hne : j ≠ p) : (w'.setCell ⟨g, p, none⟩ v).cell? ⟨g, j, none⟩ = some a := by
  rw [World.cell?_setCell_other]
  · exact h
  · intro hh; injection hh with _ h2; exact hne h2.symm
theorem add32' (a b : BitVec 32) : (wi a + wi b) % 4294967296 = wi (a + b) := add64 a b
theorem sz247 : (Tryz.prog.info? 247).map (·.size) = some 64 := by kernel_rfl
theorem sz212 : (Tryz.prog.info? 212).map (·.size) = some 8 := by kernel_rfl
theorem sz105 : (Tryz.prog.info? 105).map (·.size) = some 32 := by kernel_rfl
theorem sz188 : (Tryz.prog.info? 188).map (·.size) = some 64 := by kernel_rfl
/-- words, as an array's -/
def uf (f : Nat → BitVec 32) (j : Nat) : Value := .int .u32 (wi (f j))

set_option maxRecDepth 20000 in
set_option maxHeartbeats 1000000 in
theorem startWords_any (w : World) : Calls Tryz.prog 165 #[] w fun e w' => e = .returned (.agg (arrOf 8 (uf H0))) ∧ Below w.heap.size w w' := by
  go_enter Tryz.func165, Tryz.ntmps165
  go_wp2
  refine ret_row Tryz.results165 _ (Row.new w 212 _ (uf H0) 8 rfl (fun j hj => ?_)) rfl Tryz.underlying212 (Or.inr ⟨_, _, rfl⟩) (by kernel_rfl) rfl ⟨rfl, (Below.refl _ _).alloc (Nat.le_refl _) _⟩
  unfold uf
  rw [wi_H0 j hj]
  rcases (show j = 0 ∨ j = 1 ∨ j = 2 ∨ j = 3 ∨ j = 4 ∨ j = 5 ∨ j = 6 ∨ j = 7 by omega) with rfl | rfl | rfl | rfl | rfl | rfl | rfl | rfl <;> rfl

set_option maxRecDepth 20000 in
set_option maxHeartbeats 1000000 in
theorem spread_any (l : List UInt8) (b o cap : Nat) (w : World) (hb : b < w.heap.size) (hC : Cel w b o 64 (fun j => .int .u8 (by_ l j : Nat))) :
    Calls Tryz.prog 197 #[.slice (some ⟨b, o, none⟩) 64 cap] w fun e w' => e = .returned (.agg (arrOf 64 (uf (Wk l 48)))) ∧ Below w.heap.size w w' := by
  go_enter Tryz.func197, Tryz.ntmps197
  go_wp2
  go_loopg [6] 16 (fun q i wr => ∃ k : Nat, k + q = 16 ∧ i = .int .i64 k ∧ Row wr w.heap.size 247 64 (fun _ => .int .u32 0) ∧ Row wr (w.heap.size + 1) 247 64 (fun j => .int .u32 (if j < k then wi (wordAt l (4 * j)) else 0)) ∧ Below w.heap.size w wr)
  case atStart =>
    refine ⟨0, rfl, rfl, (Row.new w 247 (Array.replicate 64 (.int .u32 0)) _ 64 (by simp) (fun j hj => by simp [hj])).alloc _, ?_, ((Below.refl _ _).alloc (Nat.le_refl _) _).alloc (by simp) _⟩
    have h := Row.new (w.alloc (.cells (Array.replicate 64 (.int .u32 0)) 247)) 247 (Array.replicate 64 (.int .u32 0)) (fun j => .int .u32 (if j < 0 then wi (wordAt l (4 * j)) else 0)) 64 (by simp) (fun j hj => by simp [hj])
    rw [show (w.alloc (.cells (Array.replicate 64 (.int .u32 0)) 247)).heap.size = w.heap.size + 1 by simp] at h
    exact h
  case round =>
    obtain ⟨k, hk, rfl, hR0, hR, hB⟩ := hrel
    by_cases hlt : k < 16
    · have hc := hR.cell (j := k) (by omega)
      have hfz := hR.frozen k
      rw [if_neg (by omega)] at hc
      have hC' := hC.below hB hb
      have hb0 := hC'.cell (j := 4 * k) (by omega)
      have hb1 := hC'.cell (j := 4 * k + 1) (by omega)
      have hb2 := hC'.cell (j := 4 * k + 2) (by omega)
      have hb3 := hC'.cell (j := 4 * k + 3) (by omega)
      go_wp2_with fail
      go_region
      go_wp2
      go_roundg (gk - 1)
      case measure => omega
      case rel =>
        refine ⟨k + 1, by omega, by go_num, (hR0.other (by simp) _).drew, ((hR.set k _).drew).congr (fun j hj => ?_), (hB.setCell (by simp) _).drew⟩
        rw [word_or]
        by_cases e1 : j = k
        · subst e1; simp only [if_true, Nat.lt_succ_self]
        · have e2 : (j < k + 1) ↔ j < k := by omega
          simp only [e1, e2, if_false]
    · obtain rfl : k = 16 := by omega
      clear hlt
      go_wp2
      go_loopg [5] 48 (fun q i wq => ∃ n : Nat, n + q = 48 ∧ i = .int .i64 (16 + n) ∧ Row wq w.heap.size 247 64 (fun _ => .int .u32 0) ∧ Row wq (w.heap.size + 1) 247 64 (fun j => .int .u32 (if j < 16 + n then wi (Wk l n j) else 0)) ∧ Below w.heap.size w wq)
      case atStart => exact ⟨0, rfl, rfl, hR0, hR, hB⟩
      case round =>
        clear hR0 hR hB
        obtain ⟨n, hn, rfl, hR0, hR, hB⟩ := hrel
        by_cases hlt : n < 48
        · have hc := hR.cell (j := 16 + n) (by omega)
          have hfz := hR.frozen (16 + n)
          have hc16 := hR.cell (j := 16 + n - 16) (by omega)
          have hc15 := hR.cell (j := 16 + n - 15) (by omega)
          have hc7 := hR.cell (j := 16 + n - 7) (by omega)
          have hc2 := hR.cell (j := 16 + n - 2) (by omega)
          rw [if_neg (by omega)] at hc
          rw [if_pos (by omega)] at hc16 hc15 hc7 hc2
          have hc16' := hc16
          rw [show 16 + n - 16 = n by omega] at hc16'
          have hc15' := hc15
          rw [show 16 + n - 15 = n + 1 by omega] at hc15'
          have hc7' := hc7
          rw [show 16 + n - 7 = n + 9 by omega] at hc7'
          have hc2' := hc2
          rw [show 16 + n - 2 = n + 14 by omega] at hc2'
          have hw16 : IntKind.i64.wrap (16 + (n : Int) - 16) = (n : Int) := by rw [IntKind.wrap_i64]; omega
          have hw15 : IntKind.i64.wrap (16 + (n : Int) - 15) = (n : Int) + 1 := by rw [IntKind.wrap_i64]; omega
          have hw7 : IntKind.i64.wrap (16 + (n : Int) - 7) = (n : Int) + 9 := by rw [IntKind.wrap_i64]; omega
          have hw2 : IntKind.i64.wrap (16 + (n : Int) - 2) = (n : Int) + 14 := by rw [IntKind.wrap_i64]; omega
          have hi16 : (0 ≤ (n : Int) ∧ (n : Int) < 64) := by omega
          have hi15 : (0 ≤ (n : Int) + 1 ∧ (n : Int) + 1 < 64) := by omega
          have hi7 : (0 ≤ (n : Int) + 9 ∧ (n : Int) + 9 < 64) := by omega
          have hi2 : (0 ≤ (n : Int) + 14 ∧ (n : Int) + 14 < 64) := by omega
          have hi0 : (0 ≤ 16 + (n : Int) ∧ 16 + (n : Int) < 64) := by omega
          have ht15 : ((n : Int) + 1).toNat = n + 1 := by omega
          have ht7 : ((n : Int) + 9).toNat = n + 9 := by omega
          have ht2 : ((n : Int) + 14).toNat = n + 14 := by omega
          have ht0 : (16 + (n : Int)).toNat = 16 + n := by omega
          clear hc16 hc15 hc7 hc2
          go_wp2_with fail
          go_region_held3 (fun w' => w'.cell? ⟨w.heap.size + 1, n, none⟩ = some (.int .u32 (wi (Wk l n n))) ∧ w'.cell? ⟨w.heap.size + 1, n + 1, none⟩ = some (.int .u32 (wi (Wk l n (n + 1)))) ∧ w'.cell? ⟨w.heap.size + 1, n + 9, none⟩ = some (.int .u32 (wi (Wk l n (n + 9)))) ∧ w'.cell? ⟨w.heap.size + 1, n + 14, none⟩ = some (.int .u32 (wi (Wk l n (n + 14))))) (first | go_keep | (refine ⟨keep_set (by simp [*]) (by omega), keep_set (by simp [*]) (by omega), keep_set (by simp [*]) (by omega), keep_set (by simp [*]) (by omega)⟩))
            (first | (go_at_call_of 218 (7 : Int); refine (shift7 _ _).mono ?_; rintro e w' ⟨rfl, nq, rfl⟩) | (go_at_call_of 218 (17 : Int); refine (shift17 _ _).mono ?_; rintro e w' ⟨rfl, nq2, rfl⟩))
          go_wp2
          go_roundg (gk - 1)
          case measure => omega
          case rel =>
            refine ⟨n + 1, by omega, by go_num, (hR0.other (by simp) _).drewN _, ((hR.set (16 + n) _).drewN _).congr (fun j hj => ?_), below_drewN' (hB.setCell (by simp) _) _⟩
            rw [add32', add32', add32']
            by_cases e1 : j = 16 + n
            · rw [if_pos e1, if_pos (by omega)]
              subst e1
              show _ = Value.int .u32 (wi (if 16 + n = 16 + n then wext (Wk l n) (16 + n) else Wk l n (16 + n)))
              rw [if_pos rfl]
              unfold wext
              rw [show 16 + n - 16 = n by omega, show 16 + n - 15 = n + 1 by omega, show 16 + n - 7 = n + 9 by omega, show 16 + n - 2 = n + 14 by omega]
            · have e2 : (j < 16 + (n + 1)) ↔ j < 16 + n := by omega
              rw [if_neg e1]
              simp only [e2]
              show _ = Value.int .u32 (if _ then wi (if j = 16 + n then wext (Wk l n) j else Wk l n j) else 0)
              rw [if_neg e1]
        · obtain rfl : n = 48 := by omega
          clear hlt
          have hR' : Row wr (w.heap.size + 1) 247 64 (uf (Wk l 48)) := hR.congr (fun j hj => by rw [if_pos (by omega)]; rfl)
          clear hR
          go_wp2_with (first | (refine ldRow rfl 247 _ rfl rfl hR' Tryz.underlying247 sz247 ?_) | (refine stRow rfl 247 _ _ rfl rfl rfl hR0 sz247 (fun _ _ => rfl) ?_; intro w2 hR2 hg2))
          refine ret_row Tryz.results197 _ hR2 rfl Tryz.underlying247 (Or.inr ⟨_, _, rfl⟩) sz247 rfl ⟨rfl, ?_⟩
          exact hB.grown hg2 hB.size (fun k hk => by cases hk; exact Nat.le_refl _)
end Go.Proofs.YtkmkkmdpjliifaaGreatDoor
namespace Go.Proofs.YtkmkkmdpjliifaaGreatDoor
open Go.RowKit

/-- n cells of block g from o on, to be read; f tells what they hold. -/
def Rk (w : World) (g o n : Nat) (f : Nat → Value) : Prop := ∀ j, j < n → w.cell? ⟨g, o + j, none⟩ = some (f j)
section
variable {w w' : World} {g o n : Nat} {f : Nat → Value}
theorem Rk.cell0 (h : Rk w g 0 n f) {j : Nat} (hj : j < n) : w.cell? ⟨g, j, none⟩ = some (f j) := by have := h j hj; rwa [Nat.zero_add] at this
theorem Rk.below {B : Nat} (h : Rk w g o n f) (hb : Below B w w') (hg : g < B) : Rk w' g o n f := fun j hj => (hb.cell (p := ⟨g, o + j, none⟩) hg).trans (h j hj)
theorem Rk.alloc (h : Rk w g o n f) (hg : g < w.heap.size) (ob : Obj) : Rk (w.alloc ob) g o n f := h.below ((Below.refl w.heap.size w).alloc (Nat.le_refl _) ob) hg
theorem Rk.grown {row : Option Nat} (h : Rk w g o n f) (hl : g < w.heap.size) (hg : w.grownBy w' row) (hne : some g ≠ row) : Rk w' g o n f := fun j hj =>
  (World.cell?_of_block (a := ⟨g, o + j, none⟩) (hg.block g hl hne)).trans (h j hj)
end
end Go.Proofs.YtkmkkmdpjliifaaGreatDoor
