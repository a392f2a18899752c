import Derived.Test.YtkmkkmdpjliifaaGreatDoorSvU
import Derived.LaidEqlPtr
namespace Go.Proofs.YtkmkkmdpjliifaaGreatDoor
open Go.ChangeShapes Go.WideShapes Go.ChangeAt Go.RowKit

set_option maxRecDepth 20000 in
set_option maxHeartbeats 2000000 in
/-- what Look does with a token that is taken -/
theorem lookT_any (i : Nat) (v : Value) (g h : Nat) (f : Nat → Value) (w : World) (s R O now : Nat) (vk vs vg : Value) (ks : List Ky) (cs : List Cl) (Qs : List Nat) (G : List Gt) (hS : Sv w s R O now vk vs vg ks cs Qs G) (hi : i < G.length) (hg : Row w g 60 6 f) (hh : Row w h 4 1 (fun _ => .bool false)) (hgh : g ≠ h) :
    Calls Tryz.prog 70 #[v, .pointer (some ⟨(G.getD i default).b, 0, none⟩), .pointer (some ⟨g, 0, none⟩), .pointer (some ⟨h, 0, none⟩)] w fun e w' => ∃ p' w1, e = .returned (.int .i64 0) ∧ CzN w1 (New w w1) (G.getD i default).c.z p' ∧ Below w.heap.size w w1 ∧ w' = (st6 w1 g (G.getD i default).c.z p').setCell ⟨h, 0, none⟩ (.bool true) := by
  have HCl := hide (Claims_any i w s R O now vk vs vg ks cs Qs G hS hi)
  clear hS hi
  generalize G.getD i default = gi at *
  have hgl := hg.lt
  have hhl := hh.lt
  go_enter Tryz.func70, Tryz.ntmps70
  go_wp2_with fail
  refine (unhide HCl).mono ?_
  rintro e w1 ⟨p', rfl, hN, hb⟩
  have hg1 := hg.below hb hgl
  have hh1 := hh.below hb hhl
  have HN := hide (And.intro hN hb)
  clear hN hb hg hh HCl
  have s0 : w1.cell? ⟨g, 0, none⟩ = some (f 0) := hg1.cell (by decide)
  have s1 : w1.cell? ⟨g, 1, none⟩ = some (f 1) := hg1.cell (by decide)
  have s2 : w1.cell? ⟨g, 2, none⟩ = some (f 2) := hg1.cell (by decide)
  have s3 : w1.cell? ⟨g, 3, none⟩ = some (f 3) := hg1.cell (by decide)
  have s4 : w1.cell? ⟨g, 4, none⟩ = some (f 4) := hg1.cell (by decide)
  have s5 : w1.cell? ⟨g, 5, none⟩ = some (f 5) := hg1.cell (by decide)
  have z0 := hg1.frozen 0
  have z1 := hg1.frozen 1
  have z2 := hg1.frozen 2
  have z3 := hg1.frozen 3
  have z4 := hg1.frozen 4
  have z5 := hg1.frozen 5
  have y0 : w1.cell? ⟨h, 0, none⟩ = some (.bool false) := hh1.cell (by decide)
  have x0 := hh1.frozen 0
  clear hg1 hh1
  unfold czA
  go_wp2_with fail
  go_ret
  exact ⟨p', w1, rfl, (unhide HN).1, (unhide HN).2, rfl⟩

/-- which grant Look tells, and what it answers -/
def lookS (ks : List Ky) (cs : List Cl) (G : List Gt) (now : Nat) (n sec t : List UInt8) : Option Nat × Int :=
  match loginK cs n sec with
  | none => (none, 5)
  | some _ => ((takeS ks G now t).1, 0)
def lookC (G : List Gt) : Option Nat → Cz
  | none => cz0
  | some i => (G.getD i default).c.z
theorem CzN.none (w : World) (N : Nat → Prop) : CzN w N cz0 pl0 := by
  constructor
  all_goals exact ⟨Option.none, 0, rfl, Nat.le_refl _, fun h => absurd h (Nat.not_lt_zero _)⟩
theorem oneR {f g : Nat → Value} (h : f 0 = g 0) : ∀ j, j < 1 → f j = g j := fun j hj => by
  have : j = 0 := by omega
  rw [this, h]
theorem oneS {f : Nat → Option Value} {v : Value} (h : f 0 = some v) : ∀ j, j < 1 → f j = some v := fun j hj => by
  have : j = 0 := by omega
  rw [this, h]
theorem results_cell_tmps {fn : Func} {p u x : Tmp} {ty : TypeId} (h : fn.results = #[.cell p ty, .tmp u, .tmp x]) (tmps : Array Value) (P : Program) (w : World) :
    (results fn tmps).run P w =
      ((asAddr (tmps.getD p undef)).run P w).andThen fun a w₁ => ((loadVar ty a).run P w₁).andThen fun v w₂ => .ok (.tuple #[v, tmps.getD u undef, tmps.getD x undef]) w₂ := by
  simp only [results, h]
  simp [Sem.run_bind, Result.andThen]
theorem ret_look {fn : Func} {q u x : Tmp} (h : fn.results = #[.cell q 60, .tmp u, .tmp x]) {a : Act} {w : World} {R : Ending → World → Prop} {g : Nat} {c : Cz} {p : Pl} (hRow : Row w g 60 6 (czF c p))
    (hp : a.tmps.getD q undef = .pointer (some ⟨g, 0, none⟩)) (hdef : a.defers = []) (hR : R (.returned (.tuple #[.agg (czA c p), a.tmps.getD u undef, a.tmps.getD x undef])) w) : bodyPost Tryz.prog fn R Exit.ret a w := by
  refine bodyPost_ret (v := .tuple #[.agg (czA c p), a.tmps.getD u undef, a.tmps.getD x undef]) ?_ hdef hR
  have hl := run_loadVar_row (P := Tryz.prog) w g 60 60 (arrOf 6 (czF c p)) (0, 0) _ hRow.whole Tryz.underlying60 rfl (by rw [arrOf_size]; kernel_rfl)
  rw [arr6] at hl
  rw [results_cell_tmps h, hp]
  simp [asAddr, hl, Result.andThen]

set_option maxRecDepth 20000 in
set_option maxHeartbeats 2000000 in
theorem Look_any (n sec t : List UInt8) (w : World) (s R O now : Nat) (vk vs vg : Value) (ks : List Ky) (cs : List Cl) (Qs : List Nat) (G : List Gt) (hS : Sv w s R O now vk vs vg ks cs Qs G) (hT : Tb s w) (hm : MX w) (h4 : 4 < s) (ht : t.length ≤ 1048576) :
    Calls Tryz.prog 32 #[.pointer (some ⟨s, 0, none⟩), .agg #[.string ⟨n.toArray⟩, .string ⟨sec.toArray⟩], .string ⟨t.toArray⟩] w fun e w' => ∃ p', e = .returned (.tuple #[.agg (czA (lookC G (lookS ks cs G now n sec t).1) p'), .bool (lookS ks cs G now n sec t).1.isSome, .int .i64 (lookS ks cs G now n sec t).2]) ∧ CzN w' (New w w') (lookC G (lookS ks cs G now n sec t).1) p' ∧ Below w.heap.size w w' := by
  have hsl := hS.lt
  obtain ⟨w0, hw0⟩ : ∃ w0, w0 = w.alloc (.cells #[.string ⟨n.toArray⟩, .string ⟨sec.toArray⟩] 81) := ⟨_, rfl⟩
  have hb0 : Below w.heap.size w w0 := by rw [hw0]; exact (Below.refl _ _).alloc (Nat.le_refl _) _
  have hs0 : w0.heap.size = w.heap.size + 1 := by rw [hw0]; simp
  have g0 : w0.cell? ⟨w.heap.size, 0, none⟩ = some (.string ⟨n.toArray⟩) := by rw [hw0]; simp
  have g1 : w0.cell? ⟨w.heap.size, 1, none⟩ = some (.string ⟨sec.toArray⟩) := by rw [hw0]; simp
  obtain ⟨w1, hw1⟩ : ∃ w1, w1 = w0.alloc (.cells #[.int .i64 0, .string ⟨#[]⟩, .slice none 0 0, .slice none 0 0, .slice none 0 0, .int .i64 0] 60) := ⟨_, rfl⟩
  have hb1 : Below w0.heap.size w0 w1 := by rw [hw1]; exact (Below.refl _ _).alloc (Nat.le_refl _) _
  have hs1 : w1.heap.size = w.heap.size + 2 := by rw [hw1]; simp [hs0]
  have hR1 : Row w1 (w.heap.size + 1) 60 6 (czF cz0 pl0) := by rw [hw1, ← hs0]; exact Row.new w0 60 _ _ 6 rfl (six rfl rfl rfl rfl rfl rfl)
  obtain ⟨w2, hw2⟩ : ∃ w2, w2 = w1.alloc (.cells #[.int .i64 0, .string ⟨#[]⟩, .slice none 0 0, .slice none 0 0, .slice none 0 0, .int .i64 0] 60) := ⟨_, rfl⟩
  have hb2 : Below w1.heap.size w1 w2 := by rw [hw2]; exact (Below.refl _ _).alloc (Nat.le_refl _) _
  have hs2 : w2.heap.size = w.heap.size + 3 := by rw [hw2]; simp [hs1]
  have hR2 : Row w2 (w.heap.size + 2) 60 6 (czF cz0 pl0) := by rw [hw2, ← hs1]; exact Row.new w1 60 _ _ 6 rfl (six rfl rfl rfl rfl rfl rfl)
  obtain ⟨w3, hw3⟩ : ∃ w3, w3 = w2.alloc (.cells #[.bool false] 4) := ⟨_, rfl⟩
  have hb3 : Below w2.heap.size w2 w3 := by rw [hw3]; exact (Below.refl _ _).alloc (Nat.le_refl _) _
  have hs3 : w3.heap.size = w.heap.size + 4 := by rw [hw3]; simp [hs2]
  have hR3 : Row w3 (w.heap.size + 3) 4 1 (fun _ => .bool false) := by rw [hw3, ← hs2]; exact Row.new w2 4 _ _ 1 rfl (fun j hj => oneS rfl j hj)
  have hB3 : Below w.heap.size w w3 := ((hb0.trans (hb1.mono (by omega))).trans (hb2.mono (by omega))).trans (hb3.mono (by omega))
  have k1 : Row w3 (w.heap.size + 1) 60 6 (czF cz0 pl0) := (hR1.below hb2 (by omega)).below hb3 (by omega)
  have k2 : Row w3 (w.heap.size + 2) 60 6 (czF cz0 pl0) := hR2.below hb3 (by omega)
  have c0 : w3.cell? ⟨w.heap.size, 0, none⟩ = some (.string ⟨n.toArray⟩) := by rw [hb3.cell (by show w.heap.size < w2.heap.size; omega), hb2.cell (by show w.heap.size < w1.heap.size; omega), hb1.cell (by show w.heap.size < w0.heap.size; omega)]; exact g0
  have c1 : w3.cell? ⟨w.heap.size, 1, none⟩ = some (.string ⟨sec.toArray⟩) := by rw [hb3.cell (by show w.heap.size < w2.heap.size; omega), hb2.cell (by show w.heap.size < w1.heap.size; omega), hb1.cell (by show w.heap.size < w0.heap.size; omega)]; exact g1
  have hS3 := hS.below hB3
  obtain ⟨L, hL⟩ : ∃ L, L = lookS ks cs G now n sec t := ⟨_, rfl⟩
  have hRun := run_any 70 72 #[.pointer (some ⟨w.heap.size + 2, 0, none⟩), .pointer (some ⟨w.heap.size + 3, 0, none⟩)] #[] n sec t w3 s R O now vk vs vg ks cs Qs G
    (fun e w' => ∃ p', e = .returned (.int .i64 L.2) ∧ Row w' (w.heap.size + 1) 60 6 (czF cz0 pl0) ∧ Row w' (w.heap.size + 2) 60 6 (czF (lookC G L.1) p') ∧ Row w' (w.heap.size + 3) 4 1 (fun _ => .bool L.1.isSome) ∧ CzN w' (New w3 w') (lookC G L.1) p' ∧ Below w.heap.size w w')
    Tryz.call70 Tryz.call72 (fun e w' ⟨p', h, _⟩ => ⟨_, h⟩) hS3 (hT.below (hB3.mono (Nat.le_of_lt hsl))) (hm.below (show 4 < w.heap.size by omega) hB3) h4 ht
    (fun hl w' hb => by
      have e : L = (none, 5) := by rw [hL]; unfold lookS; rw [hl]
      rw [e]
      exact ⟨pl0, rfl, k1.below hb (by omega), k2.below hb (by omega), hR3.below hb (by omega), CzN.none _ _, hB3.trans (hb.mono (by omega))⟩)
    (fun m hl hz w' hb => by
      have e : L = (none, 0) := by rw [hL]; unfold lookS; rw [hl]; dsimp only; rw [takeS_none hz]
      rw [e]
      have h1 := k1.below hb (by omega)
      have h2 := k2.below hb (by omega)
      have h3 := hR3.below hb (by omega)
      generalize (takeS ks G now t).2 = oe
      have HB := hide (And.intro h1 (And.intro h2 (And.intro h3 (hB3.trans (hb.mono (by omega))))))
      clear h1 h2 h3 k1 k2 hR3 c0 c1 g0 g1 hR1 hR2 e hw0 hw1 hw2 hw3
      go_enter Tryz.func72, Tryz.ntmps72
      go_wp2_with fail
      go_ret
      have hh := unhide HB
      exact ⟨pl0, rfl, hh.1, hh.2.1, hh.2.2.1, CzN.none _ _, hh.2.2.2⟩)
    (fun m q i hl hq htk hi hal w' hb => by
      have e : L = (some i, 0) := by rw [hL]; unfold lookS; rw [hl]; dsimp only; rw [htk]
      rw [e]
      refine (lookT_any i (.pointer (some ⟨q, 0, none⟩)) (w.heap.size + 2) (w.heap.size + 3) (czF cz0 pl0) w' s R O now vk vs vg ks cs Qs G (hS3.below hb) hi (k2.below hb (by omega)) (hR3.below hb (by omega)) (by omega)).mono ?_
      rintro e w'' ⟨p', w4, rfl, hN, hb4, rfl⟩
      have hs' := hb.size
      have hs4 := hb4.size
      have h1 := (k1.below hb (by omega)).below hb4 (by omega)
      have h2 := (k2.below hb (by omega)).below hb4 (by omega)
      have h3 := (hR3.below hb (by omega)).below hb4 (by omega)
      have b6 := st6_but w4 (w.heap.size + 2) (G.getD i default).c.z p'
      generalize hw5 : st6 w4 (w.heap.size + 2) (G.getD i default).c.z p' = w5 at *
      have r2 : Row w5 (w.heap.size + 2) 60 6 (czF (G.getD i default).c.z p') := by rw [← hw5]; exact st6_row h2 _ _
      have b7 : But (w.heap.size + 3) w5 (w5.setCell ⟨w.heap.size + 3, 0, none⟩ (.bool true)) := (But.refl _ _).setCell 0 _
      have hs5 : w5.heap.size = w4.heap.size := b6.size
      refine ⟨p', rfl, (h1.but b6 (by omega)).but b7 (by omega), r2.but b7 (by omega), ((h3.but b6 (by omega)).set 0 _).congr (oneR rfl), ?_, ?_⟩
      · refine hN.keep (fun k hk => ⟨?_, ?_⟩)
        · obtain ⟨hk1, hk2⟩ := hk
          rw [b7.block k (by omega), b6.block k (by omega)]
        · obtain ⟨hk1, hk2⟩ := hk
          refine ⟨by omega, ?_⟩
          rw [b7.size]
          omega
      · exact ((hB3.trans (hb.mono (by omega))).trans (hb4.mono (by omega))).trans ((b6.below (by omega)).trans (b7.below (by omega))))
  have HRun := hide hRun
  have HW0 := hide hw0
  have HW1 := hide hw1
  have HW2 := hide hw2
  have HW3 := hide hw3
  rw [← hL]
  clear hRun hS hT hm h4 ht hS3 k1 k2 hR1 hR2 hR3 hb0 hb1 hb2 hb3 hB3 hw0 hw1 hw2 hw3 g0 g1 hL hsl
  go_enter Tryz.func32, Tryz.ntmps32
  go_wp2_with fail
  rw [← unhide HW0, ← unhide HW1, ← unhide HW2, ← unhide HW3]
  rw [show w.heap.size + 1 + 1 = w.heap.size + 2 from rfl, show w.heap.size + 2 + 1 = w.heap.size + 3 from rfl]
  refine (unhide HRun).mono ?_
  rintro e w4 ⟨p', rfl, k1, k2, k3, hN, hB⟩
  have HK1 := hide k1
  have HN : Hid (CzN w4 (New w3 w4) (lookC G L.fst) p' ∧ Below w.heap.size w w4) := hide ⟨hN, hB⟩
  clear HRun HW0 HW1 HW2 HW3 hN hB c0 c1
  generalize hbb1 : w.heap.size + 1 = b1 at *
  generalize hbb2 : w.heap.size + 2 = b2 at *
  generalize hbb3 : w.heap.size + 3 = b3 at *
  have n12 : b1 ≠ b2 := by omega
  have n13 : b1 ≠ b3 := by omega
  have n21 : b2 ≠ b1 := by omega
  have n31 : b3 ≠ b1 := by omega
  have HBB := hide (And.intro hbb1 (And.intro hbb2 (And.intro hbb3 hs3)))
  clear hbb1 hbb2 hbb3 hs0 hs1 hs2 hs3
  generalize hc : lookC G L.fst = c at *
  have HC := hide hc
  clear hc
  have s0 : w4.cell? ⟨b1, 0, none⟩ = some (.int .i64 0) := k1.cell (by decide)
  have s1 : w4.cell? ⟨b1, 1, none⟩ = some (.string ⟨#[]⟩) := k1.cell (by decide)
  have s2 : w4.cell? ⟨b1, 2, none⟩ = some (.slice none 0 0) := k1.cell (by decide)
  have s3 : w4.cell? ⟨b1, 3, none⟩ = some (.slice none 0 0) := k1.cell (by decide)
  have s4 : w4.cell? ⟨b1, 4, none⟩ = some (.slice none 0 0) := k1.cell (by decide)
  have s5 : w4.cell? ⟨b1, 5, none⟩ = some (.int .i64 0) := k1.cell (by decide)
  have z0 := k1.frozen 0
  have z1 := k1.frozen 1
  have z2 := k1.frozen 2
  have z3 := k1.frozen 3
  have z4 := k1.frozen 4
  have z5 := k1.frozen 5
  have t0 : w4.cell? ⟨b2, 0, none⟩ = some (.int .i64 c.id) := k2.cell (by decide)
  have t1 : w4.cell? ⟨b2, 1, none⟩ = some (.string ⟨c.sub.toArray⟩) := k2.cell (by decide)
  have t2 : w4.cell? ⟨b2, 2, none⟩ = some (.slice p'.a2 c.scp.length p'.c2) := k2.cell (by decide)
  have t3 : w4.cell? ⟨b2, 3, none⟩ = some (.slice p'.a3 c.aud.length p'.c3) := k2.cell (by decide)
  have t4 : w4.cell? ⟨b2, 4, none⟩ = some (.slice p'.a4 c.act.length p'.c4) := k2.cell (by decide)
  have t5 : w4.cell? ⟨b2, 5, none⟩ = some (.int .i64 c.exp) := k2.cell (by decide)
  have u0 : w4.cell? ⟨b3, 0, none⟩ = some (.bool L.1.isSome) := k3.cell (by decide)
  clear k1 k2 k3
  go_wp2_with fail
  have hrow : Row (st6 w4 b1 c p').drew b1 60 6 (czF c p') := (st6_row (unhide HK1) c p').below (Below.refl _ _).drew (st6_row (unhide HK1) c p').lt
  have hfin : CzN (st6 w4 b1 c p').drew (New w (st6 w4 b1 c p').drew) c p' ∧ Below w.heap.size w (st6 w4 b1 c p').drew := by
    obtain ⟨h1, h2, hh3, h3⟩ := unhide HBB
    have b6 := (st6_but w4 b1 c p').drew
    generalize (st6 w4 b1 c p').drew = w5 at b6 ⊢
    exact ⟨(unhide HN).1.keep (fun k hk => ⟨b6.block k (by have := hk.1; omega), by have := hk.1; omega, Nat.lt_of_lt_of_eq hk.2 b6.size.symm⟩), (unhide HN).2.trans (b6.below (by omega))⟩
  have HR := hide hrow
  have HF := hide hfin
  clear hrow hfin HN HBB HK1
  go_region
  go_wp2_with fail
  refine ret_look Tryz.results32 (unhide HR) rfl rfl ?_
  exact ⟨p', by rw [unhide HC]; rfl, by rw [unhide HC]; exact (unhide HF).1, (unhide HF).2⟩

end Go.Proofs.YtkmkkmdpjliifaaGreatDoor
namespace Go.Proofs.YtkmkkmdpjliifaaGreatDoor
open Go.ChangeShapes Go.WideShapes Go.ChangeAt Go.RowKit

/-- does a client hold a grant, or one that it came of? (with so many steps at most) -/
def lineF (G : List Gt) (m : Nat) : Nat → Option Nat → Bool
  | _, none => false
  | 0, some _ => false
  | f + 1, some i => decide ((G.getD i default).h = m) || lineF G m f (G.getD i default).p
def lineG (G : List Gt) (m : Nat) (o : Option Nat) : Bool := lineF G m (match o with | none => 0 | some i => i + 1) o
theorem lineF_more {G : List Gt} {m : Nat} (hp : ∀ i, i < G.length → ∀ k, (G.getD i default).p = some k → k < i) : ∀ (f i : Nat), i < G.length → i < f → lineF G m f (some i) = lineG G m (some i)
  | 0, i, _, h => by omega
  | f + 1, i, hi, h => by
    unfold lineG
    show lineF G m (f + 1) (some i) = lineF G m (i + 1) (some i)
    unfold lineF
    cases hpi : (G.getD i default).p with
    | none => cases f <;> cases i <;> rfl
    | some k =>
      have hk := hp i hi k hpi
      rw [lineF_more hp f k (by omega) (by omega), lineF_more hp i k (by omega) hk]
theorem lineG_step {G : List Gt} {m : Nat} (hp : ∀ i, i < G.length → ∀ k, (G.getD i default).p = some k → k < i) {i : Nat} (hi : i < G.length) :
    lineG G m (some i) = (decide ((G.getD i default).h = m) || lineG G m (G.getD i default).p) := by
  show lineF G m (i + 1) (some i) = _
  unfold lineF
  cases hpi : (G.getD i default).p with
  | none => cases i <;> rfl
  | some k => rw [lineF_more hp i k (by have := hp i hi k hpi; omega) (hp i hi k hpi)]
theorem qs_at {Qs : List Nat} {k : Nat} (h : k < Qs.length) : Qs[k]? = some (Qs.getD k 0) := by simp [List.getD, h]
/-- clients lie apart -/
theorem Sb.inj {w : World} {s R O : Nat} {vk vs : Value} {ks : List Ky} {cs : List Cl} {Qs : List Nat} (h : Sb w s R O vk vs ks cs Qs) {j k q : Nat} (hj : Qs[j]? = some q) (hk : Qs[k]? = some q) : j = k := by
  have key : ∀ a b : Nat, a < b → Qs[a]? = some q → Qs[b]? = some q → False := fun a b hab ha hb => by
    have n1 := (h.cli a q ha).name
    have n2 := (h.cli b q hb).name
    rw [n1] at n2
    injection n2 with n2
    injection n2 with n2
    have n3 : (cs.getD a default).name = (cs.getD b default).name := by
      have := congrArg (fun x : ByteArray => x.data.toList) n2
      simpa using this
    have hbl : b < cs.length := by
      rcases Nat.lt_or_ge b Qs.length with hx | hx
      · rw [← h.len]; exact hx
      · rw [List.getElem?_eq_none hx] at hb; cases hb
    have hcb := h.cb
    unfold clientsB at hcb
    simp only [Bool.and_eq_true, List.all_eq_true] at hcb
    have h1 := hcb.1 b (List.mem_range.2 hbl)
    unfold clOk at h1
    simp only [Bool.and_eq_true, List.all_eq_true] at h1
    have h2 := h1.2 a (List.mem_range.2 hab)
    unfold clName at h2
    rw [n3] at h2
    simp at h2
  rcases Nat.lt_trichotomy j k with hx | hx | hx
  · exact (key j k hx hj hk).elim
  · exact hx
  · exact (key k j hx hk hj).elim
theorem Sv.holder {w : World} {s R O now : Nat} {vk vs vg : Value} {ks : List Ky} {cs : List Cl} {Qs : List Nat} {G : List Gt} (h : Sv w s R O now vk vs vg ks cs Qs G) {i m q : Nat} (hi : i < G.length) (hq : Qs[m]? = some q) : (Qs.getD (G.getD i default).h 0 = q) ↔ (G.getD i default).h = m := by
  have hl := h.hl i hi
  have hg := qs_at (Qs := Qs) (k := (G.getD i default).h) (by rw [h.sb.len]; exact hl)
  constructor
  · intro e
    rw [e] at hg
    exact h.sb.inj hg hq
  · intro e
    rw [e, List.getD_eq_getElem?_getD, hq]
    rfl

theorem info152s : ∃ j, Tryz.prog.info? 152 = some j ∧ j.size ≠ 0 := by
  have h : (Tryz.prog.info? 152).map (fun i => i.size) = some 5 := by kernel_rfl
  cases hi : Tryz.prog.info? 152 with
  | none => rw [hi] at h; cases h
  | some j =>
    rw [hi] at h
    have h5 : j.size = 5 := by simpa using h
    exact ⟨j, rfl, by omega⟩
/-- two clients are the same, if their blocks are -/
theorem eqCli {w : World} {s R O : Nat} {vk vs : Value} {ks : List Ky} {cs : List Cl} {Qs : List Nat} (h : Sb w s R O vk vs ks cs Qs) {a b qa qb : Nat} (ha : Qs[a]? = some qa) (hb : Qs[b]? = some qb) :
    (binOp .eql 120 (.pointer (some ⟨qa, 0, none⟩)) (.pointer (some ⟨qb, 0, none⟩))).run Tryz.prog w = .ok (.bool (decide (qa = qb))) w := by
  obtain ⟨j, hj, hs⟩ := info152s
  have hp : Tryz.prog.underlying 120 = some (.pointer 152) := by kernel_rfl
  by_cases e : qa = qb
  · subst e
    rw [run_eql_ptr_same (P := Tryz.prog) w _ hp hj, decide_eq_true rfl]
  · obtain ⟨_, _, _, _, _, _, _, _, ca, h1⟩ := h.cli a qa ha
    obtain ⟨_, _, _, _, _, _, _, _, cb, h2⟩ := h.cli b qb hb
    rw [run_eql_ptr_other (P := Tryz.prog) w hp hj hs (fun x => e (by injection x)) h1 h2, decide_eq_false e]

set_option maxRecDepth 20000 in
set_option maxHeartbeats 1000000 in
theorem HasInLine_any (i0 m q : Nat) (w : World) (s R O now : Nat) (vk vs vg : Value) (ks : List Ky) (cs : List Cl) (Qs : List Nat) (G : List Gt) (hS : Sv w s R O now vk vs vg ks cs Qs G) (hi0 : i0 < G.length) (hq : Qs[m]? = some q) :
    Calls Tryz.prog 106 #[.pointer (some ⟨(G.getD i0 default).b, 0, none⟩), .pointer (some ⟨q, 0, none⟩)] w fun e w' => e = .returned (.bool (lineG G m (some i0))) ∧ w' = w := by
  have HS := hide hS
  have HI0 := hide hi0
  have HQ := hide hq
  generalize hb0 : (G.getD i0 default).b = b0
  have HB0 := hide hb0
  clear hS hi0 hb0 hq
  go_enter Tryz.func106, Tryz.ntmps106
  go_wp2_with fail
  go_loopg [5] (i0 + 1) (fun qq x wr => ∃ o : Option Nat, x = .pointer (o.map fun i => ⟨(G.getD i default).b, 0, none⟩) ∧ (∀ i, o = some i → i < G.length ∧ i < qq) ∧ lineG G m (some i0) = lineG G m o ∧ wr = w)
  case atStart => exact ⟨some i0, by rw [Option.map_some, unhide HB0], fun i h => by cases h; exact ⟨unhide HI0, Nat.lt_succ_self _⟩, rfl, rfl⟩
  case round =>
    obtain ⟨o, rfl, ho, ha, rfl⟩ := hrel
    have HA := hide ha
    clear ha
    cases o with
    | none =>
      go_wp2_with fail
      go_ret
      exact ⟨ret_bool (by rw [unhide HA]; rfl), rfl⟩
    | some i =>
      obtain ⟨hil, hiq⟩ := ho i rfl
      have hgr := (unhide HS).gr i hil
      have hst := lineG_step (m := m) (unhide HS).pr hil
      have hpr := (unhide HS).pr i hil
      have hhl := (unhide HS).hl i hil
      have hhh := (unhide HS).holder hil (unhide HQ)
      have hg := qs_at (Qs := Qs) (k := (G.getD i default).h) (by rw [(unhide HS).sb.len]; exact hhl)
      have heq := eqCli (unhide HS).sb hg (unhide HQ)
      clear ho hhl hg
      generalize hgg : G.getD i default = g at *
      generalize hqh : Qs.getD g.h 0 = qh at *
      have q0 : wr.cell? ⟨g.b, 0, none⟩ = some (.pointer (some ⟨qh, 0, none⟩)) := hgr.cell (by decide)
      have q1 : wr.cell? ⟨g.b, 1, none⟩ = some (.pointer ((g.p.map fun k => (G.getD k default).b).map fun b => ⟨b, 0, none⟩)) := hgr.cell (by decide)
      have hmm : ((g.p.map fun k => (G.getD k default).b).map fun b => (⟨b, 0, none⟩ : Addr)) = g.p.map fun k => ⟨(G.getD k default).b, 0, none⟩ := by rw [Option.map_map]; rfl
      rw [hmm] at q1
      have HST := hide hst
      have HPR := hide hpr
      have HGG := hide hgg
      have HIL := hide hil
      have HHH := hide hhh
      clear hgr hst hpr hmm hgg hil hhh hqh
      have hpo : (Option.map (fun i => (⟨(G.getD i default).b, 0, none⟩ : Addr)) (some i)) = some ⟨g.b, 0, none⟩ := by rw [Option.map_some, unhide HGG]
      rw [hpo]
      clear hpo
      generalize hpp : (g.p.map fun k => (⟨(G.getD k default).b, 0, none⟩ : Addr)) = pq at q1
      have HPP := hide hpp
      clear hpp
      by_cases hx : qh = q
      · rw [decide_eq_true hx] at heq
        have hfin : lineG G m (some i0) = true := by rw [unhide HA, unhide HST, decide_eq_true ((unhide HHH).1 hx)]; rfl
        have HFin := hide hfin
        clear hfin hx
        go_wp2_with fail
        go_ret
        exact ⟨ret_bool (unhide HFin).symm, rfl⟩
      · rw [decide_eq_false hx] at heq
        have hnx : lineG G m (some i0) = lineG G m g.p := by rw [unhide HA, unhide HST, decide_eq_false (fun e => hx ((unhide HHH).2 e))]; rfl
        have HNX := hide hnx
        clear hnx hx
        go_wp2_with fail
        go_roundg i
        case measure => omega
        case rel => exact ⟨g.p, by rw [unhide HPP], fun k hk => ⟨by have := unhide HPR k hk; have := unhide HIL; omega, unhide HPR k hk⟩, unhide HNX, rfl⟩

/-- a grant taken back -/
def revG (G : List Gt) (i : Nat) : List Gt := G.set i { G.getD i default with rev := true }
theorem revG_len (G : List Gt) (i : Nat) : (revG G i).length = G.length := List.length_set
theorem revG_at {G : List Gt} {i : Nat} (hi : i < G.length) : (revG G i).getD i default = { G.getD i default with rev := true } := by
  unfold revG
  rw [List.getD_eq_getElem?_getD, List.getElem?_set_self hi]
  rfl
theorem revG_ne {G : List Gt} {i k : Nat} (h : k ≠ i) : (revG G i).getD k default = G.getD k default := by
  unfold revG
  rw [List.getD_eq_getElem?_getD, List.getElem?_set_ne (by omega), ← List.getD_eq_getElem?_getD]
theorem revG_b {G : List Gt} {i : Nat} (hi : i < G.length) (k : Nat) : ((revG G i).getD k default).b = (G.getD k default).b := by
  by_cases e : k = i
  · subst e; rw [revG_at hi]
  · rw [revG_ne e]
theorem revG_rest {G : List Gt} {i : Nat} (hi : i < G.length) (k : Nat) : ((revG G i).getD k default).h = (G.getD k default).h ∧ ((revG G i).getD k default).p = (G.getD k default).p ∧ ((revG G i).getD k default).c = (G.getD k default).c ∧ ((revG G i).getD k default).pl = (G.getD k default).pl := by
  by_cases e : k = i
  · subst e; rw [revG_at hi]; exact ⟨rfl, rfl, rfl, rfl⟩
  · rw [revG_ne e]; exact ⟨rfl, rfl, rfl, rfl⟩
theorem revG_ptr {G : List Gt} {i : Nat} (hi : i < G.length) : (revG G i).map gptr = G.map gptr := by
  apply List.ext_getElem?
  intro k
  rw [List.getElem?_map, List.getElem?_map]
  by_cases hk : k < G.length
  · have h1 := revG_b hi k
    rw [List.getD_eq_getElem?_getD, List.getD_eq_getElem?_getD, List.getElem?_eq_getElem hk, List.getElem?_eq_getElem (by rw [revG_len]; exact hk)] at h1
    rw [List.getElem?_eq_getElem hk, List.getElem?_eq_getElem (by rw [revG_len]; exact hk)]
    have h2 : ((revG G i)[k]'(by rw [revG_len]; exact hk)).b = (G[k]).b := h1
    show some (gptr _) = some (gptr _)
    unfold gptr
    rw [h2]
  · rw [List.getElem?_eq_none (by rw [revG_len]; omega), List.getElem?_eq_none (by omega)]
theorem FrS.rev {s : Nat} {vg : Value} {G : List Gt} {i : Nat} (hi : i < G.length) {k : Nat} (h : FrS s vg G k) : FrS s vg (revG G i) k :=
  ⟨h.s, h.q, fun j hj => by rw [revG_b hi]; exact h.g j (by rw [revG_len] at hj; exact hj)⟩
theorem Sv.rev {w : World} {s R O now : Nat} {vk vs vg : Value} {ks : List Ky} {cs : List Cl} {Qs : List Nat} {G : List Gt} {i : Nat} (h : Sv w s R O now vk vs vg ks cs Qs G) (hi : i < G.length) :
    Sv (w.setCell ⟨(G.getD i default).b, 2, none⟩ (.bool true)) s R O now vk vs vg ks cs Qs (revG G i) ∧ But (G.getD i default).b w (w.setCell ⟨(G.getD i default).b, 2, none⟩ (.bool true)) := by
  have hB : But (G.getD i default).b w (w.setCell ⟨(G.getD i default).b, 2, none⟩ (.bool true)) := (But.refl _ _).setCell 2 _
  refine ⟨?_, hB⟩
  have hgs := h.gs i hi
  have hrow := (h.gr i hi).set 2 (.bool true)
  generalize hw : w.setCell ⟨(G.getD i default).b, 2, none⟩ (.bool true) = w' at *
  have hkb : ∀ k, k ≠ (G.getD i default).b → w'.heap[k]? = w.heap[k]? := fun k hk => hB.block k hk
  have hpar : ∀ o : Option Nat, (o.map fun k => ((revG G i).getD k default).b) = o.map fun k => (G.getD k default).b := fun o => by
    cases o with
    | none => rfl
    | some k => simp only [Option.map_some, revG_b hi k]
  refine ⟨h.sb.below (hB.below (Nat.le_of_lt hgs)), h.row.keep (hkb s (by omega)), ?_, fun k hk => ?_, fun k hk => ?_, fun k hk => ?_, fun k hk => ?_, fun k hk => ?_, fun k hk => ?_, fun k hk => ?_, fun a b ha hb => ?_, fun k hk => ?_, by rw [revG_len]; exact h.small⟩
  · rw [revG_len, revG_ptr hi]
    exact ownsRow_at h.own (fun k e => hkb k (fun e2 => h.gq i hi (by rw [← e2]; exact e)))
  · rw [revG_len] at hk
    rw [hpar]
    by_cases e : k = i
    · subst e
      rw [revG_at hi]
      refine hrow.congr (fun j hj => ?_)
      by_cases e2 : j = 2
      · subst e2; rfl
      · rw [if_neg e2]
        unfold gtF
        simp only [e2, if_false]
    · rw [revG_ne e]
      refine (h.gr k hk).keep (hkb _ ?_)
      rcases Nat.lt_or_ge k i with hki | hki
      · exact h.inj i k hi hki
      · exact fun e3 => h.inj k i hk (by omega) e3.symm
  · rw [revG_len] at hk; rw [(revG_rest hi k).1]; exact h.hl k hk
  · rw [revG_len] at hk; rw [(revG_rest hi k).2.1]; exact h.pr k hk
  · rw [revG_len] at hk; rw [(revG_rest hi k).2.2.1]; exact h.id k hk
  · rw [revG_len] at hk; rw [(revG_rest hi k).2.2.1, (revG_rest hi k).2.2.2]
    exact (h.ls k hk).keep (fun x hx => ⟨hkb x (fun e => hx.2.g i hi e.symm), by rw [hB.size]; exact hx.1, hx.2.rev hi⟩)
  · rw [revG_len] at hk; rw [revG_b hi]; exact h.gs k hk
  · rw [revG_len] at hk; rw [revG_b hi]; exact h.gq k hk
  · rw [revG_len] at ha; rw [revG_b hi, revG_b hi]; exact h.inj a b ha hb
  · rw [revG_len] at hk; rw [(revG_rest hi k).2.2.1]; exact h.right k hk

set_option maxRecDepth 20000 in
set_option maxHeartbeats 1000000 in
theorem revoke_any (i m q : Nat) (w : World) (s R O now : Nat) (vk vs vg : Value) (ks : List Ky) (cs : List Cl) (Qs : List Nat) (G : List Gt) (hS : Sv w s R O now vk vs vg ks cs Qs G) (hi : i < G.length) (hq : Qs[m]? = some q) :
    Calls Tryz.prog 68 #[.pointer (some ⟨q, 0, none⟩), .pointer (some ⟨(G.getD i default).b, 0, none⟩)] w fun e w' => (lineG G m (some i) = false ∧ e = .returned (.int .i64 7) ∧ w' = w) ∨ (lineG G m (some i) = true ∧ e = .returned (.int .i64 0) ∧ w' = w.setCell ⟨(G.getD i default).b, 2, none⟩ (.bool true)) := by
  have HC := hide (HasInLine_any i m q w s R O now vk vs vg ks cs Qs G hS hi hq)
  have c2 := (hS.gr i hi).cell (j := 2) (by decide)
  have z2 := (hS.gr i hi).frozen 2
  have c2' : w.cell? ⟨(G.getD i default).b, 2, none⟩ = some (.bool (G.getD i default).rev) := c2
  clear hS hi hq c2
  generalize G.getD i default = g at *
  generalize hlb : lineG G m (some i) = lb at *
  have HLB := hide hlb
  clear hlb
  cases hl : lb with
  | true =>
    subst hl
    go_enter Tryz.func68, Tryz.ntmps68
    go_wp2_with (go_at_call 106; refine (unhide HC).mono ?_; rintro e w1 ⟨rfl, rfl⟩)
    go_ret
    first
      | exact Or.inr ⟨rfl, rfl, rfl⟩
      | exact Or.inr ⟨trivial, rfl, rfl⟩
  | false =>
    subst hl
    go_enter Tryz.func68, Tryz.ntmps68
    go_wp2_with (go_at_call 106; refine (unhide HC).mono ?_; rintro e w1 ⟨rfl, rfl⟩)
    go_ret
    first
      | exact Or.inl ⟨rfl, rfl, rfl⟩
      | exact Or.inl ⟨trivial, rfl, rfl⟩

set_option maxRecDepth 20000 in
theorem passOn_any (k : Int) (w : World) : Calls Tryz.prog 69 #[.int .i64 k] w fun e w' => e = .returned (.int .i64 k) ∧ w' = w := by
  go_enter Tryz.func69, Tryz.ntmps69
  go_wp2_with fail
  go_ret
  exact ⟨rfl, rfl⟩

/-- what Revoke takes back, and what it answers -/
def revS (ks : List Ky) (cs : List Cl) (G : List Gt) (now : Nat) (n sec t : List UInt8) : Option Nat × Int :=
  match loginK cs n sec with
  | none => (none, 5)
  | some m => match takeS ks G now t with
    | (none, e) => (none, e)
    | (some i, _) => if lineG G m (some i) = true then (some i, 0) else (none, 7)

set_option maxRecDepth 20000 in
set_option maxHeartbeats 1000000 in
theorem Revoke_any (n sec t : List UInt8) (w : World) (s R O now : Nat) (vk vs vg : Value) (ks : List Ky) (cs : List Cl) (Qs : List Nat) (G : List Gt) (hS : Sv w s R O now vk vs vg ks cs Qs G) (hT : Tb s w) (hm : MX w) (h4 : 4 < s) (ht : t.length ≤ 1048576) :
    Calls Tryz.prog 30 #[.pointer (some ⟨s, 0, none⟩), .agg #[.string ⟨n.toArray⟩, .string ⟨sec.toArray⟩], .string ⟨t.toArray⟩] w fun e w' => e = .returned (.int .i64 (revS ks cs G now n sec t).2) ∧
      (((revS ks cs G now n sec t).1 = none ∧ Below w.heap.size w w') ∨ ∃ i, (revS ks cs G now n sec t).1 = some i ∧ i < G.length ∧ Sv w' s R O now vk vs vg ks cs Qs (revG G i) ∧ Below s w w' ∧ ∀ k, k < w.heap.size → k ≠ (G.getD i default).b → w'.heap[k]? = w.heap[k]?) := by
  have hsl := hS.lt
  obtain ⟨w0, hw0⟩ : ∃ w0, w0 = w.alloc (.cells #[.string ⟨n.toArray⟩, .string ⟨sec.toArray⟩] 81) := ⟨_, rfl⟩
  have hb0 : Below w.heap.size w w0 := by rw [hw0]; exact (Below.refl _ _).alloc (Nat.le_refl _) _
  have hs0 : w0.heap.size = w.heap.size + 1 := by rw [hw0]; simp
  have g0 : w0.cell? ⟨w.heap.size, 0, none⟩ = some (.string ⟨n.toArray⟩) := by rw [hw0]; simp
  have g1 : w0.cell? ⟨w.heap.size, 1, none⟩ = some (.string ⟨sec.toArray⟩) := by rw [hw0]; simp
  have hS0 := hS.below hb0
  obtain ⟨L, hL⟩ : ∃ L, L = revS ks cs G now n sec t := ⟨_, rfl⟩
  have hRun := run_any 68 69 #[] #[] n sec t w0 s R O now vk vs vg ks cs Qs G
    (fun e w' => e = .returned (.int .i64 L.2) ∧ ((L.1 = none ∧ Below w.heap.size w w') ∨ ∃ i, L.1 = some i ∧ i < G.length ∧ Sv w' s R O now vk vs vg ks cs Qs (revG G i) ∧ Below s w w' ∧ ∀ k, k < w.heap.size → k ≠ (G.getD i default).b → w'.heap[k]? = w.heap[k]?))
    Tryz.call68 Tryz.call69 (fun e w' ⟨h, _⟩ => ⟨_, h⟩) hS0 (hT.below (hb0.mono (Nat.le_of_lt hsl))) (hm.below (show 4 < w.heap.size by omega) hb0) h4 ht
    (fun hl w' hb => by
      have e : L = (none, 5) := by rw [hL]; unfold revS; rw [hl]
      rw [e]
      exact ⟨rfl, Or.inl ⟨rfl, hb0.trans (hb.mono (by omega))⟩⟩)
    (fun m hl hz w' hb => by
      have e : L = (none, (takeS ks G now t).2) := by
        rw [hL]; unfold revS; rw [hl]; dsimp only
        have h1 := takeS_none hz
        generalize takeS ks G now t = x at h1 ⊢
        obtain ⟨x1, x2⟩ := x
        dsimp only at h1
        subst h1
        rfl
      rw [e]
      refine (passOn_any _ w').mono ?_
      rintro e w2 ⟨rfl, rfl⟩
      exact ⟨rfl, Or.inl ⟨rfl, hb0.trans (hb.mono (by omega))⟩⟩)
    (fun m q i hl hq htk hi hal w' hb => by
      have hSw := hS0.below hb
      have hB := hb0.trans (hb.mono (show w.heap.size ≤ w0.heap.size by omega))
      have e : L = if lineG G m (some i) = true then (some i, 0) else (none, 7) := by rw [hL]; unfold revS; rw [hl]; dsimp only; rw [htk]
      refine (revoke_any i m q w' s R O now vk vs vg ks cs Qs G hSw hi hq).mono ?_
      rintro e2 w2 (⟨h1, rfl, rfl⟩ | ⟨h1, rfl, rfl⟩)
      · rw [h1, if_neg (by decide)] at e
        rw [e]
        exact ⟨rfl, Or.inl ⟨rfl, hB⟩⟩
      · rw [h1, if_pos rfl] at e
        rw [e]
        obtain ⟨h2, h3⟩ := hSw.rev hi
        exact ⟨rfl, Or.inr ⟨i, rfl, hi, h2, (hB.mono (Nat.le_of_lt hsl)).trans (h3.below (Nat.le_of_lt (hS.gs i hi))), fun k hk hne => (h3.block k hne).trans (hB.block k hk)⟩⟩)
  have HRun := hide hRun
  have HW0 := hide hw0
  rw [← hL]
  clear hRun hS hT hm h4 ht hS0 hb0 hw0 hL hsl
  go_enter Tryz.func30, Tryz.ntmps30
  go_wp2_with fail
  rw [← unhide HW0]
  refine (unhide HRun).mono ?_
  rintro e w4 ⟨rfl, hrest⟩
  have HR := hide hrest
  clear HRun HW0 hrest g0 g1
  go_wp2_with fail
  go_ret
  exact ⟨rfl, unhide HR⟩

/-- what Tick answers -/
def tickE (now : Nat) (t : Int) : Int := if t < (now : Int) ∨ 999999999999 < t then 1 else 0
theorem Sv.tick {w : World} {s R O now : Nat} {vk vs vg : Value} {ks : List Ky} {cs : List Cl} {Qs : List Nat} {G : List Gt} (h : Sv w s R O now vk vs vg ks cs Qs G) (t : Nat) :
    Sv (w.setCell ⟨s, 0, none⟩ (.int .i64 (t : Nat))) s R O t vk vs vg ks cs Qs G ∧ But s w (w.setCell ⟨s, 0, none⟩ (.int .i64 (t : Nat))) := by
  have hB : But s w (w.setCell ⟨s, 0, none⟩ (.int .i64 (t : Nat))) := (But.refl _ _).setCell 0 _
  refine ⟨?_, hB⟩
  have hrow := h.row.set 0 (.int .i64 (t : Nat))
  generalize hw : w.setCell ⟨s, 0, none⟩ (.int .i64 (t : Nat)) = w' at *
  refine ⟨h.sb.below (hB.below (Nat.le_refl _)), hrow.congr (fun j hj => ?_), ownsRow_at h.own (fun k e => hB.block k (by have := (h.own.lt k e).1; omega)), fun k hk => (h.gr k hk).keep (hB.block _ (by have := h.gs k hk; omega)), h.hl, h.pr, h.id, fun k hk => (h.ls k hk).keep (fun x hx => ⟨hB.block x hx.2.s, by rw [hB.size]; exact hx.1, hx.2⟩), h.gs, h.gq, h.inj, h.right, h.small⟩
  by_cases e : j = 0
  · subst e; rfl
  · rw [if_neg e]
    unfold seF
    simp only [e, if_false]

set_option maxRecDepth 20000 in
set_option maxHeartbeats 1000000 in
theorem Tick_any (t : Int) (w : World) (s R O now : Nat) (vk vs vg : Value) (ks : List Ky) (cs : List Cl) (Qs : List Nat) (G : List Gt) (hS : Sv w s R O now vk vs vg ks cs Qs G) :
    Calls Tryz.prog 36 #[.pointer (some ⟨s, 0, none⟩), .int .i64 t] w fun e w' => (tickE now t = 1 ∧ e = .returned (.int .i64 1) ∧ w' = w) ∨ (tickE now t = 0 ∧ e = .returned (.int .i64 0) ∧ (now : Int) ≤ t ∧ t ≤ 999999999999 ∧ Sv w' s R O t.toNat vk vs vg ks cs Qs G ∧ But s w w') := by
  have c0 : w.cell? ⟨s, 0, none⟩ = some (.int .i64 (now : Nat)) := hS.row.cell (j := 0) (by decide)
  have z0 := hS.row.frozen 0
  by_cases h1 : t < (now : Int)
  · have HE : Hid (tickE now t = 1) := by unfold Hid tickE; rw [if_pos (Or.inl h1)]
    generalize tickE now t = te at *
    clear hS
    go_enter Tryz.func36, Tryz.ntmps36
    go_wp2_with fail
    go_ret
    exact Or.inl ⟨unhide HE, rfl, rfl⟩
  · by_cases h3 : 999999999999 < t
    · have HE : Hid (tickE now t = 1) := by unfold Hid tickE; rw [if_pos (Or.inr h3)]
      generalize tickE now t = te at *
      clear hS
      go_enter Tryz.func36, Tryz.ntmps36
      go_wp2_with fail
      go_ret
      exact Or.inl ⟨unhide HE, rfl, rfl⟩
    · have HE : Hid (tickE now t = 0) := by unfold Hid tickE; rw [if_neg (fun h => h.elim h1 h3)]
      generalize tickE now t = te at *
      have hfin := hS.tick t.toNat
      rw [show ((t.toNat : Nat) : Int) = t by omega] at hfin
      have HF := hide hfin
      have HN : Hid ((now : Int) ≤ t ∧ t ≤ 999999999999) := ⟨by omega, by omega⟩
      clear hS hfin
      go_enter Tryz.func36, Tryz.ntmps36
      go_wp2_with fail
      go_ret
      first
        | exact Or.inr ⟨unhide HE, rfl, (unhide HF).1, (unhide HF).2⟩
        | exact Or.inr ⟨unhide HE, rfl, (unhide HN).1, (unhide HN).2, (unhide HF).1, (unhide HF).2⟩
end Go.Proofs.YtkmkkmdpjliifaaGreatDoor
