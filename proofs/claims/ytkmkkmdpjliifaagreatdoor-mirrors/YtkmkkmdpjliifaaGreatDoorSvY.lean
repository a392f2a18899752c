import Derived.Test.YtkmkkmdpjliifaaGreatDoorSvT
namespace Go.Proofs.YtkmkkmdpjliifaaGreatDoor
open Go.ChangeShapes Go.WideShapes Go.ChangeAt Go.RowKit

theorem takeS_ok {ks : List Ky} {G : List Gt} {now : Nat} {t : List UInt8} (h : (takeS ks G now t).2 = 0) : ∃ i, takeS ks G now t = (some i, 0) ∧ i < G.length ∧ aliveG G now (some i) = true := by
  unfold takeS at h ⊢
  split at h
  · rename_i h0
    rw [if_pos h0]
    cases hr : readS (openT t) with
    | none => rw [hr] at h; cases h
    | some c =>
      rw [hr] at h
      dsimp only at h ⊢
      cases hf : findG G c with
      | none => rw [hf] at h; cases h
      | some i =>
        rw [hf] at h
        dsimp only at h ⊢
        split at h
        · rename_i ha
          exact ⟨i, by rw [if_pos ha], findG_lt hf, ha⟩
        · cases h
  · rename_i h0
    exact absurd h h0
theorem takeS_none {ks : List Ky} {G : List Gt} {now : Nat} {t : List UInt8} (h : (takeS ks G now t).2 ≠ 0) : (takeS ks G now t).1 = none := by
  unfold takeS at h ⊢
  split at h
  · rename_i h0
    rw [if_pos h0]
    cases hr : readS (openT t) with
    | none => rfl
    | some c =>
      rw [hr] at h
      dsimp only at h ⊢
      cases hf : findG G c with
      | none => rfl
      | some i =>
        rw [hf] at h
        dsimp only at h ⊢
        split at h
        · exact absurd rfl h
        · rename_i ha
          rw [if_neg ha]
  · rename_i h0
    rw [if_neg h0]

set_option maxRecDepth 20000 in
set_option maxHeartbeats 2000000 in
theorem run_any (kt kr : Nat) (xt xr : Array Value) (n sec t : List UInt8) (w : World) (s R O now : Nat) (vk vs vg : Value) (ks : List Ky) (cs : List Cl) (Qs : List Nat) (G : List Gt) (Q : Ending → World → Prop) (et : ∀ args w, (callFunc kt args).run Tryz.prog w = .ok (.enter kt args) w) (er : ∀ args w, (callFunc kr args).run Tryz.prog w = .ok (.enter kr args) w) (hQ : ∀ e w', Q e w' → ∃ z, e = .returned (.int .i64 z)) (hS : Sv w s R O now vk vs vg ks cs Qs G) (hT : Tb s w) (hm : MX w) (h4 : 4 < s) (ht : t.length ≤ 1048576)
    (q1 : loginK cs n sec = none → ∀ w', Below w.heap.size w w' → Q (.returned (.int .i64 5)) w')
    (q2 : ∀ m, loginK cs n sec = some m → (takeS ks G now t).2 ≠ 0 → ∀ w', Below w.heap.size w w' → Calls Tryz.prog kr (#[.int .i64 (takeS ks G now t).2] ++ xr) w' Q)
    (q3 : ∀ m q i, loginK cs n sec = some m → Qs[m]? = some q → takeS ks G now t = (some i, 0) → i < G.length → aliveG G now (some i) = true → ∀ w', Below w.heap.size w w' → Calls Tryz.prog kt (#[.pointer (some ⟨q, 0, none⟩), .pointer (some ⟨(G.getD i default).b, 0, none⟩)] ++ xt) w' Q) :
    Calls Tryz.prog 67 #[.pointer (some ⟨s, 0, none⟩), .agg #[.string ⟨n.toArray⟩, .string ⟨sec.toArray⟩], .string ⟨t.toArray⟩, .agg #[.func (.func kt) #[] xt, .func (.func kr) #[] xr]] w Q := by
  obtain ⟨w0, hw0⟩ : ∃ w0, w0 = w.alloc (.cells #[.string ⟨n.toArray⟩, .string ⟨sec.toArray⟩] 81) := ⟨_, rfl⟩
  obtain ⟨wa, hwa⟩ : ∃ wa, wa = w0.alloc (.cells #[.func (.func kt) #[] xt, .func (.func kr) #[] xr] 119) := ⟨_, rfl⟩
  have hb0 : Below w.heap.size w w0 := by rw [hw0]; exact (Below.refl _ _).alloc (Nat.le_refl _) _
  have hs0 : w0.heap.size = w.heap.size + 1 := by rw [hw0]; simp
  have hba' : Below w0.heap.size w0 wa := by rw [hwa]; exact (Below.refl _ _).alloc (Nat.le_refl _) _
  have hba : Below w.heap.size w wa := hb0.trans (hba'.mono (by omega))
  have hsa : wa.heap.size = w.heap.size + 2 := by rw [hwa]; simp [hs0]
  have hSa := hS.below hba
  have r2 : wa.cell? ⟨s, 2, none⟩ = some (.pointer (some ⟨O, 0, none⟩)) := hSa.row.cell (j := 2) (by decide)
  have g0 : wa.cell? ⟨w.heap.size, 0, none⟩ = some (.string ⟨n.toArray⟩) := by rw [hba'.cell (by show w.heap.size < w0.heap.size; omega), hw0]; simp
  have g1 : wa.cell? ⟨w.heap.size, 1, none⟩ = some (.string ⟨sec.toArray⟩) := by rw [hba'.cell (by show w.heap.size < w0.heap.size; omega), hw0]; simp
  have e0 : wa.cell? ⟨w.heap.size + 1, 0, none⟩ = some (.func (.func kt) #[] xt) := by rw [hwa, ← hs0]; simp
  have e1 : wa.cell? ⟨w.heap.size + 1, 1, none⟩ = some (.func (.func kr) #[] xr) := by rw [hwa, ← hs0]; simp
  have hsl := hS.lt
  have hLg := Login_any n sec wa.drew s R O vk vs ks cs Qs (show s ≤ wa.heap.size by omega) (hSa.sb.below (Below.refl s wa).drew)
  have HS := hide hS
  have HTk := hide (And.intro hT (And.intro hm (And.intro h4 ht)))
  have HW0 := hide hw0
  have HWA := hide hwa
  have HBA := hide hba
  have HQ2 := hide q2
  have HQ3 := hide q3
  have hsb := hSa.sb
  clear hT hm h4 ht hwa hba hba' hb0 hSa hS hw0 q2 q3
  cases hlk : loginK cs n sec with
  | none =>
    have HQ1 := hide (q1 hlk)
    have hL0 : Calls Tryz.prog 93 #[.pointer (some ⟨O, 0, none⟩), .agg #[.string ⟨n.toArray⟩, .string ⟨sec.toArray⟩]] wa.drew fun e w' => Below wa.drew.heap.size wa.drew w' ∧ e = .returned (.tuple #[.pointer none, .int .i64 5]) := hLg.mono (fun e w' ⟨h1, h2⟩ => ⟨h1, by
      rcases h2 with ⟨_, h3⟩ | ⟨m, q, h3, _⟩
      · exact h3
      · rw [hlk] at h3; cases h3⟩)
    have HLg := hide hL0
    clear hL0 hLg hlk hsb q1 HQ2 HQ3
    go_enter Tryz.func67, Tryz.ntmps67
    go_wp2_with fail
    rw [← unhide HW0, ← unhide HWA]
    clear HW0 HWA
    go_region_held3 (fun w' => w'.cell? ⟨s, 2, none⟩ = some (.pointer (some ⟨O, 0, none⟩)) ∧ w'.cell? ⟨w.heap.size, 0, none⟩ = some (.string ⟨n.toArray⟩) ∧ w'.cell? ⟨w.heap.size, 1, none⟩ = some (.string ⟨sec.toArray⟩)) (go_keep)
      (first | (go_at_call 93; refine (unhide HLg).mono ?_; rintro e w1 ⟨hb1, rfl⟩; have t0 := (hb1.cell (p := ⟨s, 2, none⟩) (show s < wa.heap.size by omega)).trans r2; have t1 := (hb1.cell (p := ⟨w.heap.size, 0, none⟩) (show w.heap.size < wa.heap.size by omega)).trans g0; have t2 := (hb1.cell (p := ⟨w.heap.size, 1, none⟩) (show w.heap.size < wa.heap.size by omega)).trans g1))
    go_wp2_with fail
    exact unhide HQ1 _ ((unhide HBA).drew.trans (hb1.mono (show w.heap.size ≤ wa.heap.size by omega)))
  | some m =>
    have hm := loginK_lt hlk
    obtain ⟨q, hq⟩ : ∃ q, Qs[m]? = some q := ⟨_, List.getElem?_eq_getElem (by rw [hsb.len]; exact hm)⟩
    have hL0 : Calls Tryz.prog 93 #[.pointer (some ⟨O, 0, none⟩), .agg #[.string ⟨n.toArray⟩, .string ⟨sec.toArray⟩]] wa.drew fun e w' => Below wa.drew.heap.size wa.drew w' ∧ e = .returned (.tuple #[.pointer (some ⟨q, 0, none⟩), .int .i64 0]) := hLg.mono (fun e w' ⟨h1, h2⟩ => ⟨h1, by
      rcases h2 with ⟨h3, _⟩ | ⟨m2, q2, h3, h4, h5⟩
      · rw [hlk] at h3; cases h3
      · rw [hlk] at h3; cases h3; rw [hq] at h4; cases h4; exact h5⟩)
    have HLg := hide hL0
    have HM := hide (And.intro hlk hq)
    clear hL0 hLg hlk hsb q1 hm hq
    go_enter Tryz.func67, Tryz.ntmps67
    go_wp2_with fail
    rw [← unhide HW0, ← unhide HWA]
    clear HW0 HWA
    go_region_held3 (fun w' => w'.cell? ⟨s, 2, none⟩ = some (.pointer (some ⟨O, 0, none⟩)) ∧ w'.cell? ⟨w.heap.size, 0, none⟩ = some (.string ⟨n.toArray⟩) ∧ w'.cell? ⟨w.heap.size, 1, none⟩ = some (.string ⟨sec.toArray⟩)) (go_keep)
      (first | (go_at_call 93; refine (unhide HLg).mono ?_; rintro e w1 ⟨hb1, rfl⟩; have t0 := (hb1.cell (p := ⟨s, 2, none⟩) (show s < wa.heap.size by omega)).trans r2; have t1 := (hb1.cell (p := ⟨w.heap.size, 0, none⟩) (show w.heap.size < wa.heap.size by omega)).trans g0; have t2 := (hb1.cell (p := ⟨w.heap.size, 1, none⟩) (show w.heap.size < wa.heap.size by omega)).trans g1))
    have f0 := (hb1.cell (p := ⟨w.heap.size + 1, 0, none⟩) (show w.heap.size + 1 < wa.heap.size by omega)).trans e0
    have f1 := (hb1.cell (p := ⟨w.heap.size + 1, 1, none⟩) (show w.heap.size + 1 < wa.heap.size by omega)).trans e1
    have hs1 : wa.heap.size ≤ w1.heap.size := hb1.size
    have hB1 : Below w.heap.size w w1 := (unhide HBA).drew.trans (hb1.mono (show w.heap.size ≤ wa.heap.size by omega))
    have hk := unhide HTk
    have HTa := hide (takeTok_any t w1 s R O now vk vs vg ks cs Qs G ((unhide HS).below hB1) (hk.1.below (hB1.mono (Nat.le_of_lt hsl))) (hk.2.1.below (show 4 < w.heap.size by have := hk.2.2.1; omega) hB1) hk.2.2.1 hk.2.2.2)
    have HB1 := hide hB1
    clear t0 t1 t2 r2 g0 g1 e0 e1 HLg HBA hb1 hk hB1
    go_wp2_with fail
    refine (unhide HTa).mono ?_
    rintro e w2 ⟨rfl, hb2⟩
    have f0' := (hb2.cell (p := ⟨w.heap.size + 1, 0, none⟩) (show w.heap.size + 1 < w1.heap.size by omega)).trans f0
    have f1' := (hb2.cell (p := ⟨w.heap.size + 1, 1, none⟩) (show w.heap.size + 1 < w1.heap.size by omega)).trans f1
    have hB2 := (unhide HB1).trans (hb2.mono (show w.heap.size ≤ w1.heap.size by omega))
    have HB2 := hide hB2
    clear f0 f1 HTa hb2 hB2
    by_cases hz : (takeS ks G now t).2 = 0
    · obtain ⟨i, htk, hi, hal⟩ := takeS_ok hz
      have HC := hide (unhide HQ3 m q i (unhide HM).1 (unhide HM).2 htk hi hal w2 (unhide HB2))
      clear hz
      rw [htk]
      dsimp only [Option.map_some]
      clear htk HQ2 HQ3 hi hal
      generalize (G.getD i default).b = gb at *
      go_wp2_with fail
      refine (unhide HC).mono ?_
      rintro e w3 hq
      obtain ⟨z, rfl⟩ := hQ _ _ hq
      have HQQ := hide hq
      clear hq
      go_wp2_with fail
      exact unhide HQQ
    · have HC := hide (unhide HQ2 m (unhide HM).1 hz w2 (unhide HB2))
      rw [takeS_none hz]
      generalize (takeS ks G now t).2 = oe at *
      dsimp only [Option.map_none]
      clear HQ2 HQ3
      go_wp2_with fail
      refine (unhide HC).mono ?_
      rintro e w3 hq
      obtain ⟨z, rfl⟩ := hQ _ _ hq
      have HQQ := hide hq
      clear hq
      go_wp2_with fail
      exact unhide HQQ
end Go.Proofs.YtkmkkmdpjliifaaGreatDoor
namespace Go.Proofs.YtkmkkmdpjliifaaGreatDoor
open Go.ChangeShapes Go.WideShapes Go.ChangeAt Go.RowKit

set_option maxRecDepth 20000 in
set_option maxHeartbeats 2000000 in
/-- what Look does with a token that is taken -/
theorem lookT_any (i : Nat) (v : Value) (g h : Nat) (f : Nat → Value) (w : World) (s R O now : Nat) (vk vs vg : Value) (ks : List Ky) (cs : List Cl) (Qs : List Nat) (G : List Gt) (hS : Sv w s R O now vk vs vg ks cs Qs G) (hi : i < G.length) (hg : Row w g 60 6 f) (hh : Row w h 4 1 (fun _ => .bool false)) (hgh : g ≠ h) :
    Calls Tryz.prog 70 #[v, .pointer (some ⟨(G.getD i default).b, 0, none⟩), .pointer (some ⟨g, 0, none⟩), .pointer (some ⟨h, 0, none⟩)] w fun e w' => ∃ p' w1, e = .returned (.int .i64 0) ∧ CzN w1 (New w w1) (G.getD i default).c.z p' ∧ Below w.heap.size w w1 ∧ w' = (st6 w1 g (G.getD i default).c.z p').setCell ⟨h, 0, none⟩ (.bool true) := by
  have HCl := hide (Claims_any i w s R O now vk vs vg ks cs Qs G hS hi)
  clear hS hi
  generalize G.getD i default = gi at *
  have hgl := hg.lt
  have hhl := hh.lt
  go_enter Tryz.func70, Tryz.ntmps70
  go_wp2_with fail
  refine (unhide HCl).mono ?_
  rintro e w1 ⟨p', rfl, hN, hb⟩
  have hg1 := hg.below hb hgl
  have hh1 := hh.below hb hhl
  have HN := hide (And.intro hN hb)
  clear hN hb hg hh HCl
  have s0 : w1.cell? ⟨g, 0, none⟩ = some (f 0) := hg1.cell (by decide)
  have s1 : w1.cell? ⟨g, 1, none⟩ = some (f 1) := hg1.cell (by decide)
  have s2 : w1.cell? ⟨g, 2, none⟩ = some (f 2) := hg1.cell (by decide)
  have s3 : w1.cell? ⟨g, 3, none⟩ = some (f 3) := hg1.cell (by decide)
  have s4 : w1.cell? ⟨g, 4, none⟩ = some (f 4) := hg1.cell (by decide)
  have s5 : w1.cell? ⟨g, 5, none⟩ = some (f 5) := hg1.cell (by decide)
  have z0 := hg1.frozen 0
  have z1 := hg1.frozen 1
  have z2 := hg1.frozen 2
  have z3 := hg1.frozen 3
  have z4 := hg1.frozen 4
  have z5 := hg1.frozen 5
  have y0 : w1.cell? ⟨h, 0, none⟩ = some (.bool false) := hh1.cell (by decide)
  have x0 := hh1.frozen 0
  clear hg1 hh1
  unfold czA
  go_wp2_with fail
  go_ret
  exact ⟨p', w1, rfl, (unhide HN).1, (unhide HN).2, rfl⟩

/-- which grant Look tells, and what it answers -/
def lookS (ks : List Ky) (cs : List Cl) (G : List Gt) (now : Nat) (n sec t : List UInt8) : Option Nat × Int :=
  match loginK cs n sec with
  | none => (none, 5)
  | some _ => ((takeS ks G now t).1, 0)
def lookC (G : List Gt) : Option Nat → Cz
  | none => cz0
  | some i => (G.getD i default).c.z
theorem CzN.none (w : World) (N : Nat → Prop) : CzN w N cz0 pl0 := by
  constructor
  all_goals exact ⟨Option.none, 0, rfl, Nat.le_refl _, fun h => absurd h (Nat.not_lt_zero _)⟩
theorem oneR {f g : Nat → Value} (h : f 0 = g 0) : ∀ j, j < 1 → f j = g j := fun j hj => by
  have : j = 0 := by omega
  rw [this, h]
theorem oneS {f : Nat → Option Value} {v : Value} (h : f 0 = some v) : ∀ j, j < 1 → f j = some v := fun j hj => by
  have : j = 0 := by omega
  rw [this, h]
theorem results_cell_tmps {fn : Func} {p u x : Tmp} {ty : TypeId} (h : fn.results = #[.cell p ty, .tmp u, .tmp x]) (tmps : Array Value) (P : Program) (w : World) :
    (results fn tmps).run P w =
      ((asAddr (tmps.getD p undef)).run P w).andThen fun a w₁ => ((loadVar ty a).run P w₁).andThen fun v w₂ => .ok (.tuple #[v, tmps.getD u undef, tmps.getD x undef]) w₂ := by
  simp only [results, h]
  simp [Sem.run_bind, Result.andThen]
theorem ret_look {fn : Func} {q u x : Tmp} (h : fn.results = #[.cell q 60, .tmp u, .tmp x]) {a : Act} {w : World} {R : Ending → World → Prop} {g : Nat} {c : Cz} {p : Pl} (hRow : Row w g 60 6 (czF c p))
    (hp : a.tmps.getD q undef = .pointer (some ⟨g, 0, none⟩)) (hdef : a.defers = []) (hR : R (.returned (.tuple #[.agg (czA c p), a.tmps.getD u undef, a.tmps.getD x undef])) w) : bodyPost Tryz.prog fn R Exit.ret a w := by
  refine bodyPost_ret (v := .tuple #[.agg (czA c p), a.tmps.getD u undef, a.tmps.getD x undef]) ?_ hdef hR
  have hl := run_loadVar_row (P := Tryz.prog) w g 60 60 (arrOf 6 (czF c p)) (0, 0) _ hRow.whole Tryz.underlying60 rfl (by rw [arrOf_size]; kernel_rfl)
  rw [arr6] at hl
  rw [results_cell_tmps h, hp]
  simp [asAddr, hl, Result.andThen]

set_option maxRecDepth 20000 in
set_option maxHeartbeats 2000000 in
theorem Look_any (n sec t : List UInt8) (w : World) (s R O now : Nat) (vk vs vg : Value) (ks : List Ky) (cs : List Cl) (Qs : List Nat) (G : List Gt) (hS : Sv w s R O now vk vs vg ks cs Qs G) (hT : Tb s w) (hm : MX w) (h4 : 4 < s) (ht : t.length ≤ 1048576) :
    Calls Tryz.prog 32 #[.pointer (some ⟨s, 0, none⟩), .agg #[.string ⟨n.toArray⟩, .string ⟨sec.toArray⟩], .string ⟨t.toArray⟩] w fun e w' => ∃ p', e = .returned (.tuple #[.agg (czA (lookC G (lookS ks cs G now n sec t).1) p'), .bool (lookS ks cs G now n sec t).1.isSome, .int .i64 (lookS ks cs G now n sec t).2]) ∧ CzN w' (New w w') (lookC G (lookS ks cs G now n sec t).1) p' ∧ Below w.heap.size w w' := by
  have hsl := hS.lt
  obtain ⟨w0, hw0⟩ : ∃ w0, w0 = w.alloc (.cells #[.string ⟨n.toArray⟩, .string ⟨sec.toArray⟩] 81) := ⟨_, rfl⟩
  have hb0 : Below w.heap.size w w0 := by rw [hw0]; exact (Below.refl _ _).alloc (Nat.le_refl _) _
  have hs0 : w0.heap.size = w.heap.size + 1 := by rw [hw0]; simp
  have g0 : w0.cell? ⟨w.heap.size, 0, none⟩ = some (.string ⟨n.toArray⟩) := by rw [hw0]; simp
  have g1 : w0.cell? ⟨w.heap.size, 1, none⟩ = some (.string ⟨sec.toArray⟩) := by rw [hw0]; simp
  obtain ⟨w1, hw1⟩ : ∃ w1, w1 = w0.alloc (.cells #[.int .i64 0, .string ⟨#[]⟩, .slice none 0 0, .slice none 0 0, .slice none 0 0, .int .i64 0] 60) := ⟨_, rfl⟩
  have hb1 : Below w0.heap.size w0 w1 := by rw [hw1]; exact (Below.refl _ _).alloc (Nat.le_refl _) _
  have hs1 : w1.heap.size = w.heap.size + 2 := by rw [hw1]; simp [hs0]
  have hR1 : Row w1 (w.heap.size + 1) 60 6 (czF cz0 pl0) := by rw [hw1, ← hs0]; exact Row.new w0 60 _ _ 6 rfl (six rfl rfl rfl rfl rfl rfl)
  obtain ⟨w2, hw2⟩ : ∃ w2, w2 = w1.alloc (.cells #[.int .i64 0, .string ⟨#[]⟩, .slice none 0 0, .slice none 0 0, .slice none 0 0, .int .i64 0] 60) := ⟨_, rfl⟩
  have hb2 : Below w1.heap.size w1 w2 := by rw [hw2]; exact (Below.refl _ _).alloc (Nat.le_refl _) _
  have hs2 : w2.heap.size = w.heap.size + 3 := by rw [hw2]; simp [hs1]
  have hR2 : Row w2 (w.heap.size + 2) 60 6 (czF cz0 pl0) := by rw [hw2, ← hs1]; exact Row.new w1 60 _ _ 6 rfl (six rfl rfl rfl rfl rfl rfl)
  obtain ⟨w3, hw3⟩ : ∃ w3, w3 = w2.alloc (.cells #[.bool false] 4) := ⟨_, rfl⟩
  have hb3 : Below w2.heap.size w2 w3 := by rw [hw3]; exact (Below.refl _ _).alloc (Nat.le_refl _) _
  have hs3 : w3.heap.size = w.heap.size + 4 := by rw [hw3]; simp [hs2]
  have hR3 : Row w3 (w.heap.size + 3) 4 1 (fun _ => .bool false) := by rw [hw3, ← hs2]; exact Row.new w2 4 _ _ 1 rfl (fun j hj => oneS rfl j hj)
  have hB3 : Below w.heap.size w w3 := ((hb0.trans (hb1.mono (by omega))).trans (hb2.mono (by omega))).trans (hb3.mono (by omega))
  have k1 : Row w3 (w.heap.size + 1) 60 6 (czF cz0 pl0) := (hR1.below hb2 (by omega)).below hb3 (by omega)
  have k2 : Row w3 (w.heap.size + 2) 60 6 (czF cz0 pl0) := hR2.below hb3 (by omega)
  have c0 : w3.cell? ⟨w.heap.size, 0, none⟩ = some (.string ⟨n.toArray⟩) := by rw [hb3.cell (by show w.heap.size < w2.heap.size; omega), hb2.cell (by show w.heap.size < w1.heap.size; omega), hb1.cell (by show w.heap.size < w0.heap.size; omega)]; exact g0
  have c1 : w3.cell? ⟨w.heap.size, 1, none⟩ = some (.string ⟨sec.toArray⟩) := by rw [hb3.cell (by show w.heap.size < w2.heap.size; omega), hb2.cell (by show w.heap.size < w1.heap.size; omega), hb1.cell (by show w.heap.size < w0.heap.size; omega)]; exact g1
  have hS3 := hS.below hB3
  obtain ⟨L, hL⟩ : ∃ L, L = lookS ks cs G now n sec t := ⟨_, rfl⟩
  have hRun := run_any 70 72 #[.pointer (some ⟨w.heap.size + 2, 0, none⟩), .pointer (some ⟨w.heap.size + 3, 0, none⟩)] #[] n sec t w3 s R O now vk vs vg ks cs Qs G
    (fun e w' => ∃ p', e = .returned (.int .i64 L.2) ∧ Row w' (w.heap.size + 1) 60 6 (czF cz0 pl0) ∧ Row w' (w.heap.size + 2) 60 6 (czF (lookC G L.1) p') ∧ Row w' (w.heap.size + 3) 4 1 (fun _ => .bool L.1.isSome) ∧ CzN w' (New w3 w') (lookC G L.1) p' ∧ Below w.heap.size w w')
    Tryz.call70 Tryz.call72 (fun e w' ⟨p', h, _⟩ => ⟨_, h⟩) hS3 (hT.below (hB3.mono (Nat.le_of_lt hsl))) (hm.below (show 4 < w.heap.size by omega) hB3) h4 ht
    (fun hl w' hb => by
      have e : L = (none, 5) := by rw [hL]; unfold lookS; rw [hl]
      rw [e]
      exact ⟨pl0, rfl, k1.below hb (by omega), k2.below hb (by omega), hR3.below hb (by omega), CzN.none _ _, hB3.trans (hb.mono (by omega))⟩)
    (fun m hl hz w' hb => by
      have e : L = (none, 0) := by rw [hL]; unfold lookS; rw [hl]; dsimp only; rw [takeS_none hz]
      rw [e]
      have h1 := k1.below hb (by omega)
      have h2 := k2.below hb (by omega)
      have h3 := hR3.below hb (by omega)
      generalize (takeS ks G now t).2 = oe
      have HB := hide (And.intro h1 (And.intro h2 (And.intro h3 (hB3.trans (hb.mono (by omega))))))
      clear h1 h2 h3 k1 k2 hR3 c0 c1 g0 g1 hR1 hR2 e hw0 hw1 hw2 hw3
      go_enter Tryz.func72, Tryz.ntmps72
      go_wp2_with fail
      go_ret
      have hh := unhide HB
      exact ⟨pl0, rfl, hh.1, hh.2.1, hh.2.2.1, CzN.none _ _, hh.2.2.2⟩)
    (fun m q i hl hq htk hi hal w' hb => by
      have e : L = (some i, 0) := by rw [hL]; unfold lookS; rw [hl]; dsimp only; rw [htk]
      rw [e]
      refine (lookT_any i (.pointer (some ⟨q, 0, none⟩)) (w.heap.size + 2) (w.heap.size + 3) (czF cz0 pl0) w' s R O now vk vs vg ks cs Qs G (hS3.below hb) hi (k2.below hb (by omega)) (hR3.below hb (by omega)) (by omega)).mono ?_
      rintro e w'' ⟨p', w4, rfl, hN, hb4, rfl⟩
      have hs' := hb.size
      have hs4 := hb4.size
      have h1 := (k1.below hb (by omega)).below hb4 (by omega)
      have h2 := (k2.below hb (by omega)).below hb4 (by omega)
      have h3 := (hR3.below hb (by omega)).below hb4 (by omega)
      have b6 := st6_but w4 (w.heap.size + 2) (G.getD i default).c.z p'
      generalize hw5 : st6 w4 (w.heap.size + 2) (G.getD i default).c.z p' = w5 at *
      have r2 : Row w5 (w.heap.size + 2) 60 6 (czF (G.getD i default).c.z p') := by rw [← hw5]; exact st6_row h2 _ _
      have b7 : But (w.heap.size + 3) w5 (w5.setCell ⟨w.heap.size + 3, 0, none⟩ (.bool true)) := (But.refl _ _).setCell 0 _
      have hs5 : w5.heap.size = w4.heap.size := b6.size
      refine ⟨p', rfl, (h1.but b6 (by omega)).but b7 (by omega), r2.but b7 (by omega), ((h3.but b6 (by omega)).set 0 _).congr (oneR rfl), ?_, ?_⟩
      · refine hN.keep (fun k hk => ⟨?_, ?_⟩)
        · obtain ⟨hk1, hk2⟩ := hk
          rw [b7.block k (by omega), b6.block k (by omega)]
        · obtain ⟨hk1, hk2⟩ := hk
          refine ⟨by omega, ?_⟩
          rw [b7.size]
          omega
      · exact ((hB3.trans (hb.mono (by omega))).trans (hb4.mono (by omega))).trans ((b6.below (by omega)).trans (b7.below (by omega))))
  have HRun := hide hRun
  have HW0 := hide hw0
  have HW1 := hide hw1
  have HW2 := hide hw2
  have HW3 := hide hw3
  rw [← hL]
  clear hRun hS hT hm h4 ht hS3 k1 k2 hR1 hR2 hR3 hb0 hb1 hb2 hb3 hB3 hw0 hw1 hw2 hw3 g0 g1 hL hsl
  go_enter Tryz.func32, Tryz.ntmps32
  go_wp2_with fail
  rw [← unhide HW0, ← unhide HW1, ← unhide HW2, ← unhide HW3]
  rw [show w.heap.size + 1 + 1 = w.heap.size + 2 from rfl, show w.heap.size + 2 + 1 = w.heap.size + 3 from rfl]
  refine (unhide HRun).mono ?_
  rintro e w4 ⟨p', rfl, k1, k2, k3, hN, hB⟩
  have HK1 := hide k1
  have HN : Hid (CzN w4 (New w3 w4) (lookC G L.fst) p' ∧ Below w.heap.size w w4) := hide ⟨hN, hB⟩
  clear HRun HW0 HW1 HW2 HW3 hN hB c0 c1
  generalize hbb1 : w.heap.size + 1 = b1 at *
  generalize hbb2 : w.heap.size + 2 = b2 at *
  generalize hbb3 : w.heap.size + 3 = b3 at *
  have n12 : b1 ≠ b2 := by omega
  have n13 : b1 ≠ b3 := by omega
  have n21 : b2 ≠ b1 := by omega
  have n31 : b3 ≠ b1 := by omega
  have HBB := hide (And.intro hbb1 (And.intro hbb2 (And.intro hbb3 hs3)))
  clear hbb1 hbb2 hbb3 hs0 hs1 hs2 hs3
  generalize hc : lookC G L.fst = c at *
  have HC := hide hc
  clear hc
  have s0 : w4.cell? ⟨b1, 0, none⟩ = some (.int .i64 0) := k1.cell (by decide)
  have s1 : w4.cell? ⟨b1, 1, none⟩ = some (.string ⟨#[]⟩) := k1.cell (by decide)
  have s2 : w4.cell? ⟨b1, 2, none⟩ = some (.slice none 0 0) := k1.cell (by decide)
  have s3 : w4.cell? ⟨b1, 3, none⟩ = some (.slice none 0 0) := k1.cell (by decide)
  have s4 : w4.cell? ⟨b1, 4, none⟩ = some (.slice none 0 0) := k1.cell (by decide)
  have s5 : w4.cell? ⟨b1, 5, none⟩ = some (.int .i64 0) := k1.cell (by decide)
  have z0 := k1.frozen 0
  have z1 := k1.frozen 1
  have z2 := k1.frozen 2
  have z3 := k1.frozen 3
  have z4 := k1.frozen 4
  have z5 := k1.frozen 5
  have t0 : w4.cell? ⟨b2, 0, none⟩ = some (.int .i64 c.id) := k2.cell (by decide)
  have t1 : w4.cell? ⟨b2, 1, none⟩ = some (.string ⟨c.sub.toArray⟩) := k2.cell (by decide)
  have t2 : w4.cell? ⟨b2, 2, none⟩ = some (.slice p'.a2 c.scp.length p'.c2) := k2.cell (by decide)
  have t3 : w4.cell? ⟨b2, 3, none⟩ = some (.slice p'.a3 c.aud.length p'.c3) := k2.cell (by decide)
  have t4 : w4.cell? ⟨b2, 4, none⟩ = some (.slice p'.a4 c.act.length p'.c4) := k2.cell (by decide)
  have t5 : w4.cell? ⟨b2, 5, none⟩ = some (.int .i64 c.exp) := k2.cell (by decide)
  have u0 : w4.cell? ⟨b3, 0, none⟩ = some (.bool L.1.isSome) := k3.cell (by decide)
  clear k1 k2 k3
  go_wp2_with fail
  have hrow : Row (st6 w4 b1 c p').drew b1 60 6 (czF c p') := (st6_row (unhide HK1) c p').below (Below.refl _ _).drew (st6_row (unhide HK1) c p').lt
  have hfin : CzN (st6 w4 b1 c p').drew (New w (st6 w4 b1 c p').drew) c p' ∧ Below w.heap.size w (st6 w4 b1 c p').drew := by
    obtain ⟨h1, h2, hh3, h3⟩ := unhide HBB
    have b6 := (st6_but w4 b1 c p').drew
    generalize (st6 w4 b1 c p').drew = w5 at b6 ⊢
    exact ⟨(unhide HN).1.keep (fun k hk => ⟨b6.block k (by have := hk.1; omega), by have := hk.1; omega, Nat.lt_of_lt_of_eq hk.2 b6.size.symm⟩), (unhide HN).2.trans (b6.below (by omega))⟩
  have HR := hide hrow
  have HF := hide hfin
  clear hrow hfin HN HBB HK1
  go_region
  go_wp2_with fail
  refine ret_look Tryz.results32 (unhide HR) rfl rfl ?_
  exact ⟨p', by rw [unhide HC]; rfl, by rw [unhide HC]; exact (unhide HF).1, (unhide HF).2⟩

end Go.Proofs.YtkmkkmdpjliifaaGreatDoor
