import Derived.Test.YtkmkkmdpjliifaaGreatDoorExE
namespace Go.Proofs.YtkmkkmdpjliifaaGreatDoor
open Go.ChangeShapes Go.WideShapes Go.ChangeAt Go.RowKit

/-- the claims with what is wished alone -/
def narrowS (c : Cz) (x : Cl) (t1 t2 : List (List UInt8)) : Cz × Int :=
  if (listB t1 && listB t2) = false then (cz0, 2) else if (chooseL c.scp t1 x.sc).length = 0 then (cz0, 8) else if (chooseL c.aud t2 x.tg).length = 0 then (cz0, 9)
  else ({ c with scp := chooseL c.scp t1 x.sc, aud := chooseL c.aud t2 x.tg }, 0)
theorem But.cell' {g : Nat} {w w' : World} (h : But g w w') (a : Addr) (ha : a.block ≠ g) : w'.cell? a = w.cell? a := World.cell?_of_block (h.block a.block ha)
set_option linter.unusedSimpArgs false in
set_option maxRecDepth 20000 in
set_option maxHeartbeats 4000000 in
theorem narrow_any (c : Cz) (p : Pl) (x : Cl) (q s : Nat) (actor : List UInt8) (v1 v2 : Value) (t1 t2 : List (List UInt8)) (life : Int) (w : World) (hs : s ≤ w.heap.size) (hT : UT w) (hcS : CzS c) (M : Nat → Prop) (hM : ∀ k, M k → k < w.heap.size) (hcN : CzN w M c p) (hx : ClX w (· < s) x q) (hxs : x.sc.length ≤ 6) (hxt : x.tg.length ≤ 6)
    (l1 : t1.length ≤ 8796093022208) (l2 : t2.length ≤ 8796093022208) (f1 : Fits t1) (f2 : Fits t2) (n1 : LsN w M v1 t1) (n2 : LsN w M v2 t2) :
    Calls Tryz.prog 109 #[.agg (czA c p), .pointer (some ⟨q, 0, none⟩), .agg #[.string ⟨actor.toArray⟩, v1, v2, .int .i64 life]] w fun e w' => ∃ p', e = .returned (.tuple #[.agg (czA (narrowS c x t1 t2).1 p'), .int .i64 (narrowS c x t1 t2).2]) ∧ CzN w' (fun k => (M k ∨ w.heap.size ≤ k) ∧ k < w'.heap.size) (narrowS c x t1 t2).1 p' ∧ Below w.heap.size w w' := by
  have k1 := n1.ls hM
  have k2 := n2.ls hM
  have hcL := hcN.l hM
  have HNN1 := hide n1
  have HNN2 := hide n2
  have HCN := hide hcN
  have HM := hide hM
  clear n1 n2 hcN hM
  have HK1 := hide k1
  have HK2 := hide k2
  obtain ⟨a1, d1, rfl, _⟩ := k1
  obtain ⟨a2, d2, rfl, _⟩ := k2
  obtain ⟨w2, hw2⟩ : ∃ w2, w2 = ((w.alloc (.cells #[.int .i64 c.id, .string ⟨c.sub.toArray⟩, .slice p.a2 c.scp.length p.c2, .slice p.a3 c.aud.length p.c3, .slice p.a4 c.act.length p.c4, .int .i64 c.exp] 60)).alloc (.cells #[.string ⟨actor.toArray⟩, .slice a1 t1.length d1, .slice a2 t2.length d2, .int .i64 life] 124)).alloc (.cells #[.int .i64 0, .string ⟨#[]⟩, .slice none 0 0, .slice none 0 0, .slice none 0 0, .int .i64 0] 60) := ⟨_, rfl⟩
  have hb2 : Below w.heap.size w w2 := by rw [hw2]; exact (((Below.refl _ _).alloc (Nat.le_refl _) _).alloc (by simp) _).alloc (by simp; omega) _
  have hs2 : w2.heap.size = w.heap.size + 3 := by rw [hw2]; simp
  have hR0 : Row w2 w.heap.size 60 6 (czF c p) := by rw [hw2]; exact ((Row.new w 60 _ _ 6 rfl (six rfl rfl rfl rfl rfl rfl)).alloc _).alloc _
  have hR1 : Row w2 (w.heap.size + 1) 124 4 (fun j => if j = 0 then .string ⟨actor.toArray⟩ else if j = 1 then .slice a1 t1.length d1 else if j = 2 then .slice a2 t2.length d2 else .int .i64 life) := by
    have e : (w.alloc (.cells #[.int .i64 c.id, .string ⟨c.sub.toArray⟩, .slice p.a2 c.scp.length p.c2, .slice p.a3 c.aud.length p.c3, .slice p.a4 c.act.length p.c4, .int .i64 c.exp] 60)).heap.size = w.heap.size + 1 := by simp
    rw [hw2, ← e]
    exact (Row.new _ 124 _ _ 4 rfl (four rfl rfl rfl rfl)).alloc _
  have hZ0 : Row w2 (w.heap.size + 2) 60 6 (czF cz0 pl0) := by
    have e : ((w.alloc (.cells #[.int .i64 c.id, .string ⟨c.sub.toArray⟩, .slice p.a2 c.scp.length p.c2, .slice p.a3 c.aud.length p.c3, .slice p.a4 c.act.length p.c4, .int .i64 c.exp] 60)).alloc (.cells #[.string ⟨actor.toArray⟩, .slice a1 t1.length d1, .slice a2 t2.length d2, .int .i64 life] 124)).heap.size = w.heap.size + 2 := by simp
    rw [hw2, ← e]
    exact Row.new _ 60 _ _ 6 rfl (six rfl rfl rfl rfl rfl rfl)
  have HI1 := hide (IsList_any _ t1 w2 w.heap.size (by omega) l1 f1 ((unhide HK1).below hb2) (hT.belowS hb2))
  have HI2 := hide (fun (w3 : World) (hb3 : Below w.heap.size w w3) => IsList_any _ t2 w3 w.heap.size hb3.size l2 f2 ((unhide HK2).below hb3) (hT.belowS hb3))
  have e1 : w2.cell? ⟨w.heap.size + 1, 1, none⟩ = some (.slice a1 t1.length d1) := hR1.cell (by decide)
  have HW2 := hide hw2
  have HB2 := hide hb2
  have HR := hide (And.intro hR0 (And.intro hR1 hZ0))
  have HN : Hid (narrowS c x t1 t2 = if (listB t1 && listB t2) = false then (cz0, 2) else if (chooseL c.scp t1 x.sc).length = 0 then (cz0, 8) else if (chooseL c.aud t2 x.tg).length = 0 then (cz0, 9) else ({ c with scp := chooseL c.scp t1 x.sc, aud := chooseL c.aud t2 x.tg }, 0)) := rfl
  have HX := hide hx
  have HLs := hide (And.intro hcS (And.intro hcL (And.intro hxs (And.intro hxt (And.intro l1 l2)))))
  clear hw2 hb2 hR0 hR1 hZ0 hcS hcL hx hxs hxt l1 l2 f1 f2 hT
  generalize hnn : narrowS c x t1 t2 = nn at *
  unfold czA
  go_enter Tryz.func109, Tryz.ntmps109
  go_wp2_with fail
  rw [← unhide HW2]
  clear HW2
  refine (unhide HI1).mono ?_
  rintro e w3 ⟨rfl, hb3⟩
  have hs3 := hb3.size
  have hb23 := (unhide HB2).trans (hb3.mono (by omega))
  have HB3 := hide hb23
  have HR3 : Hid (Row w3 w.heap.size 60 6 (czF c p) ∧ Row w3 (w.heap.size + 1) 124 4 (fun j => if j = 0 then .string ⟨actor.toArray⟩ else if j = 1 then .slice a1 t1.length d1 else if j = 2 then .slice a2 t2.length d2 else .int .i64 life) ∧ Row w3 (w.heap.size + 2) 60 6 (czF cz0 pl0)) := ⟨(unhide HR).1.below hb3 (by omega), (unhide HR).2.1.below hb3 (by omega), (unhide HR).2.2.below hb3 (by omega)⟩
  have e2 : w3.cell? ⟨w.heap.size + 1, 2, none⟩ = some (.slice a2 t2.length d2) := (unhide HR3).2.1.cell (by decide)
  clear HI1 HR HB2 hb3 hb23 e1
  have Z3 := (unhide HR3).2.2
  have y0 : w3.cell? ⟨w.heap.size + 2, 0, none⟩ = some (.int .i64 0) := Z3.cell (by decide)
  have y1 : w3.cell? ⟨w.heap.size + 2, 1, none⟩ = some (.string ⟨#[]⟩) := Z3.cell (by decide)
  have y2 : w3.cell? ⟨w.heap.size + 2, 2, none⟩ = some (.slice none 0 0) := Z3.cell (by decide)
  have y3 : w3.cell? ⟨w.heap.size + 2, 3, none⟩ = some (.slice none 0 0) := Z3.cell (by decide)
  have y4 : w3.cell? ⟨w.heap.size + 2, 4, none⟩ = some (.slice none 0 0) := Z3.cell (by decide)
  have y5 : w3.cell? ⟨w.heap.size + 2, 5, none⟩ = some (.int .i64 0) := Z3.cell (by decide)
  have z0 := Z3.frozen 0
  have z1 := Z3.frozen 1
  have z2 := Z3.frozen 2
  have z3 := Z3.frozen 3
  have z4 := Z3.frozen 4
  have z5 := Z3.frozen 5
  clear Z3
  cases hx1 : listB t1 with
  | false =>
    have hnn2 : nn = (cz0, 2) := by rw [unhide HN, hx1]; rfl
    have HNN := hide hnn2
    clear hx1 HN HI2 hnn hnn2
    go_wp2_with fail
    refine ret_cz (c := cz0) (p := pl0) (g := w.heap.size + 2) Tryz.results109 ?_ rfl rfl ?_
    · exact st6_row (unhide HR3).2.2 cz0 pl0
    · rw [unhide HNN]
      exact ⟨pl0, rfl, CzN.none _ _, (unhide HB3).trans ((st6_but w3 (w.heap.size + 2) cz0 pl0).below (by omega))⟩
  | true =>
  go_wp2_with fail
  refine (unhide HI2 w3 (unhide HB3)).mono ?_
  rintro e w4 ⟨rfl, hb4⟩
  have hs4 := hb4.size
  have HB4 := hide ((unhide HB3).trans (hb4.mono (by omega)))
  have HR4 : Hid (Row w4 w.heap.size 60 6 (czF c p) ∧ Row w4 (w.heap.size + 1) 124 4 (fun j => if j = 0 then .string ⟨actor.toArray⟩ else if j = 1 then .slice a1 t1.length d1 else if j = 2 then .slice a2 t2.length d2 else .int .i64 life) ∧ Row w4 (w.heap.size + 1 + 1) 60 6 (czF cz0 pl0)) := ⟨(unhide HR3).1.below hb4 (by omega), (unhide HR3).2.1.below hb4 (by omega), (unhide HR3).2.2.below hb4 (by omega)⟩
  clear HI2 HR3 HB3 hb4 e2 y0 y1 y2 y3 y4 y5 z0 z1 z2 z3 z4 z5
  have Z4 := (unhide HR4).2.2
  have y0 : w4.cell? ⟨w.heap.size + 2, 0, none⟩ = some (.int .i64 0) := Z4.cell (by decide)
  have y1 : w4.cell? ⟨w.heap.size + 2, 1, none⟩ = some (.string ⟨#[]⟩) := Z4.cell (by decide)
  have y2 : w4.cell? ⟨w.heap.size + 2, 2, none⟩ = some (.slice none 0 0) := Z4.cell (by decide)
  have y3 : w4.cell? ⟨w.heap.size + 2, 3, none⟩ = some (.slice none 0 0) := Z4.cell (by decide)
  have y4 : w4.cell? ⟨w.heap.size + 2, 4, none⟩ = some (.slice none 0 0) := Z4.cell (by decide)
  have y5 : w4.cell? ⟨w.heap.size + 2, 5, none⟩ = some (.int .i64 0) := Z4.cell (by decide)
  have z0 := Z4.frozen 0
  have z1 := Z4.frozen 1
  have z2 := Z4.frozen 2
  have z3 := Z4.frozen 3
  have z4 := Z4.frozen 4
  have z5 := Z4.frozen 5
  clear Z4
  cases hx2 : listB t2 with
  | false =>
    have hnn2 : nn = (cz0, 2) := by rw [unhide HN, hx1, hx2]; rfl
    have HNN := hide hnn2
    clear hx1 hx2 HN hnn hnn2
    go_wp2_with fail
    refine ret_cz (c := cz0) (p := pl0) (g := w.heap.size + 2) Tryz.results109 ?_ rfl rfl ?_
    · exact st6_row (unhide HR4).2.2 cz0 pl0
    · rw [unhide HNN]
      exact ⟨pl0, rfl, CzN.none _ _, (unhide HB4).trans ((st6_but w4 (w.heap.size + 2) cz0 pl0).below (by omega))⟩
  | true =>
  have HN2 : Hid (nn = if (chooseL c.scp t1 x.sc).length = 0 then (cz0, 8) else if (chooseL c.aud t2 x.tg).length = 0 then (cz0, 9) else ({ c with scp := chooseL c.scp t1 x.sc, aud := chooseL c.aud t2 x.tg }, 0)) := by unfold Hid; rw [unhide HN, hx1, hx2]; rfl
  clear HN hx1 hx2 hnn y0 y1 y2 y3 y4 y5 z0 z1 z2 z3 z4 z5
  obtain ⟨hqs, p2, p3, p4, hcell, hP2, hP3, _, _⟩ := unhide HX
  have hqs' : q < s := hqs
  have HCh1 := hide (choose_any (.slice p.a2 c.scp.length p.c2) (.slice a1 t1.length d1) c.scp t1 p2 x.sc w4.drew M (fun k hk => by have := unhide HM k hk; show k < w4.heap.size; omega) (· < s) (fun k hk => by have : k < s := hk; show k < w4.heap.size; omega) (unhide HLs).1.l2 (unhide HLs).2.2.2.2.1 (by have := (unhide HLs).2.2.1; omega) (((unhide HLs).2.1.k2.below (unhide HB4)).drew.up (show w.heap.size ≤ w4.heap.size by omega)) ((unhide HNN1).keep (fun k hk => ⟨(unhide HB4).block k (unhide HM k hk), hk⟩)) ((hP2.keep (fun k hk => ⟨(unhide HB4).block k (by have : k < s := hk; omega), hk⟩)).keep (fun k hk => ⟨rfl, hk⟩)))
  have hq1 : w4.cell? ⟨q, 1, none⟩ = some (.func (.func 188) #[] #[.pointer (some ⟨p2, 0, none⟩)]) := ((unhide HB4).cell (p := ⟨q, 1, none⟩) (show q < w.heap.size by omega)).trans (hcell 1 (by decide))
  have hq2 : w4.cell? ⟨q, 2, none⟩ = some (.func (.func 188) #[] #[.pointer (some ⟨p3, 0, none⟩)]) := ((unhide HB4).cell (p := ⟨q, 2, none⟩) (show q < w.heap.size by omega)).trans (hcell 2 (by decide))
  have HP3 : Hid (∀ w' : World, Below w.heap.size w w' → LsP w' (· < s) p3 x.tg) := fun w' hb => hP3.keep (fun k hk => ⟨hb.block k (by have : k < s := hk; omega), hk⟩)
  have r2 : w4.cell? ⟨w.heap.size, 2, none⟩ = some (.slice p.a2 c.scp.length p.c2) := (unhide HR4).1.cell (by decide)
  have r21 : w4.cell? ⟨w.heap.size + 1, 1, none⟩ = some (.slice a1 t1.length d1) := (unhide HR4).2.1.cell (by decide)
  clear hcell hP2 hP3 HX
  generalize hh0 : w.heap.size = h0 at *
  generalize hh1 : h0 + 1 = h1 at *
  generalize hh2 : h1 + 1 = h2 at *
  have HNE : Hid (∀ k, (M k ∨ h2 < k) → k ≠ h0 ∧ k ≠ h2) := fun k h => by
    rcases h with h | h
    · have := unhide HM k h; omega
    · omega
  go_wp2_with fail
  refine wp_region_L 10 (fun w' => w'.cell? ⟨h0, 2, none⟩ = some (.slice p.a2 c.scp.length p.c2) ∧ w'.cell? ⟨h1, 1, none⟩ = some (.slice a1 t1.length d1) ∧ w'.cell? ⟨q, 1, none⟩ = some (.func (.func 188) #[] #[.pointer (some ⟨p2, 0, none⟩)])) (by kernel_rfl) ?_
  have hH : (w4.drew.cell? ⟨h0, 2, none⟩ = some (.slice p.a2 c.scp.length p.c2) ∧ w4.drew.cell? ⟨h1, 1, none⟩ = some (.slice a1 t1.length d1) ∧ w4.drew.cell? ⟨q, 1, none⟩ = some (.func (.func 188) #[] #[.pointer (some ⟨p2, 0, none⟩)])) := ⟨r2, r21, hq1⟩
  refine wpAnyL_take (i := 0) (oi := _) (v := ?_) rfl (by kernel_rfl) (by kernel_rfl) (by kernel_rfl) (by kernel_rfl) (fun _ _ _ h => h) (Or.inl ⟨by rfl, ?_⟩) hH ?_
  rotate_left
  · intro u hSu
    try dsimp only at hSu
    go_simp
    try with_reducible rfl
  try simp only [Act.put, List.setIfInBounds_toArray, List.set_cons_zero, List.set_cons_succ]
  refine wpAnyL_take (i := 1) (oi := _) (v := ?_) rfl (by kernel_rfl) (by kernel_rfl) (by kernel_rfl) (by kernel_rfl) (fun _ _ _ h => h) (Or.inl ⟨by rfl, ?_⟩) hH ?_
  rotate_left
  · intro u hSu
    try dsimp only at hSu
    go_simp
    try with_reducible rfl
  try simp only [Act.put, List.setIfInBounds_toArray, List.set_cons_zero, List.set_cons_succ]
  refine wpAnyL_take (i := 2) (oi := _) (v := ?_) rfl (by kernel_rfl) (by kernel_rfl) (by kernel_rfl) (by kernel_rfl) (fun _ _ _ h => h) (Or.inl ⟨by rfl, ?_⟩) hH ?_
  rotate_left
  · intro u hSu
    try dsimp only at hSu
    go_simp
    try with_reducible rfl
  try simp only [Act.put, List.setIfInBounds_toArray, List.set_cons_zero, List.set_cons_succ]
  refine wpAnyL_take (i := 3) (oi := _) (v := ?_) rfl (by kernel_rfl) (by kernel_rfl) (by kernel_rfl) (by kernel_rfl) (fun _ _ _ h => h) (Or.inl ⟨by rfl, ?_⟩) hH ?_
  rotate_left
  · intro u hSu
    try dsimp only at hSu
    go_simp
    try with_reducible rfl
  try simp only [Act.put, List.setIfInBounds_toArray, List.set_cons_zero, List.set_cons_succ]
  refine wpAnyL_take (i := 4) (oi := _) (v := ?_) rfl (by kernel_rfl) (by kernel_rfl) (by kernel_rfl) (by kernel_rfl) (fun _ _ _ h => h) (Or.inl ⟨by rfl, ?_⟩) hH ?_
  rotate_left
  · intro u hSu
    try dsimp only at hSu
    go_simp
    try with_reducible rfl
  try simp only [Act.put, List.setIfInBounds_toArray, List.set_cons_zero, List.set_cons_succ]
  refine wpAnyL_one (i := 5) (by kernel_rfl) ?_
  refine wpOp_step (o := _) rfl (fun K hK => ?_)
  go_simp
  refine hK _ _ ⟨fun _ => hH, ?_⟩
  clear hK K
  try simp only [Act.put, List.setIfInBounds_toArray, List.set_cons_zero, List.set_cons_succ]
  refine wpAnyL_take (i := 6) (oi := _) (v := ?_) rfl (by kernel_rfl) (by kernel_rfl) (by kernel_rfl) (by kernel_rfl) (fun _ _ _ h => h) (Or.inl ⟨by rfl, ?_⟩) hH ?_
  rotate_left
  · intro u hSu
    try dsimp only at hSu
    go_simp
    try with_reducible rfl
  try simp only [Act.put, List.setIfInBounds_toArray, List.set_cons_zero, List.set_cons_succ]
  refine wpAnyL_take (i := 7) (oi := _) (v := ?_) rfl (by kernel_rfl) (by kernel_rfl) (by kernel_rfl) (by kernel_rfl) (fun _ _ _ h => h) (Or.inl ⟨by rfl, ?_⟩) hH ?_
  rotate_left
  · intro u hSu
    try dsimp only at hSu
    go_simp
    try with_reducible rfl
  try simp only [Act.put, List.setIfInBounds_toArray, List.set_cons_zero, List.set_cons_succ]
  refine wpAnyL_one (i := 8) (by kernel_rfl) ?_
  refine wpOp_step (o := _) rfl (fun K hK => ?_)
  go_simp
  refine (unhide HCh1).mono ?_
  rintro e w5 ⟨v5, rfl, hL5, hb5⟩
  have hs5 : w4.heap.size ≤ w5.heap.size := hb5.size
  generalize hcl1 : chooseL c.scp t1 x.sc = L5 at *
  have HCL1 := hide hcl1
  clear hcl1
  have HL5 := hide hL5
  obtain ⟨a5, d5, rfl, hl5⟩ := hL5
  clear hl5
  have hb45 : Below w4.heap.size w4 w5 := (Below.refl _ _).drew.trans hb5
  have HR5 : Hid (Row w5 h0 60 6 (czF c p) ∧ Row w5 h1 124 4 (fun j => if j = 0 then .string ⟨actor.toArray⟩ else if j = 1 then .slice a1 t1.length d1 else if j = 2 then .slice a2 t2.length d2 else .int .i64 life) ∧ Row w5 h2 60 6 (czF cz0 pl0)) := ⟨(unhide HR4).1.below hb45 (by omega), (unhide HR4).2.1.below hb45 (by omega), (unhide HR4).2.2.below hb45 (by omega)⟩
  have HB5 := hide ((unhide HB4).trans (hb45.mono (by omega)))
  have c52 : w5.cell? ⟨h0, 2, none⟩ = some (.slice p.a2 c.scp.length p.c2) := (unhide HR5).1.cell (by decide)
  have z52 := (unhide HR5).1.frozen 2
  have hq51 := (hb45.cell (p := ⟨q, 1, none⟩) (show q < w4.heap.size by omega)).trans hq1
  have hq52 := (hb45.cell (p := ⟨q, 2, none⟩) (show q < w4.heap.size by omega)).trans hq2
  have hH2 : (w5.cell? ⟨h0, 2, none⟩ = some (.slice p.a2 c.scp.length p.c2) ∧ w5.cell? ⟨h1, 1, none⟩ = some (.slice a1 t1.length d1) ∧ w5.cell? ⟨q, 1, none⟩ = some (.func (.func 188) #[] #[.pointer (some ⟨p2, 0, none⟩)])) := ⟨c52, (unhide HR5).2.1.cell (by decide), hq51⟩
  clear HCh1 hb5 hb45 HR4 HB4 hq1 hq2 r2 r21 hH
  try go_simp
  refine hK _ _ ⟨fun _ => hH2, ?_⟩
  clear hK K
  try simp only [Act.put, List.setIfInBounds_toArray, List.set_cons_zero, List.set_cons_succ]
  refine wpAnyL_one (i := 9) (by kernel_rfl) ?_
  refine wpOp_step (o := _) rfl (fun K hK => ?_)
  go_simp
  refine hK _ _ ⟨fun _ => hH2, ?_⟩
  clear hK K
  try simp only [Act.put, List.setIfInBounds_toArray, List.set_cons_zero, List.set_cons_succ]
  refine wpAnyL_one (i := 10) (by kernel_rfl) ?_
  refine wpOp_step (o := _) rfl (fun K hK => ?_)
  go_simp
  refine hK _ _ ⟨fun h => absurd rfl h, ?_⟩
  clear hK K
  refine wpAnyL_done (by kernel_rfl) ?_ _
  have hB6 := (But.refl h0 w5).setCell 2 (.slice a5 L5.length d5)
  have hR6 := (unhide HR5).1.set_czF 2 (.slice a5 L5.length d5) (c' := { c with scp := L5 }) (p' := { p with a2 := a5, c2 := d5 }) (six rfl rfl rfl rfl rfl rfl)
  have HR6 : Hid (Row (w5.setCell ⟨h0, 2, none⟩ (.slice a5 L5.length d5)) h0 60 6 (czF { c with scp := L5 } { p with a2 := a5, c2 := d5 }) ∧ Row (w5.setCell ⟨h0, 2, none⟩ (.slice a5 L5.length d5)) h1 124 4 (fun j => if j = 0 then .string ⟨actor.toArray⟩ else if j = 1 then .slice a1 t1.length d1 else if j = 2 then .slice a2 t2.length d2 else .int .i64 life) ∧ Row (w5.setCell ⟨h0, 2, none⟩ (.slice a5 L5.length d5)) h2 60 6 (czF cz0 pl0)) := ⟨hR6, (unhide HR5).2.1.but hB6 (by omega), (unhide HR5).2.2.but hB6 (by omega)⟩
  have HB6 := hide ((unhide HB5).trans (hB6.below (Nat.le_refl h0)))
  have HL6 : Hid (LsN (w5.setCell ⟨h0, 2, none⟩ (.slice a5 L5.length d5)) (fun k => (M k ∨ h2 < k) ∧ k < w5.heap.size) (.slice a5 L5.length d5) L5) := (unhide HL5).keep (fun k hk => ⟨hB6.block k (unhide HNE k (hk.1.imp id (fun h => by have : w4.heap.size ≤ k := h; omega))).1, hk.1.imp id (fun h => by have : w4.heap.size ≤ k := h; omega), hk.2⟩)
  have hs6 : (w5.setCell ⟨h0, 2, none⟩ (.slice a5 L5.length d5)).heap.size = w5.heap.size := hB6.size
  have hq6 := (hB6.cell' ⟨q, 2, none⟩ (show q ≠ h0 by omega)).trans hq52
  generalize w5.setCell ⟨h0, 2, none⟩ (.slice a5 L5.length d5) = w6 at *
  clear hB6 hR6 HR5 HB5 HL5 c52 z52 hq51 hq52 hH2
  have Z6 := (unhide HR6).2.2
  have y0 : w6.cell? ⟨h2, 0, none⟩ = some (.int .i64 0) := Z6.cell (by decide)
  have y1 : w6.cell? ⟨h2, 1, none⟩ = some (.string ⟨#[]⟩) := Z6.cell (by decide)
  have y2 : w6.cell? ⟨h2, 2, none⟩ = some (.slice none 0 0) := Z6.cell (by decide)
  have y3 : w6.cell? ⟨h2, 3, none⟩ = some (.slice none 0 0) := Z6.cell (by decide)
  have y4 : w6.cell? ⟨h2, 4, none⟩ = some (.slice none 0 0) := Z6.cell (by decide)
  have y5 : w6.cell? ⟨h2, 5, none⟩ = some (.int .i64 0) := Z6.cell (by decide)
  have z0 := Z6.frozen 0
  have z1 := Z6.frozen 1
  have z2 := Z6.frozen 2
  have z3 := Z6.frozen 3
  have z4 := Z6.frozen 4
  have z5 := Z6.frozen 5
  clear Z6
  have r62 : w6.cell? ⟨h0, 2, none⟩ = some (.slice a5 L5.length d5) := (unhide HR6).1.cell (by decide)
  by_cases h5 : L5.length = 0
  · have h5I : ((L5.length : Nat) : Int) = 0 := by omega
    have hnn2 : nn = (cz0, 8) := by rw [unhide HN2, if_pos h5]
    have HNN := hide hnn2
    clear HN2 hnn2 h5
    go_wp2_with fail
    refine ret_cz (c := cz0) (p := pl0) (g := h2) Tryz.results109 ?_ rfl rfl ?_
    · exact st6_row (unhide HR6).2.2 cz0 pl0
    · rw [unhide HNN]
      exact ⟨pl0, rfl, CzN.none _ _, by rw [hh0]; exact (unhide HB6).trans ((st6_but w6 h2 cz0 pl0).below (by omega))⟩
  · have h5I : ¬ ((L5.length : Nat) : Int) = 0 := by omega
    have HN3 : Hid (nn = if (chooseL c.aud t2 x.tg).length = 0 then (cz0, 9) else ({ c with scp := L5, aud := chooseL c.aud t2 x.tg }, 0)) := by unfold Hid; rw [unhide HN2, if_neg h5]
    clear HN2 h5 y0 y1 y2 y3 y4 y5 z0 z1 z2 z3 z4 z5
    have HCh2 := hide (choose_any (.slice p.a3 c.aud.length p.c3) (.slice a2 t2.length d2) c.aud t2 p3 x.tg w6.drew M (fun k hk => by have := unhide HM k hk; show k < w6.heap.size; omega) (· < s) (fun k hk => by have : k < s := hk; show k < w6.heap.size; omega) (unhide HLs).1.l3 (unhide HLs).2.2.2.2.2 (by have := (unhide HLs).2.2.2.1; omega) (((unhide HLs).2.1.k3.below (unhide HB6)).drew.up (show h0 ≤ w6.heap.size by omega)) ((unhide HNN2).keep (fun k hk => ⟨(unhide HB6).block k (unhide HM k hk), hk⟩)) ((unhide HP3 w6 (unhide HB6)).keep (fun k hk => ⟨rfl, hk⟩)))
    have r63 : w6.cell? ⟨h0, 3, none⟩ = some (.slice p.a3 c.aud.length p.c3) := (unhide HR6).1.cell (by decide)
    have r621 : w6.cell? ⟨h1, 2, none⟩ = some (.slice a2 t2.length d2) := (unhide HR6).2.1.cell (by decide)
    go_wp2_with fail
    refine wp_region_L 10 (fun w' => w'.cell? ⟨h0, 3, none⟩ = some (.slice p.a3 c.aud.length p.c3) ∧ w'.cell? ⟨h1, 2, none⟩ = some (.slice a2 t2.length d2) ∧ w'.cell? ⟨q, 2, none⟩ = some (.func (.func 188) #[] #[.pointer (some ⟨p3, 0, none⟩)])) (by kernel_rfl) ?_
    have hH : (w6.drew.cell? ⟨h0, 3, none⟩ = some (.slice p.a3 c.aud.length p.c3) ∧ w6.drew.cell? ⟨h1, 2, none⟩ = some (.slice a2 t2.length d2) ∧ w6.drew.cell? ⟨q, 2, none⟩ = some (.func (.func 188) #[] #[.pointer (some ⟨p3, 0, none⟩)])) := ⟨r63, r621, hq6⟩
    refine wpAnyL_take (i := 0) (oi := _) (v := ?_) rfl (by kernel_rfl) (by kernel_rfl) (by kernel_rfl) (by kernel_rfl) (fun _ _ _ h => h) (Or.inl ⟨by rfl, ?_⟩) hH ?_
    rotate_left
    · intro u hSu
      try dsimp only at hSu
      go_simp
      try with_reducible rfl
    try simp only [Act.put, List.setIfInBounds_toArray, List.set_cons_zero, List.set_cons_succ]
    refine wpAnyL_take (i := 1) (oi := _) (v := ?_) rfl (by kernel_rfl) (by kernel_rfl) (by kernel_rfl) (by kernel_rfl) (fun _ _ _ h => h) (Or.inl ⟨by rfl, ?_⟩) hH ?_
    rotate_left
    · intro u hSu
      try dsimp only at hSu
      go_simp
      try with_reducible rfl
    try simp only [Act.put, List.setIfInBounds_toArray, List.set_cons_zero, List.set_cons_succ]
    refine wpAnyL_take (i := 2) (oi := _) (v := ?_) rfl (by kernel_rfl) (by kernel_rfl) (by kernel_rfl) (by kernel_rfl) (fun _ _ _ h => h) (Or.inl ⟨by rfl, ?_⟩) hH ?_
    rotate_left
    · intro u hSu
      try dsimp only at hSu
      go_simp
      try with_reducible rfl
    try simp only [Act.put, List.setIfInBounds_toArray, List.set_cons_zero, List.set_cons_succ]
    refine wpAnyL_take (i := 3) (oi := _) (v := ?_) rfl (by kernel_rfl) (by kernel_rfl) (by kernel_rfl) (by kernel_rfl) (fun _ _ _ h => h) (Or.inl ⟨by rfl, ?_⟩) hH ?_
    rotate_left
    · intro u hSu
      try dsimp only at hSu
      go_simp
      try with_reducible rfl
    try simp only [Act.put, List.setIfInBounds_toArray, List.set_cons_zero, List.set_cons_succ]
    refine wpAnyL_take (i := 4) (oi := _) (v := ?_) rfl (by kernel_rfl) (by kernel_rfl) (by kernel_rfl) (by kernel_rfl) (fun _ _ _ h => h) (Or.inl ⟨by rfl, ?_⟩) hH ?_
    rotate_left
    · intro u hSu
      try dsimp only at hSu
      go_simp
      try with_reducible rfl
    try simp only [Act.put, List.setIfInBounds_toArray, List.set_cons_zero, List.set_cons_succ]
    refine wpAnyL_one (i := 5) (by kernel_rfl) ?_
    refine wpOp_step (o := _) rfl (fun K hK => ?_)
    go_simp
    refine hK _ _ ⟨fun _ => hH, ?_⟩
    clear hK K
    try simp only [Act.put, List.setIfInBounds_toArray, List.set_cons_zero, List.set_cons_succ]
    refine wpAnyL_take (i := 6) (oi := _) (v := ?_) rfl (by kernel_rfl) (by kernel_rfl) (by kernel_rfl) (by kernel_rfl) (fun _ _ _ h => h) (Or.inl ⟨by rfl, ?_⟩) hH ?_
    rotate_left
    · intro u hSu
      try dsimp only at hSu
      go_simp
      try with_reducible rfl
    try simp only [Act.put, List.setIfInBounds_toArray, List.set_cons_zero, List.set_cons_succ]
    refine wpAnyL_take (i := 7) (oi := _) (v := ?_) rfl (by kernel_rfl) (by kernel_rfl) (by kernel_rfl) (by kernel_rfl) (fun _ _ _ h => h) (Or.inl ⟨by rfl, ?_⟩) hH ?_
    rotate_left
    · intro u hSu
      try dsimp only at hSu
      go_simp
      try with_reducible rfl
    try simp only [Act.put, List.setIfInBounds_toArray, List.set_cons_zero, List.set_cons_succ]
    refine wpAnyL_one (i := 8) (by kernel_rfl) ?_
    refine wpOp_step (o := _) rfl (fun K hK => ?_)
    go_simp
    refine (unhide HCh2).mono ?_
    rintro e w8 ⟨v8, rfl, hL8, hb8⟩
    have hs8 : w6.heap.size ≤ w8.heap.size := hb8.size
    generalize hcl2 : chooseL c.aud t2 x.tg = L8 at *
    clear hcl2
    have HL8 := hide hL8
    obtain ⟨a8, d8, rfl, hl8⟩ := hL8
    clear hl8
    have hb68 : Below w6.heap.size w6 w8 := (Below.refl _ _).drew.trans hb8
    have HR8 : Hid (Row w8 h0 60 6 (czF { c with scp := L5 } { p with a2 := a5, c2 := d5 }) ∧ Row w8 h1 124 4 (fun j => if j = 0 then .string ⟨actor.toArray⟩ else if j = 1 then .slice a1 t1.length d1 else if j = 2 then .slice a2 t2.length d2 else .int .i64 life) ∧ Row w8 h2 60 6 (czF cz0 pl0)) := ⟨(unhide HR6).1.below hb68 (by omega), (unhide HR6).2.1.below hb68 (by omega), (unhide HR6).2.2.below hb68 (by omega)⟩
    have HB8 := hide ((unhide HB6).trans (hb68.mono (by omega)))
    have HL58 : Hid (LsN w8 (fun k => (M k ∨ h2 < k) ∧ k < w6.heap.size) (.slice a5 L5.length d5) L5) := (unhide HL6).keep (fun k hk => ⟨hb68.block k (by have := hk.2; omega), hk.1, by have := hk.2; omega⟩)
    have c83 : w8.cell? ⟨h0, 3, none⟩ = some (.slice p.a3 c.aud.length p.c3) := (unhide HR8).1.cell (by decide)
    have z83 := (unhide HR8).1.frozen 3
    have hH2 : (w8.cell? ⟨h0, 3, none⟩ = some (.slice p.a3 c.aud.length p.c3) ∧ w8.cell? ⟨h1, 2, none⟩ = some (.slice a2 t2.length d2) ∧ w8.cell? ⟨q, 2, none⟩ = some (.func (.func 188) #[] #[.pointer (some ⟨p3, 0, none⟩)])) := ⟨c83, (unhide HR8).2.1.cell (by decide), (hb68.cell (p := ⟨q, 2, none⟩) (show q < w6.heap.size by omega)).trans hq6⟩
    clear HCh2 hb8 hb68 HR6 HB6 HL6 hq6 r62 r63 r621 hH
    try go_simp
    refine hK _ _ ⟨fun _ => hH2, ?_⟩
    clear hK K
    try simp only [Act.put, List.setIfInBounds_toArray, List.set_cons_zero, List.set_cons_succ]
    refine wpAnyL_one (i := 9) (by kernel_rfl) ?_
    refine wpOp_step (o := _) rfl (fun K hK => ?_)
    go_simp
    refine hK _ _ ⟨fun _ => hH2, ?_⟩
    clear hK K
    try simp only [Act.put, List.setIfInBounds_toArray, List.set_cons_zero, List.set_cons_succ]
    refine wpAnyL_one (i := 10) (by kernel_rfl) ?_
    refine wpOp_step (o := _) rfl (fun K hK => ?_)
    go_simp
    refine hK _ _ ⟨fun h => absurd rfl h, ?_⟩
    clear hK K
    refine wpAnyL_done (by kernel_rfl) ?_ _
    have hB9 := (But.refl h0 w8).setCell 3 (.slice a8 L8.length d8)
    have hR9 := (unhide HR8).1.set_czF 3 (.slice a8 L8.length d8) (c' := { c with scp := L5, aud := L8 }) (p' := { p with a2 := a5, c2 := d5, a3 := a8, c3 := d8 }) (six rfl rfl rfl rfl rfl rfl)
    have HR9 : Hid (Row (w8.setCell ⟨h0, 3, none⟩ (.slice a8 L8.length d8)) h0 60 6 (czF { c with scp := L5, aud := L8 } { p with a2 := a5, c2 := d5, a3 := a8, c3 := d8 }) ∧ Row (w8.setCell ⟨h0, 3, none⟩ (.slice a8 L8.length d8)) h1 124 4 (fun j => if j = 0 then .string ⟨actor.toArray⟩ else if j = 1 then .slice a1 t1.length d1 else if j = 2 then .slice a2 t2.length d2 else .int .i64 life) ∧ Row (w8.setCell ⟨h0, 3, none⟩ (.slice a8 L8.length d8)) h2 60 6 (czF cz0 pl0)) := ⟨hR9, (unhide HR8).2.1.but hB9 (by omega), (unhide HR8).2.2.but hB9 (by omega)⟩
    have HB9 := hide ((unhide HB8).trans (hB9.below (Nat.le_refl h0)))
    have hs9 : (w8.setCell ⟨h0, 3, none⟩ (.slice a8 L8.length d8)).heap.size = w8.heap.size := hB9.size
    have HL59 : Hid (LsN (w8.setCell ⟨h0, 3, none⟩ (.slice a8 L8.length d8)) (fun k => (M k ∨ h2 < k) ∧ k < w8.heap.size) (.slice a5 L5.length d5) L5) := (unhide HL58).keep (fun k hk => ⟨hB9.block k (unhide HNE k hk.1).1, hk.1, Nat.lt_of_lt_of_le hk.2 hs8⟩)
    have HL89 : Hid (LsN (w8.setCell ⟨h0, 3, none⟩ (.slice a8 L8.length d8)) (fun k => (M k ∨ h2 < k) ∧ k < w8.heap.size) (.slice a8 L8.length d8) L8) := (unhide HL8).keep (fun k hk => ⟨hB9.block k (unhide HNE k (hk.1.imp id (fun h => by have : w6.heap.size ≤ k := h; omega))).1, hk.1.imp id (fun h => by have : w6.heap.size ≤ k := h; omega), hk.2⟩)
    generalize w8.setCell ⟨h0, 3, none⟩ (.slice a8 L8.length d8) = w9 at *
    clear hB9 hR9 HR8 HB8 HL58 HL8 c83 z83 hH2
    have Z9 := (unhide HR9).2.2
    have y0 : w9.cell? ⟨h2, 0, none⟩ = some (.int .i64 0) := Z9.cell (by decide)
    have y1 : w9.cell? ⟨h2, 1, none⟩ = some (.string ⟨#[]⟩) := Z9.cell (by decide)
    have y2 : w9.cell? ⟨h2, 2, none⟩ = some (.slice none 0 0) := Z9.cell (by decide)
    have y3 : w9.cell? ⟨h2, 3, none⟩ = some (.slice none 0 0) := Z9.cell (by decide)
    have y4 : w9.cell? ⟨h2, 4, none⟩ = some (.slice none 0 0) := Z9.cell (by decide)
    have y5 : w9.cell? ⟨h2, 5, none⟩ = some (.int .i64 0) := Z9.cell (by decide)
    have z0 := Z9.frozen 0
    have z1 := Z9.frozen 1
    have z2 := Z9.frozen 2
    have z3 := Z9.frozen 3
    have z4 := Z9.frozen 4
    have z5 := Z9.frozen 5
    clear Z9
    have r93 : w9.cell? ⟨h0, 3, none⟩ = some (.slice a8 L8.length d8) := (unhide HR9).1.cell (by decide)
    by_cases h8 : L8.length = 0
    · have h8I : ((L8.length : Nat) : Int) = 0 := by omega
      have hnn2 : nn = (cz0, 9) := by rw [unhide HN3, if_pos h8]
      have HNN := hide hnn2
      clear HN3 hnn2 h8
      go_wp2_with fail
      refine ret_cz (c := cz0) (p := pl0) (g := h2) Tryz.results109 ?_ rfl rfl ?_
      · exact st6_row (unhide HR9).2.2 cz0 pl0
      · rw [unhide HNN]
        exact ⟨pl0, rfl, CzN.none _ _, by rw [hh0]; exact (unhide HB9).trans ((st6_but w9 h2 cz0 pl0).below (by omega))⟩
    · have h8I : ¬ ((L8.length : Nat) : Int) = 0 := by omega
      have hnn2 : nn = ({ c with scp := L5, aud := L8 }, 0) := by rw [unhide HN3, if_neg h8]
      have HNN := hide hnn2
      clear HN3 hnn2 h8
      have R9 := (unhide HR9).1
      have r0 : w9.cell? ⟨h0, 0, none⟩ = some (.int .i64 c.id) := R9.cell (by decide)
      have r1 : w9.cell? ⟨h0, 1, none⟩ = some (.string ⟨c.sub.toArray⟩) := R9.cell (by decide)
      have r2 : w9.cell? ⟨h0, 2, none⟩ = some (.slice a5 L5.length d5) := R9.cell (by decide)
      have r4 : w9.cell? ⟨h0, 4, none⟩ = some (.slice p.a4 c.act.length p.c4) := R9.cell (by decide)
      have r5 : w9.cell? ⟨h0, 5, none⟩ = some (.int .i64 c.exp) := R9.cell (by decide)
      clear R9
      have hfin : CzN (st6 w9 h2 { c with scp := L5, aud := L8 } { p with a2 := a5, c2 := d5, a3 := a8, c3 := d8 }) (fun k => (M k ∨ h0 ≤ k) ∧ k < (st6 w9 h2 { c with scp := L5, aud := L8 } { p with a2 := a5, c2 := d5, a3 := a8, c3 := d8 }).heap.size) { c with scp := L5, aud := L8 } { p with a2 := a5, c2 := d5, a3 := a8, c3 := d8 } ∧ Below h0 w (st6 w9 h2 { c with scp := L5, aud := L8 } { p with a2 := a5, c2 := d5, a3 := a8, c3 := d8 }) := by
        have b6 := st6_but w9 h2 { c with scp := L5, aud := L8 } { p with a2 := a5, c2 := d5, a3 := a8, c3 := d8 }
        generalize st6 w9 h2 { c with scp := L5, aud := L8 } { p with a2 := a5, c2 := d5, a3 := a8, c3 := d8 } = wf at b6 ⊢
        have hsf : wf.heap.size = w9.heap.size := b6.size
        have hbf := (unhide HB9).trans (b6.below (show h0 ≤ h2 by omega))
        refine ⟨⟨?_, ?_, ?_⟩, hbf⟩
        · exact (unhide HL59).keep (fun k hk => ⟨b6.block k (unhide HNE k hk.1).2, hk.1.imp id (fun h => by omega), by have := hk.2; omega⟩)
        · exact (unhide HL89).keep (fun k hk => ⟨b6.block k (unhide HNE k hk.1).2, hk.1.imp id (fun h => by omega), by have := hk.2; omega⟩)
        · exact (unhide HCN).k4.keep (fun k hk => ⟨hbf.block k (unhide HM k hk), Or.inl hk, by have := unhide HM k hk; omega⟩)
      have HF := hide hfin
      clear hfin
      go_wp2_with fail
      refine ret_cz (c := { c with scp := L5, aud := L8 }) (p := { p with a2 := a5, c2 := d5, a3 := a8, c3 := d8 }) (g := h2) Tryz.results109 ?_ rfl rfl ?_
      · exact st6_row (unhide HR9).2.2 { c with scp := L5, aud := L8 } { p with a2 := a5, c2 := d5, a3 := a8, c3 := d8 }
      · rw [unhide HNN]
        exact ⟨{ p with a2 := a5, c2 := d5, a3 := a8, c3 := d8 }, rfl, by rw [hh0]; exact (unhide HF).1, by rw [hh0]; exact (unhide HF).2⟩
end Go.Proofs.YtkmkkmdpjliifaaGreatDoor
