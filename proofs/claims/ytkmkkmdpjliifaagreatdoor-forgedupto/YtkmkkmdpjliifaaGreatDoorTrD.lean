import Derived.Test.YtkmkkmdpjliifaaGreatDoorTrB
import Derived.BigQuiet
import Derived.Deep.RegionHeld3
import Derived.Test.YtkmkkmdpjliifaaGreatDoorExE
namespace Go.Proofs.YtkmkkmdpjliifaaGreatDoor
open Go.ChangeShapes Go.WideShapes Go.ChangeAt Go.RowKit

theorem info60g : (Tryz.prog.info? 60).map (fun i => (i.zero, i.size, i.bytes)) = some (some (.agg #[.int .i64 0, .string ⟨#[]⟩, .slice none 0 0, .slice none 0 0, .slice none 0 0, .int .i64 0]), 6, 104) := by kernel_rfl
theorem info3g : (Tryz.prog.info? 3).map (fun i => (i.zero, i.size, i.bytes)) = some (some (.int .i64 0), 1, 8) := by kernel_rfl
/-- what a look has laid down -/
def GrQ (w : World) (c : Cz) (pt ok er : Value) (wc : World) : Prop :=
  ∃ p' g, ok = .bool true ∧ er = .int .i64 0 ∧ pt = .pointer (some ⟨g, 0, none⟩) ∧ Row wc g 60 6 (czF c p') ∧ CzN wc (fun k => w.heap.size ≤ k ∧ k ≠ g ∧ k < wc.heap.size) c p' ∧ w.heap.size ≤ g ∧ Below w.heap.size w wc
theorem grqS {w wC : World} {c : Cz} {pC : Pl} {g : Nat} {f : Nat → Value} {N : Nat → Prop} (hR : Row wC g 60 6 f) (hN : CzN wC N c pC) (hne : ∀ k, N k → w.heap.size ≤ k ∧ k ≠ g ∧ k < wC.heap.size) (hg : w.heap.size ≤ g) (hB : Below w.heap.size w wC) :
    GrQ w c (.pointer (some ⟨g, 0, none⟩)) (.bool true) (.int .i64 0) (st6 wC g c pC) := by
  have b6 := st6_but wC g c pC
  refine ⟨pC, g, rfl, rfl, rfl, st6_row hR c pC, hN.keep (fun k hk => ⟨b6.block k (hne k hk).2.1, (hne k hk).1, (hne k hk).2.1, ?_⟩), hg, hB.trans (b6.below hg)⟩
  rw [b6.size]
  exact (hne k hk).2.2
theorem grqA {w wB wC : World} {c : Cz} {pC : Pl} (hb : Below w.heap.size w wB) (h : CzN wC (New wB wC) c pC ∧ Below wB.heap.size wB wC ∧ Below w.heap.size w wC) :
    GrQ w c (.pointer (some ⟨wC.heap.size, 0, none⟩)) (.bool true) (.int .i64 0) (wC.alloc (.cells #[.int .i64 c.id, .string ⟨c.sub.toArray⟩, .slice pC.a2 c.scp.length pC.c2, .slice pC.a3 c.aud.length pC.c3, .slice pC.a4 c.act.length pC.c4, .int .i64 c.exp] 60)) := by
  have ha : ∀ o, Below wC.heap.size wC (wC.alloc o) := fun o => (Below.refl _ _).alloc (Nat.le_refl _) o
  exact ⟨pC, wC.heap.size, rfl, rfl, rfl, Row.new wC 60 _ _ 6 rfl (six rfl rfl rfl rfl rfl rfl), h.1.keep (fun k hk => ⟨(ha _).block k hk.2, Nat.le_trans hb.size hk.1, by have := hk.2; omega, Nat.lt_of_lt_of_le hk.2 (ha _).size⟩), h.2.2.size, h.2.2.trans ((ha _).mono h.2.2.size)⟩
theorem grqB {w wB wC : World} {c : Cz} {pC : Pl} {ob : Obj} {f : Nat → Value} (hb : Below w.heap.size w wB) (h : CzN wC (New (wB.alloc ob) wC) c pC ∧ Below (wB.alloc ob).heap.size (wB.alloc ob) wC ∧ Below w.heap.size w wC) (hR : Row wC wB.heap.size 60 6 f) :
    GrQ w c (.pointer (some ⟨wB.heap.size, 0, none⟩)) (.bool true) (.int .i64 0) (st6 wC wB.heap.size c pC) := by
  have e : (wB.alloc ob).heap.size = wB.heap.size + 1 := by simp
  have hs := hb.size
  exact grqS hR h.1 (fun k hk => ⟨by have := hk.1; omega, by have := hk.1; omega, hk.2⟩) hs h.2.2
theorem grqC {w wB wC : World} {c : Cz} {pC : Pl} {ob : Obj} {f : Nat → Value} (hb : Below (w.drew.alloc ob).heap.size (w.drew.alloc ob) wB) (h : CzN wC (New wB wC) c pC ∧ Below wB.heap.size wB wC ∧ Below w.heap.size w wC) (hR : Row wC w.heap.size 60 6 f) :
    GrQ w c (.pointer (some ⟨w.heap.size, 0, none⟩)) (.bool true) (.int .i64 0) (st6 wC w.heap.size c pC) := by
  have e : (w.drew.alloc ob).heap.size = w.heap.size + 1 := by
    show (w.heap.push ob).size = _
    simp
  have hs := hb.size
  exact grqS hR h.1 (fun k hk => ⟨by have := hk.1; omega, by have := hk.1; omega, hk.2⟩) (Nat.le_refl _) h.2.2

set_option maxRecDepth 20000 in
set_option maxHeartbeats 4000000 in
set_option linter.unusedSimpArgs false in
theorem grow_any (t : List UInt8) (par : Int) (w : World) (gp s R O : Nat) (vk vs vg : Value) (Qs : List Nat) (G : List Gt) (vt vc vp : Value) (T : List (List UInt8)) (C : List (Cm × Pl)) (Pa : List Int) (hTr : Tr w gp s R O 0 vk vs vg Qs G vt vc vp false T C Pa) (hT : Tb s w) (hm : MX w) (h4 : 4 < s)
    (hn : T.length + 1 = G.length) (hC : C.length = T.length) (hP : Pa.length = T.length) (htk : takeS ks0 G 0 t = (some T.length, 0)) (ht : t.length ≤ 1048576) :
    Calls Tryz.prog 64 #[.pointer (some ⟨gp, 0, none⟩), .string ⟨t.toArray⟩, .int .i64 0, .int .i64 par] w fun e w' => (∃ v, e = .returned v) ∧ ∃ vt' vc' vp' pl, Tr w' gp s R O 0 vk vs vg Qs G vt' vc' vp' false (T ++ [t]) (C ++ [((G.getD T.length default).c, pl)]) (Pa ++ [par]) ∧ Below s w w' ∧ TFar gp s vg vg G G vt vt' vc vc' vp vp' w w' := by
  have hgl := hTr.lt
  have hsz := hTr.sv.lt
  have h40 := hTr.sv.small
  have HGL := hide hgl
  have HTr := hide hTr
  have HLo : Hid (∀ u : World, Below w.heap.size w u → Calls Tryz.prog 31 #[.int .i64 3] u fun e w' => e = .returned (.agg #[.string ⟨#[99, 51]⟩, .string ⟨#[115, 51]⟩]) ∧ Below u.heap.size u w' ∧ Below w.heap.size w w') := fun u hu =>
    (login_any 3 (by decide) u).mono (fun e w' ⟨h1, h2⟩ => ⟨h1, h2, hu.trans (h2.mono hu.size)⟩)
  have HLk : Hid (∀ u : World, Below w.heap.size w u → Calls Tryz.prog 32 #[.pointer (some ⟨s, 0, none⟩), .agg #[.string ⟨#[99, 51]⟩, .string ⟨#[115, 51]⟩], .string ⟨t.toArray⟩] u fun e w' => ∃ p', e = .returned (.tuple #[.agg #[.int .i64 (G.getD T.length default).c.z.id, .string ⟨(G.getD T.length default).c.z.sub.toArray⟩, .slice p'.a2 (G.getD T.length default).c.z.scp.length p'.c2, .slice p'.a3 (G.getD T.length default).c.z.aud.length p'.c3, .slice p'.a4 (G.getD T.length default).c.z.act.length p'.c4, .int .i64 (G.getD T.length default).c.z.exp], .bool true, .int .i64 0]) ∧ CzN w' (New u w') (G.getD T.length default).c.z p' ∧ Below u.heap.size u w' ∧ Below w.heap.size w w') := fun u hu => by
    have h := Look_any [99, 51] [115, 51] t u s R O 0 vk vs vg ks0 cs0 Qs G (hTr.sv.below hu) (hT.below (hu.mono (Nat.le_of_lt hsz))) (hm.below (Nat.lt_trans h4 hsz) hu) h4 ht
    rw [look_of kn_login3 htk] at h
    exact h.mono (fun e w' ⟨p', h1, h2, h3⟩ => ⟨p', h1, h2, h3, hu.trans (h3.mono hu.size)⟩)
  have hid : (G.getD T.length default).c.z.id = ((T.length + 1 : Nat) : Int) := congrArg (fun n : Nat => (n : Int)) (hTr.sv.id T.length (by omega))
  have HID := hide hid
  obtain ⟨at1, ct1, hvt⟩ := hTr.tx.form
  have c0 : w.cell? ⟨gp, 0, none⟩ = some (.pointer (some ⟨s, 0, none⟩)) := hTr.row.cell (j := 0) (by decide)
  have HLn := hide (And.intro hn (And.intro hC (And.intro hP h40)))
  have hT40 : T.length < 40 := by omega
  clear hTr hT hm h4 hn hC hP htk ht hid hgl h40
  have nnw : gp ≠ w.heap.size := by have := unhide HGL; omega
  have mmw : w.heap.size ≠ gp := by have := unhide HGL; omega
  generalize hcz : (G.getD T.length default).c.z = cz at *
  have HCZ := hide hcz
  clear hcz
  go_enter Tryz.func64, Tryz.ntmps64
  go_wp2_with fail
  go_cut [8, 9, 10] from 13 to 23 (fun pt ok er wc => GrQ w cz pt ok er wc)
  case first =>
    go_region_held3 (fun w' => w'.cell? ⟨gp, 0, none⟩ = some (.pointer (some ⟨s, 0, none⟩))) (go_keep)
      (first
        | (go_at_call 31; refine (unhide HLo _ (by first | exact (Below.refl _ _).drew | exact ((Below.refl _ _).drew.alloc (Nat.le_refl _) _))).mono ?_; rintro e wB ⟨rfl, bB, BB⟩; have x0 := (BB.cell (p := ⟨gp, 0, none⟩) (unhide HGL)).trans c0; (try (have R9 : Row wB w.heap.size 60 6 (czF cz0 pl0) := (Row.new w.drew 60 #[.int .i64 0, .string ⟨#[]⟩, .slice none 0 0, .slice none 0 0, .slice none 0 0, .int .i64 0] (czF cz0 pl0) 6 rfl (six rfl rfl rfl rfl rfl rfl)).below bB (by simp); have q0 : wB.cell? ⟨w.heap.size, 0, none⟩ = some (.int .i64 0) := R9.cell (by decide); have f0 := R9.frozen 0; have q1 : wB.cell? ⟨w.heap.size, 1, none⟩ = some (.string ⟨#[]⟩) := R9.cell (by decide); have f1 := R9.frozen 1; have q2 : wB.cell? ⟨w.heap.size, 2, none⟩ = some (.slice none 0 0) := R9.cell (by decide); have f2 := R9.frozen 2; have q3 : wB.cell? ⟨w.heap.size, 3, none⟩ = some (.slice none 0 0) := R9.cell (by decide); have f3 := R9.frozen 3; have q4 : wB.cell? ⟨w.heap.size, 4, none⟩ = some (.slice none 0 0) := R9.cell (by decide); have f4 := R9.frozen 4; have q5 : wB.cell? ⟨w.heap.size, 5, none⟩ = some (.int .i64 0) := R9.cell (by decide); have f5 := R9.frozen 5)); have nnB : gp ≠ wB.heap.size := (by have := BB.size; have := unhide HGL; omega); have mmB : wB.heap.size ≠ gp := (by have := BB.size; have := unhide HGL; omega); have R2 := hide (And.intro bB BB); clear bB BB)
        | (go_at_call 32; refine (unhide HLk _ (by first | exact (unhide R2).2 | exact (unhide R2).2.alloc (unhide R2).2.size _)).mono ?_; rintro e wC ⟨pC, rfl, nC, bC, BC⟩; have y0 := (BC.cell (p := ⟨gp, 0, none⟩) (unhide HGL)).trans c0; (first | (have R9 : Row wC wB.heap.size 60 6 (czF cz0 pl0) := (Row.new wB 60 #[.int .i64 0, .string ⟨#[]⟩, .slice none 0 0, .slice none 0 0, .slice none 0 0, .int .i64 0] (czF cz0 pl0) 6 rfl (six rfl rfl rfl rfl rfl rfl)).below bC (by simp); have q0 : wC.cell? ⟨_, 0, none⟩ = some (.int .i64 0) := R9.cell (by decide); have f0 := R9.frozen 0; have q1 : wC.cell? ⟨_, 1, none⟩ = some (.string ⟨#[]⟩) := R9.cell (by decide); have f1 := R9.frozen 1; have q2 : wC.cell? ⟨_, 2, none⟩ = some (.slice none 0 0) := R9.cell (by decide); have f2 := R9.frozen 2; have q3 : wC.cell? ⟨_, 3, none⟩ = some (.slice none 0 0) := R9.cell (by decide); have f3 := R9.frozen 3; have q4 : wC.cell? ⟨_, 4, none⟩ = some (.slice none 0 0) := R9.cell (by decide); have f4 := R9.frozen 4; have q5 : wC.cell? ⟨_, 5, none⟩ = some (.int .i64 0) := R9.cell (by decide); have f5 := R9.frozen 5) | (have R9 := Row.below R9 bC (Row.lt R9); have q0 : wC.cell? ⟨_, 0, none⟩ = some (.int .i64 0) := R9.cell (by decide); have f0 := R9.frozen 0; have q1 : wC.cell? ⟨_, 1, none⟩ = some (.string ⟨#[]⟩) := R9.cell (by decide); have f1 := R9.frozen 1; have q2 : wC.cell? ⟨_, 2, none⟩ = some (.slice none 0 0) := R9.cell (by decide); have f2 := R9.frozen 2; have q3 : wC.cell? ⟨_, 3, none⟩ = some (.slice none 0 0) := R9.cell (by decide); have f3 := R9.frozen 3; have q4 : wC.cell? ⟨_, 4, none⟩ = some (.slice none 0 0) := R9.cell (by decide); have f4 := R9.frozen 4; have q5 : wC.cell? ⟨_, 5, none⟩ = some (.int .i64 0) := R9.cell (by decide); have f5 := R9.frozen 5) | skip); have nnC : gp ≠ wC.heap.size := (by have := BC.size; have := unhide HGL; omega); have mmC : wC.heap.size ≠ gp := (by have := BC.size; have := unhide HGL; omega); have R3 := hide (And.intro nC (And.intro bC BC)); clear nC bC BC))
    · go_wp2_with fail
      go_meet
      exact grqA (unhide R2).2 (unhide R3)
    · go_wp2_with fail
      go_meet
      exact grqB (unhide R2).2 (unhide R3) R9
    · go_wp2_with fail
      go_meet
      exact grqC (unhide R2).1 (unhide R3) R9
  case rest =>
    obtain ⟨p', g, rfl, rfl, rfl, hRow, hN, hg, hbc⟩ := hcut
    have hTc := (unhide HTr).below hbc
    have hsc := hbc.size
    have nng : gp ≠ g := by have := unhide HGL; omega
    have mmg : g ≠ gp := by have := unhide HGL; omega
    have c1 : wc.cell? ⟨gp, 1, none⟩ = some (.slice at1 T.length ct1) := (hTc.row.cell (j := 1) (by decide)).trans (congrArg some hvt)
    have r0 : wc.cell? ⟨g, 0, none⟩ = some (.int .i64 ((T.length + 1 : Nat) : Int)) := (hRow.cell (j := 0) (by decide)).trans (congrArg (fun z => some (Value.int .i64 z)) (unhide HID))
    have hw : wrap64 ((T.length : Int) + 1) = ((T.length + 1 : Nat) : Int) := numG _ hT40
    have hw2 : IntKind.i64.wrap ((T.length : Int) + 1) = ((T.length + 1 : Nat) : Int) := by rw [IntKind.wrap_i64]; omega
    have HN := hide hN
    have HG := hide hg
    have HBC := hide hbc
    have HRow := hide hRow
    have HTc := hide hTc
    clear hN hg hbc hRow hTc c0 HLo HLk
    go_wp2_with fail
    go_quiet (fail)
    have hbq : Below wc.heap.size wc (wc.drewN nq) := ⟨rfl, rfl, rfl, Nat.le_refl _, fun _ _ => rfl⟩
    generalize wc.drewN nq = wd at *
    have hTd := (unhide HTc).below hbq
    have hsd := hbq.size
    have hgd : gp < wd.heap.size := hTd.lt
    have hgR : Row wd g 60 6 (czF cz p') := (unhide HRow).below hbq (unhide HRow).lt
    have d1 : wd.cell? ⟨gp, 1, none⟩ = some (.slice at1 T.length ct1) := (hTd.row.cell (j := 1) (by decide)).trans (congrArg some hvt)
    have HVT := hide hvt
    have htx := hTd.tx
    rw [hvt] at htx
    have HOT : Hid (∀ o, (wd.alloc o).ownsRow (gp + 1) 9 1 (.slice at1 T.length ct1) T.length (svs T)) := fun o => ownsRow_below htx ((Below.refl _ _).alloc (Nat.le_refl _) o) (Nat.le_refl _)
    have HQT : Hid (some gp ≠ (Value.slice at1 T.length ct1).ownBlock) := fun e => by have := World.ownsRow.lt htx gp e.symm; omega
    have HRC : Hid (∀ o, (wd.alloc o).cell? ⟨gp, 1, none⟩ = some (.slice at1 T.length ct1)) := fun o => ((hTd.row.alloc o).cell (j := 1) (by decide)).trans (congrArg some hvt)
    have HZC : Hid (∀ o, (wd.alloc o).frozen? ⟨gp, 1, none⟩ = false) := fun o => (hTd.row.alloc o).frozen 1
    obtain ⟨i9, hi9, iz9, is9, ib9⟩ := info_parts info9
    have HI9 := hide hi9
    have HZ9 := hide iz9
    have HS9 := hide is9
    have HB9 := hide ib9
    have HTd := hide hTd
    have HGR := hide hgR
    have HBQ := hide hbq
    clear hi9 iz9 is9 ib9 htx hTd hgR hbq c1 r0 hvt
    go_wp2_with (at_builtin; refine wpList_append_lies _ rfl _ _ 35 rfl (gp + 1) 9 i9 _ 1 16 Tryz.underlying35 (unhide HI9) (unhide HZ9) (unhide HS9) (unhide HB9) rfl (by decide) _ T.length (svs T) rfl (unhide HOT _) ⟨wd.heap.size, 0, none⟩ 1 1 [.string ⟨t.toArray⟩] rfl rfl (World.news_of_block (heap_alloc_new wd _)) (fun u hu => by simp at hu; subst hu; rfl) (by decide) (by unfold maxLen; omega) (by omega) (by simp; omega) _ rfl ?_; intro g6 c6 w6 ho6 hg6 hat6 hlt6; have r6 := (hg6.cell_far ⟨gp, 1, none⟩ (by simp; omega) (unhide HQT)).trans (unhide HRC _); have z6 := (hg6.frozen_far ⟨gp, 1, none⟩ (by simp; omega) (unhide HQT)).trans (unhide HZC _))
    rw [← unhide HVT] at hg6 hat6
    obtain ⟨h5, b5, f5⟩ := Tr.addT (unhide HTd) ho6 hg6 hat6
    have hs5 := b5.size
    obtain ⟨k5, k6⟩ := f5 g (unhide HGR).lt ((unhide HTr).fresh (unhide HG))
    have hR5 := (unhide HGR).keep k5
    generalize hvt5 : Value.slice (some ⟨g6, 0, none⟩) (T.length + 1) c6 = vt5 at *
    generalize hw5 : w6.setCell ⟨gp, 1, none⟩ vt5 = w5 at *
    have HT5 := hide (And.intro h5 (And.intro b5 f5))
    have HR5 := hide (And.intro hR5 k6)
    clear h5 b5 f5 ho6 hg6 hat6 hlt6 r6 z6 hw5 hvt5 k5 k6 hR5
    refine wp_region_L 10 (fun w' => w'.cell? ⟨gp, 2, none⟩ = some vc ∧ w'.cell? ⟨g, 0, none⟩ = some (.int .i64 cz.id) ∧ w'.cell? ⟨g, 1, none⟩ = some (.string ⟨cz.sub.toArray⟩) ∧ w'.cell? ⟨g, 2, none⟩ = some (.slice p'.a2 cz.scp.length p'.c2) ∧ w'.cell? ⟨g, 3, none⟩ = some (.slice p'.a3 cz.aud.length p'.c3) ∧ w'.cell? ⟨g, 4, none⟩ = some (.slice p'.a4 cz.act.length p'.c4) ∧ w'.cell? ⟨g, 5, none⟩ = some (.int .i64 cz.exp)) (by kernel_rfl) ?_
    have hbe : Below w5.heap.size w5 w5.drew := (Below.refl _ _).drew
    generalize w5.drew = we at *
    have hTe := (unhide HT5).1.below hbe
    have hRe : Row we g 60 6 (czF cz p') := (unhide HR5).1.below hbe (unhide HR5).1.lt
    have hse := hbe.size
    have hgpe := hTe.lt
    have hge := hRe.lt
    have hH : we.cell? ⟨gp, 2, none⟩ = some vc ∧ we.cell? ⟨g, 0, none⟩ = some (.int .i64 cz.id) ∧ we.cell? ⟨g, 1, none⟩ = some (.string ⟨cz.sub.toArray⟩) ∧ we.cell? ⟨g, 2, none⟩ = some (.slice p'.a2 cz.scp.length p'.c2) ∧ we.cell? ⟨g, 3, none⟩ = some (.slice p'.a3 cz.aud.length p'.c3) ∧ we.cell? ⟨g, 4, none⟩ = some (.slice p'.a4 cz.act.length p'.c4) ∧ we.cell? ⟨g, 5, none⟩ = some (.int .i64 cz.exp) := ⟨hTe.row.cell (j := 2) (by decide), hRe.cell (j := 0) (by decide), hRe.cell (j := 1) (by decide), hRe.cell (j := 2) (by decide), hRe.cell (j := 3) (by decide), hRe.cell (j := 4) (by decide), hRe.cell (j := 5) (by decide)⟩
    have hHa : ∀ o, (we.alloc o).cell? ⟨gp, 2, none⟩ = some vc ∧ (we.alloc o).cell? ⟨g, 0, none⟩ = some (.int .i64 cz.id) ∧ (we.alloc o).cell? ⟨g, 1, none⟩ = some (.string ⟨cz.sub.toArray⟩) ∧ (we.alloc o).cell? ⟨g, 2, none⟩ = some (.slice p'.a2 cz.scp.length p'.c2) ∧ (we.alloc o).cell? ⟨g, 3, none⟩ = some (.slice p'.a3 cz.aud.length p'.c3) ∧ (we.alloc o).cell? ⟨g, 4, none⟩ = some (.slice p'.a4 cz.act.length p'.c4) ∧ (we.alloc o).cell? ⟨g, 5, none⟩ = some (.int .i64 cz.exp) := fun o => ⟨(hTe.row.alloc o).cell (j := 2) (by decide), (hRe.alloc o).cell (j := 0) (by decide), (hRe.alloc o).cell (j := 1) (by decide), (hRe.alloc o).cell (j := 2) (by decide), (hRe.alloc o).cell (j := 3) (by decide), (hRe.alloc o).cell (j := 4) (by decide), (hRe.alloc o).cell (j := 5) (by decide)⟩
    have HOC : Hid (∀ o, (we.alloc o).ownsRow (gp + 1) 60 6 vc C.length (cmsL C)) := fun o => ownsRow_below hTe.cl ((Below.refl _ _).alloc (Nat.le_refl _) o) (Nat.le_refl _)
    have HQC : Hid (some gp ≠ vc.ownBlock) := fun e => by have := World.ownsRow.lt hTe.cl gp e.symm; omega
    have HQG : Hid (some g ≠ vc.ownBlock) := fun e => (unhide HR5).2.c e.symm
    have HRC2 : Hid (∀ o, (we.alloc o).cell? ⟨gp, 2, none⟩ = some vc) := fun o => (hTe.row.alloc o).cell (j := 2) (by decide)
    have HZC2 : Hid (∀ o, (we.alloc o).frozen? ⟨gp, 2, none⟩ = false) := fun o => (hTe.row.alloc o).frozen 2
    have HRG : Hid (∀ o, Row (we.alloc o) g 60 6 (czF cz p')) := fun o => hRe.alloc o
    obtain ⟨i60, hi60, iz60, is60, ib60⟩ := info_parts info60g
    have HTe := hide hTe
    have HCl := hide ((unhide HLn).2.1)
    clear hTe hRe
    refine wpAnyL_take (i := 0) (oi := _) (v := ?_) rfl (by kernel_rfl) (by kernel_rfl) (by kernel_rfl) (by kernel_rfl) (fun _ _ _ h => h) (Or.inl ⟨by rfl, ?_⟩) hH ?_
    rotate_left
    · intro u hSu
      try dsimp only at hSu
      go_simp
      try with_reducible rfl
    try simp only [Act.put, List.setIfInBounds_toArray, List.set_cons_zero, List.set_cons_succ]
    refine wpAnyL_take (i := 1) (oi := _) (v := ?_) rfl (by kernel_rfl) (by kernel_rfl) (by kernel_rfl) (by kernel_rfl) (fun _ _ _ h => h) (Or.inl ⟨by rfl, ?_⟩) hH ?_
    rotate_left
    · intro u hSu
      try dsimp only at hSu
      go_simp
      try with_reducible rfl
    try simp only [Act.put, List.setIfInBounds_toArray, List.set_cons_zero, List.set_cons_succ]
    refine wpAnyL_take (i := 2) (oi := _) (v := ?_) rfl (by kernel_rfl) (by kernel_rfl) (by kernel_rfl) (by kernel_rfl) (fun _ _ _ h => h) (Or.inl ⟨by rfl, ?_⟩) hH ?_
    rotate_left
    · intro u hSu
      try dsimp only at hSu
      go_simp
      try with_reducible rfl
    try simp only [Act.put, List.setIfInBounds_toArray, List.set_cons_zero, List.set_cons_succ]
    refine wpAnyL_take (i := 3) (oi := _) (v := ?_) rfl (by kernel_rfl) (by kernel_rfl) (by kernel_rfl) (by kernel_rfl) (fun _ _ _ h => h) (Or.inl ⟨by rfl, ?_⟩) hH ?_
    rotate_left
    · intro u hSu
      try dsimp only at hSu
      go_simp
      try with_reducible rfl
    try simp only [Act.put, List.setIfInBounds_toArray, List.set_cons_zero, List.set_cons_succ]
    refine wpAnyL_take (i := 4) (oi := _) (v := ?_) rfl (by kernel_rfl) (by kernel_rfl) (by kernel_rfl) (by kernel_rfl) (fun _ _ _ h => h) (Or.inl ⟨by rfl, ?_⟩) hH ?_
    rotate_left
    · intro u hSu
      try dsimp only at hSu
      go_simp
      try with_reducible rfl
    try simp only [Act.put, List.setIfInBounds_toArray, List.set_cons_zero, List.set_cons_succ]
    refine wpAnyL_take (i := 5) (oi := _) (v := ?_) rfl (by kernel_rfl) (by kernel_rfl) (by kernel_rfl) (by kernel_rfl) (fun _ _ _ h => h) (Or.inl ⟨by rfl, ?_⟩) hH ?_
    rotate_left
    · intro u hSu
      try dsimp only at hSu
      go_simp
      try with_reducible rfl
    try simp only [Act.put, List.setIfInBounds_toArray, List.set_cons_zero, List.set_cons_succ]
    refine wpAnyL_one (i := 6) (by kernel_rfl) ?_
    refine wpOp_step (o := _) rfl (fun K hK => ?_)
    go_simp
    refine hK _ _ ⟨fun _ => hHa _, ?_⟩
    clear hK K
    try simp only [Act.put, List.setIfInBounds_toArray, List.set_cons_zero, List.set_cons_succ]
    refine wpAnyL_one (i := 7) (by kernel_rfl) ?_
    refine wpOp_step (o := _) rfl (fun K hK => ?_)
    refine wp_append_lies _ _ _ 75 rfl (gp + 1) 60 i60 _ 6 104 (by kernel_rfl) hi60 iz60 is60 ib60 rfl (by decide) vc C.length (cmsL C) rfl (unhide HOC _) ⟨we.heap.size, 0, none⟩ 1 1 [.int .i64 cz.id, .string ⟨cz.sub.toArray⟩, .slice p'.a2 cz.scp.length p'.c2, .slice p'.a3 cz.aud.length p'.c3, .slice p'.a4 cz.act.length p'.c4, .int .i64 cz.exp] rfl rfl (World.news_of_block (heap_alloc_new we _)) (fun u hu => by simp at hu; rcases hu with rfl | rfl | rfl | rfl | rfl | rfl <;> rfl) (by decide) (by unfold maxLen; rw [unhide HCl]; omega) (by rw [unhide HCl]; omega) (by simp; omega) _ rfl ?_
    intro g7 c7 w7 ho7 hg7 hat7 hlt7
    have r7 := (hg7.cell_far ⟨gp, 2, none⟩ (by simp; omega) (unhide HQC)).trans (unhide HRC2 _)
    have z7 := (hg7.frozen_far ⟨gp, 2, none⟩ (by simp; omega) (unhide HQC)).trans (unhide HZC2 _)
    have hR7 := (unhide HRG _).keep (hg7.block g (by simp; omega) (unhide HQG))
    refine hK _ _ ⟨fun _ => ⟨r7, hR7.cell (j := 0) (by decide), hR7.cell (j := 1) (by decide), hR7.cell (j := 2) (by decide), hR7.cell (j := 3) (by decide), hR7.cell (j := 4) (by decide), hR7.cell (j := 5) (by decide)⟩, ?_⟩
    clear hK K
    try simp only [Act.put, List.setIfInBounds_toArray, List.set_cons_zero, List.set_cons_succ]
    have hH7 : w7.cell? ⟨gp, 2, none⟩ = some vc ∧ w7.cell? ⟨g, 0, none⟩ = some (.int .i64 cz.id) ∧ w7.cell? ⟨g, 1, none⟩ = some (.string ⟨cz.sub.toArray⟩) ∧ w7.cell? ⟨g, 2, none⟩ = some (.slice p'.a2 cz.scp.length p'.c2) ∧ w7.cell? ⟨g, 3, none⟩ = some (.slice p'.a3 cz.aud.length p'.c3) ∧ w7.cell? ⟨g, 4, none⟩ = some (.slice p'.a4 cz.act.length p'.c4) ∧ w7.cell? ⟨g, 5, none⟩ = some (.int .i64 cz.exp) := ⟨r7, hR7.cell (j := 0) (by decide), hR7.cell (j := 1) (by decide), hR7.cell (j := 2) (by decide), hR7.cell (j := 3) (by decide), hR7.cell (j := 4) (by decide), hR7.cell (j := 5) (by decide)⟩
    refine wpAnyL_one (i := 8) (by kernel_rfl) ?_
    refine wpOp_step (o := _) rfl (fun K hK => ?_)
    go_simp
    refine hK _ _ ⟨fun _ => hH7, ?_⟩
    clear hK K
    try simp only [Act.put, List.setIfInBounds_toArray, List.set_cons_zero, List.set_cons_succ]
    refine wpAnyL_one (i := 9) (by kernel_rfl) ?_
    refine wpOp_step (o := _) rfl (fun K hK => ?_)
    go_simp
    refine hK _ _ ⟨fun _ => hH7, ?_⟩
    clear hK K
    try simp only [Act.put, List.setIfInBounds_toArray, List.set_cons_zero, List.set_cons_succ]
    refine wpAnyL_one (i := 10) (by kernel_rfl) ?_
    refine wpOp_step (o := _) rfl (fun K hK => ?_)
    go_simp
    refine hK _ _ ⟨fun h => absurd rfl h, ?_⟩
    clear hK K
    refine wpAnyL_done (by kernel_rfl) ?_ _
    obtain ⟨h8, b8, f8⟩ := Tr.addC (x := ((G.getD T.length default).c, p')) (unhide HTe) (by
      show CzN we _ (G.getD T.length default).c.z p'
      rw [unhide HCZ]
      refine (unhide HN).keep (fun k hk => ?_)
      obtain ⟨q1, q2⟩ := (unhide HT5).2.2 k (Nat.lt_of_lt_of_le hk.2.2 hsd) ((unhide HTr).fresh hk.1)
      refine ⟨?_, Nat.lt_of_lt_of_le hk.2.2 (Nat.le_trans hsd (Nat.le_trans hs5 hse)), q2⟩
      exact ((hbe.block k (Nat.lt_of_lt_of_le hk.2.2 (Nat.le_trans hsd hs5))).trans q1).trans ((unhide HBQ).block k hk.2.2)) (by
      show w7.ownsRow (gp + 1) 60 6 _ _ (cmsL C ++ (czA (G.getD T.length default).c.z p').toList)
      rw [unhide HCZ]
      exact ho7) hg7 hat7
    have hs8 := b8.size
    have HB5 : Hid (Below s w we) := (((unhide HBC).mono (Nat.le_of_lt hsz)).trans ((unhide HBQ).mono (by omega))).trans ((unhide HT5).2.1.trans (hbe.mono (by omega)))
    have HF5 : Hid (TFar gp s vg vg G G vt vt5 vc vc vp vp w we) := ((TFar.below ((unhide HBC).trans ((unhide HBQ).mono (unhide HBC).size))).trans (by omega) (unhide HT5).2.2).trans (by omega) (TFar.below hbe)
    generalize Value.slice (some ⟨g7, 0, none⟩) (C.length + 1) c7 = vc8 at *
    generalize w7.setCell ⟨gp, 2, none⟩ vc8 = w8 at *
    have HT8 := hide h8
    have HB8 := hide ((unhide HB5).trans b8)
    have HF8 := hide ((unhide HF5).trans (by have := (unhide HB5).size; omega) f8)
    have hgp8 := h8.lt
    have e1 : w8.cell? ⟨gp, 3, none⟩ = some vp := h8.row.cell (j := 3) (by decide)
    have HOP : Hid (∀ o, (w8.alloc o).ownsRow (gp + 1) 3 1 vp Pa.length (intsL Pa)) := fun o => ownsRow_below h8.pa ((Below.refl _ _).alloc (Nat.le_refl _) o) (Nat.le_refl _)
    have HQP : Hid (some gp ≠ vp.ownBlock) := fun e => by have := World.ownsRow.lt h8.pa gp e.symm; omega
    have HRP : Hid (∀ o, (w8.alloc o).cell? ⟨gp, 3, none⟩ = some vp) := fun o => (h8.row.alloc o).cell (j := 3) (by decide)
    have HZP : Hid (∀ o, (w8.alloc o).frozen? ⟨gp, 3, none⟩ = false) := fun o => (h8.row.alloc o).frozen 3
    obtain ⟨i3, hi3, iz3, is3, ib3⟩ := info_parts info3g
    have HI3 := hide hi3
    have HZ3 := hide iz3
    have HS3 := hide is3
    have HB3 := hide ib3
    have HPl := hide ((unhide HLn).2.2.1)
    clear hi3 iz3 is3 ib3 h8 b8 f8 ho7 hg7 hat7 hlt7 r7 z7 hR7 hH7 hHa hH hbe HOC HRC2 HZC2 HRG HTe HT5 HR5
    go_wp2_with (at_builtin; refine wpList_append_lies _ rfl _ _ 25 rfl (gp + 1) 3 i3 _ 1 8 (by kernel_rfl) (unhide HI3) (unhide HZ3) (unhide HS3) (unhide HB3) rfl (by decide) _ Pa.length (intsL Pa) rfl (unhide HOP _) ⟨w8.heap.size, 0, none⟩ 1 1 [.int .i64 par] rfl rfl (World.news_of_block (heap_alloc_new w8 _)) (fun u hu => by simp at hu; subst hu; rfl) (by decide) (by unfold maxLen; rw [unhide HPl]; omega) (by rw [unhide HPl]; omega) (by simp; omega) _ rfl ?_; intro g9 c9 w9 ho9 hg9 hat9 hlt9; have r9 := (hg9.cell_far ⟨gp, 3, none⟩ (by simp; omega) (unhide HQP)).trans (unhide HRP _); have z9 := (hg9.frozen_far ⟨gp, 3, none⟩ (by simp; omega) (unhide HQP)).trans (unhide HZP _))
    go_end0
    obtain ⟨h10, b10, f10⟩ := Tr.addP (unhide HT8) ho9 hg9 hat9
    exact ⟨⟨_, rfl⟩, vt5, vc8, _, p', h10, (unhide HB8).trans b10, (unhide HF8).trans (by have := (unhide HB8).size; omega) f10⟩

set_option maxRecDepth 20000 in
set_option maxHeartbeats 1000000 in
/-- nothing was given: nothing is kept -/
theorem grow_no (t : List UInt8) (er par : Int) (w : World) (gp : Nat) (he : er ≠ 0) :
    Calls Tryz.prog 64 #[.pointer (some ⟨gp, 0, none⟩), .string ⟨t.toArray⟩, .int .i64 er, .int .i64 par] w fun e w' => (∃ v, e = .returned v) ∧ w' = w := by
  have hd : decide (er ≠ 0) = true := decide_eq_true he
  go_enter Tryz.func64, Tryz.ntmps64
  go_wp2_with fail
  refine bodyPost_ret (results_none rfl _ _ _) rfl ?_
  exact ⟨⟨_, rfl⟩, rfl⟩
end Go.Proofs.YtkmkkmdpjliifaaGreatDoor
namespace Go.Proofs.YtkmkkmdpjliifaaGreatDoor
open Go.ChangeShapes Go.WideShapes Go.ChangeAt Go.RowKit

/-- a step, raw -/
structure Stp where
  who : Int
  tok : Int
  act : Int
  life : Int
  scp : List Int
  tgt : List Int
  vs : Value
  vt : Value
instance : Inhabited Stp := ⟨⟨0, 0, 0, 0, [], [], .slice none 0 0, .slice none 0 0⟩⟩
def In64 (x : Int) : Prop := -9223372036854775808 ≤ x ∧ x ≤ 9223372036854775807
/-- a step at a place -/
structure StAt (w : World) (B g p : Nat) (x : Stp) : Prop where
  c0 : w.cell? ⟨g, p, none⟩ = some (.int .i64 x.who)
  c1 : w.cell? ⟨g, p + 1, none⟩ = some (.int .i64 x.tok)
  c2 : w.cell? ⟨g, p + 2, none⟩ = some (.int .i64 x.act)
  c3 : w.cell? ⟨g, p + 3, none⟩ = some x.vs
  c4 : w.cell? ⟨g, p + 4, none⟩ = some x.vt
  c5 : w.cell? ⟨g, p + 5, none⟩ = some (.int .i64 x.life)
  who : In64 x.who
  tok : In64 x.tok
  act : In64 x.act
  life : In64 x.life
  scp : LsI w B x.vs x.scp
  tgt : LsI w B x.vt x.tgt
  l1 : x.scp.length ≤ 17592186044416
  l2 : x.tgt.length ≤ 17592186044416
theorem StAt.below {w w' : World} {B g p : Nat} {x : Stp} (h : StAt w B g p x) (hb : Below B w w') (hg : g < B) : StAt w' B g p x := by
  have hc : ∀ q, w'.cell? ⟨g, q, none⟩ = w.cell? ⟨g, q, none⟩ := fun q => hb.cell (p := ⟨g, q, none⟩) hg
  exact ⟨(hc _).trans h.c0, (hc _).trans h.c1, (hc _).trans h.c2, (hc _).trans h.c3, (hc _).trans h.c4, (hc _).trans h.c5, h.who, h.tok, h.act, h.life, h.scp.below hb, h.tgt.below hb, h.l1, h.l2⟩
/-- a list of steps to be read, all below block B -/
def LsT (w : World) (B : Nat) (v : Value) (l : List Stp) : Prop :=
  ∃ a c, v = .slice a l.length c ∧ (0 < l.length → ∃ g o, a = some ⟨g, o, none⟩ ∧ g < B ∧ ∀ i, i < l.length → StAt w B g (o + i * 6) (l.getD i default))
/-- where a token's parent is -/
def parI (g : Gt) : Int := match g.p with
  | none => -1
  | some k => (k : Nat)
/-- the growing, whole -/
structure TrS (w0 w : World) (gp s R O : Nat) (vk vs vg : Value) (Qs : List Nat) (G : List Gt) (vt vc vp : Value) (C : List (Cm × Pl)) : Prop where
  tr : Tr w gp s R O 0 vk vs vg Qs G vt vc vp false ((List.range G.length).map (tokG G)) C (G.map parI)
  ok : GOk G
  cm : C.map Prod.fst = G.map (fun g => g.c)
  bel : Below w0.heap.size w0 w
  w0s : w0.heap.size ≤ s
section
variable {w0 w w' : World} {gp s R O : Nat} {vk vs vg : Value} {Qs : List Nat} {G : List Gt} {vt vc vp : Value} {C : List (Cm × Pl)}
theorem TrS.below (h : TrS w0 w gp s R O vk vs vg Qs G vt vc vp C) (hb : Below w.heap.size w w') : TrS w0 w' gp s R O vk vs vg Qs G vt vc vp C :=
  ⟨h.tr.below hb, h.ok, h.cm, h.bel.trans (hb.mono h.bel.size), h.w0s⟩
theorem TrS.clen (h : TrS w0 w gp s R O vk vs vg Qs G vt vc vp C) : C.length = G.length := by
  have := congrArg List.length h.cm
  simpa using this
theorem TrS.tlen (G : List Gt) : ((List.range G.length).map (tokG G)).length = G.length := by simp
theorem toks_more (G : List Gt) (g : Gt) : (List.range (G ++ [g]).length).map (tokG (G ++ [g])) = (List.range G.length).map (tokG G) ++ [tokG (G ++ [g]) G.length] := by
  rw [List.length_append, List.length_singleton, List.range_succ, List.map_append, List.map_cons, List.map_nil, List.map_congr_left (g := tokG G) (fun i hi => tokG_left (List.mem_range.1 hi))]
/-- one more was given, and is kept -/
theorem TrS.more (h : TrS w0 w gp s R O vk vs vg Qs G vt vc vp C) {g : Gt} {w2 : World} {vg' vt' vc' vp' : Value} {pl : Pl} (hG : GOk (G ++ [g])) (hb : Below s w w2)
    (h2 : Tr w2 gp s R O 0 vk vs vg' Qs (G ++ [g]) vt' vc' vp' false ((List.range G.length).map (tokG G) ++ [tokG (G ++ [g]) G.length]) (C ++ [(g.c, pl)]) (G.map parI ++ [parI g])) : TrS w0 w2 gp s R O vk vs vg' Qs (G ++ [g]) vt' vc' vp' (C ++ [(g.c, pl)]) where
  tr := by
    rw [toks_more, List.map_append]
    exact h2
  ok := hG
  cm := by rw [List.map_append, List.map_append, h.cm]; rfl
  bel := h.bel.trans (hb.mono h.w0s)
  w0s := h.w0s
end
end Go.Proofs.YtkmkkmdpjliifaaGreatDoor
