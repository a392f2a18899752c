/- Steps opened. -/
import Derived.Test.YtkmkkmdpjliifaaGreatDoorTrF
import Derived.Test.YtkmkkmdpjliifaaGreatDoorLfA
import Derived.Deep.Slices
namespace Go.Proofs.YtkmkkmdpjliifaaGreatDoor
open Go.ChangeShapes Go.WideShapes Go.ChangeAt Go.RowKit

/-- whom the first tokens speak of -/
def sbN : List (List UInt8) := [[97, 110, 110], [98, 111, 98], [101, 118, 101]]
def rwx : List (List UInt8) := [[114], [119], [120]]
def ttu : List (List UInt8) := [[116], [117]]
theorem alloc_lsn {w : World} (l : List (List UInt8)) {cs : Array Value} {n m : Nat} (h : cs = (svs l).toArray) (hn : n = w.heap.size) (hm : m = l.length := by rfl) : Ls (w.alloc (.cells cs 9)) (w.alloc (.cells cs 9)).heap.size (.slice (some ⟨n, 0, none⟩) m m) l := by
  subst hn
  subst hm
  exact alloc_ls l h
theorem drb {w : World} : Below w.heap.size w w.drew := (Below.refl _ _).drew
theorem sb_nz : ∀ k, k < 3 → sbN.getD k [] ≠ zoe := by decide +kernel
theorem cons_ok : ∀ k, k < 3 → consE cs0 [99, 48] [115, 48] (sbN.getD k []) rwx ttu 1000 0 k = 0 := by decide +kernel
section
variable {w0 w w' u : World} {gp s R O : Nat} {vk vs vg : Value} {Qs : List Nat} {G : List Gt} {vt vc vp : Value} {C : List (Cm × Pl)}
/-- what a consent leaves -/
def CoOut (u w' : World) (gp s R O : Nat) (vk vs vg : Value) (Qs : List Nat) (G : List Gt) (vt vc vp : Value) (C : List (Cm × Pl)) (tx : List UInt8) : Prop :=
  ∃ vg' g, Tr w' gp s R O 0 vk vs vg' Qs (G ++ [g]) vt vc vp false ((List.range G.length).map (tokG G)) C (G.map parI) ∧ Below s u w' ∧ TFar gp s vg vg' G (G ++ [g]) vt vt vc vc vp vp u w' ∧ GOk (G ++ [g]) ∧ tx = tokG (G ++ [g]) G.length ∧ parI g = -1
theorem cons_tr (h : TrS w0 w gp s R O vk vs vg Qs G vt vc vp C) (hT : TT w0.heap.size w0) {k : Nat} (hk : k < 3) (hG : G.length = k) (hu : Below w.heap.size w u) (v1 v2 : Value) (k1 : Ls u u.heap.size v1 rwx) (k2 : Ls u u.heap.size v2 ttu) :
    Calls Tryz.prog 58 #[.pointer (some ⟨s, 0, none⟩), .agg #[.string ⟨#[99, 48]⟩, .string ⟨#[115, 48]⟩], .string ⟨(sbN.getD k []).toArray⟩, v1, v2, .int .i64 1000] u fun e w' => ∃ tx, e = .returned (.tuple #[.string ⟨tx.toArray⟩, .int .i64 0]) ∧ CoOut w w' gp s R O vk vs vg Qs G vt vc vp C tx := by
  have hS := h.below hu
  have hsl : (sbN.getD k []).length ≤ 9223372036854775807 := by
    rcases (show k = 0 ∨ k = 1 ∨ k = 2 by omega) with rfl | rfl | rfl <;> decide
  have hX := Consent_any [99, 48] [115, 48] (sbN.getD k []) v1 v2 rwx ttu 1000 u s R O 0 vk vs vg ks0 cs0 Qs G hS.tr.sv (hS.tb hT) (by decide) hsl (by decide) (by decide) (few_fits (by decide)) (few_fits (by decide)) k1 k2
  refine hX.mono ?_
  rintro e w' (⟨h1, _⟩ | ⟨h1, m, hm, rfl, hg⟩)
  · rw [hG] at h1
    exact absurd (cons_ok k hk) h1
  · rw [kn_login0] at hm
    obtain rfl := Option.some.inj hm
    obtain ⟨vg', b, pl, hTr, hb, hF⟩ := hS.tr.gave hg
    exact ⟨_, rfl, vg', _, hTr, (hu.mono (Nat.le_of_lt h.tr.sv.lt)).trans hb, (TFar.below hu).trans hu.size hF, h.ok.first (by decide) (by decide) (by decide) ⟨by show zoe ∉ rwx; decide +kernel, by show zoe ∉ ttu; decide +kernel, by show zoe ∉ []; simp, sb_nz k hk, by show 0 + Int.toNat 1000 ≤ 1000; decide⟩, by unfold tokG; rw [getG_right (Nat.le_refl _), Nat.sub_self]; rfl, rfl⟩
theorem cons_grow (h : TrS w0 w gp s R O vk vs vg Qs G vt vc vp C) (hT : TT w0.heap.size w0) {tx : List UInt8} (hx : CoOut w w' gp s R O vk vs vg Qs G vt vc vp C tx) :
    Calls Tryz.prog 64 #[.pointer (some ⟨gp, 0, none⟩), .string ⟨tx.toArray⟩, .int .i64 0, .int .i64 (-1)] w' fun e w2 => (∃ v, e = .returned v) ∧ ∃ vg2 g vt2 vc2 vp2 C2, TrS w0 w2 gp s R O vk vs vg2 Qs (G ++ [g]) vt2 vc2 vp2 C2 ∧ TFar gp s vg vg2 G (G ++ [g]) vt vt2 vc vc2 vp vp2 w w2 := by
  obtain ⟨vg', g, hTr, hb, hF, hG, rfl, hp⟩ := hx
  have hl : ((List.range G.length).map (tokG G)).length = G.length := by simp
  have hT' := hT.below (h.bel.trans (hb.mono h.w0s))
  have hgr := grow_any (tokG (G ++ [g]) G.length) (-1) w' gp s R O vk vs vg' Qs (G ++ [g]) vt vc vp _ C (G.map parI) hTr (hT'.tb h.w0s) hT'.mx (h.s4 hT) (by rw [hl]; simp) (by rw [hl]; exact h.clen) (by rw [hl]; simp) (by rw [hl]; exact hG.take hTr.sv (by simp)) (tokG_len hTr.sv (by simp))
  refine hgr.mono ?_
  rintro e w2 ⟨h1, vt2, vc2, vp2, pl, h2, b2, f2⟩
  rw [hl, getG_right (Nat.le_refl _), Nat.sub_self, ← hp] at h2
  exact ⟨h1, vg', g, vt2, vc2, vp2, _, h.more hG (hb.trans b2) h2, hF.trans hb.size f2⟩
/-- the mark is put again -/
theorem TrS.put4 (h : TrS w0 w gp s R O vk vs vg Qs G vt vc vp C) : TrS w0 (w.setCell ⟨gp, 4, none⟩ (.bool false)) gp s R O vk vs vg Qs G vt vc vp C := by
  have hB : But gp w (w.setCell ⟨gp, 4, none⟩ (.bool false)) := (But.refl gp w).setCell 4 _
  have hgs := h.tr.gs
  have hbl : ∀ {k}, k ≠ gp → (w.setCell ⟨gp, 4, none⟩ (.bool false)).heap[k]? = w.heap[k]? := fun hk => hB.block _ hk
  have hsz := hB.size
  have hbs : Below s w (w.setCell ⟨gp, 4, none⟩ (.bool false)) := hB.below (by omega)
  have hlist : ∀ {c : Cz} {p : Pl}, CzN w (fun k => k < w.heap.size ∧ FrT s vg G gp vt vc vp k) c p → CzN (w.setCell ⟨gp, 4, none⟩ (.bool false)) (fun k => k < (w.setCell ⟨gp, 4, none⟩ (.bool false)).heap.size ∧ FrT s vg G gp vt vc vp k) c p := fun hc => hc.keep (fun k hk => ⟨hbl hk.2.g, by rw [hsz]; exact hk.1, hk.2⟩)
  have hsv : Sv (w.setCell ⟨gp, 4, none⟩ (.bool false)) s R O 0 vk vs vg ks0 cs0 Qs G :=
    h.tr.sv.keep hbs (fun k _ hn => hbl (fun e => hn (e ▸ h.tr.fg))) (fun i hi => (h.tr.gl i hi).keep (fun k hk => ⟨hbl hk.2.g, by rw [hsz]; exact hk.1, hk.2.fs⟩))
  have hrow : Row (w.setCell ⟨gp, 4, none⟩ (.bool false)) gp 77 5 (trF s vt vc vp false) := (Row.set h.tr.row 4 _).congr (fiveR rfl rfl rfl rfl rfl)
  have ho : ∀ {e : TypeId} {z n : Nat} {v : Value} {xs : List Value}, w.ownsRow (gp + 1) e z v n xs → (w.setCell ⟨gp, 4, none⟩ (.bool false)).ownsRow (gp + 1) e z v n xs := fun hO => ownsRow_at hO (fun k e => hbl (by have := (World.ownsRow.lt hO k e).1; omega))
  exact ⟨⟨hsv, hgs, hrow, ho h.tr.tx, ho h.tr.cl, ho h.tr.pa, h.tr.fg, h.tr.ft, h.tr.fc, h.tr.fp, h.tr.tc, h.tr.tp, h.tr.cp, fun i hi => hlist (h.tr.gl i hi), fun x hx => hlist (h.tr.ls x hx)⟩, h.ok, h.cm, h.bel.trans (hbs.mono h.w0s), h.w0s⟩
end

set_option maxRecDepth 20000 in
set_option maxHeartbeats 4000000 in
theorem tree_5 (ast : Option Addr) (cst : Nat) (St : List Stp) (gp gb s R O : Nat) (vk vs vg : Value) (Qs : List Nat) (vt vc vp : Value) (u1 u2 u3 u6 u7 u8 u9 u10 u11 u12 u13 u14 u15 u16 u17 u18 u19 u20 u21 u22 u23 u24 u25 u26 u27 u28 u29 u30 u31 u32 u33 u34 u35 u36 u37 u38 u39 u40 u41 u42 u43 u44 u45 u46 u47 u48 u49 u50 u51 u52 u53 u54 u55 u56 u57 u58 u59 u60 u61 u62 u63 u64 u65 u66 u67 u68 u69 u70 u71 u72 u73 u74 u75 u76 u77 u78 u79 u80 u81 u82 u83 u84 u85 u86 u87 u88 u89 u90 u91 u92 u93 u94 u95 u96 u97 u98 u99 u100 u101 u102 u103 u104 u105 u106 u107 u108 u109 u110 u111 u112 u113 u114 u115 u116 u117 u118 u119 u120 u121 u122 u123 u124 u125 u126 u127 u128 u129 u130 u131 u132 u133 u134 u135 u136 u137 u138 u139 u140 u141 u142 u143 u144 u145 u146 u147 u148 u149 u150 : Value) (w0 w : World) (hT : TT w0.heap.size w0) (hl : St.length ≤ 8796093022208) (hSt : LsT w0 w0.heap.size (.slice ast St.length cst) St)
    (hS : TrS w0 w gp s R O vk vs vg Qs [] vt vc vp []) (hf : FrT s vg [] gp vt vc vp gb) (hR : Row w gb 9 3 (fun j => sv (sbN.getD j []))) :
    Code.wp Tryz.prog (r27 5) (bodyPost Tryz.prog Tryz.f27 (TreeR w0)) ⟨#[.slice ast St.length cst, u1, u2, u3, .pointer (some ⟨gp, 0, none⟩), .slice (some ⟨gb, 0, none⟩) 3 3, u6, u7, u8, u9, u10, u11, u12, u13, u14, u15, u16, u17, u18, u19, u20, u21, u22, u23, u24, u25, u26, u27, u28, u29, u30, u31, u32, u33, u34, u35, u36, u37, u38, u39, u40, u41, u42, u43, u44, u45, u46, u47, u48, u49, u50, u51, u52, u53, u54, u55, u56, u57, u58, u59, u60, u61, u62, u63, u64, u65, u66, u67, u68, u69, u70, u71, u72, u73, u74, u75, u76, u77, u78, u79, u80, u81, u82, u83, u84, u85, u86, u87, u88, u89, u90, u91, u92, u93, u94, u95, u96, u97, u98, u99, u100, u101, u102, u103, u104, u105, u106, u107, u108, u109, u110, u111, u112, u113, u114, u115, u116, u117, u118, u119, u120, u121, u122, u123, u124, u125, u126, u127, u128, u129, u130, u131, u132, u133, u134, u135, u136, u137, u138, u139, u140, u141, u142, u143, u144, u145, u146, u147, u148, u149, u150], []⟩ w := by
  have HE := hide (fun (vg : Value) (G : List Gt) (vt vc vp : Value) (C : List (Cm × Pl)) (u : World) (hS : TrS w0 u gp s R O vk vs vg Qs G vt vc vp C) (h3 : 3 ≤ G.length) => tree_6 ast cst St gp s R O vk vs vg Qs G vt vc vp C (w0 := w0) (w := u) (hT := hT) (hl := hl) (hSt := hSt) (hS := hS) (h3 := h3))
  have HT := hide hT
  clear hT hl hSt
  conv => arg 2; whnf
  apply wp_seq_k
  intro K1 hK1
  have HK1 := hide hK1
  clear hK1
  go_wp2_with fail
  go_loopg [6] 3 (fun q i wr => ∃ k : Nat, k + q = 3 ∧ i = .int .i64 (k : Nat) ∧ ∃ vg G vt vc vp C, TrS w0 wr gp s R O vk vs vg Qs G vt vc vp C ∧ G.length = k ∧ FrT s vg G gp vt vc vp gb ∧ Row wr gb 9 3 (fun j => sv (sbN.getD j [])))
  case atStart => exact ⟨0, by omega, rfl, vg, [], vt, vc, vp, [], hS, rfl, hf, hR⟩
  case round =>
    clear hS hf hR vg vt vc vp
    obtain ⟨k, hk, rfl, vg, G, vt, vc, vp, C, hS, hGk, hf, hR⟩ := hrel
    by_cases hlt : k < 3
    · have hkI : (k : Int) < 3 := by omega
      have hw : wrap64 ((k : Int) + 1) = (k : Int) + 1 := w64 _ (by omega) (by omega)
      have HW := hide hw
      clear hw
      have hgl := hS.lt
      have hgb := hR.lt
      have c0 : wr.cell? ⟨gp, 0, none⟩ = some (.pointer (some ⟨s, 0, none⟩)) := hS.tr.row.cell (j := 0) (by decide)
      have cb : wr.cell? ⟨gb, k, none⟩ = some (.string ⟨(sbN.getD k []).toArray⟩) := hR.cell (j := k) hlt
      have HFc : Hid (∀ u, Below wr.heap.size wr u → u.cell? ⟨gp, 0, none⟩ = some (.pointer (some ⟨s, 0, none⟩)) ∧ u.cell? ⟨gb, k, none⟩ = some (.string ⟨(sbN.getD k []).toArray⟩)) := fun u hu => ⟨(hu.cell (p := ⟨gp, 0, none⟩) hgl).trans c0, (hu.cell (p := ⟨gb, k, none⟩) hgb).trans cb⟩
      have HLo : Hid (∀ u : World, Below wr.heap.size wr u → Calls Tryz.prog 31 #[.int .i64 0] u fun e w' => e = .returned (.agg #[.string ⟨#[99, 48]⟩, .string ⟨#[115, 48]⟩]) ∧ Below u.heap.size u w' ∧ Below wr.heap.size wr w') := fun u hu =>
        (login_any 0 (by decide) u).mono (fun e w' ⟨h1, h2⟩ => ⟨h1, h2, hu.trans (h2.mono hu.size)⟩)
      have HCo : Hid (∀ (u : World) (v1 v2 : Value), Below wr.heap.size wr u → Ls u u.heap.size v1 rwx → Ls u u.heap.size v2 ttu → Calls Tryz.prog 58 #[.pointer (some ⟨s, 0, none⟩), .agg #[.string ⟨#[99, 48]⟩, .string ⟨#[115, 48]⟩], .string ⟨(sbN.getD k []).toArray⟩, v1, v2, .int .i64 1000] u fun e w' => ∃ tx, e = .returned (.tuple #[.string ⟨tx.toArray⟩, .int .i64 0]) ∧ CoOut wr w' gp s R O vk vs vg Qs G vt vc vp C tx ∧ w'.cell? ⟨gp, 0, none⟩ = some (.pointer (some ⟨s, 0, none⟩)) ∧ w'.cell? ⟨gb, k, none⟩ = some (.string ⟨(sbN.getD k []).toArray⟩)) := fun u v1 v2 hu k1 k2 => by
        refine (cons_tr hS (unhide HT) hlt hGk hu v1 v2 k1 k2).mono ?_
        rintro e w' ⟨tx, rfl, hx⟩
        obtain ⟨vg', g, hTr, hb, hF, hr⟩ := id hx
        exact ⟨tx, rfl, hx, hTr.row.cell (j := 0) (by decide), (hR.keep (hF gb hgb hf).1).cell (j := k) hlt⟩
      have HS := hide hS
      have HF := hide hf
      have HR := hide hR
      have HGB := hide hgb
      have nnw : gp ≠ wr.heap.size := Nat.ne_of_lt hgl
      have mmw : wr.heap.size ≠ gp := (Nat.ne_of_lt hgl).symm
      have nnb : gb ≠ wr.heap.size := Nat.ne_of_lt hgb
      have mmb : wr.heap.size ≠ gb := (Nat.ne_of_lt hgb).symm
      have HGL := hide hgl
      clear hS hf hR hgl hgb
      generalize sbN.getD k [] = sb at *
      go_wp2_with fail
      go_cut [7, 8] from 31 to 64 (fun v7 v8 wc => ∃ tx : List UInt8, v7 = .string ⟨tx.toArray⟩ ∧ v8 = .int .i64 0 ∧ CoOut wr wc gp s R O vk vs vg Qs G vt vc vp C tx)
      case first =>
        go_region_held3 (fun w' => w'.cell? ⟨gp, 0, none⟩ = some (.pointer (some ⟨s, 0, none⟩)) ∧ w'.cell? ⟨gb, k, none⟩ = some (.string ⟨sb.toArray⟩)) (go_keep)
          (first
            | (go_at_call 58; refine Calls.mono (unhide HCo _ _ _ ?_ ?_ ?_) ?_; (first | exact unhide R3 | exact (unhide R3).alloc (unhide R3).size _ | exact ((unhide R3).alloc (unhide R3).size _).alloc (by have := (unhide R3).size; simp; omega) _); (first | exact (alloc_lsn rwx rfl rfl) | exact (alloc_lsn rwx rfl (by simp)) | exact (alloc_lsn rwx rfl rfl).more (alb _) | exact ((alloc_lsn rwx rfl rfl).more drb).more (unhide R2) | exact (((alloc_lsn rwx rfl rfl).more drb).more (unhide R2)).more (alb _) | exact (((alloc_lsn rwx rfl rfl).more (alb _)).more drb).more (unhide R2) | exact ((alloc_lsn rwx rfl (by simp)).more drb).more (unhide R2)); (first | exact (alloc_lsn ttu rfl rfl) | exact (alloc_lsn ttu rfl (by simp)) | exact (alloc_lsn ttu rfl rfl).more (alb _) | exact ((alloc_lsn ttu rfl rfl).more drb).more (unhide R2) | exact (((alloc_lsn ttu rfl rfl).more drb).more (unhide R2)).more (alb _) | exact (((alloc_lsn ttu rfl rfl).more (alb _)).more drb).more (unhide R2) | exact ((alloc_lsn ttu rfl (by simp)).more drb).more (unhide R2)); rintro e wC ⟨tx, rfl, hx, q0, q1⟩; have HZ := hide hx; clear hx; try dsimp only)
            | (go_at_call 31; refine (unhide HLo _ (by first | exact (Below.refl _ _).drew | exact (Below.refl _ _).drew.alloc (Nat.le_refl _) _ | exact ((Below.refl _ _).drew.alloc (Nat.le_refl _) _).alloc (by simp) _)).mono ?_; rintro e wB ⟨rfl, bB, BB⟩; obtain ⟨t0, t1⟩ := unhide HFc _ BB; have hgB : gp ≠ wB.heap.size := Nat.ne_of_lt (Nat.lt_of_lt_of_le (unhide HGL) BB.size); have hgB2 : wB.heap.size ≠ gp := hgB.symm; have hbB : gb ≠ wB.heap.size := Nat.ne_of_lt (Nat.lt_of_lt_of_le (unhide HGB) BB.size); have hbB2 : wB.heap.size ≠ gb := hbB.symm; have R2 := hide bB; have R3 := hide BB; clear bB BB; try dsimp only))
        all_goals (go_wp2_with fail; go_meet; exact ⟨_, rfl, rfl, unhide HZ⟩)
      case rest =>
        obtain ⟨tx, rfl, rfl, hx⟩ := hcut
        have HCg := hide (cons_grow (unhide HS) (unhide HT) hx)
        clear hx
        go_wp2_with fail
        refine (unhide HCg).mono ?_
        rintro e wD ⟨⟨v, rfl⟩, vg2, g, vt2, vc2, vp2, C2, hS2, hF2⟩
        obtain ⟨q1, q2⟩ := hF2 gb (unhide HGB) (unhide HF)
        have hRD := (unhide HR).keep q1
        have d4 : wD.cell? ⟨gp, 4, none⟩ = some (.bool false) := hS2.tr.row.cell (j := 4) (by decide)
        have z4 : wD.frozen? ⟨gp, 4, none⟩ = false := hS2.tr.row.frozen 4
        have hB4 : But gp wD (wD.setCell ⟨gp, 4, none⟩ (.bool false)) := (But.refl gp wD).setCell 4 _
        have HFin : Hid (TrS w0 (wD.setCell ⟨gp, 4, none⟩ (.bool false)) gp s R O vk vs vg2 Qs (G ++ [g]) vt2 vc2 vp2 C2 ∧ (G ++ [g]).length = k + 1 ∧ FrT s vg2 (G ++ [g]) gp vt2 vc2 vp2 gb ∧ Row (wD.setCell ⟨gp, 4, none⟩ (.bool false)) gb 9 3 (fun j => sv (sbN.getD j []))) := ⟨hS2.put4, by simp [hGk], q2, hRD.keep (hB4.block gb q2.g)⟩
        have hw := unhide HW
        clear hS2 hF2 q1 q2 hRD hB4 HCg HCo HLo HFc
        try dsimp only
        go_wp2_with fail
        go_roundg (gk - 1)
        case measure => omega
        case rel => exact ⟨k + 1, by omega, by first | exact num1 hw | rfl, vg2, G ++ [g], vt2, vc2, vp2, C2, unhide HFin⟩
    · obtain rfl : k = 3 := by omega
      have HE2 := hide (unhide HE vg G vt vc vp C wr hS (by omega))
      clear hS hf hR HE hk hGk
      go_wp2_with fail
      refine unhide HK1 _ _ ?_
      apply unhide HE2
end Go.Proofs.YtkmkkmdpjliifaaGreatDoor
namespace Go.Proofs.YtkmkkmdpjliifaaGreatDoor
open Go.ChangeShapes Go.WideShapes Go.ChangeAt Go.RowKit

theorem frs0 {s k : Nat} (h : k ≠ s) : FrS s (.slice none 0 0) [] k := ⟨h, fun e => (by cases e), fun i hi => absurd hi (Nat.not_lt_zero _)⟩
theorem frt0 {s k gp : Nat} (h : k ≠ s) (hg : k ≠ gp) : FrT s (.slice none 0 0) [] gp (.slice none 0 0) (.slice none 0 0) (.slice none 0 0) k := ⟨frs0 h, hg, fun e => (by cases e), fun e => (by cases e), fun e => (by cases e)⟩
/-- at the start nothing has grown -/
theorem tr0 {w0 w : World} {gp s R O : Nat} {vk vs : Value} {Qs : List Nat} (hS : Sv w s R O 0 vk vs (.slice none 0 0) ks0 cs0 Qs []) (hgs : s < gp) (hR : Row w gp 77 5 (trF s (.slice none 0 0) (.slice none 0 0) (.slice none 0 0) false)) (hb : Below w0.heap.size w0 w) (hs : w0.heap.size ≤ s) :
    TrS w0 w gp s R O vk vs (.slice none 0 0) Qs [] (.slice none 0 0) (.slice none 0 0) (.slice none 0 0) [] := by
  refine ⟨⟨hS, hgs, hR, OwnS.nil _ _, World.ownsRow_nil _ _ _ _, World.ownsRow_nil _ _ _ _, frs0 (by omega), ?_, ?_, ?_, ?_, ?_, ?_, ?_, ?_⟩, GOk.nil, rfl, hb, hs⟩
  all_goals first | exact fun k e => (by cases e) | exact fun i hi => absurd hi (Nat.not_lt_zero _) | exact fun x hx => (by cases hx)

set_option maxRecDepth 20000 in
set_option maxHeartbeats 4000000 in
theorem tree_any (v : Value) (St : List Stp) (w : World) (hT : TT w.heap.size w) (hl : St.length ≤ 8796093022208) (hSt : LsT w w.heap.size v St) : Calls Tryz.prog 27 #[v] w (TreeR w) := by
  have hSt' := hSt
  obtain ⟨ast, cst, rfl, _⟩ := hSt'
  have HE := hide (fun (gp gb s R O : Nat) (vk vs : Value) (Qs : List Nat) (u : World) (hS : TrS w u gp s R O vk vs (.slice none 0 0) Qs [] (.slice none 0 0) (.slice none 0 0) (.slice none 0 0) []) (hf : FrT s (.slice none 0 0) [] gp (.slice none 0 0) (.slice none 0 0) (.slice none 0 0) gb) (hR : Row u gb 9 3 (fun j => sv (sbN.getD j []))) => tree_5 ast cst St gp gb s R O vk vs (.slice none 0 0) Qs (.slice none 0 0) (.slice none 0 0) (.slice none 0 0) (w0 := w) (w := u) (hT := hT) (hl := hl) (hSt := hSt) (hS := hS) (hf := hf) (hR := hR))
  have HT := hide hT
  clear hT hl hSt
  go_enter Tryz.func27, Tryz.ntmps27
  apply wp_seq_k
  intro K0 hK0
  have HK0 := hide hK0
  clear hK0
  go_wp2_with fail
  refine unhide HK0 _ _ ?_
  clear HK0
  apply wp_seq_k
  intro K1 hK1
  have HK1 := hide hK1
  clear hK1
  go_wp2_with fail
  refine (known_any w (unhide HT)).mono ?_
  rintro e w1 ⟨rfl, hb1⟩
  have HB1 := hide hb1
  have hs1 := hb1.size
  clear hb1
  try dsimp only
  go_wp2_with fail
  refine unhide HK1 _ _ ?_
  clear HK1
  apply wp_seq_k
  intro K2 hK2
  have HK2 := hide hK2
  clear hK2
  go_wp2_with fail
  refine (server_any w1 ((unhide HT).below (unhide HB1)).ut).mono ?_
  rintro e w2 ⟨hb2, s, R, O, vk, vs, Qs, rfl, hle, hsz, hSb, hRs⟩
  have hS2 := hSb.sv hRs
  have hB2 := (unhide HB1).trans (hb2.mono hs1)
  have hs2 := hb2.size
  obtain ⟨w3, hw3⟩ : ∃ w3, w3 = w2.alloc (.cells #[.pointer (some ⟨s, 0, none⟩), .slice none 0 0, .slice none 0 0, .slice none 0 0, .bool false] 77) := ⟨_, rfl⟩
  have hb3 : Below w2.heap.size w2 w3 := by rw [hw3]; exact (Below.refl _ _).alloc (Nat.le_refl _) _
  have hR3 : Row w3 w2.heap.size 77 5 (trF s (.slice none 0 0) (.slice none 0 0) (.slice none 0 0) false) := by
    rw [hw3]
    refine Row.new w2 77 _ _ 5 rfl (fun j hj => ?_)
    rcases (show j = 0 ∨ j = 1 ∨ j = 2 ∨ j = 3 ∨ j = 4 by omega) with rfl | rfl | rfl | rfl | rfl <;> rfl
  obtain ⟨w4, hw4⟩ : ∃ w4, w4 = w3.alloc (.cells #[.string ⟨#[97, 110, 110]⟩, .string ⟨#[98, 111, 98]⟩, .string ⟨#[101, 118, 101]⟩] 9) := ⟨_, rfl⟩
  have hb4 : Below w3.heap.size w3 w4 := by rw [hw4]; exact (Below.refl _ _).alloc (Nat.le_refl _) _
  have hR4 : Row w4 w3.heap.size 9 3 (fun j => sv (sbN.getD j [])) := by
    rw [hw4]
    refine Row.new w3 9 _ _ 3 rfl (fun j hj => ?_)
    rcases (show j = 0 ∨ j = 1 ∨ j = 2 by omega) with rfl | rfl | rfl <;> rfl
  have hs3 : w3.heap.size = w2.heap.size + 1 := by rw [hw3]; simp
  have hgs : s < w2.heap.size := by omega
  have hTr := tr0 (w0 := w) (hS2.below (hb3.trans (hb4.mono (by omega)))) hgs (hR3.below hb4 hR3.lt) (hB2.trans ((hb3.trans (hb4.mono (by omega))).mono (by omega))) (by omega)
  have HE2 := hide (unhide HE w2.heap.size w3.heap.size s R O vk vs Qs w4 hTr (frt0 (by omega) (by omega)) hR4)
  have p0 : w3.cell? ⟨w2.heap.size, 0, none⟩ = some (.pointer (some ⟨s, 0, none⟩)) := hR3.cell (j := 0) (by decide)
  have HW3 := hide hw3
  have HW4 := hide hw4
  clear hw3 hw4 hb3 hb4 hR3 hR4 hTr hS2 hB2 hSb hRs hb2 HE HB1 hs3 hgs hle hsz hs1 hs2
  try dsimp only
  go_wp2_with fail
  rw [← unhide HW3]
  refine unhide HK2 _ _ ?_
  clear HK2
  apply wp_seq_k
  intro K3 hK3
  have HK3 := hide hK3
  clear hK3
  go_wp2_with fail
  refine unhide HK3 _ _ ?_
  clear HK3
  apply wp_seq_k
  intro K4 hK4
  have HK4 := hide hK4
  clear hK4
  go_wp2_with fail
  rw [← unhide HW4]
  refine unhide HK4 _ _ ?_
  apply unhide HE2
end Go.Proofs.YtkmkkmdpjliifaaGreatDoor
namespace Go.Proofs.YtkmkkmdpjliifaaGreatDoor.lf
open Go.ChangeShapes Go.WideShapes Go.ChangeAt Go.RowKit Go.Deep

theorem under72' : Tryz.prog.underlying 72 = some (.slice 113) := by kernel_rfl
theorem cells113' : Tryz.prog.cellsOf 113 = 6 := by kernel_rfl
theorem cells25' : Tryz.prog.cellsOf 25 = 1 := by kernel_rfl
theorem bytes113' : Tryz.prog.bytesOf 113 = 80 := by kernel_rfl
theorem read72 : Tryz.prog.readableRec 72 = true := by kernel_rfl
section
variable {H : Type} {enc : TypeId × Value → H} {W : World}
theorem weights_field {fs : List TypeId} {ds : List (DataW H)} {j : Nat} {t : TypeId} {d : DataW H} {n : Nat} (ht : fs[j]? = some t) (hd : ds[j]? = some d) (hn : n ∈ d.weights Tryz.prog t) : n ∈ DataW.weightsEach Tryz.prog fs ds := DataW.weights_mem_each ht hd n hn

theorem mem_weightsAll {P : Program} {e : TypeId} {d : DataW H} {n : Nat} (hn : n ∈ d.weights P e) : ∀ {l : List (DataW H)}, d ∈ l → n ∈ DataW.weightsAll P e l
  | [], h => by simp at h
  | y :: l, h => by
    simp only [DataW.weightsAll, List.mem_append]
    rcases List.mem_cons.1 h with rfl | h
    · exact Or.inl hn
    · exact Or.inr (mem_weightsAll hn h)

set_option maxRecDepth 100000 in
theorem open_step {fuel : Nat} {cs : List Value} {x : DataW H × List MemPlace} (h : DataW.trod enc Tryz.prog W 0 (fun _ => true) true fuel 113 cs = some x) (hw : ∀ n ∈ x.1.weights Tryz.prog 113, n ≤ reachBytes) :
    ∃ y : Stp, cs = [.int .i64 y.who, .int .i64 y.tok, .int .i64 y.act, y.vs, y.vt, .int .i64 y.life] ∧ In64 y.who ∧ In64 y.tok ∧ In64 y.act ∧ In64 y.life ∧ LsI W W.heap.size y.vs y.scp ∧ LsI W W.heap.size y.vt y.tgt ∧ y.scp.length ≤ 17592186044416 ∧ y.tgt.length ≤ 17592186044416 := by
  obtain ⟨xs, n, _, rfl, hl, hlen, hf⟩ := DataW.trod_struct Tryz.underlying113 h
  rw [cells113'] at hl
  match cs, hl with
  | [v0, v1, v2, v3, v4, v5], _ =>
  match xs, hlen with
  | [y0, y1, y2, y3, y4, y5], _ =>
  have f0 := hf 0 _ rfl
  have f1 := hf 1 _ rfl
  have f2 := hf 2 _ rfl
  have f3 := hf 3 _ rfl
  have f4 := hf 4 _ rfl
  have f5 := hf 5 _ rfl
  simp [cells3', cells25'] at f0 f1 f2 f3 f4 f5
  obtain ⟨n0, e0, _, l0⟩ := DataW.trod_int Tryz.underlying3 f0
  obtain ⟨n1, e1, _, l1⟩ := DataW.trod_int Tryz.underlying3 f1
  obtain ⟨n2, e2, _, l2⟩ := DataW.trod_int Tryz.underlying3 f2
  obtain ⟨n5, e5, _, l5⟩ := DataW.trod_int Tryz.underlying3 f5
  have hww : ∀ (j : Nat) (t : TypeId) (d : DataW H), [(3 : Nat), 3, 3, 25, 25, 3][j]? = some t → [y0.1, y1.1, y2.1, y3.1, y4.1, y5.1][j]? = some d → ∀ n ∈ d.weights Tryz.prog t, n ≤ reachBytes := fun j t d ht hd n hn => by
    refine hw n ?_
    simp only [DataW.weights, Tryz.underlying113]
    exact weights_field (fs := [3, 3, 3, 25, 25, 3]) (ds := [y0.1, y1.1, y2.1, y3.1, y4.1, y5.1]) ht hd hn
  obtain ⟨a3, c3, t3, e3, k3, m3⟩ := open_nums f3 (hww 3 _ _ rfl rfl)
  obtain ⟨a4, c4, t4, e4, k4, m4⟩ := open_nums f4 (hww 4 _ _ rfl rfl)
  simp at e0 e1 e2 e3 e4 e5
  subst e0 e1 e2 e3 e4 e5
  exact ⟨⟨n0, n1, n2, n5, t3, t4, .slice a3 t3.length c3, .slice a4 t4.length c4⟩, rfl, wf64 l0, wf64 l1, wf64 l2, wf64 l5, k3, k4, m3, m4⟩

set_option maxRecDepth 100000 in
theorem open_steps {fuel : Nat} {cs : List Value} {x : DataW H × List MemPlace} (h : DataW.trod enc Tryz.prog W 0 (fun _ => true) true fuel 72 cs = some x) (hw : ∀ n ∈ x.1.weights Tryz.prog 72, n ≤ reachBytes) :
    ∃ a c l, cs = [.slice a l.length c] ∧ LsT W W.heap.size (.slice a l.length c) l ∧ l.length ≤ 8796093022208 := by
  rcases open_slice under72' h with ⟨rfl, _⟩ | ⟨a, len, cap, m, n, D, Pl, rfl, _, hl, hm, hmm, rfl, hx⟩
  · exact ⟨none, 0, [], rfl, ⟨none, 0, rfl, fun h => absurd h (by simp)⟩, by simp⟩
  · simp only [if_true] at hmm
    subst hmm
    have hwD : ∀ i, i < len → ∀ n ∈ (D i).weights Tryz.prog 113, n ≤ reachBytes := fun i hi n hn => by
      refine hw n ?_
      simp only [DataW.weights, under72']
      exact List.mem_cons.2 (Or.inr (List.mem_append.2 (Or.inl (mem_weightsAll hn (List.mem_map.2 ⟨i, List.mem_range.2 hi, rfl⟩)))))
    have each : ∀ i, i < len → ∃ y : Stp, W.cells? 0 (a.add (i * 6)) 6 = some [.int .i64 y.who, .int .i64 y.tok, .int .i64 y.act, y.vs, y.vt, .int .i64 y.life] ∧ In64 y.who ∧ In64 y.tok ∧ In64 y.act ∧ In64 y.life ∧ LsI W W.heap.size y.vs y.scp ∧ LsI W W.heap.size y.vt y.tgt ∧ y.scp.length ≤ 17592186044416 ∧ y.tgt.length ≤ 17592186044416 := fun i hi => by
      obtain ⟨cs', h1, h2⟩ := hx i (by omega)
      obtain ⟨y, rfl, hr⟩ := open_step h2 (hwD i hi)
      rw [cells113'] at h1
      exact ⟨y, h1, hr⟩
    obtain ⟨q, hq⟩ := choose_lt each
    have hlen : ((List.range len).map q).length = len := by simp
    have hb : (len + (m - len)) * 80 ≤ reachBytes := by
      have := hw ((len + (m - len)) * 80) (by simp [DataW.weights, bytes113'])
      exact this
    refine ⟨some a, m, (List.range len).map q, by rw [hlen], ⟨some a, m, by rw [hlen], fun hp => ?_⟩, by rw [hlen]; unfold reachBytes at hb; omega⟩
    rw [hlen] at hp
    obtain ⟨b, off, spot⟩ := a
    obtain ⟨hc, _⟩ := hq 0 hp
    have hc0 := (World.cells?_some hc).2.2 0 (by omega)
    have hspot : spot = none := by
      have := World.cell?_spot (v := .int .i64 (q 0).who) (by simpa using hc0)
      simpa [Addr.add] using this
    subst hspot
    refine ⟨b, off, rfl, ?_, fun i hi => ?_⟩
    · have := World.block_lt_of_cell? W _ (show _ = some (.int .i64 (q 0).who) by simpa using hc0)
      simpa [Addr.add] using this
    · rw [hlen] at hi
      rw [getD_range len _ default i hi]
      obtain ⟨hc, z0, z1, z2, z3, z4, z5, z6, z7⟩ := hq i hi
      have hcc := (World.cells?_some hc).2.2
      have g0 := hcc 0 (by omega)
      have g1 := hcc 1 (by omega)
      have g2 := hcc 2 (by omega)
      have g3 := hcc 3 (by omega)
      have g4 := hcc 4 (by omega)
      have g5 := hcc 5 (by omega)
      rw [add_add, add_plain] at g0 g1 g2 g3 g4 g5
      simp only [Nat.add_zero, ← Nat.add_assoc] at g0 g1 g2 g3 g4 g5
      exact ⟨by simpa using g0, by simpa using g1, by simpa using g2, by simpa using g3, by simpa using g4, by simpa using g5, z0, z1, z2, z3, z4, z5, z6, z7⟩
end
end Go.Proofs.YtkmkkmdpjliifaaGreatDoor.lf
namespace Go.Proofs.YtkmkkmdpjliifaaGreatDoor
open Go.ChangeShapes Go.WideShapes Go.ChangeAt Go.RowKit

section
variable {w0 w w' : World} {gp s R O : Nat} {vk vs vg : Value} {Qs : List Nat} {G : List Gt} {vt vc vp : Value} {C : List (Cm × Pl)}
theorem TrS.cAt (h : TrS w0 w gp s R O vk vs vg Qs G vt vc vp C) {i : Nat} (hi : i < G.length) : (C.getD i (cm0, pl0)).1 = (G.getD i default).c := by
  have hC := h.clen
  have := congrArg (fun l => l[i]?) h.cm
  simp only [List.getElem?_map] at this
  rw [List.getElem?_eq_getElem (by omega), List.getElem?_eq_getElem hi] at this
  rw [List.getD_eq_getElem?_getD, List.getD_eq_getElem?_getD, List.getElem?_eq_getElem (by omega), List.getElem?_eq_getElem hi]
  simpa using this
/-- the claims of the token i, as they are kept -/
theorem TrS.claims (h : TrS w0 w gp s R O vk vs vg Qs G vt vc vp C) (h3 : 3 ≤ G.length) : ∃ gc cc, vc = .slice (some ⟨gc, 0, none⟩) G.length cc ∧ gc < w.heap.size ∧ ∀ i, i < G.length → (∀ j, j < 6 → w.cell? ⟨gc, i * 6 + j, none⟩ = some (czF (G.getD i default).c.z (C.getD i (cm0, pl0)).2 j)) ∧ CzL w w.heap.size (G.getD i default).c.z (C.getD i (cm0, pl0)).2 := by
  have hC := h.clen
  obtain ⟨gc, cc, e, _, _, hl, hc⟩ := h.tr.claims (by omega)
  refine ⟨gc, cc, by rw [hC] at e; exact e, hl, fun i hi => ⟨fun j hj => ?_, ?_⟩⟩
  · rw [← h.cAt hi]
    exact hc i (by omega) j hj
  · rw [← h.cAt hi]
    refine (h.tr.ls (C.getD i (cm0, pl0)) ?_).l (fun k hk => hk.1)
    rw [List.getD_eq_getElem?_getD, List.getElem?_eq_getElem (by omega)]
    exact List.getElem_mem _
theorem TrS.parents (h : TrS w0 w gp s R O vk vs vg Qs G vt vc vp C) (h3 : 3 ≤ G.length) : ∃ ga ca, vp = .slice (some ⟨ga, 0, none⟩) G.length ca ∧ ga < w.heap.size ∧ ∀ i, i < G.length → w.cell? ⟨ga, i, none⟩ = some (.int .i64 (parI (G.getD i default))) := by
  have hl : (G.map parI).length = G.length := by simp
  obtain ⟨ga, ca, e, _, _, hlt, hc⟩ := h.tr.parents (by omega)
  refine ⟨ga, ca, by rw [hl] at e; exact e, hlt, fun i hi => ?_⟩
  rw [hc i (by omega), List.getD_eq_getElem?_getD, List.getElem?_map, List.getD_eq_getElem?_getD, List.getElem?_eq_getElem hi]
  rfl
end
/-- a list without its first -/
theorem Ls.tail {w : World} {B : Nat} {a : Option Addr} {c : Nat} {x : List UInt8} {l : List (List UInt8)} (h : Ls w B (.slice a (x :: l).length c) (x :: l)) {A : Option Addr} (hA : 1 < c → ∀ g o, a = some ⟨g, o, none⟩ → A = some ⟨g, o + 1, none⟩) : Ls w B (.slice A l.length (c - 1)) l := by
  obtain ⟨a', c', e, hle, h⟩ := h
  injection e with e1 e2 e3
  subst e1
  subst e3
  simp only [List.length_cons] at hle
  refine ⟨A, c - 1, rfl, by omega, fun hp => ?_⟩
  obtain ⟨g, o, rfl, hg, hc⟩ := h (by simp)
  refine ⟨g, o + 1, hA (by omega) g o rfl, hg, fun j hj => ?_⟩
  have := hc (j + 1) (by simp; omega)
  rw [show o + 1 + j = o + (j + 1) by omega, this]
  rfl
end Go.Proofs.YtkmkkmdpjliifaaGreatDoor
