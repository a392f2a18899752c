import Derived.Test.YtkmkkmdpjliifaaGreatDoorTrD
import Derived.Test.YtkmkkmdpjliifaaGreatDoorExG
import Derived.Test.YtkmkkmdpjliifaaGreatDoorPlA
import Derived.Test.YtkmkkmdpjliifaaGreatDoorKnB
import Derived.Deep.CutRange
namespace Go.Proofs.YtkmkkmdpjliifaaGreatDoor
open Go.ChangeShapes Go.WideShapes Go.ChangeAt Go.RowKit

/-- what the tree comes to -/
def TreeR (w0 : World) (e : Ending) (w' : World) : Prop :=
  ∃ gp s R O vk vs vg Qs G vt vc vp C, e = .returned (.pointer (some ⟨gp, 0, none⟩)) ∧ TrS w0 w' gp s R O vk vs vg Qs G vt vc vp C ∧ 3 ≤ G.length
theorem Ls.more {w w' : World} {v : Value} {l : List (List UInt8)} (h : Ls w w.heap.size v l) (hb : Below w.heap.size w w') : Ls w' w'.heap.size v l := (h.below hb).up hb.size
theorem alloc_ls {w : World} (l : List (List UInt8)) {cs : Array Value} (h : cs = (svs l).toArray) : Ls (w.alloc (.cells cs 9)) (w.alloc (.cells cs 9)).heap.size (.slice (some ⟨w.heap.size, 0, none⟩) l.length l.length) l := by
  subst h
  exact allocL_ls (os := [.cells (svs l).toArray 9]) (w := w) (i := 0) (l := l) rfl (by simp)
theorem alb {w : World} (o : Obj) : Below w.heap.size w (w.alloc o) := (Below.refl _ _).alloc (Nat.le_refl _) o
section
variable {w0 w w' : World} {gp s R O : Nat} {vk vs vg : Value} {Qs : List Nat} {G : List Gt} {vt vc vp : Value} {C : List (Cm × Pl)}
theorem TrS.lt (h : TrS w0 w gp s R O vk vs vg Qs G vt vc vp C) : gp < w.heap.size := h.tr.lt
theorem TrS.s4 (h : TrS w0 w gp s R O vk vs vg Qs G vt vc vp C) (hT : TT w0.heap.size w0) : 4 < s := Nat.lt_of_lt_of_le hT.b4 h.w0s
theorem TrS.tb (h : TrS w0 w gp s R O vk vs vg Qs G vt vc vp C) (hT : TT w0.heap.size w0) : Tb s w := (hT.below h.bel).tb h.w0s
theorem TrS.mx (h : TrS w0 w gp s R O vk vs vg Qs G vt vc vp C) (hT : TT w0.heap.size w0) : MX w := (hT.below h.bel).mx
/-- what an exchange leaves -/
def ExOut (u w' : World) (gp s R O : Nat) (vk vs vg : Value) (Qs : List Nat) (G : List Gt) (vt vc vp : Value) (C : List (Cm × Pl)) (n : Nat) (tx : List UInt8) (er : Int) : Prop :=
  ∃ vg' G', Tr w' gp s R O 0 vk vs vg' Qs G' vt vc vp false ((List.range G.length).map (tokG G)) C (G.map parI) ∧ Below s u w' ∧ TFar gp s vg vg' G G' vt vt vc vc vp vp u w' ∧
    ((er ≠ 0 ∧ G' = G) ∨ (er = 0 ∧ ∃ g, G' = G ++ [g] ∧ GOk (G ++ [g]) ∧ tx = tokG (G ++ [g]) G.length ∧ parI g = (n : Nat)))
theorem ExOut.size {tx : List UInt8} {er : Int} {u : World} {n : Nat} (h : ExOut u w' gp s R O vk vs vg Qs G vt vc vp C n tx er) : u.heap.size ≤ w'.heap.size := by
  obtain ⟨_, _, _, h, _⟩ := h
  exact h.size
/-- the contract of Exchange, in the growing -/
theorem exch_tr (h : TrS w0 w gp s R O vk vs vg Qs G vt vc vp C) (hT : TT w0.heap.size w0) {m n : Nat} (hm : m < 4) (hn : n < G.length) (ac : List UInt8) (hac : ac.length ≤ 1048576) (v1 v2 : Value) (t1 t2 : List (List UInt8)) (life : Int) (l1 : t1.length ≤ 8796093022208) (l2 : t2.length ≤ 8796093022208) (f1 : Fits t1) (f2 : Fits t2) (k1 : Ls w w.heap.size v1 t1) (k2 : Ls w w.heap.size v2 t2) :
    Calls Tryz.prog 33 #[.pointer (some ⟨s, 0, none⟩), .agg #[.string ⟨#[99, UInt8.ofNat (48 + m)]⟩, .string ⟨#[115, UInt8.ofNat (48 + m)]⟩], .string ⟨(tokG G n).toArray⟩, .string ⟨ac.toArray⟩, v1, v2, .int .i64 life] w fun e w' =>
      ∃ tx er, e = .returned (.tuple #[.string ⟨tx.toArray⟩, .int .i64 er]) ∧ ExOut w w' gp s R O vk vs vg Qs G vt vc vp C n tx er := by
  have hlog : loginK cs0 [99, UInt8.ofNat (48 + m)] [115, UInt8.ofNat (48 + m)] = some m := by
    rcases (show m = 0 ∨ m = 1 ∨ m = 2 ∨ m = 3 by omega) with rfl | rfl | rfl | rfl <;> decide +kernel
  have htk := h.ok.take h.tr.sv hn
  have hX := Exchange_any [99, UInt8.ofNat (48 + m)] [115, UInt8.ofNat (48 + m)] (tokG G n) ac v1 v2 t1 t2 life w s R O 0 vk vs vg ks0 cs0 Qs G h.tr.sv (h.tb hT) (h.mx hT) (h.s4 hT) (by decide) (tokG_len h.tr.sv hn) hac l1 l2 f1 f2 k1 k2
  refine hX.mono ?_
  rintro e w' (⟨h1, rfl, hb⟩ | ⟨h1, m', i, hl, ht, hi, rfl, hg⟩)
  · exact ⟨[], _, rfl, vg, G, h.tr.below hb, hb.mono (Nat.le_of_lt h.tr.sv.lt), TFar.below hb, Or.inl ⟨h1, rfl⟩⟩
  · rw [hlog] at hl
    obtain rfl := Option.some.inj hl
    rw [htk] at ht
    obtain rfl : n = i := Option.some.inj (congrArg Prod.fst ht)
    rw [exch_of hlog htk] at h1
    obtain ⟨vg', b, pl, hTr, hb, hF⟩ := h.tr.gave hg
    exact ⟨_, _, rfl, vg', _, hTr, hb, hF, Or.inr ⟨rfl, _, rfl, h.ok.ex hn h1, by unfold tokG; rw [getG_right (Nat.le_refl _), Nat.sub_self]; rfl, rfl⟩⟩
/-- the contract of grow behind it -/
theorem grow_tr (h : TrS w0 w gp s R O vk vs vg Qs G vt vc vp C) (hT : TT w0.heap.size w0) {n : Nat} {tx : List UInt8} {er : Int} (hx : ExOut w w' gp s R O vk vs vg Qs G vt vc vp C n tx er) :
    Calls Tryz.prog 64 #[.pointer (some ⟨gp, 0, none⟩), .string ⟨tx.toArray⟩, .int .i64 er, .int .i64 (n : Nat)] w' fun e w2 => (∃ v, e = .returned v) ∧ ∃ vg2 G2 vt2 vc2 vp2 C2, TrS w0 w2 gp s R O vk vs vg2 Qs G2 vt2 vc2 vp2 C2 ∧ G.length ≤ G2.length := by
  obtain ⟨vg', G', hTr, hb, hF, hc⟩ := hx
  rcases hc with ⟨he, rfl⟩ | ⟨rfl, g, rfl, hG, rfl, hp⟩
  · refine (grow_no tx er (n : Nat) w' gp he).mono ?_
    rintro e w2 ⟨h1, rfl⟩
    exact ⟨h1, vg', G', vt, vc, vp, C, ⟨hTr, h.ok, h.cm, h.bel.trans (hb.mono h.w0s), h.w0s⟩, Nat.le_refl _⟩
  · have hl : ((List.range G.length).map (tokG G)).length = G.length := by simp
    have hT' := hT.below (h.bel.trans (hb.mono h.w0s))
    have hgr := grow_any (tokG (G ++ [g]) G.length) (n : Nat) w' gp s R O vk vs vg' Qs (G ++ [g]) vt vc vp _ C (G.map parI) hTr (hT'.tb h.w0s) hT'.mx (h.s4 hT) (by rw [hl]; simp) (by rw [hl]; exact h.clen) (by rw [hl]; simp) (by rw [hl]; exact hG.take hTr.sv (by simp)) (tokG_len hTr.sv (by simp))
    refine hgr.mono ?_
    rintro e w2 ⟨h1, vt2, vc2, vp2, pl, h2, b2, _⟩
    rw [hl, getG_right (Nat.le_refl _), Nat.sub_self, ← hp] at h2
    exact ⟨h1, vg', _, vt2, vc2, vp2, _, h.more hG (hb.trans b2) h2, by simp⟩
end
end Go.Proofs.YtkmkkmdpjliifaaGreatDoor
namespace Go.Proofs.YtkmkkmdpjliifaaGreatDoor
open Go.ChangeShapes Go.WideShapes Go.ChangeAt Go.RowKit

theorem tdiv_rng {r : Int} (k : Int) (hk : 1 ≤ k) (h : -9223372036854775808 ≤ r ∧ r ≤ 9223372036854775807) : (-9223372036854775808 ≤ r.tdiv k ∧ r.tdiv k ≤ 9223372036854775807) ∧ wrap64 (r.tdiv k) = r.tdiv k := by
  have h1 : -9223372036854775808 ≤ r.tdiv k ∧ r.tdiv k ≤ 9223372036854775807 := by
    have a1 := Int.natAbs_tdiv r k
    have a2 : r.natAbs / k.natAbs ≤ r.natAbs := Nat.div_le_self _ _
    have a3 : (r.tdiv k).natAbs ≤ r.natAbs := by rw [a1]; exact a2
    by_cases h0 : 0 ≤ r
    · have := Int.tdiv_nonneg h0 (by omega : (0 : Int) ≤ k)
      omega
    · have h9 := Int.tdiv_nonneg (by omega : 0 ≤ -r) (by omega : (0 : Int) ≤ k)
      rw [Int.neg_tdiv] at h9
      omega
  exact ⟨h1, w64 _ h1.1 (by omega)⟩
end Go.Proofs.YtkmkkmdpjliifaaGreatDoor
namespace Go.Proofs.YtkmkkmdpjliifaaGreatDoor
open Go.ChangeShapes Go.WideShapes Go.ChangeAt Go.RowKit

end Go.Proofs.YtkmkkmdpjliifaaGreatDoor
namespace Go.Proofs.YtkmkkmdpjliifaaGreatDoor
open Go.ChangeShapes Go.WideShapes Go.ChangeAt Go.RowKit

/- what is written otherwise is read -/
end Go.Proofs.YtkmkkmdpjliifaaGreatDoor
namespace Go.Proofs.YtkmkkmdpjliifaaGreatDoor
open Go.ChangeShapes Go.WideShapes Go.ChangeAt Go.RowKit

def setF (c d : Cm) : Nat → Cm
  | 0 => d.setN 0 c.id
  | 1 => d.setT c.sub
  | 2 => d.setL 2 c.scp
  | 3 => d.setL 3 c.aud
  | 4 => d.setL 4 c.act
  | _ => d.setN 5 c.exp
def setL (c d : Cm) (ps : List Nat) : Cm := ps.foldl (setF c) d
end Go.Proofs.YtkmkkmdpjliifaaGreatDoor
namespace Go.Proofs.YtkmkkmdpjliifaaGreatDoor
open Go.ChangeShapes Go.WideShapes Go.ChangeAt Go.RowKit

theorem listB_get {l : List (List UInt8)} (h : listB l = true) : l.length ≤ 6 ∧ ∀ k, (l.getD k []).length ≤ 16 := by
  obtain ⟨h1, h2, _⟩ := (listB_iff l).1 h
  refine ⟨h1, fun k => ?_⟩
  by_cases hk : k < l.length
  · rw [List.getD_eq_getElem?_getD, List.getElem?_eq_getElem hk]
    have := h2 l[k] (List.getElem_mem hk)
    unfold nameN at this
    simp only [Bool.and_eq_true, decide_eq_true_eq] at this
    exact this.2
  · rw [List.getD_eq_getElem?_getD, List.getElem?_eq_none (by omega)]
    exact Nat.zero_le _
end Go.Proofs.YtkmkkmdpjliifaaGreatDoor
namespace Go.Proofs.YtkmkkmdpjliifaaGreatDoor
open Go.ChangeShapes Go.WideShapes Go.ChangeAt Go.RowKit
/-- what of a code comes behind its first k parts -/
def dropS : Nat → Code → Code
  | k + 1, .seq _ b => dropS k b
  | _, c => c
noncomputable def r5 (k : Nat) : Code := dropS k (Tryz.f5.body.getD .skip)

end Go.Proofs.YtkmkkmdpjliifaaGreatDoor
namespace Go.Proofs.YtkmkkmdpjliifaaGreatDoor
open Go.ChangeShapes Go.WideShapes Go.ChangeAt Go.RowKit

theorem w64q (x : Int) (h : -9223372036854775808 ≤ x ∧ x ≤ 9223372036854775807) : IntKind.i64.wrap x = x := by rw [IntKind.wrap_i64]; omega
noncomputable def r27 (k : Nat) : Code := dropS k (Tryz.f27.body.getD .skip)
section
variable {w0 w w' u : World} {gp s R O : Nat} {vk vs vg : Value} {Qs : List Nat} {G : List Gt} {vt vc vp : Value} {C : List (Cm × Pl)}
theorem tok_at (G : List Gt) {k : Nat} (hk : k < G.length) : ((List.range G.length).map (tokG G)).getD k [] = tokG G k := by
  rw [List.getD_eq_getElem?_getD, List.getElem?_map, List.getElem?_range hk]
  rfl
theorem TrS.texts (h : TrS w0 w gp s R O vk vs vg Qs G vt vc vp C) (h3 : 3 ≤ G.length) : ∃ gt ct, vt = .slice (some ⟨gt, 0, none⟩) G.length ct ∧ ∀ k, k < G.length → w.cell? ⟨gt, k, none⟩ = some (.string ⟨(tokG G k).toArray⟩) := by
  have hl := TrS.tlen G
  obtain ⟨gt, ct, e, _, _, _, hc⟩ := h.tr.texts (by rw [hl]; omega)
  refine ⟨gt, ct, by rw [hl] at e; exact e, fun k hk => ?_⟩
  rw [← tok_at G hk]
  exact hc k (by rw [hl]; exact hk)
theorem ExOut.cells {n gt ct : Nat} {tx : List UInt8} {er : Int} (hx : ExOut u w' gp s R O vk vs vg Qs G (.slice (some ⟨gt, 0, none⟩) G.length ct) vc vp C n tx er) :
    w'.cell? ⟨gp, 0, none⟩ = some (.pointer (some ⟨s, 0, none⟩)) ∧ w'.cell? ⟨gp, 1, none⟩ = some (.slice (some ⟨gt, 0, none⟩) G.length ct) ∧ (∀ k, k < G.length → w'.cell? ⟨gt, k, none⟩ = some (.string ⟨(tokG G k).toArray⟩)) ∧
      ∀ k, k < u.heap.size → FrT s vg G gp (.slice (some ⟨gt, 0, none⟩) G.length ct) vc vp k → w'.heap[k]? = u.heap[k]? := by
  obtain ⟨vg', G', hTr, hb, hF, _⟩ := hx
  refine ⟨hTr.row.cell (j := 0) (by decide), hTr.row.cell (j := 1) (by decide), fun k hk => ?_, fun k hk hf => (hF k hk hf).1⟩
  have hl := TrS.tlen G
  obtain ⟨g2, c2, e, _, _, _, hc⟩ := hTr.texts (by rw [hl]; omega)
  injection e with e1 e2 e3
  injection e1 with e1
  injection e1 with e1
  subst e1
  rw [← tok_at G hk]
  exact hc k (by rw [hl]; exact hk)
end
theorem life_num {n : Nat} (h : n < 2000) : wrap64 (1 + (n : Int)) = 1 + (n : Int) ∧ IntKind.i64.wrap (1 + (n : Int)) = 1 + (n : Int) := ⟨w64 _ (by omega) (by omega), w64q _ ⟨by omega, by omega⟩⟩
theorem nmK_fits (l : List Int) : Fits (nmK l l.length) := fun i hi => by
  have := (listB_get (nmK_list l l.length)).2 i
  omega
theorem tg_fits (l : List Int) : Fits (tgK l l.length) := fun i hi => by
  have hm : (tgK l l.length).getD i [] ∈ tgK l l.length := by rw [List.getD_eq_getElem?_getD, List.getElem?_eq_getElem hi]; exact List.getElem_mem hi
  have h := (tgK_ok l l.length).1 _ hm
  have : ∀ x ∈ tgN, x.length ≤ 16 := by decide
  have := this _ h
  omega

set_option maxRecDepth 20000 in
set_option maxHeartbeats 4000000 in
theorem tree_6 (ast : Option Addr) (cst : Nat) (St : List Stp) (gp s R O : Nat) (vk vs vg : Value) (Qs : List Nat) (G : List Gt) (vt vc vp : Value) (C : List (Cm × Pl)) (u1 u2 u3 u5 u6 u7 u8 u9 u10 u11 u12 u13 u14 u15 u16 u17 u18 u19 u20 u21 u22 u23 u24 u25 u26 u27 u28 u29 u30 u31 u32 u33 u34 u35 u36 u37 u38 u39 u40 u41 u42 u43 u44 u45 u46 u47 u48 u49 u50 u51 u52 u53 u54 u55 u56 u57 u58 u59 u60 u61 u62 u63 u64 u65 u66 u67 u68 u69 u70 u71 u72 u73 u74 u75 u76 u77 u78 u79 u80 u81 u82 u83 u84 u85 u86 u87 u88 u89 u90 u91 u92 u93 u94 u95 u96 u97 u98 u99 u100 u101 u102 u103 u104 u105 u106 u107 u108 u109 u110 u111 u112 u113 u114 u115 u116 u117 u118 u119 u120 u121 u122 u123 u124 u125 u126 u127 u128 u129 u130 u131 u132 u133 u134 u135 u136 u137 u138 u139 u140 u141 u142 u143 u144 u145 u146 u147 u148 u149 u150 : Value) (w0 w : World) (hT : TT w0.heap.size w0) (hl : St.length ≤ 8796093022208) (hSt : LsT w0 w0.heap.size (.slice ast St.length cst) St)
    (hS : TrS w0 w gp s R O vk vs vg Qs G vt vc vp C) (h3 : 3 ≤ G.length) :
    Code.wp Tryz.prog (r27 6) (bodyPost Tryz.prog Tryz.f27 (TreeR w0)) ⟨#[.slice ast St.length cst, u1, u2, u3, .pointer (some ⟨gp, 0, none⟩), u5, u6, u7, u8, u9, u10, u11, u12, u13, u14, u15, u16, u17, u18, u19, u20, u21, u22, u23, u24, u25, u26, u27, u28, u29, u30, u31, u32, u33, u34, u35, u36, u37, u38, u39, u40, u41, u42, u43, u44, u45, u46, u47, u48, u49, u50, u51, u52, u53, u54, u55, u56, u57, u58, u59, u60, u61, u62, u63, u64, u65, u66, u67, u68, u69, u70, u71, u72, u73, u74, u75, u76, u77, u78, u79, u80, u81, u82, u83, u84, u85, u86, u87, u88, u89, u90, u91, u92, u93, u94, u95, u96, u97, u98, u99, u100, u101, u102, u103, u104, u105, u106, u107, u108, u109, u110, u111, u112, u113, u114, u115, u116, u117, u118, u119, u120, u121, u122, u123, u124, u125, u126, u127, u128, u129, u130, u131, u132, u133, u134, u135, u136, u137, u138, u139, u140, u141, u142, u143, u144, u145, u146, u147, u148, u149, u150], []⟩ w := by
  have HT := hide hT
  have HL := hide hl
  obtain ⟨a0, c0, e, hat⟩ := hSt
  injection e with e1 e2 e3
  subst e1
  subst e3
  have HAT := hide hat
  clear hT hl hat e2
  conv => arg 2; whnf
  apply wp_seq_k
  intro K1 hK1
  have HK1 := hide hK1
  clear hK1
  go_wp2_with fail
  go_loopg [9] St.length (fun q i wr => ∃ k : Nat, k + q = St.length ∧ i = .int .i64 (k : Nat) ∧ ∃ vg G vt vc vp C, TrS w0 wr gp s R O vk vs vg Qs G vt vc vp C ∧ 3 ≤ G.length)
  case atStart => exact ⟨0, by omega, rfl, vg, G, vt, vc, vp, C, hS, h3⟩
  case round =>
    clear hS h3 vg G vt vc vp C
    obtain ⟨k, hk, rfl, vg, G, vt, vc, vp, C, hS, h3⟩ := hrel
    have r4 : wr.cell? ⟨gp, 4, none⟩ = some (.bool false) := hS.tr.row.cell (j := 4) (by decide)
    by_cases hlt : k < St.length
    · have hkI : (k : Int) < (St.length : Int) := by omega
      have hw := w64j hlt (unhide HL)
      obtain ⟨g0, o0, rfl, hg0, hst⟩ := unhide HAT (by omega)
      have hx := (hst k hlt).below hS.bel hg0
      generalize St.getD k default = x at hx
      obtain ⟨as1, cs1, evs, _⟩ := id hx.scp
      obtain ⟨as2, cs2, evt, _⟩ := id hx.tgt
      have x0 := hx.c0
      have x1 := hx.c1
      have x2 := hx.c2
      have x3 := hx.c3
      have x4 := hx.c4
      have x5 := hx.c5
      rw [evs] at x3
      rw [evt] at x4
      obtain ⟨gt, ct, rfl, hct⟩ := hS.texts h3
      have h40 := hS.tr.sv.small
      obtain ⟨hn1, hn2⟩ := pickN_lt x.tok G.length (by omega)
      have HP1 : Hid (∀ u : World, Calls Tryz.prog 26 #[.int .i64 x.tok, .int .i64 (G.length : Nat)] u fun e w' => e = .returned (.int .i64 (pickN x.tok G.length : Nat)) ∧ w' = u) := fun u => by
        have h := pickK_any x.tok (G.length : Nat) u hx.tok ⟨by omega, by omega⟩
        rw [hn2] at h
        exact h
      generalize hnE : pickN x.tok G.length = n at *
      have HS := hide hS
      have HX := hide hx
      have HCT := hide hct
      have HN := hide hn1
      have HEV := hide (And.intro evs evt)
      obtain ⟨wx, hwx⟩ : ∃ wx, wx = wr.alloc (.cells #[.int .i64 x.who, .int .i64 x.tok, .int .i64 x.act, .slice as1 x.scp.length cs1, .slice as2 x.tgt.length cs2, .int .i64 x.life] 113) := ⟨_, rfl⟩
      have hbx : Below wr.heap.size wr wx := by rw [hwx]; exact (Below.refl _ _).alloc (Nat.le_refl _) _
      have hRx : Row wx wr.heap.size 113 6 (fun j => (#[.int .i64 x.who, .int .i64 x.tok, .int .i64 x.act, .slice as1 x.scp.length cs1, .slice as2 x.tgt.length cs2, .int .i64 x.life] : Array Value).getD j undef) := by rw [hwx]; exact Row.new wr 113 _ _ 6 rfl (six rfl rfl rfl rfl rfl rfl)
      have HRX := hide hRx
      have HWX := hide hwx
      have HBX := hide hbx
      have y1 : wx.cell? ⟨wr.heap.size, 1, none⟩ = some (.int .i64 x.tok) := hRx.cell (j := 1) (by decide)
      have gpx : wx.cell? ⟨gp, 1, none⟩ = some (.slice (some ⟨gt, 0, none⟩) G.length ct) := (hS.below hbx).tr.row.cell (j := 1) (by decide)
      have HGL := hide hS.lt
      have HG3 := hide h3
      clear hS hx hct hn1 hn2 hnE hwx hbx hRx evs evt hst h40 h3
      go_wp2_with fail
      rw [← unhide HWX]
      clear x0 x1 x2 x3 x4 x5 r4
      go_quiet (first | (go_at_call 26; exact Calls.quiet_of_same (unhide HP1 _)))
      have hbq : Below wx.heap.size wx (wx.drewN nq) := ⟨rfl, rfl, rfl, Nat.le_refl _, fun _ _ => rfl⟩
      generalize wx.drewN nq = wy at *
      have HBY := hide ((unhide HBX).trans (hbq.mono (unhide HBX).size))
      have HRY := hide ((unhide HRX).below hbq (unhide HRX).lt)
      have y2 : wy.cell? ⟨wr.heap.size, 2, none⟩ = some (.int .i64 x.act) := (unhide HRY).cell (j := 2) (by decide)
      have gpy : wy.cell? ⟨gp, 1, none⟩ = some (.slice (some ⟨gt, 0, none⟩) G.length ct) := ((unhide HS).below (unhide HBY)).tr.row.cell (j := 1) (by decide)
      have h40 := (unhide HS).tr.sv.small
      have hG0 := (unhide HN)
      obtain ⟨hr3, hw3⟩ := tdiv_rng 3 (by decide) (unhide HX).act
      have hv3 := w64q _ hr3
      obtain ⟨hm1, hm2⟩ := pickN_lt x.act 3 (by decide)
      obtain ⟨hj1, hj2⟩ := pickN_lt (x.act.tdiv 3) G.length (by omega)
      have HP3 : Hid (∀ u : World, Calls Tryz.prog 26 #[.int .i64 x.act, .int .i64 3] u fun e w' => e = .returned (.int .i64 (pickN x.act 3 : Nat)) ∧ u = w') := fun u => by
        have h := pickK_any x.act 3 u (unhide HX).act (by decide)
        rw [show pickZ x.act 3 = ((pickN x.act 3 : Nat) : Int) from hm2] at h
        exact h.mono (fun e w' ⟨h1, h2⟩ => ⟨h1, h2.symm⟩)
      have HP4 : Hid (∀ u : World, Calls Tryz.prog 26 #[.int .i64 (x.act.tdiv 3), .int .i64 (G.length : Nat)] u fun e w' => e = .returned (.int .i64 (pickN (x.act.tdiv 3) G.length : Nat)) ∧ w' = u) := fun u => by
        have h := pickK_any (x.act.tdiv 3) (G.length : Nat) u hr3 ⟨by omega, by omega⟩
        rw [hj2] at h
        exact h
      have hcj : wy.cell? ⟨gt, pickN (x.act.tdiv 3) G.length, none⟩ = some (.string ⟨(tokG G (pickN (x.act.tdiv 3) G.length)).toArray⟩) := by
        obtain ⟨g2, c2, e, hc⟩ := ((unhide HS).below (unhide HBY)).texts (unhide HG3)
        injection e with e1 e2 e3
        injection e1 with e1
        injection e1 with e1
        subst e1
        exact hc _ hj1
      have HTL := hide (tokG_len (unhide HS).tr.sv hj1)
      generalize pickN x.act 3 = n3 at *
      generalize pickN (x.act.tdiv 3) G.length = j at *
      generalize tokG G j = tj at *
      have hjI : (j : Int) < (G.length : Int) := by omega
      have HW3 := hide hw3
      have HV3 := hide hv3
      clear hm1 hm2 hj2 hr3 y1 gpx hw3 hv3 h40 hG0 hbq
      go_upto_if 93 with (first | (go_at_call 26; refine (unhide HP3 _).mono ?_; rintro e w2 ⟨rfl, rfl⟩; try dsimp only))
      go_cut [12] from 65 to 149 (fun v12 wc => ∃ ac : List UInt8, v12 = .string ⟨ac.toArray⟩ ∧ ac.length ≤ 1048576 ∧ Below wy.heap.size wy wc)
      case first =>
        by_cases h0 : n3 = 0
        · have hd : decide ((0 : Int) < (n3 : Int)) = false := decide_eq_false (by omega)
          have hd2 : decide (0 < n3) = false := decide_eq_false (by omega)
          have hd3 : ¬ 0 < n3 := by omega
          clear h0
          go_wp2_with fail
          go_meet
          exact ⟨[], rfl, by decide, Below.refl _ _⟩
        · have hd : decide ((0 : Int) < (n3 : Int)) = true := decide_eq_true (by omega)
          have hd2 : decide (0 < n3) = true := decide_eq_true (by omega)
          have hd3 : 0 < n3 := by omega
          clear h0
          have hw3 := unhide HW3
          have hv3 := unhide HV3
          go_wp2_with fail
          go_quiet (first | (go_at_call 26; exact Calls.quiet_of_same (unhide HP4 _)))
          go_wp2_with fail
          go_meet
          exact ⟨tj, rfl, unhide HTL, ⟨rfl, rfl, rfl, Nat.le_refl _, fun _ _ => rfl⟩⟩
      case rest =>
        obtain ⟨ac, rfl, hac, hbc⟩ := hcut
        have HAC := hide hac
        have HBZ := hide ((unhide HBY).trans (hbc.mono (unhide HBY).size))
        have HRZ := hide ((unhide HRY).below hbc (unhide HRY).lt)
        clear hac hbc y2 gpy hcj HTL
        obtain ⟨wz, hwz⟩ : ∃ wz, wz = wc := ⟨_, rfl⟩
        subst hwz
        have z3 : wz.cell? ⟨wr.heap.size, 3, none⟩ = some (.slice as1 x.scp.length cs1) := (unhide HRZ).cell (j := 3) (by decide)
        have hwrz := (unhide HBZ).size
        have HNm : Hid (Calls Tryz.prog 61 #[.slice as1 x.scp.length cs1] wz fun e w' => ∃ v', e = .returned v' ∧ OwnS w' wz.heap.size v' (nmK x.scp x.scp.length) ∧ Below wz.heap.size wz w') := by
          have h := (unhide HX).scp.below ((unhide HBZ).mono (unhide HS).bel.size)
          rw [(unhide HEV).1] at h
          exact names_any _ x.scp wz w0.heap.size (Nat.le_trans (unhide HS).bel.size hwrz) (unhide HX).l1 h
        go_upto_if 112 with fail
        go_cut [13] from 65 to 149 (fun v13 wc => ∃ t1 : List (List UInt8), Ls wc wc.heap.size v13 t1 ∧ t1.length ≤ 6 ∧ Fits t1 ∧ Below wz.heap.size wz wc)
        case first =>
          by_cases h0 : x.scp.length = 0
          · have hd : decide ((0 : Int) < (x.scp.length : Int)) = false := decide_eq_false (by omega)
            have hd2 : decide (0 < x.scp.length) = false := decide_eq_false (by omega)
            have hd3 : ¬ 0 < x.scp.length := by omega
            clear h0
            go_wp2_with fail
            go_meet
            exact ⟨[], Ls.nil0 _ _, by decide, few_fits (by decide), Below.refl _ _⟩
          · have hd : decide ((0 : Int) < (x.scp.length : Int)) = true := decide_eq_true (by omega)
            have hd2 : decide (0 < x.scp.length) = true := decide_eq_true (by omega)
            have hd3 : 0 < x.scp.length := by omega
            clear h0
            go_wp2_with (first | (go_at_call 61; refine (unhide HNm).mono ?_; rintro e wd ⟨v', rfl, hO, hb⟩; try dsimp only))
            go_meet
            exact ⟨_, hO.ls, (listB_get (nmK_list x.scp x.scp.length)).1, nmK_fits _, hb⟩
        case rest =>
          obtain ⟨t1, hk1, hl1, hf1, hbd⟩ := hcut
          obtain ⟨wd, hwd⟩ : ∃ wd, wd = wc := ⟨_, rfl⟩
          subst hwd
          have HK1l := hide hk1
          have HL1 := hide (And.intro hl1 hf1)
          obtain ⟨a1, d1, rfl, _⟩ := hk1
          have HBD := hide ((unhide HBZ).trans (hbd.mono hwrz))
          have HRD := hide ((unhide HRZ).below hbd (unhide HRZ).lt)
          clear hl1 hf1 hbd z3
          have z4 : wd.cell? ⟨wr.heap.size, 4, none⟩ = some (.slice as2 x.tgt.length cs2) := (unhide HRD).cell (j := 4) (by decide)
          have hwrd := (unhide HBD).size
          have HTg : Hid (Calls Tryz.prog 65 #[.slice as2 x.tgt.length cs2] wd fun e w' => ∃ v', e = .returned v' ∧ OwnS w' wd.heap.size v' (tgK x.tgt x.tgt.length) ∧ Below wd.heap.size wd w') := by
            have h := (unhide HX).tgt.below ((unhide HBD).mono (unhide HS).bel.size)
            rw [(unhide HEV).2] at h
            exact targets_any _ x.tgt wd w0.heap.size (Nat.le_trans (unhide HS).bel.size hwrd) (unhide HX).l2 h
          go_wp2_with fail
          refine (unhide HTg).mono ?_
          rintro e we ⟨v2, rfl, hO2, hb2⟩
          have HK2l := hide hO2.ls
          obtain ⟨a2, d2, rfl⟩ := hO2.form
          have hk1e := (unhide HK1l).more hb2
          have HBE := hide ((unhide HBD).trans (hb2.mono hwrd))
          have hRe := (unhide HRD).below hb2 (unhide HRD).lt
          have hSe := (unhide HS).below (unhide HBE)
          have hbxe : wr.heap.size < we.heap.size := hRe.lt
          obtain ⟨hm1, hm2⟩ := pickN_lt x.who 4 (by decide)
          obtain ⟨hf1, hf2⟩ := pickN_lt x.life 2000 (by decide)
          have HMW : Hid (pickZ x.who 4 = ((pickN x.who 4 : Nat) : Int)) := hm2
          have HML : Hid (pickZ x.life 2000 = ((pickN x.life 2000 : Nat) : Int)) := hf2
          have HIW := hide (unhide HX).who
          have HIL := hide (unhide HX).life
          have HPk : Hid (∀ (c n : Int) (u : World), In64 c → 0 < n ∧ n ≤ 1000000000000 → Calls Tryz.prog 26 #[.int .i64 c, .int .i64 n] u fun e w' => e = .returned (.int .i64 (pickZ c n)) ∧ u = w') := fun c n u h1 h2 => (pickK_any c n u h1 h2).mono (fun e w' ⟨h1, h2⟩ => ⟨h1, h2.symm⟩)
          have HFc : Hid (∀ u, Below we.heap.size we u → u.cell? ⟨gp, 0, none⟩ = some (.pointer (some ⟨s, 0, none⟩)) ∧ u.cell? ⟨gp, 1, none⟩ = some (.slice (some ⟨gt, 0, none⟩) G.length ct) ∧ u.cell? ⟨gt, n, none⟩ = some (.string ⟨(tokG G n).toArray⟩) ∧ u.cell? ⟨wr.heap.size, 0, none⟩ = some (.int .i64 x.who) ∧ u.cell? ⟨wr.heap.size, 5, none⟩ = some (.int .i64 x.life)) := fun u hu => by
            obtain ⟨g2, c2, e, hc⟩ := (hSe.below hu).texts (unhide HG3)
            injection e with e1 e2 e3
            injection e1 with e1
            injection e1 with e1
            subst e1
            have hRu := hRe.below hu hbxe
            exact ⟨(hSe.below hu).tr.row.cell (j := 0) (by decide), (hSe.below hu).tr.row.cell (j := 1) (by decide), hc n (unhide HN), hRu.cell (j := 0) (by decide), hRu.cell (j := 5) (by decide)⟩
          have HLo : Hid (∀ u, Below we.heap.size we u → Calls Tryz.prog 31 #[.int .i64 (pickN x.who 4 : Nat)] u fun e w' => e = .returned (.agg #[.string ⟨#[99, UInt8.ofNat (48 + pickN x.who 4)]⟩, .string ⟨#[115, UInt8.ofNat (48 + pickN x.who 4)]⟩]) ∧ Below we.heap.size we w' ∧ w'.cell? ⟨gp, 0, none⟩ = some (.pointer (some ⟨s, 0, none⟩)) ∧ w'.cell? ⟨gp, 1, none⟩ = some (.slice (some ⟨gt, 0, none⟩) G.length ct) ∧ w'.cell? ⟨gt, n, none⟩ = some (.string ⟨(tokG G n).toArray⟩) ∧ w'.cell? ⟨wr.heap.size, 0, none⟩ = some (.int .i64 x.who) ∧ w'.cell? ⟨wr.heap.size, 5, none⟩ = some (.int .i64 x.life)) := fun u hu =>
            (login_any (pickN x.who 4) (Nat.le_trans (Nat.le_of_lt hm1) (by decide)) u).mono (fun e w' ⟨h1, h2⟩ => ⟨h1, hu.trans (h2.mono hu.size), unhide HFc w' (hu.trans (h2.mono hu.size))⟩)
          have HEx : Hid (∀ u, Below we.heap.size we u → Calls Tryz.prog 33 #[.pointer (some ⟨s, 0, none⟩), .agg #[.string ⟨#[99, UInt8.ofNat (48 + pickN x.who 4)]⟩, .string ⟨#[115, UInt8.ofNat (48 + pickN x.who 4)]⟩], .string ⟨(tokG G n).toArray⟩, .string ⟨ac.toArray⟩, .slice a1 t1.length d1, .slice a2 (tgK x.tgt x.tgt.length).length d2, .int .i64 (1 + (pickN x.life 2000 : Nat))] u fun e w' =>
              ∃ tx er, e = .returned (.tuple #[.string ⟨tx.toArray⟩, .int .i64 er]) ∧ ExOut u w' gp s R O vk vs vg Qs G (.slice (some ⟨gt, 0, none⟩) G.length ct) vc vp C n tx er ∧ w'.cell? ⟨gp, 0, none⟩ = some (.pointer (some ⟨s, 0, none⟩)) ∧ w'.cell? ⟨gp, 1, none⟩ = some (.slice (some ⟨gt, 0, none⟩) G.length ct) ∧ w'.cell? ⟨gt, n, none⟩ = some (.string ⟨(tokG G n).toArray⟩) ∧ w'.cell? ⟨wr.heap.size, 0, none⟩ = some (.int .i64 x.who) ∧ w'.cell? ⟨wr.heap.size, 5, none⟩ = some (.int .i64 x.life)) := fun u hu => by
            have hSu := hSe.below hu
            have h3l := tgK_len x.tgt x.tgt.length
            refine (exch_tr hSu (unhide HT) hm1 (unhide HN) ac (unhide HAC) _ _ t1 (tgK x.tgt x.tgt.length) _ (Nat.le_trans (unhide HL1).1 (by decide)) (Nat.le_trans h3l (by decide)) (unhide HL1).2 (tg_fits _) (hk1e.more hu) ((unhide HK2l).more hu)).mono ?_
            rintro e w' ⟨tx, er, rfl, hx⟩
            obtain ⟨q0, q1, q2, q3⟩ := hx.cells
            have hRu := hRe.below hu hbxe
            have hRw := hRu.keep (q3 wr.heap.size hRu.lt ((unhide HS).tr.fresh (Nat.le_refl _)))
            exact ⟨tx, er, rfl, hx, q0, q1, q2 n (unhide HN), hRw.cell (j := 0) (by decide), hRw.cell (j := 5) (by decide)⟩
          have hfe := unhide HFc we (Below.refl _ _)
          have hwl : wrap64 (1 + ((pickN x.life 2000 : Nat) : Int)) = 1 + ((pickN x.life 2000 : Nat) : Int) := (life_num hf1).1
          have hwl2 : IntKind.i64.wrap (1 + ((pickN x.life 2000 : Nat) : Int)) = 1 + ((pickN x.life 2000 : Nat) : Int) := (life_num hf1).2
          have HSE := hide hSe
          have hnI : (n : Int) < (G.length : Int) := Int.ofNat_lt.2 (unhide HN)
          have hnN : n < G.length := unhide HN
          generalize pickN x.who 4 = m at *
          generalize pickN x.life 2000 = lf at *
          generalize tokG G n = tn at HFc HLo HEx hfe
          generalize UInt8.ofNat (48 + m) = dg at HLo HEx
          obtain ⟨e0, e1, e2, e3, e4⟩ := hfe
          have HY0 : Hid (Below we.heap.size we we.drew) := (Below.refl _ _).drew
          clear hO2 hb2 hk1e hRe hSe hbxe hm1 hm2 hf1 hf2 z4 hwrz hwrd HNm HTg HFc HP1 HP3 HP4 HRX HRY HRZ HRD HCT
          try dsimp only
          go_wp2_with fail
          go_region_held3 (fun w' => w'.cell? ⟨gp, 0, none⟩ = some (.pointer (some ⟨s, 0, none⟩)) ∧ w'.cell? ⟨gp, 1, none⟩ = some (.slice (some ⟨gt, 0, none⟩) G.length ct) ∧ w'.cell? ⟨gt, n, none⟩ = some (.string ⟨tn.toArray⟩) ∧ w'.cell? ⟨wr.heap.size, 0, none⟩ = some (.int .i64 x.who) ∧ w'.cell? ⟨wr.heap.size, 5, none⟩ = some (.int .i64 x.life)) (go_keep)
            (first
              | (go_at_call 33; refine (unhide HEx _ (unhide HY1)).mono ?_; rintro e wC ⟨tx, er, rfl, hx, q0, q1, q2, q3, q4⟩; have HZ := hide hx; clear hx; try dsimp only)
              | (go_at_call 31; refine (unhide HLo _ (unhide HY0)).mono ?_; rintro e wB ⟨rfl, bB, t0, t1, t2, t3, t4⟩; have HY1 := hide bB; clear bB; try dsimp only)
              | (go_at_call 26; refine Calls.mono (unhide HPk _ _ _ ?_ ?_) ?_; (first | exact unhide HIW | exact unhide HIL); decide; rintro e w2 ⟨rfl, rfl⟩; (first | rw [unhide HMW] | rw [unhide HML]); try dsimp only))
          go_wp2_with fail
          refine (grow_tr ((unhide HSE).below (unhide HY1)) (unhide HT) (unhide HZ)).mono ?_
          rintro e wD ⟨⟨v, rfl⟩, vg2, G2, vt2, vc2, vp2, C2, hS2, hle⟩
          have HFin := hide (And.intro hS2 hle)
          clear hS2 hle
          try dsimp only
          go_wp2_with fail
          go_roundg (gk - 1)
          case measure => omega
          case rel => exact ⟨k + 1, by omega, by first | exact num1 hw | rfl, vg2, G2, vt2, vc2, vp2, C2, (unhide HFin).1, Nat.le_trans (unhide HG3) (unhide HFin).2⟩
    · have hkn : k = St.length := by omega
      have HFin := hide (And.intro hS h3)
      have hkd : decide ((k : Int) < (St.length : Int)) = false := decide_eq_false (by omega)
      have hkd2 : ¬ k < St.length := hlt
      subst hkn
      clear hk hS h3
      go_wp2_with fail
      refine unhide HK1 _ _ ?_
      go_wp2_with fail
      go_ret
      exact ⟨gp, s, R, O, vk, vs, vg, Qs, G, vt, vc, vp, C, rfl, (unhide HFin).1, (unhide HFin).2⟩
end Go.Proofs.YtkmkkmdpjliifaaGreatDoor
