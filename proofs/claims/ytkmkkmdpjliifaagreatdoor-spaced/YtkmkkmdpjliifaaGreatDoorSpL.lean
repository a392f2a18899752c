import Derived.Test.YtkmkkmdpjliifaaGreatDoorSpH
namespace Go.Proofs.YtkmkkmdpjliifaaGreatDoor
open Go.ChangeShapes Go.WideShapes Go.ChangeAt Go.RowKit

set_option maxRecDepth 20000 in
set_option maxHeartbeats 4000000 in
theorem sp_6 (r o wrong : Int) (g gt ot ct : Nat) (cr : Cm) (p1 : Pl) (u0 u1 u2 u3 u4 u5 u6 u9 u10 u11 u12 u13 u14 u15 u16 u17 u18 u21 u23 u24 u25 u26 u27 u28 u29 u30 u31 u32 u33 u34 u35 u36 u37 u38 u39 u40 u41 u42 u43 u44 u45 u46 u47 u48 u49 u50 u51 u52 u53 u54 u55 u56 u57 u58 u59 u60 u61 u62 u63 u64 u65 u66 u67 u68 u69 u70 u71 u72 u73 u74 u75 u76 u77 u78 u79 u80 u81 u82 u83 u84 u85 u86 u87 u88 u89 u90 u91 u92 u93 u94 u95 u96 u97 u98 u99 u100 u101 u102 u103 u104 u105 u106 u107 u108 u109 u110 u111 u112 u113 u114 u115 u116 u117 u118 u119 u120 u121 u122 u123 u124 u125 u126 u127 u128 u129 u130 u131 u132 u133 u134 u135 u136 u137 u138 u139 u140 u141 u142 u143 u144 u145 u146 u147 u148 u149 u150 u151 u152 u153 u154 u155 u156 u157 u158 u159 u160 u161 u162 u163 u164 u165 u166 u167 u168 u169 u170 u171 u172 u173 u174 u175 u176 u177 u178 u179 u180 u181 u182 u183 u184 u185 u186 u187 u188 u189 u190 u191 u192 u193 u194 u195 u196 u197 u198 u199 u200 u201 u202 u203 u204 u205 u206 u207 u208 u209 u210 u211 u212 u213 u214 u215 u216 u217 u218 u219 u220 u221 u222 u223 u224 u225 u226 u227 u228 u229 u230 u231 u232 u233 u234 u235 u236 u237 u238 u239 u240 u241 u242 u243 u244 u245 u246 u247 u248 u249 u250 u251 u252 u253 u254 u255 u256 u257 u258 u259 u260 u261 u262 u263 u264 u265 : Value) (w0 w : World) (hT : TT w0.heap.size w0) (hb : Below w0.heap.size w0 w) (hr : -9223372036854775808 ≤ r ∧ r ≤ 9223372036854775807) (hwr : -9223372036854775808 ≤ wrong ∧ wrong ≤ 9223372036854775807)
    (hrt : rightB cr.z = true) (hR : Row w g 60 6 (czF cr.z p1)) (hL : CzL w g cr.z p1) (hgt : gt < w.heap.size) (h22 : ∀ j, j < 6 → w.cell? ⟨gt, ot + j, none⟩ = some (.string ⟨(fldT cr r ((prm o).getD j 0)).toArray⟩)) :
    Code.wp Tryz.prog (r5 6) (bodyPost Tryz.prog Tryz.f5 fun e w' => e = .returned (.bool true) ∧ Below w0.heap.size w0 w') ⟨#[u0, u1, u2, u3, u4, u5, u6, .int .i64 r, .int .i64 wrong, u9, u10, u11, u12, u13, u14, u15, u16, u17, u18, .bool true, .pointer (some ⟨g, 0, none⟩), u21, .slice (some ⟨gt, ot, none⟩) 6 ct, u23, u24, u25, u26, u27, u28, u29, u30, u31, u32, u33, u34, u35, u36, u37, u38, u39, u40, u41, u42, u43, u44, u45, u46, u47, u48, u49, u50, u51, u52, u53, u54, u55, u56, u57, u58, u59, u60, u61, u62, u63, u64, u65, u66, u67, u68, u69, u70, u71, u72, u73, u74, u75, u76, u77, u78, u79, u80, u81, u82, u83, u84, u85, u86, u87, u88, u89, u90, u91, u92, u93, u94, u95, u96, u97, u98, u99, u100, u101, u102, u103, u104, u105, u106, u107, u108, u109, u110, u111, u112, u113, u114, u115, u116, u117, u118, u119, u120, u121, u122, u123, u124, u125, u126, u127, u128, u129, u130, u131, u132, u133, u134, u135, u136, u137, u138, u139, u140, u141, u142, u143, u144, u145, u146, u147, u148, u149, u150, u151, u152, u153, u154, u155, u156, u157, u158, u159, u160, u161, u162, u163, u164, u165, u166, u167, u168, u169, u170, u171, u172, u173, u174, u175, u176, u177, u178, u179, u180, u181, u182, u183, u184, u185, u186, u187, u188, u189, u190, u191, u192, u193, u194, u195, u196, u197, u198, u199, u200, u201, u202, u203, u204, u205, u206, u207, u208, u209, u210, u211, u212, u213, u214, u215, u216, u217, u218, u219, u220, u221, u222, u223, u224, u225, u226, u227, u228, u229, u230, u231, u232, u233, u234, u235, u236, u237, u238, u239, u240, u241, u242, u243, u244, u245, u246, u247, u248, u249, u250, u251, u252, u253, u254, u255, u256, u257, u258, u259, u260, u261, u262, u263, u264, u265], []⟩ w := by
  have HE := hide (fun (u : World) (hu : Below w.heap.size w u) => sp_8 r o wrong g gt ot ct cr p1 (w0 := w0) (w := u) (hT := hT) (hb := hb.trans (hu.mono hb.size)) (hr := hr) (hwr := hwr) (hrt := hrt) (hR := hR.below hu hR.lt) (hL := hL.below (hu.mono (Nat.le_of_lt hR.lt))) (hgt := Nat.lt_of_lt_of_le hgt hu.size) (h22 := fun j hj => (hu.cell (p := ⟨gt, ot + j, none⟩) hgt).trans (h22 j hj)))
  have C1 := hide (fun u : World => blanks_any r u hr)
  have hl1 := blkS_len r
  clear hT hb hr hwr hrt hR hL h22 hgt
  obtain ⟨z1, hz1, hlz1, k1⟩ := cat_is (blkS r) [123] 4 1 hl1 (by decide) (by decide)
  rw [← hz1] at HE
  generalize blkS r = b1 at *
  clear hz1 hl1 hlz1
  conv => arg 2; whnf
  apply wp_seq_k
  intro K1 hK1
  have HK1 := hide hK1
  clear hK1
  go_wp2_with fail
  refine (unhide C1 _).mono ?_
  rintro e y1 ⟨rfl, hb1⟩
  have HY1 := hide ((Below.refl w.heap.size w).trans hb1)
  clear hb1
  dsimp only
  go_wp2_with fail
  refine unhide HK1 _ _ ?_
  clear HK1
  conv => arg 2; whnf
  apply wp_seq_k
  intro K2 hK2
  have HK2 := hide hK2
  clear hK2
  go_wp2_with fail
  refine (unhide C1 _).mono ?_
  rintro e y2 ⟨rfl, hb2⟩
  have HY2 := hide ((unhide HY1).trans (hb2.mono (unhide HY1).size))
  clear hb2
  dsimp only
  go_wp2_with fail
  refine unhide HK2 _ _ ?_
  apply unhide HE _ (unhide HY2)
end Go.Proofs.YtkmkkmdpjliifaaGreatDoor
namespace Go.Proofs.YtkmkkmdpjliifaaGreatDoor
open Go.ChangeShapes Go.WideShapes Go.ChangeAt Go.RowKit

/-- the fields' cells behind a round -/
theorem trn_row (o : Int) (k : Nat) (F : Nat → List UInt8) {w : World} {gf : Nat} (h : Row w gf 9 6 (fun j => sv (F ((trn o k).2.1.getD j 0)))) (i : Nat) (hi : i = pickN (trn o k).1 (6 - k)) (h6 : i < 6) :
    Row (w.setCell ⟨gf, i, none⟩ (sv (F ((trn o k).2.1.getD (6 - k - 1) 0)))) gf 9 6 (fun j => sv (F ((trn o (k + 1)).2.1.getD j 0))) :=
  (Row.set h i _).congr (fun j hj => by
    have e : (trn o (k + 1)).2.1 = (trn o k).2.1.set i ((trn o k).2.1.getD (6 - k - 1) 0) := by rw [hi]; rfl
    rw [e]
    have hl := (trn_len o k).1
    by_cases hji : j = i
    · subst hji
      rw [if_pos rfl, List.getD_eq_getElem?_getD, List.getD_eq_getElem?_getD, List.getElem?_set_self (by omega)]
      rfl
    · rw [if_neg hji]
      congr 2
      simp only [List.getD_eq_getElem?_getD, List.getElem?_set_ne (show i ≠ j by omega)])
theorem trn_more (o : Int) (k i : Nat) (hi : i = pickN (trn o k).1 (6 - k)) (F : Nat → List UInt8) : (trn o (k + 1)).2.2.map F = (trn o k).2.2.map F ++ [F ((trn o k).2.1.getD i 0)] := by
  have e : (trn o (k + 1)).2.2 = (trn o k).2.2 ++ [(trn o k).2.1.getD i 0] := by rw [hi]; rfl
  rw [e, List.map_append]; rfl
set_option maxRecDepth 20000 in
set_option maxHeartbeats 4000000 in
theorem sp_4 (r o wrong : Int) (g gf : Nat) (cr : Cm) (p1 : Pl) (u0 u1 u2 u3 u4 u5 u9 u10 u11 u12 u13 u14 u15 u16 u17 u18 u22 u23 u24 u25 u26 u27 u28 u29 u30 u31 u32 u33 u34 u35 u36 u37 u38 u39 u40 u41 u42 u43 u44 u45 u46 u47 u48 u49 u50 u51 u52 u53 u54 u55 u56 u57 u58 u59 u60 u61 u62 u63 u64 u65 u66 u67 u68 u69 u70 u71 u72 u73 u74 u75 u76 u77 u78 u79 u80 u81 u82 u83 u84 u85 u86 u87 u88 u89 u90 u91 u92 u93 u94 u95 u96 u97 u98 u99 u100 u101 u102 u103 u104 u105 u106 u107 u108 u109 u110 u111 u112 u113 u114 u115 u116 u117 u118 u119 u120 u121 u122 u123 u124 u125 u126 u127 u128 u129 u130 u131 u132 u133 u134 u135 u136 u137 u138 u139 u140 u141 u142 u143 u144 u145 u146 u147 u148 u149 u150 u151 u152 u153 u154 u155 u156 u157 u158 u159 u160 u161 u162 u163 u164 u165 u166 u167 u168 u169 u170 u171 u172 u173 u174 u175 u176 u177 u178 u179 u180 u181 u182 u183 u184 u185 u186 u187 u188 u189 u190 u191 u192 u193 u194 u195 u196 u197 u198 u199 u200 u201 u202 u203 u204 u205 u206 u207 u208 u209 u210 u211 u212 u213 u214 u215 u216 u217 u218 u219 u220 u221 u222 u223 u224 u225 u226 u227 u228 u229 u230 u231 u232 u233 u234 u235 u236 u237 u238 u239 u240 u241 u242 u243 u244 u245 u246 u247 u248 u249 u250 u251 u252 u253 u254 u255 u256 u257 u258 u259 u260 u261 u262 u263 u264 u265 : Value) (w0 w : World) (hT : TT w0.heap.size w0) (hb : Below w0.heap.size w0 w) (hr : -9223372036854775808 ≤ r ∧ r ≤ 9223372036854775807) (ho : -9223372036854775808 ≤ o ∧ o ≤ 9223372036854775807) (hwr : -9223372036854775808 ≤ wrong ∧ wrong ≤ 9223372036854775807)
    (hrt : rightB cr.z = true) (hR : Row w g 60 6 (czF cr.z p1)) (hL : CzL w g cr.z p1) (hgf : g < gf) (h0f : w0.heap.size ≤ gf) (hF : Row w gf 9 6 (fun j => sv (fldT cr r ([0, 1, 2, 3, 4, 5].getD j 0)))) :
    Code.wp Tryz.prog (r5 4) (bodyPost Tryz.prog Tryz.f5 fun e w' => e = .returned (.bool true) ∧ Below w0.heap.size w0 w') ⟨#[u0, u1, u2, u3, u4, u5, .int .i64 o, .int .i64 r, .int .i64 wrong, u9, u10, u11, u12, u13, u14, u15, u16, u17, u18, .bool true, .pointer (some ⟨g, 0, none⟩), .slice (some ⟨gf, 0, none⟩) 6 6, u22, u23, u24, u25, u26, u27, u28, u29, u30, u31, u32, u33, u34, u35, u36, u37, u38, u39, u40, u41, u42, u43, u44, u45, u46, u47, u48, u49, u50, u51, u52, u53, u54, u55, u56, u57, u58, u59, u60, u61, u62, u63, u64, u65, u66, u67, u68, u69, u70, u71, u72, u73, u74, u75, u76, u77, u78, u79, u80, u81, u82, u83, u84, u85, u86, u87, u88, u89, u90, u91, u92, u93, u94, u95, u96, u97, u98, u99, u100, u101, u102, u103, u104, u105, u106, u107, u108, u109, u110, u111, u112, u113, u114, u115, u116, u117, u118, u119, u120, u121, u122, u123, u124, u125, u126, u127, u128, u129, u130, u131, u132, u133, u134, u135, u136, u137, u138, u139, u140, u141, u142, u143, u144, u145, u146, u147, u148, u149, u150, u151, u152, u153, u154, u155, u156, u157, u158, u159, u160, u161, u162, u163, u164, u165, u166, u167, u168, u169, u170, u171, u172, u173, u174, u175, u176, u177, u178, u179, u180, u181, u182, u183, u184, u185, u186, u187, u188, u189, u190, u191, u192, u193, u194, u195, u196, u197, u198, u199, u200, u201, u202, u203, u204, u205, u206, u207, u208, u209, u210, u211, u212, u213, u214, u215, u216, u217, u218, u219, u220, u221, u222, u223, u224, u225, u226, u227, u228, u229, u230, u231, u232, u233, u234, u235, u236, u237, u238, u239, u240, u241, u242, u243, u244, u245, u246, u247, u248, u249, u250, u251, u252, u253, u254, u255, u256, u257, u258, u259, u260, u261, u262, u263, u264, u265], []⟩ w := by
  have hfl := hF.lt
  have HE := hide (fun (gt ct : Nat) (u : World) (hu : Gr gf w u) (hgt : gt < u.heap.size) (h22 : ∀ j, j < 6 → u.cell? ⟨gt, 0 + j, none⟩ = some (.string ⟨(fldT cr r ((prm o).getD j 0)).toArray⟩)) => sp_6 r o wrong g gt 0 ct cr p1 (w0 := w0) (w := u) (hT := hT) (hb := hb.trans (hu.below h0f hb.size)) (hr := hr) (hwr := hwr) (hrt := hrt) (hR := hR.keep (hu.block g (by omega) hR.lt)) (hL := hL.below (hu.below (Nat.le_of_lt hgf) (Nat.le_of_lt hR.lt))) (hgt := hgt) (h22 := h22))
  have HTR := hide (trn_rng o ho)
  have HFL := hide hfl
  have HR0 : Hid (Row w gf 9 6 (fun j => sv (fldT cr r ((trn o 0).2.1.getD j 0)))) := hF
  have HTC := hide (fun (k : Nat) (u : World) (h : Row u gf 9 6 (fun j => sv (fldT cr r ((trn o k).2.1.getD j 0)))) (i : Nat) (hi : i = pickN (trn o k).1 (6 - k)) (h6 : i < 6) => trn_row o k (fldT cr r) h i hi h6)
  have HTM := hide (fun k i hi => trn_more o k i hi (fldT cr r))
  clear hT hb hr hwr hrt hR hL hF ho hgf h0f hfl
  generalize fldT cr r = F at *
  conv => arg 2; whnf
  apply wp_seq_k
  intro K1 hK1
  have HK1 := hide hK1
  clear hK1
  go_wp2_with fail
  refine unhide HK1 _ _ ?_
  clear HK1
  conv => arg 2; whnf
  apply wp_seq_k
  intro K1 hK1
  have HK1 := hide hK1
  clear hK1
  go_wp2_with fail
  go_loopg [6, 22, 23] 6 (fun q vo v n wr => ∃ k : Nat, k + q = 6 ∧ vo = .int .i64 (trn o k).1 ∧ n = .int .i64 ((6 - k : Nat) : Int) ∧ OwnS wr w.heap.size v ((trn o k).2.2.map F) ∧ Row wr gf 9 6 (fun j => sv (F ((trn o k).2.1.getD j 0))) ∧ Gr gf w wr)
  case atStart => exact ⟨0, by omega, rfl, rfl, OwnS.nil _ _, unhide HR0, Gr.refl _ _⟩
  case round =>
    obtain ⟨k, hk, rfl, rfl, hO, hRf, hg⟩ := hrel
    have HO := hide hO
    have HRF := hide hRf
    have HG := hide hg
    have hsz := hg.size
    have HL6 := hide (trn_len o k)
    obtain ⟨ao, co, rfl, hox⟩ := hO.ls
    clear hox hO hRf hg
    by_cases hlt : k < 6
    · obtain ⟨hx1, hx2⟩ := unhide HTR k (by omega)
      have HP := hide (pickK_any (trn o k).1 ((6 - k : Nat) : Int) wr ⟨hx1, hx2⟩ ⟨by omega, by omega⟩)
      obtain ⟨hp1, hp2⟩ := pickN_lt (trn o k).1 (6 - k) (by omega)
      rw [hp2] at HP
      have hdv := (tdiv_rng ((6 - k : Nat) : Int) (by omega) ⟨hx1, hx2⟩).2
      have HNX : Hid ((trn o (k + 1)).1 = (trn o k).1.tdiv ((6 - k : Nat) : Int)) := rfl
      have HRW := hide (unhide HTC k)
      have HMR := hide (fun i hi => unhide HTM k i hi)
      have hln : ((trn o k).2.2.map F).length = k := by rw [List.length_map]; exact (unhide HL6).2
      have hca := (unhide HRF).cell (j := pickN (trn o k).1 (6 - k)) (by omega)
      have hcb := (unhide HRF).cell (j := 6 - k - 1) (by omega)
      have hmp : 0 < 6 - k := by omega
      have hm6 : 6 - k ≤ 6 := by omega
      have HPK : Hid (pickN (trn o k).1 (6 - k) = pickN (trn o k).1 (6 - k)) := rfl
      have HN1 : Hid (6 - (k + 1) = 6 - k - 1) := by show _ = _; omega
      generalize hpk : pickN (trn o k).1 (6 - k) = pk at *
      have HRK := hide (unhide HRW)
      have HMK := hide (unhide HMR pk rfl)
      clear HRW HMR HPK
      generalize 6 - k = m at *
      have hwm : wrap64 ((m : Int) - 1) = ((m - 1 : Nat) : Int) := by rw [w64 _ (by omega) (by omega)]; omega
      have hmI : (0 : Int) < (m : Int) := by omega
      have hmZ : (m : Int) ≠ 0 := by omega
      have hmZ2 : m ≠ 0 := by omega
      have hpI : (pk : Int) < 6 := by omega
      have hp6 : pk < 6 := by omega
      have hmI1 : ((m - 1 : Nat) : Int) < 6 := by omega
      have hm16 : m - 1 < 6 := by omega
      rw [sv_def] at hca hcb
      generalize (trn o k).1 = x at *
      generalize hyE : F ((trn o k).2.1.getD pk 0) = y at *
      generalize hzE : F ((trn o k).2.1.getD (m - 1) 0) = z at *
      have hfl := unhide HFL
      have hsx : (wr.alloc (.cells #[.string ⟨y.toArray⟩] 9)).heap.size = wr.heap.size + 1 := by simp
      have hax : Below wr.heap.size wr (wr.alloc (.cells #[.string ⟨y.toArray⟩] 9)) := (Below.refl _ _).alloc (Nat.le_refl _) _
      obtain ⟨v', w', hrun, hO', hg'⟩ := append_onto (w := wr.alloc (.cells #[.string ⟨y.toArray⟩] 9)) (v := .slice (some ⟨wr.heap.size, 0, none⟩) 1 1) (l := [y]) (b0 := w.heap.size) (by omega) ((unhide HO).below hax) (by omega) (by simp) (allocL_ls (os := [.cells #[.string ⟨y.toArray⟩] 9]) (w := wr) (i := 0) (l := [y]) rfl (by simp)) 35
      have hne : some gf ≠ (Value.slice ao ((trn o k).2.2.map F).length co).ownBlock := fun e => by have := (unhide HO).lt gf e.symm; omega
      have hbk : w'.heap[gf]? = wr.heap[gf]? := (hg'.block gf (by omega) hne).trans (hax.block gf (by omega))
      have hRw := (unhide HRF).keep hbk
      have r1 : w'.cell? ⟨gf, pk, none⟩ = some (.string ⟨y.toArray⟩) := (World.cell?_of_block (a := ⟨gf, pk, none⟩) hbk).trans hca
      have r2 : w'.cell? ⟨gf, m - 1, none⟩ = some (.string ⟨z.toArray⟩) := (World.cell?_of_block (a := ⟨gf, m - 1, none⟩) hbk).trans hcb
      have z1 := hRw.frozen pk
      have hGr := ((unhide HG).alloc (.cells #[.string ⟨y.toArray⟩] 9)).grown hg' (base := w.heap.size) (fun k hk => ⟨((unhide HO).lt k hk).1, by have := ((unhide HO).lt k hk).2; omega⟩) (Nat.le_refl _)
      have HFin := hide (And.intro hO' (And.intro hRw hGr))
      have HYZ := hide (And.intro hyE hzE)
      clear hO' hRw hGr hg' hax hbk hne hyE hzE hcb hx1 hx2
      go_wp2_with (first | (go_at_call 26; refine (unhide HP).mono ?_; rintro e w2 ⟨rfl, rfl⟩; dsimp only) | (at_builtin; refine appLaw rfl _ _ rfl rfl rfl hrun ?_))
      go_roundg (gk - 1)
      case measure => omega
      case rel =>
        obtain ⟨f1, f2, f3⟩ := unhide HFin
        obtain ⟨g1, g2⟩ := unhide HYZ
        refine ⟨k + 1, by omega, ?_, ?_, ?_, ?_, f3.setCell _ _⟩
        · first | rfl | (rw [unhide HNX]) | (rw [unhide HNX, hdv])
        · rw [unhide HN1]
          exact congrArg (Value.int IntKind.i64) (by omega)
        · rw [unhide HMK]
          exact OwnS.set f1 (unhide HFL) _ _
        · exact unhide HRK _ f2 pk rfl hp6
    · obtain rfl : k = 6 := by omega
      rcases owns_cells (unhide HO) with ⟨_, h0⟩ | ⟨gt, cap, e, hcap, hbt, hgt, hcell⟩
      · rw [List.length_map, (unhide HL6).2] at h0
        cases h0
      have HE2 := hide (unhide HE gt cap wr (unhide HG) hgt (fun j hj => by
        have hlp : ((trn o 6).2.2).length = 6 := (unhide HL6).2
        rw [Nat.zero_add]
        refine hcell j _ ?_
        have hj' : j < ((trn o 6).2.2).length := by omega
        unfold svs
        rw [List.getElem?_map, List.getElem?_map, List.getElem?_eq_getElem hj']
        show some (sv (F _)) = some (sv (F ((prm o).getD j 0)))
        unfold prm
        rw [List.getD_eq_getElem?_getD, List.getElem?_eq_getElem hj']
        rfl))
      have hlen : ((trn o 6).2.2.map F).length = 6 := by rw [List.length_map]; exact (unhide HL6).2
      rw [hlen] at e
      rw [hlen, e]
      clear hlen hcell e hcap hbt hgt HO HRF HG HL6 HE
      go_wp2_with fail
      refine unhide HK1 _ _ ?_
      apply unhide HE2
end Go.Proofs.YtkmkkmdpjliifaaGreatDoor
