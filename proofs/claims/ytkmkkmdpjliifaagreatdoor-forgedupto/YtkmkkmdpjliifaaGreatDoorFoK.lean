import Derived.Test.YtkmkkmdpjliifaaGreatDoorMiCF
import Derived.Test.YtkmkkmdpjliifaaGreatDoorFoH
namespace Go.Proofs.YtkmkkmdpjliifaaGreatDoor
open Go.ChangeShapes Go.WideShapes Go.ChangeAt Go.RowKit

theorem at_nums {L m : Nat} (hL : L ≤ 9956) (hm : m < 43) : wrap64 ((L : Int) + 1) = ((L + 1 : Nat) : Int) ∧ wrap64 (((L + 44 : Nat) : Int) - (L : Int)) = 44 ∧ wrap64 (44 - 1) = 43 ∧ wrap64 (((L + 1 : Nat) : Int) + (m : Int)) = ((L + 1 + m : Nat) : Int) := by
  refine ⟨?_, ?_, ?_, ?_⟩
  · rw [w64 _ (by omega) (by omega)]; omega
  · rw [w64 _ (by omega) (by omega)]; omega
  · rw [w64 _ (by omega) (by omega)]; omega
  · rw [w64 _ (by omega) (by omega)]; omega
theorem tok_at_m (a l : List UInt8) (m : Nat) : (a ++ [46] ++ l).getD (a.length + 1 + m) 0 = l.getD m 0 := by
  have h : a.length + 1 + m - (a ++ [46]).length = m := by simp
  rw [List.getD_eq_getElem?_getD, List.getD_eq_getElem?_getD, List.getElem?_append_right (by simp), h]
set_option maxRecDepth 20000 in
set_option maxHeartbeats 4000000 in
set_option linter.unusedSimpArgs false in
theorem fo_9 (id sj ex ky : Int) (v5 : Value) (l5 : List Int) (gp s gc cc : Nat) (G : List Gt) (n : Nat) (P : Pl) (u0 u1 u2 u8 u9 u10 u11 u12 u13 u14 u15 u16 u21 u22 u23 u24 u25 u26 u27 u28 u29 u30 u31 u32 u33 u34 u35 u36 u37 u38 u39 u40 u41 u42 u43 u44 u45 u46 u47 u48 u49 u50 u51 u52 u53 u54 u55 u56 u57 u58 u59 u60 u61 u62 u63 u64 u65 u66 u67 u68 u69 u70 u71 u72 u73 u74 u75 u76 u77 u78 u79 u80 u81 u82 u83 u84 u85 u86 u87 u88 u89 u90 u91 u92 u93 u94 u95 u96 u97 u98 u99 u100 u101 u102 u103 u104 u105 u106 u107 u108 u109 u110 u111 u112 u113 u114 u115 u116 u117 u118 u119 u120 u121 u122 u123 u124 u125 u126 u127 u128 u129 u130 u131 u132 u133 u134 u135 u136 u137 u138 u139 u140 u141 u142 u143 u144 u145 u146 u147 u148 u149 u150 u151 u152 u153 u154 u155 u156 u157 u158 u159 u160 u161 u162 u163 u164 u165 u166 u167 u168 u169 u170 u171 u172 u173 u174 u175 u176 u177 u178 u179 u180 u181 u182 u183 u184 u185 u186 u187 u188 u189 u190 u191 u192 u193 u194 u195 u196 u197 u198 u199 u200 u201 u202 u203 u204 u205 u206 u207 u208 u209 u210 u211 u212 u213 u214 u215 u216 u217 u218 u219 u220 u221 u222 u223 u224 u225 u226 u227 u228 u229 u230 u231 u232 u233 u234 u235 u236 u237 u238 u239 u240 u241 : Value) (w0 w1 w : World) (hQ : Below w0.heap.size w0 w1) (hF : FoW w1 gp s gc cc G n P) (hb : Below w1.heap.size w1 w) (hid : In64 id) (hsj : In64 sj) (hex : In64 ex) (hky : In64 ky) (hl5 : l5.length ≤ 17592186044416) (h5 : LsI w1 w1.heap.size v5 l5) :
    Code.wp Tryz.prog (r8 9) (bodyPost Tryz.prog Tryz.f8 (FoQ w0)) ⟨#[u0, u1, u2, .int .i64 id, .int .i64 sj, v5, .int .i64 ex, .int .i64 ky, u8, u9, u10, u11, u12, u13, u14, u15, u16, .pointer (some ⟨gp, 0, none⟩), .int .i64 (n : Nat), .string ⟨(sgG G n ++ [46] ++ m3G G n).toArray⟩, .int .i64 (((sgG G n).length : Nat) : Int), u21, u22, u23, u24, u25, u26, u27, u28, u29, u30, u31, u32, u33, u34, u35, u36, u37, u38, u39, u40, u41, u42, u43, u44, u45, u46, u47, u48, u49, u50, u51, u52, u53, u54, u55, u56, u57, u58, u59, u60, u61, u62, u63, u64, u65, u66, u67, u68, u69, u70, u71, u72, u73, u74, u75, u76, u77, u78, u79, u80, u81, u82, u83, u84, u85, u86, u87, u88, u89, u90, u91, u92, u93, u94, u95, u96, u97, u98, u99, u100, u101, u102, u103, u104, u105, u106, u107, u108, u109, u110, u111, u112, u113, u114, u115, u116, u117, u118, u119, u120, u121, u122, u123, u124, u125, u126, u127, u128, u129, u130, u131, u132, u133, u134, u135, u136, u137, u138, u139, u140, u141, u142, u143, u144, u145, u146, u147, u148, u149, u150, u151, u152, u153, u154, u155, u156, u157, u158, u159, u160, u161, u162, u163, u164, u165, u166, u167, u168, u169, u170, u171, u172, u173, u174, u175, u176, u177, u178, u179, u180, u181, u182, u183, u184, u185, u186, u187, u188, u189, u190, u191, u192, u193, u194, u195, u196, u197, u198, u199, u200, u201, u202, u203, u204, u205, u206, u207, u208, u209, u210, u211, u212, u213, u214, u215, u216, u217, u218, u219, u220, u221, u222, u223, u224, u225, u226, u227, u228, u229, u230, u231, u232, u233, u234, u235, u236, u237, u238, u239, u240, u241], []⟩ w := by
  have hm1 := (pickN_lt sj 43 (by decide)).1
  have hm2 := (pickN_lt sj 43 (by decide)).2
  have HPk : Hid (∀ u : World, Calls Tryz.prog 26 #[.int .i64 sj, .int .i64 43] u fun e w' => e = .returned (.int .i64 (pickN sj 43 : Nat)) ∧ u = w') := fun u => by
    have h := pickK_any sj 43 u hsj (by decide)
    rw [show pickZ sj 43 = ((pickN sj 43 : Nat) : Int) from hm2] at h
    exact h.mono (fun e w' ⟨h1, h2⟩ => ⟨h1, h2.symm⟩)
  generalize pickN sj 43 = m at *
  have HE := hide (fun (sx : UInt8) (hsx : (m3G G n).getD m 0 ≠ sx) => fo_12 id sj ex ky v5 l5 m sx gp s gc cc G n P (w0 := w0) (w1 := w1) (w := w) (hQ := hQ) (hF := hF) (hb := hb) (hid := hid) (hsj := hsj) (hex := hex) (hky := hky) (hl5 := hl5) (h5 := h5) (hm := hm1) (hsx := hsx))
  have hml := m3G_len G n
  have hsg := hF.sg
  clear hF hb hQ h5 hl5 hid hsj hex hky hm2
  generalize sgG G n = sg at *
  generalize m3G G n = m3 at *
  have hlen : (sg ++ [46] ++ m3).length = sg.length + 44 := by simp only [List.length_append, List.length_cons, List.length_nil]; omega
  obtain ⟨f1, f2, f3, f4⟩ := at_nums hsg hm1
  have hix : (sg ++ [46] ++ m3).getD (sg.length + 1 + m) 0 = m3.getD m 0 := tok_at_m sg m3 m
  have hi1 := fun u => ix_any (sg ++ [46] ++ m3) (sg.length + 1 + m) (by omega) u
  have hby : by_ (sg ++ [46] ++ m3) (sg.length + 1 + m) = (m3.getD m 0).toNat := by rw [← hix]; rfl
  rw [hby] at hi1
  have hll : ((sg ++ [46] ++ m3).length : Int) = ((sg.length + 44 : Nat) : Int) := by rw [hlen]
  generalize sg ++ [46] ++ m3 = tok at *
  generalize m3.getD m 0 = mm at *
  generalize hq1 : ((sg.length + 1 : Nat) : Int) = q1 at *
  generalize hq2 : ((sg.length + 1 + m : Nat) : Int) = q2 at *
  generalize hq3 : ((sg.length + 44 : Nat) : Int) = q3 at *
  generalize ((sg.length : Nat) : Int) = q0 at *
  have HF := hide (And.intro hq1 (And.intro hq2 hq3))
  clear hq1 hq2 hq3 hlen hix hby hsg hml hm1
  conv => arg 2; whnf
  apply wp_seq_k
  intro K1 hK1
  have HK1 := hide hK1
  clear hK1
  go_wp2_with fail
  refine (unhide HPk w).mono ?_
  rintro e w' ⟨rfl, rfl⟩
  try dsimp only
  go_wp2_with fail
  refine unhide HK1 _ _ ?_
  apply wp_seq_k
  intro K2 hK2
  have HK2 := hide hK2
  clear hK2 HK1
  go_wp2_with fail
  refine unhide HK2 _ _ ?_
  apply wp_seq_k
  intro K3 hK3
  have HK3 := hide hK3
  clear hK3 HK2
  by_cases hA : mm = 65
  · subst hA
    have HE2 := hide (unhide HE 66 (by decide))
    have h65 : (UInt8.toNat 65 : Int) = 65 := rfl
    rw [h65] at hi1
    go_wp2_with fail
    refine unhide HK3 _ _ ?_
    try rw [f4]
    apply unhide HE2
  · have HE2 := hide (unhide HE 65 hA)
    have hne : ((mm.toNat : Int) == 65) = false := beq_eq_false_iff_ne.2 (fun e => hA (UInt8.toNat_inj.1 (show mm.toNat = (65 : UInt8).toNat by have : ((65 : UInt8).toNat : Int) = 65 := rfl; omega)))
    have hne2 : decide ((mm.toNat : Int) = 65) = false := decide_eq_false (by simpa using hne)
    have hne3 : ¬ (mm.toNat : Int) = 65 := by simpa using hne
    generalize (mm.toNat : Int) = mi at *
    go_wp2_with fail
    refine unhide HK3 _ _ ?_
    try rw [f4]
    apply unhide HE2
end Go.Proofs.YtkmkkmdpjliifaaGreatDoor
namespace Go.Proofs.YtkmkkmdpjliifaaGreatDoor
open Go.ChangeShapes Go.WideShapes Go.ChangeAt Go.RowKit

theorem tok_drop (a l : List UInt8) : (a ++ [46] ++ l).drop (a.length + 1) = l := by
  have h : (a ++ [46]).length = a.length + 1 := by simp
  rw [← h, List.drop_left]
theorem tok_take (a l : List UInt8) : (a ++ [46] ++ l).take a.length = a := by
  rw [List.append_assoc, List.take_left]
set_option maxRecDepth 20000 in
set_option maxHeartbeats 4000000 in
set_option linter.unusedSimpArgs false in
theorem fo_8 (id sj ex ky : Int) (v5 : Value) (l5 : List Int) (x : List UInt8) (gp s gc cc : Nat) (G : List Gt) (n : Nat) (P : Pl) (u0 u1 u8 u9 u10 u11 u12 u13 u14 u15 u16 u21 u22 u24 u25 u26 u27 u28 u29 u30 u31 u32 u33 u34 u35 u36 u37 u38 u39 u40 u41 u42 u43 u44 u45 u46 u47 u48 u49 u50 u51 u52 u53 u54 u55 u56 u57 u58 u59 u60 u61 u62 u63 u64 u65 u66 u67 u68 u69 u70 u71 u72 u73 u74 u75 u76 u77 u78 u79 u80 u81 u82 u83 u84 u85 u86 u87 u88 u89 u90 u91 u92 u93 u94 u95 u96 u97 u98 u99 u100 u101 u102 u103 u104 u105 u106 u107 u108 u109 u110 u111 u112 u113 u114 u115 u116 u117 u118 u119 u120 u121 u122 u123 u124 u125 u126 u127 u128 u129 u130 u131 u132 u133 u134 u135 u136 u137 u138 u139 u140 u141 u142 u143 u144 u145 u146 u147 u148 u149 u150 u151 u152 u153 u154 u155 u156 u157 u158 u159 u160 u161 u162 u163 u164 u165 u166 u167 u168 u169 u170 u171 u172 u173 u174 u175 u176 u177 u178 u179 u180 u181 u182 u183 u184 u185 u186 u187 u188 u189 u190 u191 u192 u193 u194 u195 u196 u197 u198 u199 u200 u201 u202 u203 u204 u205 u206 u207 u208 u209 u210 u211 u212 u213 u214 u215 u216 u217 u218 u219 u220 u221 u222 u223 u224 u225 u226 u227 u228 u229 u230 u231 u232 u233 u234 u235 u236 u237 u238 u239 u240 u241 : Value) (w0 w1 w : World) (hQ : Below w0.heap.size w0 w1) (hF : FoW w1 gp s gc cc G n P) (hb : Below w1.heap.size w1 w) (hid : In64 id) (hsj : In64 sj) (hex : In64 ex) (hky : In64 ky) (hl5 : l5.length ≤ 17592186044416) (h5 : LsI w1 w1.heap.size v5 l5) :
    Code.wp Tryz.prog (r8 8) (bodyPost Tryz.prog Tryz.f8 (FoQ w0)) ⟨#[u0, u1, .string ⟨x.toArray⟩, .int .i64 id, .int .i64 sj, v5, .int .i64 ex, .int .i64 ky, u8, u9, u10, u11, u12, u13, u14, u15, u16, .pointer (some ⟨gp, 0, none⟩), .int .i64 (n : Nat), .string ⟨(sgG G n ++ [46] ++ m3G G n).toArray⟩, .int .i64 (((sgG G n).length : Nat) : Int), u21, u22, .bool (decide (x = m3G G n)), u24, u25, u26, u27, u28, u29, u30, u31, u32, u33, u34, u35, u36, u37, u38, u39, u40, u41, u42, u43, u44, u45, u46, u47, u48, u49, u50, u51, u52, u53, u54, u55, u56, u57, u58, u59, u60, u61, u62, u63, u64, u65, u66, u67, u68, u69, u70, u71, u72, u73, u74, u75, u76, u77, u78, u79, u80, u81, u82, u83, u84, u85, u86, u87, u88, u89, u90, u91, u92, u93, u94, u95, u96, u97, u98, u99, u100, u101, u102, u103, u104, u105, u106, u107, u108, u109, u110, u111, u112, u113, u114, u115, u116, u117, u118, u119, u120, u121, u122, u123, u124, u125, u126, u127, u128, u129, u130, u131, u132, u133, u134, u135, u136, u137, u138, u139, u140, u141, u142, u143, u144, u145, u146, u147, u148, u149, u150, u151, u152, u153, u154, u155, u156, u157, u158, u159, u160, u161, u162, u163, u164, u165, u166, u167, u168, u169, u170, u171, u172, u173, u174, u175, u176, u177, u178, u179, u180, u181, u182, u183, u184, u185, u186, u187, u188, u189, u190, u191, u192, u193, u194, u195, u196, u197, u198, u199, u200, u201, u202, u203, u204, u205, u206, u207, u208, u209, u210, u211, u212, u213, u214, u215, u216, u217, u218, u219, u220, u221, u222, u223, u224, u225, u226, u227, u228, u229, u230, u231, u232, u233, u234, u235, u236, u237, u238, u239, u240, u241], []⟩ w := by
  have HE := hide (fo_9 id sj ex ky v5 l5 gp s gc cc G n P (w0 := w0) (w1 := w1) (w := w) (hQ := hQ) (hF := hF) (hb := hb) (hid := hid) (hsj := hsj) (hex := hex) (hky := hky) (hl5 := hl5) (h5 := h5))
  have hml := m3G_len G n
  have hsg := hF.sg
  clear hF hb hQ h5 hl5 hid hsj hex hky
  generalize sgG G n = sg at *
  generalize m3G G n = m3 at *
  have hlen : (sg ++ [46] ++ m3).length = sg.length + 44 := by simp only [List.length_append, List.length_cons, List.length_nil]; omega
  have k1 := fun u => drop_any (sg ++ [46] ++ m3) (sg.length + 1) (by omega) u
  rw [tok_drop] at k1
  obtain ⟨hw1, hw2⟩ := p1_num (p := sg.length) (by omega)
  generalize sg ++ [46] ++ m3 = tok at *
  generalize ((sg.length + 1 : Nat) : Int) = q1 at *
  generalize ((sg.length : Nat) : Int) = q0 at *
  clear hml hsg hlen
  conv => arg 2; whnf
  apply wp_seq_k
  intro K1 hK1
  have HK1 := hide hK1
  clear hK1
  by_cases hx : x = m3
  · subst hx
    rw [decide_eq_true rfl]
    go_wp2_with fail
    refine unhide HK1 _ _ ?_
    apply unhide HE
  · rw [decide_eq_false hx]
    have hx2 : decide (x = m3) = false := decide_eq_false hx
    have hx3 : (x == m3) = false := beq_eq_false_iff_ne.2 hx
    go_wp2_with fail
    refine unhide HK1 _ _ ?_
    apply unhide HE
set_option maxRecDepth 20000 in
set_option maxHeartbeats 4000000 in
set_option linter.unusedSimpArgs false in
theorem fo_7 (id sj ex ky : Int) (v5 : Value) (l5 : List Int) (x : List UInt8) (gp s gc cc : Nat) (G : List Gt) (n : Nat) (P : Pl) (u0 u1 u8 u9 u10 u11 u12 u13 u14 u15 u16 u21 u22 u23 u24 u25 u26 u27 u28 u29 u30 u31 u32 u33 u34 u35 u36 u37 u38 u39 u40 u41 u42 u43 u44 u45 u46 u47 u48 u49 u50 u51 u52 u53 u54 u55 u56 u57 u58 u59 u60 u61 u62 u63 u64 u65 u66 u67 u68 u69 u70 u71 u72 u73 u74 u75 u76 u77 u78 u79 u80 u81 u82 u83 u84 u85 u86 u87 u88 u89 u90 u91 u92 u93 u94 u95 u96 u97 u98 u99 u100 u101 u102 u103 u104 u105 u106 u107 u108 u109 u110 u111 u112 u113 u114 u115 u116 u117 u118 u119 u120 u121 u122 u123 u124 u125 u126 u127 u128 u129 u130 u131 u132 u133 u134 u135 u136 u137 u138 u139 u140 u141 u142 u143 u144 u145 u146 u147 u148 u149 u150 u151 u152 u153 u154 u155 u156 u157 u158 u159 u160 u161 u162 u163 u164 u165 u166 u167 u168 u169 u170 u171 u172 u173 u174 u175 u176 u177 u178 u179 u180 u181 u182 u183 u184 u185 u186 u187 u188 u189 u190 u191 u192 u193 u194 u195 u196 u197 u198 u199 u200 u201 u202 u203 u204 u205 u206 u207 u208 u209 u210 u211 u212 u213 u214 u215 u216 u217 u218 u219 u220 u221 u222 u223 u224 u225 u226 u227 u228 u229 u230 u231 u232 u233 u234 u235 u236 u237 u238 u239 u240 u241 : Value) (w0 w1 w : World) (hQ : Below w0.heap.size w0 w1) (hF : FoW w1 gp s gc cc G n P) (hb : Below w1.heap.size w1 w) (hid : In64 id) (hsj : In64 sj) (hex : In64 ex) (hky : In64 ky) (hl5 : l5.length ≤ 17592186044416) (h5 : LsI w1 w1.heap.size v5 l5) (hxl : x.length ≤ 1048576) :
    Code.wp Tryz.prog (r8 7) (bodyPost Tryz.prog Tryz.f8 (FoQ w0)) ⟨#[u0, u1, .string ⟨x.toArray⟩, .int .i64 id, .int .i64 sj, v5, .int .i64 ex, .int .i64 ky, u8, u9, u10, u11, u12, u13, u14, u15, u16, .pointer (some ⟨gp, 0, none⟩), .int .i64 (n : Nat), .string ⟨(sgG G n ++ [46] ++ m3G G n).toArray⟩, .int .i64 (((sgG G n).length : Nat) : Int), u21, u22, u23, u24, u25, u26, u27, u28, u29, u30, u31, u32, u33, u34, u35, u36, u37, u38, u39, u40, u41, u42, u43, u44, u45, u46, u47, u48, u49, u50, u51, u52, u53, u54, u55, u56, u57, u58, u59, u60, u61, u62, u63, u64, u65, u66, u67, u68, u69, u70, u71, u72, u73, u74, u75, u76, u77, u78, u79, u80, u81, u82, u83, u84, u85, u86, u87, u88, u89, u90, u91, u92, u93, u94, u95, u96, u97, u98, u99, u100, u101, u102, u103, u104, u105, u106, u107, u108, u109, u110, u111, u112, u113, u114, u115, u116, u117, u118, u119, u120, u121, u122, u123, u124, u125, u126, u127, u128, u129, u130, u131, u132, u133, u134, u135, u136, u137, u138, u139, u140, u141, u142, u143, u144, u145, u146, u147, u148, u149, u150, u151, u152, u153, u154, u155, u156, u157, u158, u159, u160, u161, u162, u163, u164, u165, u166, u167, u168, u169, u170, u171, u172, u173, u174, u175, u176, u177, u178, u179, u180, u181, u182, u183, u184, u185, u186, u187, u188, u189, u190, u191, u192, u193, u194, u195, u196, u197, u198, u199, u200, u201, u202, u203, u204, u205, u206, u207, u208, u209, u210, u211, u212, u213, u214, u215, u216, u217, u218, u219, u220, u221, u222, u223, u224, u225, u226, u227, u228, u229, u230, u231, u232, u233, u234, u235, u236, u237, u238, u239, u240, u241], []⟩ w := by
  have HLo : Hid (∀ u : World, Calls Tryz.prog 31 #[.int .i64 0] u fun e w' => e = .returned (.agg #[.string ⟨#[99, 48]⟩, .string ⟨#[115, 48]⟩]) ∧ Below u.heap.size u w') := fun u => login_any 0 (by decide) u
  have HC0 := hide hF.c0
  have HLt := hide hF.lt
  have HBw := hide hb
  have HBd : Hid (Below w1.heap.size w1 w.drew) := (unhide HBw).drew
  have c0 := hF.c0 w hb
  have hws := hb.size
  have nnw : gp ≠ w.heap.size := by have := unhide HLt; omega
  have mmw : w.heap.size ≠ gp := by have := unhide HLt; omega
  have HLk := hide (hF.lk3 x hxl)
  have HE := hide (fun (w' : World) (hb' : Below w1.heap.size w1 w') => fo_8 id sj ex ky v5 l5 x gp s gc cc G n P (w0 := w0) (w1 := w1) (w := w') (hQ := hQ) (hF := hF) (hb := hb') (hid := hid) (hsj := hsj) (hex := hex) (hky := hky) (hl5 := hl5) (h5 := h5))
  have hml := m3G_len G n
  have hsg := hF.sg
  clear hF hb hQ h5 hl5 hid hsj hex hky
  generalize sgG G n = sg at *
  generalize m3G G n = m3 at *
  have hlen : (sg ++ [46] ++ m3).length = sg.length + 44 := by simp only [List.length_append, List.length_cons, List.length_nil]; omega
  have k1 := fun u => upto_any (sg ++ [46] ++ m3) sg.length (by omega) u _ rfl
  rw [tok_take] at k1
  obtain ⟨t1, ht1, hl1, k3⟩ := cat_is sg [46] 9956 1 hsg (by decide) (by decide)
  obtain ⟨t2, ht2, hl3, k4⟩ := cat_is t1 x _ 1048576 hl1 hxl (by decide)
  rw [← ht1, ← ht2] at HLk
  generalize sg ++ [46] ++ m3 = tok at *
  generalize decide (x = m3) = bt at *
  generalize ((sg.length : Nat) : Int) = q0 at *
  clear hml hsg hlen ht1 ht2 hl1 hl3 hxl
  conv => arg 2; whnf
  apply wp_seq_k
  intro K1 hK1
  have HK1 := hide hK1
  clear hK1
  go_region_held3 (fun w' => w'.cell? ⟨gp, 0, none⟩ = some (.pointer (some ⟨s, 0, none⟩))) (go_keep)
    (first
      | (go_at_call 31; refine (unhide HLo _).mono ?_; rintro e wB ⟨rfl, bB⟩; have BBb : Below w1.heap.size w1 wB := (by first | exact (unhide HBd).trans (bB.mono (unhide HBd).size) | exact ((unhide HBd).alloc (unhide HBd).size _).trans (bB.mono ((unhide HBd).alloc (unhide HBd).size _).size)); have x0b := unhide HC0 wB BBb; (first | (have R9 : Row wB w.heap.size 60 6 (czF cz0 pl0) := (Row.new w.drew 60 #[.int .i64 0, .string ⟨#[]⟩, .slice none 0 0, .slice none 0 0, .slice none 0 0, .int .i64 0] (czF cz0 pl0) 6 rfl (six rfl rfl rfl rfl rfl rfl)).below bB (by simp); have q0 : wB.cell? ⟨_, 0, none⟩ = some (.int .i64 0) := R9.cell (by decide); have f0 := R9.frozen 0; have q1 : wB.cell? ⟨_, 1, none⟩ = some (.string ⟨#[]⟩) := R9.cell (by decide); have f1 := R9.frozen 1; have q2 : wB.cell? ⟨_, 2, none⟩ = some (.slice none 0 0) := R9.cell (by decide); have f2 := R9.frozen 2; have q3 : wB.cell? ⟨_, 3, none⟩ = some (.slice none 0 0) := R9.cell (by decide); have f3 := R9.frozen 3; have q4 : wB.cell? ⟨_, 4, none⟩ = some (.slice none 0 0) := R9.cell (by decide); have f4 := R9.frozen 4; have q5 : wB.cell? ⟨_, 5, none⟩ = some (.int .i64 0) := R9.cell (by decide); have f5 := R9.frozen 5) | skip); have n1wB : gp ≠ wB.heap.size := (by have := BBb.size; have := unhide HLt; omega); have m1wB : wB.heap.size ≠ gp := (by have := BBb.size; have := unhide HLt; omega); have RB := hide BBb; clear bB BBb; try dsimp only)
      | (go_at_call 32; refine (unhide HLk _ (by first | exact (unhide RB) | exact (unhide RB).alloc (unhide RB).size _)).mono ?_; rintro e wC ⟨zC, pC, rfl, bC, BBc⟩; have x0c := unhide HC0 wC BBc; (first | (have R9 : Row wC wB.heap.size 60 6 (czF cz0 pl0) := (Row.new wB 60 #[.int .i64 0, .string ⟨#[]⟩, .slice none 0 0, .slice none 0 0, .slice none 0 0, .int .i64 0] (czF cz0 pl0) 6 rfl (six rfl rfl rfl rfl rfl rfl)).below bC (by simp); have q0 : wC.cell? ⟨_, 0, none⟩ = some (.int .i64 0) := R9.cell (by decide); have f0 := R9.frozen 0; have q1 : wC.cell? ⟨_, 1, none⟩ = some (.string ⟨#[]⟩) := R9.cell (by decide); have f1 := R9.frozen 1; have q2 : wC.cell? ⟨_, 2, none⟩ = some (.slice none 0 0) := R9.cell (by decide); have f2 := R9.frozen 2; have q3 : wC.cell? ⟨_, 3, none⟩ = some (.slice none 0 0) := R9.cell (by decide); have f3 := R9.frozen 3; have q4 : wC.cell? ⟨_, 4, none⟩ = some (.slice none 0 0) := R9.cell (by decide); have f4 := R9.frozen 4; have q5 : wC.cell? ⟨_, 5, none⟩ = some (.int .i64 0) := R9.cell (by decide); have f5 := R9.frozen 5) | (have R9 := Row.below R9 bC (Row.lt R9); have q0 : wC.cell? ⟨_, 0, none⟩ = some (.int .i64 0) := R9.cell (by decide); have f0 := R9.frozen 0; have q1 : wC.cell? ⟨_, 1, none⟩ = some (.string ⟨#[]⟩) := R9.cell (by decide); have f1 := R9.frozen 1; have q2 : wC.cell? ⟨_, 2, none⟩ = some (.slice none 0 0) := R9.cell (by decide); have f2 := R9.frozen 2; have q3 : wC.cell? ⟨_, 3, none⟩ = some (.slice none 0 0) := R9.cell (by decide); have f3 := R9.frozen 3; have q4 : wC.cell? ⟨_, 4, none⟩ = some (.slice none 0 0) := R9.cell (by decide); have f4 := R9.frozen 4; have q5 : wC.cell? ⟨_, 5, none⟩ = some (.int .i64 0) := R9.cell (by decide); have f5 := R9.frozen 5) | skip); have n1wC : gp ≠ wC.heap.size := (by have := BBc.size; have := unhide HLt; omega); have m1wC : wC.heap.size ≠ gp := (by have := BBc.size; have := unhide HLt; omega); have RC := hide BBc; clear bC BBc; try dsimp only))
  · go_wp2_with fail
    refine unhide HK1 _ _ ?_
    apply unhide HE
    exact (unhide RC).alloc (unhide RC).size _
  · go_wp2_with fail
    refine unhide HK1 _ _ ?_
    apply unhide HE
    exact (unhide RC).trans ((st6_but _ wB.heap.size zC pC).below (unhide RB).size)
  · go_wp2_with fail
    refine unhide HK1 _ _ ?_
    apply unhide HE
    exact (unhide RC).trans ((st6_but _ w.heap.size zC pC).below hws)
end Go.Proofs.YtkmkkmdpjliifaaGreatDoor
namespace Go.Proofs.YtkmkkmdpjliifaaGreatDoor
open Go.ChangeShapes Go.WideShapes Go.ChangeAt Go.RowKit

theorem i1_num {p : Nat} (h : p ≤ 20000) : wrap64 ((p : Int) + 1) = (p : Int) + 1 := w64 _ (by omega) (by omega)
theorem ldN_yes {t : List UInt8} {i : Nat} (h : t.getD i 0 = 46) : ldN t (i + 1) = i := by rw [ldN, if_pos h]
theorem ldN_no {t : List UInt8} {i : Nat} (h : t.getD i 0 ≠ 46) : ldN t (i + 1) = ldN t i := by rw [ldN, if_neg h]
set_option maxRecDepth 20000 in
set_option maxHeartbeats 4000000 in
set_option linter.unusedSimpArgs false in
theorem fo_6 (id sj ex ky : Int) (v5 : Value) (l5 : List Int) (x : List UInt8) (gp s gc cc : Nat) (G : List Gt) (n : Nat) (P : Pl) (u0 u1 u8 u9 u10 u11 u12 u13 u14 u15 u16 u21 u22 u23 u24 u25 u26 u27 u28 u29 u30 u31 u32 u33 u34 u35 u36 u37 u38 u39 u40 u41 u42 u43 u44 u45 u46 u47 u48 u49 u50 u51 u52 u53 u54 u55 u56 u57 u58 u59 u60 u61 u62 u63 u64 u65 u66 u67 u68 u69 u70 u71 u72 u73 u74 u75 u76 u77 u78 u79 u80 u81 u82 u83 u84 u85 u86 u87 u88 u89 u90 u91 u92 u93 u94 u95 u96 u97 u98 u99 u100 u101 u102 u103 u104 u105 u106 u107 u108 u109 u110 u111 u112 u113 u114 u115 u116 u117 u118 u119 u120 u121 u122 u123 u124 u125 u126 u127 u128 u129 u130 u131 u132 u133 u134 u135 u136 u137 u138 u139 u140 u141 u142 u143 u144 u145 u146 u147 u148 u149 u150 u151 u152 u153 u154 u155 u156 u157 u158 u159 u160 u161 u162 u163 u164 u165 u166 u167 u168 u169 u170 u171 u172 u173 u174 u175 u176 u177 u178 u179 u180 u181 u182 u183 u184 u185 u186 u187 u188 u189 u190 u191 u192 u193 u194 u195 u196 u197 u198 u199 u200 u201 u202 u203 u204 u205 u206 u207 u208 u209 u210 u211 u212 u213 u214 u215 u216 u217 u218 u219 u220 u221 u222 u223 u224 u225 u226 u227 u228 u229 u230 u231 u232 u233 u234 u235 u236 u237 u238 u239 u240 u241 : Value) (w0 w1 w : World) (hQ : Below w0.heap.size w0 w1) (hF : FoW w1 gp s gc cc G n P) (hb : Below w1.heap.size w1 w) (hid : In64 id) (hsj : In64 sj) (hex : In64 ex) (hky : In64 ky) (hl5 : l5.length ≤ 17592186044416) (h5 : LsI w1 w1.heap.size v5 l5) (hxl : x.length ≤ 1048576) :
    Code.wp Tryz.prog (r8 6) (bodyPost Tryz.prog Tryz.f8 (FoQ w0)) ⟨#[u0, u1, .string ⟨x.toArray⟩, .int .i64 id, .int .i64 sj, v5, .int .i64 ex, .int .i64 ky, u8, u9, u10, u11, u12, u13, u14, u15, u16, .pointer (some ⟨gp, 0, none⟩), .int .i64 (n : Nat), .string ⟨(sgG G n ++ [46] ++ m3G G n).toArray⟩, .int .i64 0, u21, u22, u23, u24, u25, u26, u27, u28, u29, u30, u31, u32, u33, u34, u35, u36, u37, u38, u39, u40, u41, u42, u43, u44, u45, u46, u47, u48, u49, u50, u51, u52, u53, u54, u55, u56, u57, u58, u59, u60, u61, u62, u63, u64, u65, u66, u67, u68, u69, u70, u71, u72, u73, u74, u75, u76, u77, u78, u79, u80, u81, u82, u83, u84, u85, u86, u87, u88, u89, u90, u91, u92, u93, u94, u95, u96, u97, u98, u99, u100, u101, u102, u103, u104, u105, u106, u107, u108, u109, u110, u111, u112, u113, u114, u115, u116, u117, u118, u119, u120, u121, u122, u123, u124, u125, u126, u127, u128, u129, u130, u131, u132, u133, u134, u135, u136, u137, u138, u139, u140, u141, u142, u143, u144, u145, u146, u147, u148, u149, u150, u151, u152, u153, u154, u155, u156, u157, u158, u159, u160, u161, u162, u163, u164, u165, u166, u167, u168, u169, u170, u171, u172, u173, u174, u175, u176, u177, u178, u179, u180, u181, u182, u183, u184, u185, u186, u187, u188, u189, u190, u191, u192, u193, u194, u195, u196, u197, u198, u199, u200, u201, u202, u203, u204, u205, u206, u207, u208, u209, u210, u211, u212, u213, u214, u215, u216, u217, u218, u219, u220, u221, u222, u223, u224, u225, u226, u227, u228, u229, u230, u231, u232, u233, u234, u235, u236, u237, u238, u239, u240, u241], []⟩ w := by
  have HE := hide (fo_7 id sj ex ky v5 l5 x gp s gc cc G n P (w0 := w0) (w1 := w1) (w := w) (hQ := hQ) (hF := hF) (hb := hb) (hid := hid) (hsj := hsj) (hex := hex) (hky := hky) (hl5 := hl5) (h5 := h5) (hxl := hxl))
  have hml := m3G_len G n
  have hsg := hF.sg
  have hld := ldN_end (a := sgG G n) (m3G_dot G n)
  clear hF hb hQ h5 hl5 hid hsj hex hky hxl
  generalize sgG G n = sg at *
  generalize m3G G n = m3 at *
  have hlen : (sg ++ [46] ++ m3).length = sg.length + 44 := by simp only [List.length_append, List.length_cons, List.length_nil]; omega
  have htl : (sg ++ [46] ++ m3).length ≤ 20000 := by omega
  generalize sg ++ [46] ++ m3 = tok at *
  rw [← hld] at HE
  have HLD := hide hld
  have HTL := hide htl
  clear hld htl hlen hml hsg
  conv => arg 2; whnf
  apply wp_seq_k
  intro K1 hK1
  have HK1 := hide hK1
  clear hK1
  go_wp2_with fail
  go_loopg [20, 21] tok.length (fun q va vi wr => ∃ i : Nat, i + q = tok.length ∧ va = .int .i64 ((ldN tok i : Nat) : Int) ∧ vi = .int .i64 (i : Nat) ∧ wr = w)
  case atStart => exact ⟨0, Nat.zero_add _, rfl, rfl, rfl⟩
  case round =>
    obtain ⟨i, hi, rfl, rfl, rfl⟩ := hrel
    by_cases hlt : i < tok.length
    · have hiI : (i : Int) < (tok.length : Int) := Int.ofNat_lt.2 hlt
      have hi0 : ¬ (i : Int) < 0 := Int.not_lt.2 (Int.natCast_nonneg _)
      have HM : Hid (gk - 1 < gk ∧ i + 1 + (gk - 1) = tok.length) := ⟨by omega, by omega⟩
      have hw := i1_num (p := i) (by have := unhide HTL; omega)
      have k1 := fun u => ix_any tok i hlt u
      have hby : by_ tok i = (tok.getD i 0).toNat := rfl
      rw [hby] at k1
      have HY : Hid (tok.getD i 0 = 46 → ldN tok (i + 1) = i) := fun h => ldN_yes h
      have HN : Hid (tok.getD i 0 ≠ 46 → ldN tok (i + 1) = ldN tok i) := fun h => ldN_no h
      generalize tok.getD i 0 = y at *
      by_cases hA : y = 46
      · have HJ := hide (unhide HY hA)
        subst hA
        have h46 : ((UInt8.toNat 46 : Nat) : Int) = 46 := rfl
        rw [h46] at k1
        go_wp2_with fail
        go_roundg (gk - 1)
        case measure => exact (unhide HM).1
        case rel => exact ⟨i + 1, (unhide HM).2, by rw [unhide HJ], by first | exact num1 hw | rfl, rfl⟩
      · have HJ := hide (unhide HN hA)
        have hne : ((y.toNat : Int) == 46) = false := beq_eq_false_iff_ne.2 (fun e => hA (UInt8.toNat_inj.1 (show y.toNat = (46 : UInt8).toNat by have : ((46 : UInt8).toNat : Int) = 46 := rfl; omega)))
        have hne2 : decide ((y.toNat : Int) = 46) = false := decide_eq_false (by simpa using hne)
        have hne3 : ¬ (y.toNat : Int) = 46 := by simpa using hne
        generalize (y.toNat : Int) = yi at *
        go_wp2_with fail
        go_roundg (gk - 1)
        case measure => exact (unhide HM).1
        case rel => exact ⟨i + 1, (unhide HM).2, by rw [unhide HJ], by first | exact num1 hw | rfl, rfl⟩
    · have hin : i = tok.length := by omega
      have hid2 : decide ((i : Int) < (tok.length : Int)) = false := decide_eq_false (by omega)
      subst hin
      clear hi
      go_wp2_with fail
      refine unhide HK1 _ _ ?_
      apply unhide HE
end Go.Proofs.YtkmkkmdpjliifaaGreatDoor
namespace Go.Proofs.YtkmkkmdpjliifaaGreatDoor
open Go.ChangeShapes Go.WideShapes Go.ChangeAt Go.RowKit

theorem LsI.up {w : World} {B B' : Nat} {v : Value} {l : List Int} (h : LsI w B v l) (hb : B ≤ B') : LsI w B' v l := by
  obtain ⟨a, c, e, hle, h⟩ := h
  refine ⟨a, c, e, hle, fun hp => ?_⟩
  obtain ⟨g, o, h1, h2, h3⟩ := h hp
  exact ⟨g, o, h1, Nat.lt_of_lt_of_le h2 hb, h3⟩
set_option maxRecDepth 20000 in
set_option maxHeartbeats 4000000 in
theorem Forged_any (v : Value) (St : List Stp) (m : Int) (x : List UInt8) (id sj : Int) (v5 : Value) (l5 : List Int) (ex ky : Int) (w : World) (hT : TT w.heap.size w) (hm : In64 m) (hid : In64 id) (hsj : In64 sj) (hex : In64 ex) (hky : In64 ky) (hl : St.length ≤ 8796093022208) (hSt : LsT w w.heap.size v St) (hx : x.length ≤ 1048576) (hl5 : l5.length ≤ 17592186044416) (h5 : LsI w w.heap.size v5 l5) :
    Calls Tryz.prog 8 #[v, .int .i64 m, .string ⟨x.toArray⟩, .int .i64 id, .int .i64 sj, v5, .int .i64 ex, .int .i64 ky] w (FoQ w) := by
  have HTr := hide (tree_any v St w hT hl hSt)
  have h5c := h5
  obtain ⟨ast, cst, rfl, _⟩ := hSt
  obtain ⟨a5, c5, rfl, _⟩ := h5c
  have HT := hide hT
  have HE : Hid (∀ (w1 : World) (gp s gc cc : Nat) (G : List Gt) (n : Nat) (P : Pl), Below w.heap.size w w1 → FoW w1 gp s gc cc G n P → _) := fun w1 gp s gc cc G n P hQ hF => fo_6 id sj ex ky (.slice a5 l5.length c5) l5 x gp s gc cc G n P (w0 := w) (w1 := w1) (w := w1) (hQ := hQ) (hF := hF) (hb := Below.refl _ _) (hid := hid) (hsj := hsj) (hex := hex) (hky := hky) (hl5 := hl5) (h5 := LsI.up (h5.below hQ) hQ.size) (hxl := hx)
  have HMm := hide hm
  clear hT hl hm hid hsj hex hky h5 hl5 hx
  go_enter Tryz.func8, Tryz.ntmps8
  apply wp_seq_k
  intro K0 hK0
  have HK0 := hide hK0
  clear hK0
  go_wp2_with fail
  refine unhide HK0 _ _ ?_
  clear HK0
  apply wp_seq_k
  intro K1 hK1
  have HK1 := hide hK1
  clear hK1
  go_wp2_with fail
  refine (unhide HTr).mono ?_
  rintro e w1 ⟨gp, s, R, O, vk, vs, vg, Qs, G, vt, vc, vp, C, rfl, hS, h3⟩
  have r4 : w1.cell? ⟨gp, 4, none⟩ = some (.bool false) := hS.tr.row.cell (j := 4) (by decide)
  obtain ⟨gt, ct, gc, cc, ga, ca, hV⟩ := hS.tr.view hS.cm h3
  have r1 := hV.r1
  have h40 := hS.tr.sv.small
  obtain ⟨hn1, hn2⟩ := pickN_lt m G.length (by omega)
  have HPk : Hid (∀ u : World, Calls Tryz.prog 26 #[.int .i64 m, .int .i64 (G.length : Nat)] u fun e w' => e = .returned (.int .i64 (pickN m G.length : Nat)) ∧ u = w') := fun u => by
    have h := pickK_any m (G.length : Nat) u (unhide HMm) ⟨by omega, by omega⟩
    rw [hn2] at h
    exact h.mono (fun e w' ⟨h1, h2⟩ => ⟨h1, h2.symm⟩)
  generalize pickN m G.length = n at *
  have hF := hS.fow (unhide HT) hV hn1
  have tn := hV.t n hn1
  rw [tokG_eq] at tn
  have HE2 := hide (unhide HE w1 gp s gc cc G n _ hS.bel hF)
  have hnI : (n : Int) < (G.length : Int) := Int.ofNat_lt.2 hn1
  have hn0 : ¬ (n : Int) < 0 := Int.not_lt.2 (Int.natCast_nonneg _)
  clear hS h3 hV h40 hF hn1 hn2 HE HTr HT HMm
  generalize sgG G n ++ [46] ++ m3G G n = tok at *
  try dsimp only
  go_wp2_with fail
  refine unhide HK1 _ _ ?_
  apply wp_seq_k
  intro K2 hK2
  have HK2 := hide hK2
  clear hK2 HK1
  go_wp2_with fail
  refine unhide HK2 _ _ ?_
  apply wp_seq_k
  intro K3 hK3
  have HK3 := hide hK3
  clear hK3 HK2
  go_wp2_with fail
  refine (unhide HPk w1).mono ?_
  rintro e w' ⟨rfl, rfl⟩
  try dsimp only
  go_wp2_with fail
  refine unhide HK3 _ _ ?_
  apply wp_seq_k
  intro K4 hK4
  have HK4 := hide hK4
  clear hK4 HK3
  go_wp2_with fail
  refine unhide HK4 _ _ ?_
  apply wp_seq_k
  intro K5 hK5
  have HK5 := hide hK5
  clear hK5 HK4
  go_wp2_with fail
  refine unhide HK5 _ _ ?_
  apply unhide HE2
end Go.Proofs.YtkmkkmdpjliifaaGreatDoor
