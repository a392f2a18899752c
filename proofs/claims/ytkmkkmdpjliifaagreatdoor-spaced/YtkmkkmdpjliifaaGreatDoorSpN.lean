import Derived.Test.YtkmkkmdpjliifaaGreatDoorSpL
namespace Go.Proofs.YtkmkkmdpjliifaaGreatDoor
open Go.ChangeShapes Go.WideShapes Go.ChangeAt Go.RowKit

set_option maxRecDepth 20000 in
set_option maxHeartbeats 4000000 in
theorem sp_3 (r o wrong : Int) (g : Nat) (cr : Cm) (p1 : Pl) (u0 u1 u2 u3 u4 u5 u9 u10 u11 u12 u13 u14 u15 u16 u17 u18 u21 u22 u23 u24 u25 u26 u27 u28 u29 u30 u31 u32 u33 u34 u35 u36 u37 u38 u39 u40 u41 u42 u43 u44 u45 u46 u47 u48 u49 u50 u51 u52 u53 u54 u55 u56 u57 u58 u59 u60 u61 u62 u63 u64 u65 u66 u67 u68 u69 u70 u71 u72 u73 u74 u75 u76 u77 u78 u79 u80 u81 u82 u83 u84 u85 u86 u87 u88 u89 u90 u91 u92 u93 u94 u95 u96 u97 u98 u99 u100 u101 u102 u103 u104 u105 u106 u107 u108 u109 u110 u111 u112 u113 u114 u115 u116 u117 u118 u119 u120 u121 u122 u123 u124 u125 u126 u127 u128 u129 u130 u131 u132 u133 u134 u135 u136 u137 u138 u139 u140 u141 u142 u143 u144 u145 u146 u147 u148 u149 u150 u151 u152 u153 u154 u155 u156 u157 u158 u159 u160 u161 u162 u163 u164 u165 u166 u167 u168 u169 u170 u171 u172 u173 u174 u175 u176 u177 u178 u179 u180 u181 u182 u183 u184 u185 u186 u187 u188 u189 u190 u191 u192 u193 u194 u195 u196 u197 u198 u199 u200 u201 u202 u203 u204 u205 u206 u207 u208 u209 u210 u211 u212 u213 u214 u215 u216 u217 u218 u219 u220 u221 u222 u223 u224 u225 u226 u227 u228 u229 u230 u231 u232 u233 u234 u235 u236 u237 u238 u239 u240 u241 u242 u243 u244 u245 u246 u247 u248 u249 u250 u251 u252 u253 u254 u255 u256 u257 u258 u259 u260 u261 u262 u263 u264 u265 : Value) (w0 w : World) (hT : TT w0.heap.size w0) (hb : Below w0.heap.size w0 w) (hr : -9223372036854775808 ≤ r ∧ r ≤ 9223372036854775807) (ho : -9223372036854775808 ≤ o ∧ o ≤ 9223372036854775807) (hwr : -9223372036854775808 ≤ wrong ∧ wrong ≤ 9223372036854775807)
    (hrt : rightB cr.z = true) (hR : Row w g 60 6 (czF cr.z p1)) (hL : CzL w g cr.z p1) :
    Code.wp Tryz.prog (r5 3) (bodyPost Tryz.prog Tryz.f5 fun e w' => e = .returned (.bool true) ∧ Below w0.heap.size w0 w') ⟨#[u0, u1, u2, u3, u4, u5, .int .i64 o, .int .i64 r, .int .i64 wrong, u9, u10, u11, u12, u13, u14, u15, u16, u17, u18, .bool true, .pointer (some ⟨g, 0, none⟩), u21, u22, u23, u24, u25, u26, u27, u28, u29, u30, u31, u32, u33, u34, u35, u36, u37, u38, u39, u40, u41, u42, u43, u44, u45, u46, u47, u48, u49, u50, u51, u52, u53, u54, u55, u56, u57, u58, u59, u60, u61, u62, u63, u64, u65, u66, u67, u68, u69, u70, u71, u72, u73, u74, u75, u76, u77, u78, u79, u80, u81, u82, u83, u84, u85, u86, u87, u88, u89, u90, u91, u92, u93, u94, u95, u96, u97, u98, u99, u100, u101, u102, u103, u104, u105, u106, u107, u108, u109, u110, u111, u112, u113, u114, u115, u116, u117, u118, u119, u120, u121, u122, u123, u124, u125, u126, u127, u128, u129, u130, u131, u132, u133, u134, u135, u136, u137, u138, u139, u140, u141, u142, u143, u144, u145, u146, u147, u148, u149, u150, u151, u152, u153, u154, u155, u156, u157, u158, u159, u160, u161, u162, u163, u164, u165, u166, u167, u168, u169, u170, u171, u172, u173, u174, u175, u176, u177, u178, u179, u180, u181, u182, u183, u184, u185, u186, u187, u188, u189, u190, u191, u192, u193, u194, u195, u196, u197, u198, u199, u200, u201, u202, u203, u204, u205, u206, u207, u208, u209, u210, u211, u212, u213, u214, u215, u216, u217, u218, u219, u220, u221, u222, u223, u224, u225, u226, u227, u228, u229, u230, u231, u232, u233, u234, u235, u236, u237, u238, u239, u240, u241, u242, u243, u244, u245, u246, u247, u248, u249, u250, u251, u252, u253, u254, u255, u256, u257, u258, u259, u260, u261, u262, u263, u264, u265], []⟩ w := by
  have hgl := hR.lt
  have HR := hide hr
  have HOR := hide ho
  have HWR := hide hwr
  have HRt := hide hrt
  have HT := hide hT
  have HB := hide hb
  have HRX := hide hR
  have HL2 := hide hL
  have HROW : Hid (∀ u, Below w.heap.size w u → Row u g 60 6 (czF cr.z p1)) := fun u hu => hR.below hu hgl
  clear hr ho hwr hrt hT hb hR hL
  have hid : Hid (cr.z.id = ((cr.id : Nat) : Int)) := rfl
  have hex : Hid (cr.z.exp = ((cr.exp : Nat) : Int)) := rfl
  obtain ⟨hok, hsub, hls2, hls3, hls4⟩ := right_bounds (unhide HRt)
  obtain ⟨m2, e2⟩ := listB_get hls2
  obtain ⟨m3, e3⟩ := listB_get hls3
  obtain ⟨m4, e4⟩ := listB_get hls4
  have HM := hide (And.intro m2 (And.intro m3 m4))
  have HE := hide (And.intro e2 (And.intro e3 e4))
  have HOK := hide hok
  have HSUB := hide hsub
  clear hok hsub hls2 hls3 hls4 m2 m3 m4 e2 e3 e4
  obtain ⟨hr2, hw2⟩ := tdiv_rng 2 (by decide) (unhide HR)
  have HR2 := hide hr2
  have hv2 := w64k _ hr2
  obtain ⟨hr3, hw3⟩ := tdiv_rng 3 (by decide) (unhide HR)
  have HR3 := hide hr3
  have hv3 := w64k _ hr3
  obtain ⟨hr4, hw4⟩ := tdiv_rng 4 (by decide) (unhide HR)
  have HR4 := hide hr4
  have hv4 := w64k _ hr4
  obtain ⟨hr5, hw5⟩ := tdiv_rng 5 (by decide) (unhide HR)
  have HR5 := hide hr5
  have hv5 := w64k _ hr5
  obtain ⟨hr6, hw6⟩ := tdiv_rng 6 (by decide) (unhide HR)
  have HR6 := hide hr6
  have hv6 := w64k _ hr6
  obtain ⟨hr7, hw7⟩ := tdiv_rng 7 (by decide) (unhide HR)
  have HR7 := hide hr7
  have hv7 := w64k _ hr7
  obtain ⟨hr8, hw8⟩ := tdiv_rng 8 (by decide) (unhide HR)
  have HR8 := hide hr8
  have hv8 := w64k _ hr8
  obtain ⟨hr9, hw9⟩ := tdiv_rng 9 (by decide) (unhide HR)
  have HR9 := hide hr9
  have hv9 := w64k _ hr9
  obtain ⟨hr11, hw11⟩ := tdiv_rng 11 (by decide) (unhide HR)
  have HR11 := hide hr11
  have hv11 := w64k _ hr11
  clear hr2 hr3 hr4 hr5 hr6 hr7 hr8 hr9 hr11
  have hl_q0 : (spS jtiL r).length ≤ 20 := (spS_len _ _)
  have C_q0 := hide (fun u : World => spelled_any jtiL r u (by decide) (unhide HR))
  have E_q0 : Hid (spS jtiL r = spS jtiL r) := rfl
  generalize hE_q0 : spS jtiL r = q0 at hl_q0 C_q0
  have K_q0 := hide hE_q0
  clear hE_q0 E_q0
  have hl_b1 : (blkS r).length ≤ 4 := (blkS_len _)
  have C_b1 := hide (fun u : World => blanks_any r u (unhide HR))
  have E_b1 : Hid (blkS r = blkS r) := rfl
  generalize hE_b1 : blkS r = b1 at hl_b1 C_b1
  have K_b1 := hide hE_b1
  clear hE_b1 E_b1
  have hl_b3 : (blkS (r.tdiv 3)).length ≤ 4 := (blkS_len _)
  have C_b3 := hide (fun u : World => blanks_any (r.tdiv 3) u (unhide HR3))
  have E_b3 : Hid (blkS (r.tdiv 3) = blkS (r.tdiv 3)) := rfl
  generalize hE_b3 : blkS (r.tdiv 3) = b3 at hl_b3 C_b3
  have K_b3 := hide hE_b3
  clear hE_b3 E_b3
  have hl_di : (Lib.decDigits cr.id).length ≤ 20 := (dd_len _ (unhide HOK).1)
  have C_di := hide (fun u : World => digitsK_any cr.id _ u (unhide HOK).1 (unhide hid))
  have E_di : Hid (Lib.decDigits cr.id = Lib.decDigits cr.id) := rfl
  generalize hE_di : Lib.decDigits cr.id = di at hl_di C_di
  have K_di := hide hE_di
  clear hE_di E_di
  have hl_q1 : (spS subL (r.tdiv 2)).length ≤ 20 := (spS_len _ _)
  have C_q1 := hide (fun u : World => spelled_any subL (r.tdiv 2) u (by decide) (unhide HR2))
  have E_q1 : Hid (spS subL (r.tdiv 2) = spS subL (r.tdiv 2)) := rfl
  generalize hE_q1 : spS subL (r.tdiv 2) = q1 at hl_q1 C_q1
  have K_q1 := hide hE_q1
  clear hE_q1 E_q1
  have hl_qs : (spS cr.sub (r.tdiv 4)).length ≤ 98 := (Nat.le_trans (spS_len _ _) (by have := unhide HSUB; omega))
  have C_qs := hide (fun u : World => spelled_any cr.sub (r.tdiv 4) u (by have := unhide HSUB; omega) (unhide HR4))
  have E_qs : Hid (spS cr.sub (r.tdiv 4) = spS cr.sub (r.tdiv 4)) := rfl
  generalize hE_qs : spS cr.sub (r.tdiv 4) = qs at hl_qs C_qs
  have K_qs := hide hE_qs
  clear hE_qs E_qs
  have hl_q2 : (spS scpL (r.tdiv 3)).length ≤ 20 := (spS_len _ _)
  have C_q2 := hide (fun u : World => spelled_any scpL (r.tdiv 3) u (by decide) (unhide HR3))
  have E_q2 : Hid (spS scpL (r.tdiv 3) = spS scpL (r.tdiv 3)) := rfl
  generalize hE_q2 : spS scpL (r.tdiv 3) = q2 at hl_q2 C_q2
  have K_q2 := hide hE_q2
  clear hE_q2 E_q2
  have hl_t2 : (lsdS cr.scp r).length ≤ 643 := (lsdS_len _ _ (unhide HM).1 (unhide HE).1)
  have C_t2 := hide (fun (u : World) (hu : Below w.heap.size w u) => listedK_any _ cr.scp r u g (by have := hu.size; omega) (by have := (unhide HM).1; omega) (fun k => Nat.le_trans ((unhide HE).1 k) (by decide)) (unhide HR) (((unhide HL2).below (hu.mono (by omega))).k2))
  have E_t2 : Hid (lsdS cr.scp r = lsdS cr.scp r) := rfl
  generalize hE_t2 : lsdS cr.scp r = t2 at hl_t2 C_t2
  have K_t2 := hide hE_t2
  clear hE_t2 E_t2
  have hl_q3 : (spS audL (r.tdiv 5)).length ≤ 20 := (spS_len _ _)
  have C_q3 := hide (fun u : World => spelled_any audL (r.tdiv 5) u (by decide) (unhide HR5))
  have E_q3 : Hid (spS audL (r.tdiv 5) = spS audL (r.tdiv 5)) := rfl
  generalize hE_q3 : spS audL (r.tdiv 5) = q3 at hl_q3 C_q3
  have K_q3 := hide hE_q3
  clear hE_q3 E_q3
  have hl_b2 : (blkS (r.tdiv 2)).length ≤ 4 := (blkS_len _)
  have C_b2 := hide (fun u : World => blanks_any (r.tdiv 2) u (unhide HR2))
  have E_b2 : Hid (blkS (r.tdiv 2) = blkS (r.tdiv 2)) := rfl
  generalize hE_b2 : blkS (r.tdiv 2) = b2 at hl_b2 C_b2
  have K_b2 := hide hE_b2
  clear hE_b2 E_b2
  have hl_t3 : (lsdS cr.aud (r.tdiv 2)).length ≤ 643 := (lsdS_len _ _ (unhide HM).2.1 (unhide HE).2.1)
  have C_t3 := hide (fun (u : World) (hu : Below w.heap.size w u) => listedK_any _ cr.aud (r.tdiv 2) u g (by have := hu.size; omega) (by have := (unhide HM).2.1; omega) (fun k => Nat.le_trans ((unhide HE).2.1 k) (by decide)) (unhide HR2) (((unhide HL2).below (hu.mono (by omega))).k3))
  have E_t3 : Hid (lsdS cr.aud (r.tdiv 2) = lsdS cr.aud (r.tdiv 2)) := rfl
  generalize hE_t3 : lsdS cr.aud (r.tdiv 2) = t3 at hl_t3 C_t3
  have K_t3 := hide hE_t3
  clear hE_t3 E_t3
  have hl_q4 : (spS actL (r.tdiv 7)).length ≤ 20 := (spS_len _ _)
  have C_q4 := hide (fun u : World => spelled_any actL (r.tdiv 7) u (by decide) (unhide HR7))
  have E_q4 : Hid (spS actL (r.tdiv 7) = spS actL (r.tdiv 7)) := rfl
  generalize hE_q4 : spS actL (r.tdiv 7) = q4 at hl_q4 C_q4
  have K_q4 := hide hE_q4
  clear hE_q4 E_q4
  have hl_t4 : (lsdS cr.act (r.tdiv 3)).length ≤ 643 := (lsdS_len _ _ (unhide HM).2.2 (unhide HE).2.2)
  have C_t4 := hide (fun (u : World) (hu : Below w.heap.size w u) => listedK_any _ cr.act (r.tdiv 3) u g (by have := hu.size; omega) (by have := (unhide HM).2.2; omega) (fun k => Nat.le_trans ((unhide HE).2.2 k) (by decide)) (unhide HR3) (((unhide HL2).below (hu.mono (by omega))).k4))
  have E_t4 : Hid (lsdS cr.act (r.tdiv 3) = lsdS cr.act (r.tdiv 3)) := rfl
  generalize hE_t4 : lsdS cr.act (r.tdiv 3) = t4 at hl_t4 C_t4
  have K_t4 := hide hE_t4
  clear hE_t4 E_t4
  have hl_q5 : (spS expL (r.tdiv 9)).length ≤ 20 := (spS_len _ _)
  have C_q5 := hide (fun u : World => spelled_any expL (r.tdiv 9) u (by decide) (unhide HR9))
  have E_q5 : Hid (spS expL (r.tdiv 9) = spS expL (r.tdiv 9)) := rfl
  generalize hE_q5 : spS expL (r.tdiv 9) = q5 at hl_q5 C_q5
  have K_q5 := hide hE_q5
  clear hE_q5 E_q5
  have hl_de : (Lib.decDigits cr.exp).length ≤ 20 := (dd_len _ (unhide HOK).2.2.2.2.2)
  have C_de := hide (fun u : World => digitsK_any cr.exp _ u (unhide HOK).2.2.2.2.2 (unhide hex))
  have E_de : Hid (Lib.decDigits cr.exp = Lib.decDigits cr.exp) := rfl
  generalize hE_de : Lib.decDigits cr.exp = de at hl_de C_de
  have K_de := hide hE_de
  clear hE_de E_de
  obtain ⟨z1, hc_z1, hl_z1, hcat_z1⟩ := cat_is q0 b1 20 4 hl_q0 hl_b1 (by decide)
  have Z_z1 := hide hc_z1
  clear hc_z1
  obtain ⟨z2, hc_z2, hl_z2, hcat_z2⟩ := cat_is z1 [58] 24 1 hl_z1 (by decide) (by decide)
  have Z_z2 := hide hc_z2
  clear hc_z2
  obtain ⟨z3, hc_z3, hl_z3, hcat_z3⟩ := cat_is z2 b3 25 4 hl_z2 hl_b3 (by decide)
  have Z_z3 := hide hc_z3
  clear hc_z3
  obtain ⟨f0, hc_f0, hl_f0, hcat_f0⟩ := cat_is z3 di 29 20 hl_z3 hl_di (by decide)
  have Z_f0 := hide hc_f0
  clear hc_f0
  obtain ⟨z4, hc_z4, hl_z4, hcat_z4⟩ := cat_is q1 [58] 20 1 hl_q1 (by decide) (by decide)
  have Z_z4 := hide hc_z4
  clear hc_z4
  obtain ⟨f1, hc_f1, hl_f1, hcat_f1⟩ := cat_is z4 qs 21 98 hl_z4 hl_qs (by decide)
  have Z_f1 := hide hc_f1
  clear hc_f1
  obtain ⟨z5, hc_z5, hl_z5, hcat_z5⟩ := cat_is q2 [58] 20 1 hl_q2 (by decide) (by decide)
  have Z_z5 := hide hc_z5
  clear hc_z5
  obtain ⟨f2, hc_f2, hl_f2, hcat_f2⟩ := cat_is z5 t2 21 643 hl_z5 hl_t2 (by decide)
  have Z_f2 := hide hc_f2
  clear hc_f2
  obtain ⟨z6, hc_z6, hl_z6, hcat_z6⟩ := cat_is q3 b2 20 4 hl_q3 hl_b2 (by decide)
  have Z_z6 := hide hc_z6
  clear hc_z6
  obtain ⟨z7, hc_z7, hl_z7, hcat_z7⟩ := cat_is z6 [58] 24 1 hl_z6 (by decide) (by decide)
  have Z_z7 := hide hc_z7
  clear hc_z7
  obtain ⟨f3, hc_f3, hl_f3, hcat_f3⟩ := cat_is z7 t3 25 643 hl_z7 hl_t3 (by decide)
  have Z_f3 := hide hc_f3
  clear hc_f3
  obtain ⟨z8, hc_z8, hl_z8, hcat_z8⟩ := cat_is q4 [58] 20 1 hl_q4 (by decide) (by decide)
  have Z_z8 := hide hc_z8
  clear hc_z8
  obtain ⟨f4, hc_f4, hl_f4, hcat_f4⟩ := cat_is z8 t4 21 643 hl_z8 hl_t4 (by decide)
  have Z_f4 := hide hc_f4
  clear hc_f4
  obtain ⟨z9, hc_z9, hl_z9, hcat_z9⟩ := cat_is q5 [58] 20 1 hl_q5 (by decide) (by decide)
  have Z_z9 := hide hc_z9
  clear hc_z9
  obtain ⟨f5, hc_f5, hl_f5, hcat_f5⟩ := cat_is z9 de 21 20 hl_z9 hl_de (by decide)
  have Z_f5 := hide hc_f5
  clear hc_f5
  clear hl_q0 hl_b1 hl_b3 hl_di hl_q1 hl_qs hl_q2 hl_t2 hl_q3 hl_b2 hl_t3 hl_q4 hl_t4 hl_q5 hl_de hl_z1 hl_z2 hl_z3 hl_z4 hl_z5 hl_z6 hl_z7 hl_z8 hl_z9
  have EQ0 : Hid (f0 = fldT cr r 0) := by
    show f0 = _
    rw [unhide Z_f0, unhide Z_z3, unhide Z_z2, unhide Z_z1, ← unhide K_q0, ← unhide K_b1, ← unhide K_b3, ← unhide K_di, fldT]
  have EQ1 : Hid (f1 = fldT cr r 1) := by
    show f1 = _
    rw [unhide Z_f1, unhide Z_z4, ← unhide K_q1, ← unhide K_qs, fldT]
  have EQ2 : Hid (f2 = fldT cr r 2) := by
    show f2 = _
    rw [unhide Z_f2, unhide Z_z5, ← unhide K_q2, ← unhide K_t2, fldT]
  have EQ3 : Hid (f3 = fldT cr r 3) := by
    show f3 = _
    rw [unhide Z_f3, unhide Z_z7, unhide Z_z6, ← unhide K_q3, ← unhide K_b2, ← unhide K_t3, fldT]
  have EQ4 : Hid (f4 = fldT cr r 4) := by
    show f4 = _
    rw [unhide Z_f4, unhide Z_z8, ← unhide K_q4, ← unhide K_t4, fldT]
  have EQ5 : Hid (f5 = fldT cr r 5) := by
    show f5 = _
    rw [unhide Z_f5, unhide Z_z9, ← unhide K_q5, ← unhide K_de]
    rfl
  have HE4 := hide (fun (u : World) (hu : Below w.heap.size w u) => sp_4 r o wrong g u.heap.size cr p1 (w0 := w0) (w := u.alloc (.cells #[.string ⟨f0.toArray⟩, .string ⟨f1.toArray⟩, .string ⟨f2.toArray⟩, .string ⟨f3.toArray⟩, .string ⟨f4.toArray⟩, .string ⟨f5.toArray⟩] 9)) (hT := unhide HT) (hb := ((unhide HB).trans (hu.mono (unhide HB).size)).alloc (Nat.le_trans (unhide HB).size hu.size) _) (hr := unhide HR) (ho := unhide HOR) (hwr := unhide HWR) (hrt := unhide HRt) (hR := ((unhide HRX).below hu hgl).alloc _) (hL := ((unhide HL2).below (hu.mono (Nat.le_of_lt hgl))).below ((Below.refl g u).alloc (Nat.le_of_lt (Nat.lt_of_lt_of_le hgl hu.size)) _)) (hgf := Nat.lt_of_lt_of_le hgl hu.size) (h0f := Nat.le_trans (unhide HB).size hu.size) (hF := Row.new u 9 _ _ 6 rfl (six (congrArg (fun l => some (sv l)) (unhide EQ0)) (congrArg (fun l => some (sv l)) (unhide EQ1)) (congrArg (fun l => some (sv l)) (unhide EQ2)) (congrArg (fun l => some (sv l)) (unhide EQ3)) (congrArg (fun l => some (sv l)) (unhide EQ4)) (congrArg (fun l => some (sv l)) (unhide EQ5)))))
  have ro0 : w.cell? ⟨g, 0, none⟩ = some (.int .i64 cr.z.id) := ((unhide HROW) _ (Below.refl _ _)).cell (by decide)
  have ro1 : w.cell? ⟨g, 1, none⟩ = some (.string ⟨cr.z.sub.toArray⟩) := ((unhide HROW) _ (Below.refl _ _)).cell (by decide)
  have ro2 : w.cell? ⟨g, 2, none⟩ = some (.slice p1.a2 cr.z.scp.length p1.c2) := ((unhide HROW) _ (Below.refl _ _)).cell (by decide)
  have ro3 : w.cell? ⟨g, 3, none⟩ = some (.slice p1.a3 cr.z.aud.length p1.c3) := ((unhide HROW) _ (Below.refl _ _)).cell (by decide)
  have ro4 : w.cell? ⟨g, 4, none⟩ = some (.slice p1.a4 cr.z.act.length p1.c4) := ((unhide HROW) _ (Below.refl _ _)).cell (by decide)
  have ro5 : w.cell? ⟨g, 5, none⟩ = some (.int .i64 cr.z.exp) := ((unhide HROW) _ (Below.refl _ _)).cell (by decide)
  conv => arg 2; whnf
  apply wp_seq_k
  intro K1 hK1
  have HK1 := hide hK1
  clear hK1
  go_wp2_with fail
  simp only [List.append_eq, List.cons_append, List.nil_append]
  have HY0 : Hid (Below w.heap.size w w.drew) := (Below.refl _ _).drew
  go_region_held3 (fun w' => w'.cell? ⟨g, 0, none⟩ = some (.int .i64 cr.z.id) ∧ w'.cell? ⟨g, 1, none⟩ = some (.string ⟨cr.z.sub.toArray⟩) ∧ w'.cell? ⟨g, 2, none⟩ = some (.slice p1.a2 cr.z.scp.length p1.c2) ∧ w'.cell? ⟨g, 3, none⟩ = some (.slice p1.a3 cr.z.aud.length p1.c3) ∧ w'.cell? ⟨g, 4, none⟩ = some (.slice p1.a4 cr.z.act.length p1.c4) ∧ w'.cell? ⟨g, 5, none⟩ = some (.int .i64 cr.z.exp)) (go_keep)
    (first
      | (go_at_call 24; have hk := HY14; clear hk; refine (unhide C_de _).mono ?_; rintro e y14 ⟨rfl, hb, _⟩; have HY15 := hide ((unhide HY14).trans (hb.mono (unhide HY14).size)); clear hb; have t14_0 : y14.cell? ⟨g, 0, none⟩ = some (.int .i64 cr.z.id) := ((unhide HROW) _ (unhide HY15)).cell (by decide); have t14_1 : y14.cell? ⟨g, 1, none⟩ = some (.string ⟨cr.z.sub.toArray⟩) := ((unhide HROW) _ (unhide HY15)).cell (by decide); have t14_2 : y14.cell? ⟨g, 2, none⟩ = some (.slice p1.a2 cr.z.scp.length p1.c2) := ((unhide HROW) _ (unhide HY15)).cell (by decide); have t14_3 : y14.cell? ⟨g, 3, none⟩ = some (.slice p1.a3 cr.z.aud.length p1.c3) := ((unhide HROW) _ (unhide HY15)).cell (by decide); have t14_4 : y14.cell? ⟨g, 4, none⟩ = some (.slice p1.a4 cr.z.act.length p1.c4) := ((unhide HROW) _ (unhide HY15)).cell (by decide); have t14_5 : y14.cell? ⟨g, 5, none⟩ = some (.int .i64 cr.z.exp) := ((unhide HROW) _ (unhide HY15)).cell (by decide); try dsimp only)
      | (go_at_call 22; have hk := HY13; clear hk; refine (unhide C_q5 _).mono ?_; rintro e y13 ⟨rfl, hb⟩; have HY14 := hide ((unhide HY13).trans (hb.mono (unhide HY13).size)); clear hb; have t13_0 : y13.cell? ⟨g, 0, none⟩ = some (.int .i64 cr.z.id) := ((unhide HROW) _ (unhide HY14)).cell (by decide); have t13_1 : y13.cell? ⟨g, 1, none⟩ = some (.string ⟨cr.z.sub.toArray⟩) := ((unhide HROW) _ (unhide HY14)).cell (by decide); have t13_2 : y13.cell? ⟨g, 2, none⟩ = some (.slice p1.a2 cr.z.scp.length p1.c2) := ((unhide HROW) _ (unhide HY14)).cell (by decide); have t13_3 : y13.cell? ⟨g, 3, none⟩ = some (.slice p1.a3 cr.z.aud.length p1.c3) := ((unhide HROW) _ (unhide HY14)).cell (by decide); have t13_4 : y13.cell? ⟨g, 4, none⟩ = some (.slice p1.a4 cr.z.act.length p1.c4) := ((unhide HROW) _ (unhide HY14)).cell (by decide); have t13_5 : y13.cell? ⟨g, 5, none⟩ = some (.int .i64 cr.z.exp) := ((unhide HROW) _ (unhide HY14)).cell (by decide); try dsimp only)
      | (go_at_call 25; have hk := HY12; clear hk; refine (unhide C_t4 _ (unhide HY12)).mono ?_; rintro e y12 ⟨rfl, hb⟩; have HY13 := hide ((unhide HY12).trans (hb.mono (unhide HY12).size)); clear hb; have t12_0 : y12.cell? ⟨g, 0, none⟩ = some (.int .i64 cr.z.id) := ((unhide HROW) _ (unhide HY13)).cell (by decide); have t12_1 : y12.cell? ⟨g, 1, none⟩ = some (.string ⟨cr.z.sub.toArray⟩) := ((unhide HROW) _ (unhide HY13)).cell (by decide); have t12_2 : y12.cell? ⟨g, 2, none⟩ = some (.slice p1.a2 cr.z.scp.length p1.c2) := ((unhide HROW) _ (unhide HY13)).cell (by decide); have t12_3 : y12.cell? ⟨g, 3, none⟩ = some (.slice p1.a3 cr.z.aud.length p1.c3) := ((unhide HROW) _ (unhide HY13)).cell (by decide); have t12_4 : y12.cell? ⟨g, 4, none⟩ = some (.slice p1.a4 cr.z.act.length p1.c4) := ((unhide HROW) _ (unhide HY13)).cell (by decide); have t12_5 : y12.cell? ⟨g, 5, none⟩ = some (.int .i64 cr.z.exp) := ((unhide HROW) _ (unhide HY13)).cell (by decide); try dsimp only)
      | (go_at_call 22; have hk := HY11; clear hk; refine (unhide C_q4 _).mono ?_; rintro e y11 ⟨rfl, hb⟩; have HY12 := hide ((unhide HY11).trans (hb.mono (unhide HY11).size)); clear hb; have t11_0 : y11.cell? ⟨g, 0, none⟩ = some (.int .i64 cr.z.id) := ((unhide HROW) _ (unhide HY12)).cell (by decide); have t11_1 : y11.cell? ⟨g, 1, none⟩ = some (.string ⟨cr.z.sub.toArray⟩) := ((unhide HROW) _ (unhide HY12)).cell (by decide); have t11_2 : y11.cell? ⟨g, 2, none⟩ = some (.slice p1.a2 cr.z.scp.length p1.c2) := ((unhide HROW) _ (unhide HY12)).cell (by decide); have t11_3 : y11.cell? ⟨g, 3, none⟩ = some (.slice p1.a3 cr.z.aud.length p1.c3) := ((unhide HROW) _ (unhide HY12)).cell (by decide); have t11_4 : y11.cell? ⟨g, 4, none⟩ = some (.slice p1.a4 cr.z.act.length p1.c4) := ((unhide HROW) _ (unhide HY12)).cell (by decide); have t11_5 : y11.cell? ⟨g, 5, none⟩ = some (.int .i64 cr.z.exp) := ((unhide HROW) _ (unhide HY12)).cell (by decide); try dsimp only)
      | (go_at_call 25; have hk := HY10; clear hk; refine (unhide C_t3 _ (unhide HY10)).mono ?_; rintro e y10 ⟨rfl, hb⟩; have HY11 := hide ((unhide HY10).trans (hb.mono (unhide HY10).size)); clear hb; have t10_0 : y10.cell? ⟨g, 0, none⟩ = some (.int .i64 cr.z.id) := ((unhide HROW) _ (unhide HY11)).cell (by decide); have t10_1 : y10.cell? ⟨g, 1, none⟩ = some (.string ⟨cr.z.sub.toArray⟩) := ((unhide HROW) _ (unhide HY11)).cell (by decide); have t10_2 : y10.cell? ⟨g, 2, none⟩ = some (.slice p1.a2 cr.z.scp.length p1.c2) := ((unhide HROW) _ (unhide HY11)).cell (by decide); have t10_3 : y10.cell? ⟨g, 3, none⟩ = some (.slice p1.a3 cr.z.aud.length p1.c3) := ((unhide HROW) _ (unhide HY11)).cell (by decide); have t10_4 : y10.cell? ⟨g, 4, none⟩ = some (.slice p1.a4 cr.z.act.length p1.c4) := ((unhide HROW) _ (unhide HY11)).cell (by decide); have t10_5 : y10.cell? ⟨g, 5, none⟩ = some (.int .i64 cr.z.exp) := ((unhide HROW) _ (unhide HY11)).cell (by decide); try dsimp only)
      | (go_at_call 23; have hk := HY9; clear hk; refine (unhide C_b2 _).mono ?_; rintro e y9 ⟨rfl, hb⟩; have HY10 := hide ((unhide HY9).trans (hb.mono (unhide HY9).size)); clear hb; have t9_0 : y9.cell? ⟨g, 0, none⟩ = some (.int .i64 cr.z.id) := ((unhide HROW) _ (unhide HY10)).cell (by decide); have t9_1 : y9.cell? ⟨g, 1, none⟩ = some (.string ⟨cr.z.sub.toArray⟩) := ((unhide HROW) _ (unhide HY10)).cell (by decide); have t9_2 : y9.cell? ⟨g, 2, none⟩ = some (.slice p1.a2 cr.z.scp.length p1.c2) := ((unhide HROW) _ (unhide HY10)).cell (by decide); have t9_3 : y9.cell? ⟨g, 3, none⟩ = some (.slice p1.a3 cr.z.aud.length p1.c3) := ((unhide HROW) _ (unhide HY10)).cell (by decide); have t9_4 : y9.cell? ⟨g, 4, none⟩ = some (.slice p1.a4 cr.z.act.length p1.c4) := ((unhide HROW) _ (unhide HY10)).cell (by decide); have t9_5 : y9.cell? ⟨g, 5, none⟩ = some (.int .i64 cr.z.exp) := ((unhide HROW) _ (unhide HY10)).cell (by decide); try dsimp only)
      | (go_at_call 22; have hk := HY8; clear hk; refine (unhide C_q3 _).mono ?_; rintro e y8 ⟨rfl, hb⟩; have HY9 := hide ((unhide HY8).trans (hb.mono (unhide HY8).size)); clear hb; have t8_0 : y8.cell? ⟨g, 0, none⟩ = some (.int .i64 cr.z.id) := ((unhide HROW) _ (unhide HY9)).cell (by decide); have t8_1 : y8.cell? ⟨g, 1, none⟩ = some (.string ⟨cr.z.sub.toArray⟩) := ((unhide HROW) _ (unhide HY9)).cell (by decide); have t8_2 : y8.cell? ⟨g, 2, none⟩ = some (.slice p1.a2 cr.z.scp.length p1.c2) := ((unhide HROW) _ (unhide HY9)).cell (by decide); have t8_3 : y8.cell? ⟨g, 3, none⟩ = some (.slice p1.a3 cr.z.aud.length p1.c3) := ((unhide HROW) _ (unhide HY9)).cell (by decide); have t8_4 : y8.cell? ⟨g, 4, none⟩ = some (.slice p1.a4 cr.z.act.length p1.c4) := ((unhide HROW) _ (unhide HY9)).cell (by decide); have t8_5 : y8.cell? ⟨g, 5, none⟩ = some (.int .i64 cr.z.exp) := ((unhide HROW) _ (unhide HY9)).cell (by decide); try dsimp only)
      | (go_at_call 25; have hk := HY7; clear hk; refine (unhide C_t2 _ (unhide HY7)).mono ?_; rintro e y7 ⟨rfl, hb⟩; have HY8 := hide ((unhide HY7).trans (hb.mono (unhide HY7).size)); clear hb; have t7_0 : y7.cell? ⟨g, 0, none⟩ = some (.int .i64 cr.z.id) := ((unhide HROW) _ (unhide HY8)).cell (by decide); have t7_1 : y7.cell? ⟨g, 1, none⟩ = some (.string ⟨cr.z.sub.toArray⟩) := ((unhide HROW) _ (unhide HY8)).cell (by decide); have t7_2 : y7.cell? ⟨g, 2, none⟩ = some (.slice p1.a2 cr.z.scp.length p1.c2) := ((unhide HROW) _ (unhide HY8)).cell (by decide); have t7_3 : y7.cell? ⟨g, 3, none⟩ = some (.slice p1.a3 cr.z.aud.length p1.c3) := ((unhide HROW) _ (unhide HY8)).cell (by decide); have t7_4 : y7.cell? ⟨g, 4, none⟩ = some (.slice p1.a4 cr.z.act.length p1.c4) := ((unhide HROW) _ (unhide HY8)).cell (by decide); have t7_5 : y7.cell? ⟨g, 5, none⟩ = some (.int .i64 cr.z.exp) := ((unhide HROW) _ (unhide HY8)).cell (by decide); try dsimp only)
      | (go_at_call 22; have hk := HY6; clear hk; refine (unhide C_q2 _).mono ?_; rintro e y6 ⟨rfl, hb⟩; have HY7 := hide ((unhide HY6).trans (hb.mono (unhide HY6).size)); clear hb; have t6_0 : y6.cell? ⟨g, 0, none⟩ = some (.int .i64 cr.z.id) := ((unhide HROW) _ (unhide HY7)).cell (by decide); have t6_1 : y6.cell? ⟨g, 1, none⟩ = some (.string ⟨cr.z.sub.toArray⟩) := ((unhide HROW) _ (unhide HY7)).cell (by decide); have t6_2 : y6.cell? ⟨g, 2, none⟩ = some (.slice p1.a2 cr.z.scp.length p1.c2) := ((unhide HROW) _ (unhide HY7)).cell (by decide); have t6_3 : y6.cell? ⟨g, 3, none⟩ = some (.slice p1.a3 cr.z.aud.length p1.c3) := ((unhide HROW) _ (unhide HY7)).cell (by decide); have t6_4 : y6.cell? ⟨g, 4, none⟩ = some (.slice p1.a4 cr.z.act.length p1.c4) := ((unhide HROW) _ (unhide HY7)).cell (by decide); have t6_5 : y6.cell? ⟨g, 5, none⟩ = some (.int .i64 cr.z.exp) := ((unhide HROW) _ (unhide HY7)).cell (by decide); try dsimp only)
      | (go_at_call 22; have hk := HY5; clear hk; refine (unhide C_qs _).mono ?_; rintro e y5 ⟨rfl, hb⟩; have HY6 := hide ((unhide HY5).trans (hb.mono (unhide HY5).size)); clear hb; have t5_0 : y5.cell? ⟨g, 0, none⟩ = some (.int .i64 cr.z.id) := ((unhide HROW) _ (unhide HY6)).cell (by decide); have t5_1 : y5.cell? ⟨g, 1, none⟩ = some (.string ⟨cr.z.sub.toArray⟩) := ((unhide HROW) _ (unhide HY6)).cell (by decide); have t5_2 : y5.cell? ⟨g, 2, none⟩ = some (.slice p1.a2 cr.z.scp.length p1.c2) := ((unhide HROW) _ (unhide HY6)).cell (by decide); have t5_3 : y5.cell? ⟨g, 3, none⟩ = some (.slice p1.a3 cr.z.aud.length p1.c3) := ((unhide HROW) _ (unhide HY6)).cell (by decide); have t5_4 : y5.cell? ⟨g, 4, none⟩ = some (.slice p1.a4 cr.z.act.length p1.c4) := ((unhide HROW) _ (unhide HY6)).cell (by decide); have t5_5 : y5.cell? ⟨g, 5, none⟩ = some (.int .i64 cr.z.exp) := ((unhide HROW) _ (unhide HY6)).cell (by decide); try dsimp only)
      | (go_at_call 22; have hk := HY4; clear hk; refine (unhide C_q1 _).mono ?_; rintro e y4 ⟨rfl, hb⟩; have HY5 := hide ((unhide HY4).trans (hb.mono (unhide HY4).size)); clear hb; have t4_0 : y4.cell? ⟨g, 0, none⟩ = some (.int .i64 cr.z.id) := ((unhide HROW) _ (unhide HY5)).cell (by decide); have t4_1 : y4.cell? ⟨g, 1, none⟩ = some (.string ⟨cr.z.sub.toArray⟩) := ((unhide HROW) _ (unhide HY5)).cell (by decide); have t4_2 : y4.cell? ⟨g, 2, none⟩ = some (.slice p1.a2 cr.z.scp.length p1.c2) := ((unhide HROW) _ (unhide HY5)).cell (by decide); have t4_3 : y4.cell? ⟨g, 3, none⟩ = some (.slice p1.a3 cr.z.aud.length p1.c3) := ((unhide HROW) _ (unhide HY5)).cell (by decide); have t4_4 : y4.cell? ⟨g, 4, none⟩ = some (.slice p1.a4 cr.z.act.length p1.c4) := ((unhide HROW) _ (unhide HY5)).cell (by decide); have t4_5 : y4.cell? ⟨g, 5, none⟩ = some (.int .i64 cr.z.exp) := ((unhide HROW) _ (unhide HY5)).cell (by decide); try dsimp only)
      | (go_at_call 24; have hk := HY3; clear hk; refine (unhide C_di _).mono ?_; rintro e y3 ⟨rfl, hb, _⟩; have HY4 := hide ((unhide HY3).trans (hb.mono (unhide HY3).size)); clear hb; have t3_0 : y3.cell? ⟨g, 0, none⟩ = some (.int .i64 cr.z.id) := ((unhide HROW) _ (unhide HY4)).cell (by decide); have t3_1 : y3.cell? ⟨g, 1, none⟩ = some (.string ⟨cr.z.sub.toArray⟩) := ((unhide HROW) _ (unhide HY4)).cell (by decide); have t3_2 : y3.cell? ⟨g, 2, none⟩ = some (.slice p1.a2 cr.z.scp.length p1.c2) := ((unhide HROW) _ (unhide HY4)).cell (by decide); have t3_3 : y3.cell? ⟨g, 3, none⟩ = some (.slice p1.a3 cr.z.aud.length p1.c3) := ((unhide HROW) _ (unhide HY4)).cell (by decide); have t3_4 : y3.cell? ⟨g, 4, none⟩ = some (.slice p1.a4 cr.z.act.length p1.c4) := ((unhide HROW) _ (unhide HY4)).cell (by decide); have t3_5 : y3.cell? ⟨g, 5, none⟩ = some (.int .i64 cr.z.exp) := ((unhide HROW) _ (unhide HY4)).cell (by decide); try dsimp only)
      | (go_at_call 23; have hk := HY2; clear hk; refine (unhide C_b3 _).mono ?_; rintro e y2 ⟨rfl, hb⟩; have HY3 := hide ((unhide HY2).trans (hb.mono (unhide HY2).size)); clear hb; have t2_0 : y2.cell? ⟨g, 0, none⟩ = some (.int .i64 cr.z.id) := ((unhide HROW) _ (unhide HY3)).cell (by decide); have t2_1 : y2.cell? ⟨g, 1, none⟩ = some (.string ⟨cr.z.sub.toArray⟩) := ((unhide HROW) _ (unhide HY3)).cell (by decide); have t2_2 : y2.cell? ⟨g, 2, none⟩ = some (.slice p1.a2 cr.z.scp.length p1.c2) := ((unhide HROW) _ (unhide HY3)).cell (by decide); have t2_3 : y2.cell? ⟨g, 3, none⟩ = some (.slice p1.a3 cr.z.aud.length p1.c3) := ((unhide HROW) _ (unhide HY3)).cell (by decide); have t2_4 : y2.cell? ⟨g, 4, none⟩ = some (.slice p1.a4 cr.z.act.length p1.c4) := ((unhide HROW) _ (unhide HY3)).cell (by decide); have t2_5 : y2.cell? ⟨g, 5, none⟩ = some (.int .i64 cr.z.exp) := ((unhide HROW) _ (unhide HY3)).cell (by decide); try dsimp only)
      | (go_at_call 23; have hk := HY1; clear hk; refine (unhide C_b1 _).mono ?_; rintro e y1 ⟨rfl, hb⟩; have HY2 := hide ((unhide HY1).trans (hb.mono (unhide HY1).size)); clear hb; have t1_0 : y1.cell? ⟨g, 0, none⟩ = some (.int .i64 cr.z.id) := ((unhide HROW) _ (unhide HY2)).cell (by decide); have t1_1 : y1.cell? ⟨g, 1, none⟩ = some (.string ⟨cr.z.sub.toArray⟩) := ((unhide HROW) _ (unhide HY2)).cell (by decide); have t1_2 : y1.cell? ⟨g, 2, none⟩ = some (.slice p1.a2 cr.z.scp.length p1.c2) := ((unhide HROW) _ (unhide HY2)).cell (by decide); have t1_3 : y1.cell? ⟨g, 3, none⟩ = some (.slice p1.a3 cr.z.aud.length p1.c3) := ((unhide HROW) _ (unhide HY2)).cell (by decide); have t1_4 : y1.cell? ⟨g, 4, none⟩ = some (.slice p1.a4 cr.z.act.length p1.c4) := ((unhide HROW) _ (unhide HY2)).cell (by decide); have t1_5 : y1.cell? ⟨g, 5, none⟩ = some (.int .i64 cr.z.exp) := ((unhide HROW) _ (unhide HY2)).cell (by decide); try dsimp only)
      | (go_at_call 22; have hk := HY0; clear hk; refine (unhide C_q0 _).mono ?_; rintro e y0 ⟨rfl, hb⟩; have HY1 := hide ((unhide HY0).trans (hb.mono (unhide HY0).size)); clear hb; have t0_0 : y0.cell? ⟨g, 0, none⟩ = some (.int .i64 cr.z.id) := ((unhide HROW) _ (unhide HY1)).cell (by decide); have t0_1 : y0.cell? ⟨g, 1, none⟩ = some (.string ⟨cr.z.sub.toArray⟩) := ((unhide HROW) _ (unhide HY1)).cell (by decide); have t0_2 : y0.cell? ⟨g, 2, none⟩ = some (.slice p1.a2 cr.z.scp.length p1.c2) := ((unhide HROW) _ (unhide HY1)).cell (by decide); have t0_3 : y0.cell? ⟨g, 3, none⟩ = some (.slice p1.a3 cr.z.aud.length p1.c3) := ((unhide HROW) _ (unhide HY1)).cell (by decide); have t0_4 : y0.cell? ⟨g, 4, none⟩ = some (.slice p1.a4 cr.z.act.length p1.c4) := ((unhide HROW) _ (unhide HY1)).cell (by decide); have t0_5 : y0.cell? ⟨g, 5, none⟩ = some (.int .i64 cr.z.exp) := ((unhide HROW) _ (unhide HY1)).cell (by decide); try dsimp only))
  go_wp2_with fail
  refine unhide HK1 _ _ ?_
  apply unhide HE4 _ (unhide HY15)
end Go.Proofs.YtkmkkmdpjliifaaGreatDoor
