import Derived.Test.YtkmkkmdpjliifaaGreatDoorSpE
namespace Go.Proofs.YtkmkkmdpjliifaaGreatDoor
open Go.ChangeShapes Go.WideShapes Go.ChangeAt Go.RowKit

theorem sixB_len {c : Cm} (h : rightB c.z = true) (r o : Int) (s : Nat) : (sixB c r o s).length ≤ 5000 := by
  have h1 := bldT_len [] [] (fldT c r) ((prm o).drop s) 668 (by decide) (by decide) (fldT_len h r) (6 - s)
  have h2 := blkS_len r
  have h3 : (668 + 9) * (6 - s) ≤ 677 * 6 := Nat.mul_le_mul_left _ (Nat.sub_le _ _)
  unfold sixB
  simp only [List.length_append, List.length_cons, List.length_nil]
  omega
set_option maxRecDepth 20000 in
set_option maxHeartbeats 4000000 in
theorem sp_11 (r o : Int) (g gt ot ct kk : Nat) (cr : Cm) (p1 : Pl) (u0 u1 u2 u3 u4 u5 u6 u8 u9 u10 u11 u12 u13 u14 u15 u16 u17 u18 u21 u23 u24 u27 u29 u30 u31 u32 u33 u34 u35 u36 u37 u38 u39 u40 u41 u42 u43 u44 u45 u46 u47 u48 u49 u50 u51 u52 u53 u54 u55 u56 u57 u58 u59 u60 u61 u62 u63 u64 u65 u66 u67 u68 u69 u70 u71 u72 u73 u74 u75 u76 u77 u78 u79 u80 u81 u82 u83 u84 u85 u86 u87 u88 u89 u90 u91 u92 u93 u94 u95 u96 u97 u98 u99 u100 u101 u102 u103 u104 u105 u106 u107 u108 u109 u110 u111 u112 u113 u114 u115 u116 u117 u118 u119 u120 u121 u122 u123 u124 u125 u126 u127 u128 u129 u130 u131 u132 u133 u134 u135 u136 u137 u138 u139 u140 u141 u142 u143 u144 u145 u146 u147 u148 u149 u150 u151 u152 u153 u154 u155 u156 u157 u158 u159 u160 u161 u162 u163 u164 u165 u166 u167 u168 u169 u170 u171 u172 u173 u174 u175 u176 u177 u178 u179 u180 u181 u182 u183 u184 u185 u186 u187 u188 u189 u190 u191 u192 u193 u194 u195 u196 u197 u198 u199 u200 u201 u202 u203 u204 u205 u206 u207 u208 u209 u210 u211 u212 u213 u214 u215 u216 u217 u218 u219 u220 u221 u222 u223 u224 u225 u226 u227 u228 u229 u230 u231 u232 u233 u234 u235 u236 u237 u238 u239 u240 u241 u242 u243 u244 u245 u246 u247 u248 u249 u250 u251 u252 u253 u254 u255 u256 u257 u258 u259 u260 u261 u262 u263 u264 u265 : Value) (w0 w : World) (hT : TT w0.heap.size w0) (hb : Below w0.heap.size w0 w) (hr : -9223372036854775808 ≤ r ∧ r ≤ 9223372036854775807)
    (hrt : rightB cr.z = true) (hR : Row w g 60 6 (czF cr.z p1)) (hL : CzL w g cr.z p1) (hk : kk < 3) (h22 : w.cell? ⟨gt, ot, none⟩ = some (.string ⟨(fldT cr r ((prm o).getD 0 0)).toArray⟩)) :
    Code.wp Tryz.prog (r5 11) (bodyPost Tryz.prog Tryz.f5 fun e w' => e = .returned (.bool true) ∧ Below w0.heap.size w0 w') ⟨#[u0, u1, u2, u3, u4, u5, u6, .int .i64 r, u8, u9, u10, u11, u12, u13, u14, u15, u16, u17, u18, .bool true, .pointer (some ⟨g, 0, none⟩), u21, .slice (some ⟨gt, ot, none⟩) 6 ct, u23, u24, .string ⟨(sixT cr r o).toArray⟩, .string ⟨(sixB cr r o (kk % 2)).toArray⟩, u27, .int .i64 (kk : Nat), u29, u30, u31, u32, u33, u34, u35, u36, u37, u38, u39, u40, u41, u42, u43, u44, u45, u46, u47, u48, u49, u50, u51, u52, u53, u54, u55, u56, u57, u58, u59, u60, u61, u62, u63, u64, u65, u66, u67, u68, u69, u70, u71, u72, u73, u74, u75, u76, u77, u78, u79, u80, u81, u82, u83, u84, u85, u86, u87, u88, u89, u90, u91, u92, u93, u94, u95, u96, u97, u98, u99, u100, u101, u102, u103, u104, u105, u106, u107, u108, u109, u110, u111, u112, u113, u114, u115, u116, u117, u118, u119, u120, u121, u122, u123, u124, u125, u126, u127, u128, u129, u130, u131, u132, u133, u134, u135, u136, u137, u138, u139, u140, u141, u142, u143, u144, u145, u146, u147, u148, u149, u150, u151, u152, u153, u154, u155, u156, u157, u158, u159, u160, u161, u162, u163, u164, u165, u166, u167, u168, u169, u170, u171, u172, u173, u174, u175, u176, u177, u178, u179, u180, u181, u182, u183, u184, u185, u186, u187, u188, u189, u190, u191, u192, u193, u194, u195, u196, u197, u198, u199, u200, u201, u202, u203, u204, u205, u206, u207, u208, u209, u210, u211, u212, u213, u214, u215, u216, u217, u218, u219, u220, u221, u222, u223, u224, u225, u226, u227, u228, u229, u230, u231, u232, u233, u234, u235, u236, u237, u238, u239, u240, u241, u242, u243, u244, u245, u246, u247, u248, u249, u250, u251, u252, u253, u254, u255, u256, u257, u258, u259, u260, u261, u262, u263, u264, u265], []⟩ w := by
  have hl := sixB_len hrt r o (kk % 2)
  have hf := fldT_len hrt r ((prm o).getD 0 0)
  have E := fun (Bd : List UInt8) (hlB : Bd.length ≤ 8192) (h2 : parseS (Bd ++ [125]) = none) => sp_end r g (sixT cr r o) Bd cr p1 (w0 := w0) (w := w) (hT := hT) (hb := hb) (hr := hr) (hR := hR) (hL := hL) (hlT := sixT_len hrt r o) (hlB := hlB) (h1 := parse_six hrt r o) (h2 := h2) (h3 := fun x y hx => parse_more hrt r o x y hx)
  have PA : Hid (∀ y, parseS (sixB cr r o 0 ++ [44] ++ y) = none) := fun y => parse_twice hrt r o y
  have PB : Hid (parseS (sixB cr r o 1 ++ [125]) = none) := parse_less hrt r o
  generalize fldT cr r ((prm o).getD 0 0) = F0 at *
  generalize sixT cr r o = T at *
  have HE := hide E
  clear E hT hb hr hrt hR hL
  have h3 : kk = 0 ∨ kk = 1 ∨ kk = 2 := by omega
  clear hk
  rcases h3 with rfl | rfl | rfl
  · rw [show (0 : Nat) % 2 = 0 from rfl] at *
    generalize sixB cr r o 0 = S at *
    obtain ⟨z1, hz1, hlz1, k1⟩ := cat_is S [44] 5000 1 hl (by decide) (by decide)
    obtain ⟨z2, hz2, hlz2, k2⟩ := cat_is z1 F0 _ 668 hlz1 hf (by decide)
    have P : Hid (parseS (z2 ++ [125]) = none) := by rw [hz2, hz1, List.append_assoc]; exact unhide PA _
    have HZ := hide hlz2
    clear hz1 hz2 hlz1 hlz2 hl hf PA PB
    conv => arg 2; whnf
    apply wp_seq_k
    intro K1 hK1
    have HK1 := hide hK1
    clear hK1
    go_wp2_with fail
    refine unhide HK1 _ _ ?_
    apply wp_seq_k
    intro K2 hK2
    have HK2 := hide hK2
    clear hK2 HK1
    go_wp2_with fail
    refine unhide HK2 _ _ ?_
    apply unhide HE z2 (Nat.le_trans (unhide HZ) (by decide)) (unhide P)
  · rw [show (1 : Nat) % 2 = 1 from rfl] at *
    have P := hide (unhide PB)
    generalize sixB cr r o 1 = S at *
    have HZ := hide hl
    clear hl hf PA PB
    conv => arg 2; whnf
    apply wp_seq_k
    intro K1 hK1
    have HK1 := hide hK1
    clear hK1
    go_wp2_with fail
    refine unhide HK1 _ _ ?_
    apply wp_seq_k
    intro K2 hK2
    have HK2 := hide hK2
    clear hK2 HK1
    go_wp2_with fail
    refine unhide HK2 _ _ ?_
    apply unhide HE S (Nat.le_trans (unhide HZ) (by decide)) (unhide P)
  · rw [show (2 : Nat) % 2 = 0 from rfl] at *
    generalize sixB cr r o 0 = S at *
    obtain ⟨z1, hz1, hlz1, k1⟩ := cat_is S [44, 34, 110, 101, 119, 34, 58, 49] 5000 8 hl (by decide) (by decide)
    have P : Hid (parseS (z1 ++ [125]) = none) := by
      rw [hz1, show S ++ [44, 34, 110, 101, 119, 34, 58, 49] ++ [125] = S ++ [44] ++ [34, 110, 101, 119, 34, 58, 49, 125] by simp]
      exact unhide PA _
    have HZ := hide hlz1
    clear hz1 hlz1 hl hf PA PB
    conv => arg 2; whnf
    apply wp_seq_k
    intro K1 hK1
    have HK1 := hide hK1
    clear hK1
    go_wp2_with fail
    refine unhide HK1 _ _ ?_
    apply wp_seq_k
    intro K2 hK2
    have HK2 := hide hK2
    clear hK2 HK1
    go_wp2_with fail
    refine unhide HK2 _ _ ?_
    apply unhide HE z1 (Nat.le_trans (unhide HZ) (by decide)) (unhide P)
end Go.Proofs.YtkmkkmdpjliifaaGreatDoor
namespace Go.Proofs.YtkmkkmdpjliifaaGreatDoor
open Go.ChangeShapes Go.WideShapes Go.ChangeAt Go.RowKit

theorem getD_drop (ps : List Nat) (s k : Nat) : (ps.drop s).getD k 0 = ps.getD (s + k) 0 := by
  rw [List.getD_eq_getElem?_getD, List.getElem?_drop, ← List.getD_eq_getElem?_getD]
set_option maxRecDepth 20000 in
set_option maxHeartbeats 4000000 in
theorem sp_10 (r o : Int) (g gt ot ct kk : Nat) (cr : Cm) (p1 : Pl) (u0 u1 u2 u3 u4 u5 u6 u8 u9 u10 u11 u12 u13 u14 u15 u16 u17 u18 u21 u23 u24 u27 u29 u30 u31 u32 u33 u34 u35 u36 u37 u38 u39 u40 u41 u42 u43 u44 u45 u46 u47 u48 u49 u50 u51 u52 u53 u54 u55 u56 u57 u58 u59 u60 u61 u62 u63 u64 u65 u66 u67 u68 u69 u70 u71 u72 u73 u74 u75 u76 u77 u78 u79 u80 u81 u82 u83 u84 u85 u86 u87 u88 u89 u90 u91 u92 u93 u94 u95 u96 u97 u98 u99 u100 u101 u102 u103 u104 u105 u106 u107 u108 u109 u110 u111 u112 u113 u114 u115 u116 u117 u118 u119 u120 u121 u122 u123 u124 u125 u126 u127 u128 u129 u130 u131 u132 u133 u134 u135 u136 u137 u138 u139 u140 u141 u142 u143 u144 u145 u146 u147 u148 u149 u150 u151 u152 u153 u154 u155 u156 u157 u158 u159 u160 u161 u162 u163 u164 u165 u166 u167 u168 u169 u170 u171 u172 u173 u174 u175 u176 u177 u178 u179 u180 u181 u182 u183 u184 u185 u186 u187 u188 u189 u190 u191 u192 u193 u194 u195 u196 u197 u198 u199 u200 u201 u202 u203 u204 u205 u206 u207 u208 u209 u210 u211 u212 u213 u214 u215 u216 u217 u218 u219 u220 u221 u222 u223 u224 u225 u226 u227 u228 u229 u230 u231 u232 u233 u234 u235 u236 u237 u238 u239 u240 u241 u242 u243 u244 u245 u246 u247 u248 u249 u250 u251 u252 u253 u254 u255 u256 u257 u258 u259 u260 u261 u262 u263 u264 u265 : Value) (w0 w : World) (hT : TT w0.heap.size w0) (hb : Below w0.heap.size w0 w) (hr : -9223372036854775808 ≤ r ∧ r ≤ 9223372036854775807)
    (hrt : rightB cr.z = true) (hR : Row w g 60 6 (czF cr.z p1)) (hL : CzL w g cr.z p1) (hk : kk < 3) (h22 : ∀ j, j < 6 → w.cell? ⟨gt, ot + j, none⟩ = some (.string ⟨(fldT cr r ((prm o).getD j 0)).toArray⟩)) :
    Code.wp Tryz.prog (r5 10) (bodyPost Tryz.prog Tryz.f5 fun e w' => e = .returned (.bool true) ∧ Below w0.heap.size w0 w') ⟨#[u0, u1, u2, u3, u4, u5, u6, .int .i64 r, u8, u9, u10, u11, u12, u13, u14, u15, u16, u17, u18, .bool true, .pointer (some ⟨g, 0, none⟩), u21, .slice (some ⟨gt, ot, none⟩) 6 ct, u23, u24, .string ⟨(sixT cr r o).toArray⟩, .string ⟨(blkS r ++ [123]).toArray⟩, u27, .int .i64 (kk : Nat), u29, u30, u31, u32, u33, u34, u35, u36, u37, u38, u39, u40, u41, u42, u43, u44, u45, u46, u47, u48, u49, u50, u51, u52, u53, u54, u55, u56, u57, u58, u59, u60, u61, u62, u63, u64, u65, u66, u67, u68, u69, u70, u71, u72, u73, u74, u75, u76, u77, u78, u79, u80, u81, u82, u83, u84, u85, u86, u87, u88, u89, u90, u91, u92, u93, u94, u95, u96, u97, u98, u99, u100, u101, u102, u103, u104, u105, u106, u107, u108, u109, u110, u111, u112, u113, u114, u115, u116, u117, u118, u119, u120, u121, u122, u123, u124, u125, u126, u127, u128, u129, u130, u131, u132, u133, u134, u135, u136, u137, u138, u139, u140, u141, u142, u143, u144, u145, u146, u147, u148, u149, u150, u151, u152, u153, u154, u155, u156, u157, u158, u159, u160, u161, u162, u163, u164, u165, u166, u167, u168, u169, u170, u171, u172, u173, u174, u175, u176, u177, u178, u179, u180, u181, u182, u183, u184, u185, u186, u187, u188, u189, u190, u191, u192, u193, u194, u195, u196, u197, u198, u199, u200, u201, u202, u203, u204, u205, u206, u207, u208, u209, u210, u211, u212, u213, u214, u215, u216, u217, u218, u219, u220, u221, u222, u223, u224, u225, u226, u227, u228, u229, u230, u231, u232, u233, u234, u235, u236, u237, u238, u239, u240, u241, u242, u243, u244, u245, u246, u247, u248, u249, u250, u251, u252, u253, u254, u255, u256, u257, u258, u259, u260, u261, u262, u263, u264, u265], []⟩ w := by
  have E := sp_11 r o g gt ot ct kk cr p1 (w0 := w0) (w := w) (hT := hT) (hb := hb) (hr := hr) (hrt := hrt) (hR := hR) (hL := hL) (hk := hk) (h22 := h22 0 (by decide))
  have HE := hide E
  have H22 := hide h22
  have HF := hide (fldT_len hrt r)
  have HBl := hide (bldT_len [] [] (fldT cr r) ((prm o).drop (kk % 2)) 668 (by decide) (by decide) (fldT_len hrt r))
  have hbl := blkS_len r
  have HSB : Hid (sixB cr r o (kk % 2) = blkS r ++ [123] ++ bldT [] [] (fldT cr r) ((prm o).drop (kk % 2)) (6 - kk % 2)) := rfl
  have hpl : (blkS r ++ [123]).length ≤ 5 := by simp; omega
  generalize blkS r ++ [123] = pre at *
  generalize sixT cr r o = T at *
  clear E hT hb hr hrt hR hL h22 hbl
  have HPL := hide hpl
  clear hpl
  have hs : ((kk : Nat) : Int).tmod 2 = ((kk % 2 : Nat) : Int) := by rw [Int.tmod_eq_emod_of_nonneg (by omega)]; omega
  have hs2 : kk % 2 < 2 := Nat.mod_lt _ (by decide)
  have hwm : wrap64 ((kk % 2 : Nat) : Int) = ((kk % 2 : Nat) : Int) := w64 _ (by omega) (by omega)
  generalize kk % 2 = s at *
  have HK3 := hide hk
  clear hk
  conv => arg 2; whnf
  apply wp_seq_k
  intro K1 hK1
  have HK1 := hide hK1
  clear hK1
  go_wp2_with fail
  go_loopg [26, 29] (6 - s) (fun q b i wr => ∃ j : Nat, j + q = 6 ∧ s ≤ j ∧ b = .string ⟨(pre ++ bldT [] [] (fldT cr r) ((prm o).drop s) (j - s)).toArray⟩ ∧ i = .int .i64 (j : Nat) ∧ wr = w)
  case atStart => exact ⟨s, by omega, Nat.le_refl _, by rw [Nat.sub_self, bldT, List.append_nil], rfl, rfl⟩
  case round =>
    obtain ⟨j, hj, hsj, rfl, rfl, rfl⟩ := hrel
    have hbl := unhide HBl (j - s)
    by_cases hlt : j < 6
    · have hjI : (j : Int) < 6 := by omega
      have hw : wrap64 ((j : Int) + 1) = (j : Int) + 1 := w64 _ (by omega) (by omega)
      have hck := unhide H22 j hlt
      have hst : bldT [] [] (fldT cr r) ((prm o).drop s) (j + 1 - s) = bldT [] [] (fldT cr r) ((prm o).drop s) (j - s) ++ (if j - s = 0 then [] else [] ++ [44]) ++ [] ++ fldT cr r ((prm o).getD j 0) := by
        rw [show j + 1 - s = (j - s) + 1 by omega, bldT, getD_drop, show s + (j - s) = j by omega]
      have hfl := unhide HF ((prm o).getD j 0)
      generalize fldT cr r ((prm o).getD j 0) = f at hck hst hfl
      have hol : (pre ++ bldT [] [] (fldT cr r) ((prm o).drop s) (j - s)).length ≤ 5000 := by
        have := unhide HPL
        have h9 : (668 + 9) * (j - s) ≤ 677 * 6 := Nat.mul_le_mul_left _ (by omega)
        rw [List.length_append]; omega
      have HO : Hid (∀ x, pre ++ (bldT [] [] (fldT cr r) ((prm o).drop s) (j - s) ++ x) = (pre ++ bldT [] [] (fldT cr r) ((prm o).drop s) (j - s)) ++ x) := fun x => (List.append_assoc _ _ _).symm
      generalize pre ++ bldT [] [] (fldT cr r) ((prm o).drop s) (j - s) = out at *
      have HST := hide hst
      clear hst hbl
      by_cases hj0 : j = s
      · have hgt : decide ((s : Int) < (j : Int)) = false := decide_eq_false (by omega)
        have hgt2 : decide (s < j) = false := decide_eq_false (by omega)
        have hgt3 : ¬ s < j := by omega
        have HJ := hide hj0
        clear hj0
        obtain ⟨z1, hz1, hlz1, k1⟩ := cat_is out f 5000 668 hol hfl (by decide)
        have HZ := hide hz1
        clear hz1 hlz1 hol hfl
        go_wp2_with fail
        go_roundg (gk - 1)
        case measure => omega
        case rel => exact ⟨j + 1, by omega, by omega, congrArg (fun l : List UInt8 => Value.string ⟨l.toArray⟩) (by rw [unhide HST, if_pos (by have := unhide HJ; omega), List.append_nil, List.append_nil, unhide HO, unhide HZ]), by first | exact num1 hw | rfl, rfl⟩
      · have hgt : decide ((s : Int) < (j : Int)) = true := decide_eq_true (by omega)
        have hgt2 : decide (s < j) = true := decide_eq_true (by omega)
        have hgt3 : s < j := by omega
        have HJ := hide hj0
        clear hj0
        obtain ⟨z0, hz0, hlz0, k0⟩ := cat_is out [44] 5000 1 hol (by decide) (by decide)
        obtain ⟨z1, hz1, hlz1, k1⟩ := cat_is z0 f _ 668 hlz0 hfl (by decide)
        have HZ : Hid (z1 = out ++ ([44] ++ f)) := by rw [hz1, hz0, List.append_assoc]; rfl
        clear hz1 hlz1 hol hfl hz0 hlz0
        go_wp2_with fail
        go_roundg (gk - 1)
        case measure => omega
        case rel => exact ⟨j + 1, by omega, by omega, congrArg (fun l : List UInt8 => Value.string ⟨l.toArray⟩) (by rw [unhide HST, if_neg (by have := unhide HJ; omega), List.nil_append, List.append_nil, List.append_assoc, unhide HO, unhide HZ]), by first | exact num1 hw | rfl, rfl⟩
    · obtain rfl : j = 6 := by omega
      rw [← unhide HSB]
      go_wp2_with fail
      refine unhide HK1 _ _ ?_
      apply unhide HE
end Go.Proofs.YtkmkkmdpjliifaaGreatDoor
namespace Go.Proofs.YtkmkkmdpjliifaaGreatDoor
open Go.ChangeShapes Go.WideShapes Go.ChangeAt Go.RowKit

set_option maxRecDepth 20000 in
set_option maxHeartbeats 4000000 in
theorem sp_9 (r o wrong : Int) (g gt ot ct : Nat) (cr : Cm) (p1 : Pl) (u0 u1 u2 u3 u4 u5 u6 u9 u10 u11 u12 u13 u14 u15 u16 u17 u18 u21 u23 u24 u27 u28 u29 u30 u31 u32 u33 u34 u35 u36 u37 u38 u39 u40 u41 u42 u43 u44 u45 u46 u47 u48 u49 u50 u51 u52 u53 u54 u55 u56 u57 u58 u59 u60 u61 u62 u63 u64 u65 u66 u67 u68 u69 u70 u71 u72 u73 u74 u75 u76 u77 u78 u79 u80 u81 u82 u83 u84 u85 u86 u87 u88 u89 u90 u91 u92 u93 u94 u95 u96 u97 u98 u99 u100 u101 u102 u103 u104 u105 u106 u107 u108 u109 u110 u111 u112 u113 u114 u115 u116 u117 u118 u119 u120 u121 u122 u123 u124 u125 u126 u127 u128 u129 u130 u131 u132 u133 u134 u135 u136 u137 u138 u139 u140 u141 u142 u143 u144 u145 u146 u147 u148 u149 u150 u151 u152 u153 u154 u155 u156 u157 u158 u159 u160 u161 u162 u163 u164 u165 u166 u167 u168 u169 u170 u171 u172 u173 u174 u175 u176 u177 u178 u179 u180 u181 u182 u183 u184 u185 u186 u187 u188 u189 u190 u191 u192 u193 u194 u195 u196 u197 u198 u199 u200 u201 u202 u203 u204 u205 u206 u207 u208 u209 u210 u211 u212 u213 u214 u215 u216 u217 u218 u219 u220 u221 u222 u223 u224 u225 u226 u227 u228 u229 u230 u231 u232 u233 u234 u235 u236 u237 u238 u239 u240 u241 u242 u243 u244 u245 u246 u247 u248 u249 u250 u251 u252 u253 u254 u255 u256 u257 u258 u259 u260 u261 u262 u263 u264 u265 : Value) (w0 w : World) (hT : TT w0.heap.size w0) (hb : Below w0.heap.size w0 w) (hr : -9223372036854775808 ≤ r ∧ r ≤ 9223372036854775807) (hwr : -9223372036854775808 ≤ wrong ∧ wrong ≤ 9223372036854775807)
    (hrt : rightB cr.z = true) (hR : Row w g 60 6 (czF cr.z p1)) (hL : CzL w g cr.z p1) (h22 : ∀ j, j < 6 → w.cell? ⟨gt, ot + j, none⟩ = some (.string ⟨(fldT cr r ((prm o).getD j 0)).toArray⟩)) :
    Code.wp Tryz.prog (r5 9) (bodyPost Tryz.prog Tryz.f5 fun e w' => e = .returned (.bool true) ∧ Below w0.heap.size w0 w') ⟨#[u0, u1, u2, u3, u4, u5, u6, .int .i64 r, .int .i64 wrong, u9, u10, u11, u12, u13, u14, u15, u16, u17, u18, .bool true, .pointer (some ⟨g, 0, none⟩), u21, .slice (some ⟨gt, ot, none⟩) 6 ct, u23, u24, .string ⟨(sixT cr r o).toArray⟩, .string ⟨(blkS r ++ [123]).toArray⟩, u27, u28, u29, u30, u31, u32, u33, u34, u35, u36, u37, u38, u39, u40, u41, u42, u43, u44, u45, u46, u47, u48, u49, u50, u51, u52, u53, u54, u55, u56, u57, u58, u59, u60, u61, u62, u63, u64, u65, u66, u67, u68, u69, u70, u71, u72, u73, u74, u75, u76, u77, u78, u79, u80, u81, u82, u83, u84, u85, u86, u87, u88, u89, u90, u91, u92, u93, u94, u95, u96, u97, u98, u99, u100, u101, u102, u103, u104, u105, u106, u107, u108, u109, u110, u111, u112, u113, u114, u115, u116, u117, u118, u119, u120, u121, u122, u123, u124, u125, u126, u127, u128, u129, u130, u131, u132, u133, u134, u135, u136, u137, u138, u139, u140, u141, u142, u143, u144, u145, u146, u147, u148, u149, u150, u151, u152, u153, u154, u155, u156, u157, u158, u159, u160, u161, u162, u163, u164, u165, u166, u167, u168, u169, u170, u171, u172, u173, u174, u175, u176, u177, u178, u179, u180, u181, u182, u183, u184, u185, u186, u187, u188, u189, u190, u191, u192, u193, u194, u195, u196, u197, u198, u199, u200, u201, u202, u203, u204, u205, u206, u207, u208, u209, u210, u211, u212, u213, u214, u215, u216, u217, u218, u219, u220, u221, u222, u223, u224, u225, u226, u227, u228, u229, u230, u231, u232, u233, u234, u235, u236, u237, u238, u239, u240, u241, u242, u243, u244, u245, u246, u247, u248, u249, u250, u251, u252, u253, u254, u255, u256, u257, u258, u259, u260, u261, u262, u263, u264, u265], []⟩ w := by
  obtain ⟨hp1, hp2⟩ := pickN_lt wrong 3 (by decide)
  have HE := hide (sp_10 r o g gt ot ct (pickN wrong 3) cr p1 (w0 := w0) (w := w) (hT := hT) (hb := hb) (hr := hr) (hrt := hrt) (hR := hR) (hL := hL) (hk := hp1) (h22 := h22))
  have HP := hide (pickK_any wrong 3 w hwr (by decide))
  rw [show pickZ wrong 3 = ((pickN wrong 3 : Nat) : Int) from hp2] at HP
  generalize pickN wrong 3 = kk at *
  generalize sixT cr r o = T at *
  generalize blkS r ++ [123] = pre at *
  clear hp1 hp2 hT hb hr hwr hrt hR hL h22
  conv => arg 2; whnf
  apply wp_seq_k
  intro K1 hK1
  have HK1 := hide hK1
  clear hK1
  go_wp2_with fail
  refine (unhide HP).mono ?_
  rintro e w2 ⟨rfl, rfl⟩
  dsimp only
  go_wp2_with fail
  refine unhide HK1 _ _ ?_
  apply unhide HE
end Go.Proofs.YtkmkkmdpjliifaaGreatDoor
namespace Go.Proofs.YtkmkkmdpjliifaaGreatDoor
open Go.ChangeShapes Go.WideShapes Go.ChangeAt Go.RowKit

theorem w64k (x : Int) (h : -9223372036854775808 ≤ x ∧ x ≤ 9223372036854775807) : IntKind.i64.wrap x = x := by rw [IntKind.wrap_i64]; omega
theorem len5 {a b : List UInt8} {j : Nat} (ha : a.length ≤ 5) (hb : b.length ≤ (668 + 9) * j) (hj : j < 6) : (a ++ b).length ≤ 5000 := by
  rw [List.length_append]; omega
set_option maxRecDepth 20000 in
set_option maxHeartbeats 4000000 in
theorem sp_8 (r o wrong : Int) (g gt ot ct : Nat) (cr : Cm) (p1 : Pl) (u0 u1 u2 u3 u4 u5 u6 u9 u10 u11 u12 u13 u14 u15 u16 u17 u18 u21 u23 u24 u27 u28 u29 u30 u31 u32 u33 u34 u35 u36 u37 u38 u39 u40 u41 u42 u43 u44 u45 u46 u47 u48 u49 u50 u51 u52 u53 u54 u55 u56 u57 u58 u59 u60 u61 u62 u63 u64 u65 u66 u67 u68 u69 u70 u71 u72 u73 u74 u75 u76 u77 u78 u79 u80 u81 u82 u83 u84 u85 u86 u87 u88 u89 u90 u91 u92 u93 u94 u95 u96 u97 u98 u99 u100 u101 u102 u103 u104 u105 u106 u107 u108 u109 u110 u111 u112 u113 u114 u115 u116 u117 u118 u119 u120 u121 u122 u123 u124 u125 u126 u127 u128 u129 u130 u131 u132 u133 u134 u135 u136 u137 u138 u139 u140 u141 u142 u143 u144 u145 u146 u147 u148 u149 u150 u151 u152 u153 u154 u155 u156 u157 u158 u159 u160 u161 u162 u163 u164 u165 u166 u167 u168 u169 u170 u171 u172 u173 u174 u175 u176 u177 u178 u179 u180 u181 u182 u183 u184 u185 u186 u187 u188 u189 u190 u191 u192 u193 u194 u195 u196 u197 u198 u199 u200 u201 u202 u203 u204 u205 u206 u207 u208 u209 u210 u211 u212 u213 u214 u215 u216 u217 u218 u219 u220 u221 u222 u223 u224 u225 u226 u227 u228 u229 u230 u231 u232 u233 u234 u235 u236 u237 u238 u239 u240 u241 u242 u243 u244 u245 u246 u247 u248 u249 u250 u251 u252 u253 u254 u255 u256 u257 u258 u259 u260 u261 u262 u263 u264 u265 : Value) (w0 w : World) (hT : TT w0.heap.size w0) (hb : Below w0.heap.size w0 w) (hr : -9223372036854775808 ≤ r ∧ r ≤ 9223372036854775807) (hwr : -9223372036854775808 ≤ wrong ∧ wrong ≤ 9223372036854775807)
    (hrt : rightB cr.z = true) (hR : Row w g 60 6 (czF cr.z p1)) (hL : CzL w g cr.z p1) (hgt : gt < w.heap.size) (h22 : ∀ j, j < 6 → w.cell? ⟨gt, ot + j, none⟩ = some (.string ⟨(fldT cr r ((prm o).getD j 0)).toArray⟩)) :
    Code.wp Tryz.prog (r5 8) (bodyPost Tryz.prog Tryz.f5 fun e w' => e = .returned (.bool true) ∧ Below w0.heap.size w0 w') ⟨#[u0, u1, u2, u3, u4, u5, u6, .int .i64 r, .int .i64 wrong, u9, u10, u11, u12, u13, u14, u15, u16, u17, u18, .bool true, .pointer (some ⟨g, 0, none⟩), u21, .slice (some ⟨gt, ot, none⟩) 6 ct, u23, u24, .string ⟨(blkS r ++ [123]).toArray⟩, .string ⟨(blkS r ++ [123]).toArray⟩, u27, u28, u29, u30, u31, u32, u33, u34, u35, u36, u37, u38, u39, u40, u41, u42, u43, u44, u45, u46, u47, u48, u49, u50, u51, u52, u53, u54, u55, u56, u57, u58, u59, u60, u61, u62, u63, u64, u65, u66, u67, u68, u69, u70, u71, u72, u73, u74, u75, u76, u77, u78, u79, u80, u81, u82, u83, u84, u85, u86, u87, u88, u89, u90, u91, u92, u93, u94, u95, u96, u97, u98, u99, u100, u101, u102, u103, u104, u105, u106, u107, u108, u109, u110, u111, u112, u113, u114, u115, u116, u117, u118, u119, u120, u121, u122, u123, u124, u125, u126, u127, u128, u129, u130, u131, u132, u133, u134, u135, u136, u137, u138, u139, u140, u141, u142, u143, u144, u145, u146, u147, u148, u149, u150, u151, u152, u153, u154, u155, u156, u157, u158, u159, u160, u161, u162, u163, u164, u165, u166, u167, u168, u169, u170, u171, u172, u173, u174, u175, u176, u177, u178, u179, u180, u181, u182, u183, u184, u185, u186, u187, u188, u189, u190, u191, u192, u193, u194, u195, u196, u197, u198, u199, u200, u201, u202, u203, u204, u205, u206, u207, u208, u209, u210, u211, u212, u213, u214, u215, u216, u217, u218, u219, u220, u221, u222, u223, u224, u225, u226, u227, u228, u229, u230, u231, u232, u233, u234, u235, u236, u237, u238, u239, u240, u241, u242, u243, u244, u245, u246, u247, u248, u249, u250, u251, u252, u253, u254, u255, u256, u257, u258, u259, u260, u261, u262, u263, u264, u265], []⟩ w := by
  have HE := hide (fun (u : World) (hu : Below w.heap.size w u) => sp_9 r o wrong g gt ot ct cr p1 (w0 := w0) (w := u) (hT := hT) (hb := hb.trans (hu.mono hb.size)) (hr := hr) (hwr := hwr) (hrt := hrt) (hR := hR.below hu hR.lt) (hL := hL.below (hu.mono (Nat.le_of_lt hR.lt))) (h22 := fun j hj => (hu.cell (p := ⟨gt, ot + j, none⟩) hgt).trans (h22 j hj)))
  have H22 := hide (fun (u : World) (hu : Below w.heap.size w u) (j : Nat) (hj : j < 6) => (hu.cell (p := ⟨gt, ot + j, none⟩) hgt).trans (h22 j hj))
  have HGT := hide hgt
  have HF := hide (fldT_len hrt r)
  have HBl := hide (bldT_len (blkS (r.tdiv 4)) (blkS (r.tdiv 6)) (fldT cr r) (prm o) 668 (blkS_len _) (blkS_len _) (fldT_len hrt r))
  have hbl := blkS_len r
  have HST6 : Hid (sixT cr r o = blkS r ++ [123] ++ bldT (blkS (r.tdiv 4)) (blkS (r.tdiv 6)) (fldT cr r) (prm o) 6) := rfl
  have hpl : (blkS r ++ [123]).length ≤ 5 := by simp; omega
  obtain ⟨hr4, hw4⟩ := tdiv_rng 4 (by decide) hr
  obtain ⟨hr6, hw6⟩ := tdiv_rng 6 (by decide) hr
  have hv6 := w64k _ hr6
  have HW4 := hide hw4
  have HW6 := hide hw6
  have HV6 := hide hv6
  clear hw4 hw6 hv6
  have C4 := hide (fun u : World => blanks_any (r.tdiv 4) u hr4)
  have C6 := hide (fun u : World => blanks_any (r.tdiv 6) u hr6)
  have hA := blkS_len (r.tdiv 4)
  have hB := blkS_len (r.tdiv 6)
  generalize blkS r ++ [123] = pre at *
  generalize blkS (r.tdiv 4) = A at *
  generalize blkS (r.tdiv 6) = B at *
  clear hT hb hr hwr hrt hR hL h22 hbl hr4 hr6 hgt
  have HPL := hide hpl
  clear hpl
  conv => arg 2; whnf
  apply wp_seq_k
  intro K1 hK1
  have HK1 := hide hK1
  clear hK1
  go_wp2_with fail
  go_loopg [25, 27] 6 (fun q b i wr => ∃ j : Nat, j + q = 6 ∧ b = .string ⟨(pre ++ bldT A B (fldT cr r) (prm o) j).toArray⟩ ∧ i = .int .i64 (j : Nat) ∧ Below w.heap.size w wr)
  case atStart => exact ⟨0, by omega, by rw [bldT, List.append_nil], rfl, Below.refl _ _⟩
  case round =>
    obtain ⟨j, hj, rfl, rfl, hbw⟩ := hrel
    have HBW := hide hbw
    clear hbw
    have hbl := unhide HBl j
    by_cases hlt : j < 6
    · have hjI : (j : Int) < 6 := by omega
      have hw : wrap64 ((j : Int) + 1) = (j : Int) + 1 := w64 _ (by omega) (by omega)
      have hst : bldT A B (fldT cr r) (prm o) (j + 1) = bldT A B (fldT cr r) (prm o) j ++ (if j = 0 then [] else A ++ [44]) ++ B ++ fldT cr r ((prm o).getD j 0) := by rw [bldT]
      have HCK := hide (fun (u : World) (hu : Below w.heap.size w u) => unhide H22 u hu j hlt)
      have hfl := unhide HF ((prm o).getD j 0)
      generalize fldT cr r ((prm o).getD j 0) = f at HCK hst hfl
      have hol : (pre ++ bldT A B (fldT cr r) (prm o) j).length ≤ 5000 := len5 (unhide HPL) hbl hlt
      have HO : Hid (∀ x, pre ++ (bldT A B (fldT cr r) (prm o) j ++ x) = (pre ++ bldT A B (fldT cr r) (prm o) j) ++ x) := fun x => (List.append_assoc _ _ _).symm
      generalize pre ++ bldT A B (fldT cr r) (prm o) j = out at *
      have HST := hide hst
      clear hst hbl
      by_cases hj0 : j = 0
      · have hgt : decide ((0 : Int) < (j : Int)) = false := decide_eq_false (by omega)
        have hgt2 : decide (0 < j) = false := decide_eq_false (by omega)
        have hgt3 : ¬ 0 < j := by omega
        have HJ := hide hj0
        clear hj0
        obtain ⟨z1, hz1, hlz1, k1⟩ := cat_is out B 5000 4 hol hB (by decide)
        obtain ⟨z2, hz2, hlz2, k2⟩ := cat_is z1 f _ 668 hlz1 hfl (by decide)
        have HZ : Hid (z2 = out ++ (B ++ f)) := by
          show z2 = _
          rw [hz2, hz1, List.append_assoc]
        clear hz1 hlz1 hz2 hlz2 hol hfl
        have HY0 : Hid (Below w.heap.size w wr.drew) := (unhide HBW).drew
        have t0 := unhide HCK wr (unhide HBW)
        have hv6 := unhide HV6
        have hw6 := unhide HW6
        go_wp2_with fail
        go_region_held3 (fun w' => w'.cell? ⟨gt, ot + j, none⟩ = some (.string ⟨f.toArray⟩)) (go_keep) (first | (go_at_call 23; refine (unhide C6 _).mono ?_; rintro e y1 ⟨rfl, hb⟩; have HY1 := hide ((unhide HY0).trans (hb.mono (unhide HY0).size)); clear hb; have t1 := unhide HCK y1 (unhide HY1); try dsimp only))
        go_wp2_with fail
        go_roundg (gk - 1)
        case measure => omega
        case rel => exact ⟨j + 1, by omega, congrArg (fun l : List UInt8 => Value.string ⟨l.toArray⟩) (by rw [unhide HST, if_pos (unhide HJ), List.append_nil, List.append_assoc, unhide HO, unhide HZ]), by first | exact num1 hw | rfl, unhide HY1⟩
      · have hgt : decide ((0 : Int) < (j : Int)) = true := decide_eq_true (by omega)
        have hgt2 : decide (0 < j) = true := decide_eq_true (by omega)
        have hgt3 : 0 < j := by omega
        have HJ := hide hj0
        clear hj0
        obtain ⟨z0, hz0, hlz0, k0⟩ := cat_is out A 5000 4 hol hA (by decide)
        obtain ⟨z3, hz3, hlz3, k3⟩ := cat_is z0 [44] _ 1 hlz0 (by decide) (by decide)
        obtain ⟨z1, hz1, hlz1, k1⟩ := cat_is z3 B _ 4 hlz3 hB (by decide)
        obtain ⟨z2, hz2, hlz2, k2⟩ := cat_is z1 f _ 668 hlz1 hfl (by decide)
        have HZ : Hid (z2 = out ++ (A ++ ([44] ++ (B ++ f)))) := by
          show z2 = _
          rw [hz2, hz1, hz3, hz0]; simp only [List.append_assoc]
        clear hz1 hlz1 hz2 hlz2 hol hfl hz0 hz3 hlz0 hlz3
        go_wp2_with fail
        rw [unhide HW4]
        refine (unhide C4 _).mono ?_
        rintro e y0 ⟨rfl, hb⟩
        have HBY := hide ((unhide HBW).trans (hb.mono (unhide HBW).size))
        clear hb
        have HY0 : Hid (Below w.heap.size w y0.drew) := (unhide HBY).drew
        have t0 := unhide HCK y0 (unhide HBY)
        dsimp only
        have hv6 := unhide HV6
        have hw6 := unhide HW6
        go_wp2_with fail
        go_region_held3 (fun w' => w'.cell? ⟨gt, ot + j, none⟩ = some (.string ⟨f.toArray⟩)) (go_keep) (first | (go_at_call 23; refine (unhide C6 _).mono ?_; rintro e y1 ⟨rfl, hb⟩; have HY1 := hide ((unhide HY0).trans (hb.mono (unhide HY0).size)); clear hb; have t1 := unhide HCK y1 (unhide HY1); try dsimp only))
        go_wp2_with fail
        go_roundg (gk - 1)
        case measure => omega
        case rel => exact ⟨j + 1, by omega, congrArg (fun l : List UInt8 => Value.string ⟨l.toArray⟩) (by rw [unhide HST, if_neg (unhide HJ)]; simp only [List.append_assoc]; rw [unhide HO, unhide HZ]), by first | exact num1 hw | rfl, unhide HY1⟩
    · obtain rfl : j = 6 := by omega
      rw [← unhide HST6]
      go_wp2_with fail
      refine unhide HK1 _ _ ?_
      apply unhide HE _ (unhide HBW)
end Go.Proofs.YtkmkkmdpjliifaaGreatDoor
