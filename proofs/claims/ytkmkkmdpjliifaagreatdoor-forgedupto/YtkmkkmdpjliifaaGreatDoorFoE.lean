import Derived.Test.YtkmkkmdpjliifaaGreatDoorMiCF
import Derived.Test.YtkmkkmdpjliifaaGreatDoorTiA
namespace Go.Proofs.YtkmkkmdpjliifaaGreatDoor
open Go.ChangeShapes Go.WideShapes Go.ChangeAt Go.RowKit

set_option maxRecDepth 20000 in
set_option maxHeartbeats 4000000 in
set_option linter.unusedSimpArgs false in
theorem fo_24 (k : Nat) (bt : Bool) (f : Int) (u0 u1 u2 u3 u4 u5 u6 u7 u8 u9 u10 u11 u12 u13 u14 u15 u16 u17 u18 u19 u20 u21 u22 u23 u24 u25 u26 u27 u28 u29 u30 u31 u32 u33 u34 u35 u36 u39 u41 u43 u44 u46 u47 u48 u49 u50 u51 u52 u53 u54 u55 u56 u57 u58 u59 u60 u61 u62 u63 u64 u65 u66 u67 u68 u69 u70 u71 u72 u73 u74 u75 u76 u77 u78 u79 u80 u81 u82 u83 u84 u85 u86 u87 u88 u89 u90 u91 u92 u93 u94 u95 u96 u97 u98 u99 u100 u101 u102 u103 u104 u105 u106 u107 u108 u109 u110 u111 u112 u113 u114 u115 u116 u117 u118 u119 u120 u121 u122 u123 u124 u125 u126 u127 u128 u129 u130 u131 u132 u133 u134 u135 u136 u137 u138 u139 u140 u141 u142 u143 u144 u145 u146 u147 u148 u149 u150 u151 u152 u153 u154 u155 u156 u157 u158 u159 u160 u161 u162 u163 u164 u165 u166 u167 u168 u169 u170 u171 u172 u173 u174 u175 u176 u177 u178 u179 u180 u181 u182 u183 u184 u185 u186 u187 u188 u189 u190 u191 u192 u193 u194 u195 u196 u197 u198 u199 u200 u201 u202 u203 u204 u205 u206 u207 u208 u209 u210 u211 u212 u213 u214 u215 u216 u217 u218 u219 u220 u221 u222 u223 u224 u225 u226 u227 u228 u229 u230 u231 u232 u233 u234 u235 u236 u237 u238 u239 u240 u241 : Value) (w0 w1 w : World) (hQ : Below w0.heap.size w0 w1) (hb : Below w1.heap.size w1 w) (hk : (k = 0 ∧ bt = true ∧ f = 6) ∨ (k = 1 ∧ bt = true ∧ f = 6) ∨ (k = 2 ∧ bt = false ∧ f = 3)) :
    Code.wp Tryz.prog (r8 24) (bodyPost Tryz.prog Tryz.f8 (FoQ w0)) ⟨#[u0, u1, u2, u3, u4, u5, u6, u7, u8, u9, u10, u11, u12, u13, u14, u15, u16, u17, u18, u19, u20, u21, u22, u23, u24, u25, u26, u27, u28, u29, u30, u31, u32, u33, u34, u35, u36, .int .i64 0, .int .i64 (k : Nat), u39, .int .i64 f, u41, .int .i64 0, u43, u44, .bool bt, u46, u47, u48, u49, u50, u51, u52, u53, u54, u55, u56, u57, u58, u59, u60, u61, u62, u63, u64, u65, u66, u67, u68, u69, u70, u71, u72, u73, u74, u75, u76, u77, u78, u79, u80, u81, u82, u83, u84, u85, u86, u87, u88, u89, u90, u91, u92, u93, u94, u95, u96, u97, u98, u99, u100, u101, u102, u103, u104, u105, u106, u107, u108, u109, u110, u111, u112, u113, u114, u115, u116, u117, u118, u119, u120, u121, u122, u123, u124, u125, u126, u127, u128, u129, u130, u131, u132, u133, u134, u135, u136, u137, u138, u139, u140, u141, u142, u143, u144, u145, u146, u147, u148, u149, u150, u151, u152, u153, u154, u155, u156, u157, u158, u159, u160, u161, u162, u163, u164, u165, u166, u167, u168, u169, u170, u171, u172, u173, u174, u175, u176, u177, u178, u179, u180, u181, u182, u183, u184, u185, u186, u187, u188, u189, u190, u191, u192, u193, u194, u195, u196, u197, u198, u199, u200, u201, u202, u203, u204, u205, u206, u207, u208, u209, u210, u211, u212, u213, u214, u215, u216, u217, u218, u219, u220, u221, u222, u223, u224, u225, u226, u227, u228, u229, u230, u231, u232, u233, u234, u235, u236, u237, u238, u239, u240, u241], []⟩ w := by
  have HB := hide (hQ.trans (hb.mono hQ.size))
  clear hQ hb
  conv => arg 2; whnf
  rcases hk with ⟨rfl, rfl, rfl⟩ | ⟨rfl, rfl, rfl⟩ | ⟨rfl, rfl, rfl⟩
  all_goals go_wp2_with fail
  all_goals go_ret
  all_goals exact ⟨rfl, unhide HB⟩
set_option maxRecDepth 20000 in
set_option maxHeartbeats 4000000 in
set_option linter.unusedSimpArgs false in
theorem fo_23 (k : Nat) (f : Int) (gp s gc cc : Nat) (G : List Gt) (n : Nat) (P : Pl) (u0 u1 u2 u3 u4 u5 u6 u7 u8 u9 u10 u11 u12 u13 u14 u15 u16 u18 u19 u20 u21 u22 u23 u24 u25 u26 u27 u28 u29 u30 u31 u32 u33 u34 u35 u36 u39 u41 u44 u45 u46 u47 u48 u49 u50 u51 u52 u53 u54 u55 u56 u57 u58 u59 u60 u61 u62 u63 u64 u65 u66 u67 u68 u69 u70 u71 u72 u73 u74 u75 u76 u77 u78 u79 u80 u81 u82 u83 u84 u85 u86 u87 u88 u89 u90 u91 u92 u93 u94 u95 u96 u97 u98 u99 u100 u101 u102 u103 u104 u105 u106 u107 u108 u109 u110 u111 u112 u113 u114 u115 u116 u117 u118 u119 u120 u121 u122 u123 u124 u125 u126 u127 u128 u129 u130 u131 u132 u133 u134 u135 u136 u137 u138 u139 u140 u141 u142 u143 u144 u145 u146 u147 u148 u149 u150 u151 u152 u153 u154 u155 u156 u157 u158 u159 u160 u161 u162 u163 u164 u165 u166 u167 u168 u169 u170 u171 u172 u173 u174 u175 u176 u177 u178 u179 u180 u181 u182 u183 u184 u185 u186 u187 u188 u189 u190 u191 u192 u193 u194 u195 u196 u197 u198 u199 u200 u201 u202 u203 u204 u205 u206 u207 u208 u209 u210 u211 u212 u213 u214 u215 u216 u217 u218 u219 u220 u221 u222 u223 u224 u225 u226 u227 u228 u229 u230 u231 u232 u233 u234 u235 u236 u237 u238 u239 u240 u241 : Value) (w0 w1 w : World) (hQ : Below w0.heap.size w0 w1) (hF : FoW w1 gp s gc cc G n P) (hb : Below w1.heap.size w1 w) (hk : k < 3) (hf : f = if k = 2 then 3 else 6) :
    Code.wp Tryz.prog (r8 23) (bodyPost Tryz.prog Tryz.f8 (FoQ w0)) ⟨#[u0, u1, u2, u3, u4, u5, u6, u7, u8, u9, u10, u11, u12, u13, u14, u15, u16, .pointer (some ⟨gp, 0, none⟩), u18, u19, u20, u21, u22, u23, u24, u25, u26, u27, u28, u29, u30, u31, u32, u33, u34, u35, u36, .int .i64 0, .int .i64 (k : Nat), u39, .int .i64 f, u41, .int .i64 0, .string ⟨(tokS (kyN.getD k default) (32 :: (plainS (G.getD n default).c ++ [10]))).toArray⟩, u44, u45, u46, u47, u48, u49, u50, u51, u52, u53, u54, u55, u56, u57, u58, u59, u60, u61, u62, u63, u64, u65, u66, u67, u68, u69, u70, u71, u72, u73, u74, u75, u76, u77, u78, u79, u80, u81, u82, u83, u84, u85, u86, u87, u88, u89, u90, u91, u92, u93, u94, u95, u96, u97, u98, u99, u100, u101, u102, u103, u104, u105, u106, u107, u108, u109, u110, u111, u112, u113, u114, u115, u116, u117, u118, u119, u120, u121, u122, u123, u124, u125, u126, u127, u128, u129, u130, u131, u132, u133, u134, u135, u136, u137, u138, u139, u140, u141, u142, u143, u144, u145, u146, u147, u148, u149, u150, u151, u152, u153, u154, u155, u156, u157, u158, u159, u160, u161, u162, u163, u164, u165, u166, u167, u168, u169, u170, u171, u172, u173, u174, u175, u176, u177, u178, u179, u180, u181, u182, u183, u184, u185, u186, u187, u188, u189, u190, u191, u192, u193, u194, u195, u196, u197, u198, u199, u200, u201, u202, u203, u204, u205, u206, u207, u208, u209, u210, u211, u212, u213, u214, u215, u216, u217, u218, u219, u220, u221, u222, u223, u224, u225, u226, u227, u228, u229, u230, u231, u232, u233, u234, u235, u236, u237, u238, u239, u240, u241], []⟩ w := by
  have HLo : Hid (∀ u : World, Calls Tryz.prog 31 #[.int .i64 2] u fun e w' => e = .returned (.agg #[.string ⟨#[99, 50]⟩, .string ⟨#[115, 50]⟩]) ∧ Below u.heap.size u w') := fun u => login_any 2 (by decide) u
  have HC0 := hide hF.c0
  have HLt := hide hF.lt
  have HBw := hide hb
  have HBd : Hid (Below w1.heap.size w1 w.drew) := (unhide HBw).drew
  have c0 := hF.c0 w hb
  have hws := hb.size
  have nnw : gp ≠ w.heap.size := by have := unhide HLt; omega
  have mmw : w.heap.size ≠ gp := by have := unhide HLt; omega
  have HLk : Hid (∀ u, Below w1.heap.size w1 u → Calls Tryz.prog 32 #[.pointer (some ⟨s, 0, none⟩), .agg #[.string ⟨#[99, 50]⟩, .string ⟨#[115, 50]⟩], .string ⟨(tokS (kyN.getD k default) (32 :: (plainS (G.getD n default).c ++ [10]))).toArray⟩] u (LkR w1 u (decide (k < 2)))) := fun u hu => hF.again k hk u hu
  have hkk : (k = 0 ∧ decide (k < 2) = true ∧ f = 6) ∨ (k = 1 ∧ decide (k < 2) = true ∧ f = 6) ∨ (k = 2 ∧ decide (k < 2) = false ∧ f = 3) := by
    rcases (show k = 0 ∨ k = 1 ∨ k = 2 by omega) with rfl | rfl | rfl
    · exact Or.inl ⟨rfl, by decide, by rw [hf]; decide⟩
    · exact Or.inr (Or.inl ⟨rfl, by decide, by rw [hf]; decide⟩)
    · exact Or.inr (Or.inr ⟨rfl, by decide, by rw [hf]; decide⟩)
  generalize decide (k < 2) = bt at *
  have HE := hide (fun (w' : World) (hb' : Below w1.heap.size w1 w') => fo_24 k bt f (w0 := w0) (w1 := w1) (w := w') (hQ := hQ) (hb := hb') (hk := hkk))
  generalize tokS (kyN.getD k default) (32 :: (plainS (G.getD n default).c ++ [10])) = tx at *
  clear hF hb hQ hf hk hkk
  conv => arg 2; whnf
  apply wp_seq_k
  intro K1 hK1
  have HK1 := hide hK1
  clear hK1
  go_region_held3 (fun w' => w'.cell? ⟨gp, 0, none⟩ = some (.pointer (some ⟨s, 0, none⟩))) (go_keep)
    (first
      | (go_at_call 31; refine (unhide HLo _).mono ?_; rintro e wB ⟨rfl, bB⟩; have BBb : Below w1.heap.size w1 wB := (by first | exact (unhide HBd).trans (bB.mono (unhide HBd).size) | exact ((unhide HBd).alloc (unhide HBd).size _).trans (bB.mono ((unhide HBd).alloc (unhide HBd).size _).size)); have x0b := unhide HC0 wB BBb; (first | (have R9 : Row wB w.heap.size 60 6 (czF cz0 pl0) := (Row.new w.drew 60 #[.int .i64 0, .string ⟨#[]⟩, .slice none 0 0, .slice none 0 0, .slice none 0 0, .int .i64 0] (czF cz0 pl0) 6 rfl (six rfl rfl rfl rfl rfl rfl)).below bB (by simp); have q0 : wB.cell? ⟨_, 0, none⟩ = some (.int .i64 0) := R9.cell (by decide); have f0 := R9.frozen 0; have q1 : wB.cell? ⟨_, 1, none⟩ = some (.string ⟨#[]⟩) := R9.cell (by decide); have f1 := R9.frozen 1; have q2 : wB.cell? ⟨_, 2, none⟩ = some (.slice none 0 0) := R9.cell (by decide); have f2 := R9.frozen 2; have q3 : wB.cell? ⟨_, 3, none⟩ = some (.slice none 0 0) := R9.cell (by decide); have f3 := R9.frozen 3; have q4 : wB.cell? ⟨_, 4, none⟩ = some (.slice none 0 0) := R9.cell (by decide); have f4 := R9.frozen 4; have q5 : wB.cell? ⟨_, 5, none⟩ = some (.int .i64 0) := R9.cell (by decide); have f5 := R9.frozen 5) | skip); have n1wB : gp ≠ wB.heap.size := (by have := BBb.size; have := unhide HLt; omega); have m1wB : wB.heap.size ≠ gp := (by have := BBb.size; have := unhide HLt; omega); have RB := hide BBb; clear bB BBb; try dsimp only)
      | (go_at_call 32; refine (unhide HLk _ (by first | exact (unhide RB) | exact (unhide RB).alloc (unhide RB).size _)).mono ?_; rintro e wC ⟨zC, pC, rfl, bC, BBc⟩; have x0c := unhide HC0 wC BBc; (first | (have R9 : Row wC wB.heap.size 60 6 (czF cz0 pl0) := (Row.new wB 60 #[.int .i64 0, .string ⟨#[]⟩, .slice none 0 0, .slice none 0 0, .slice none 0 0, .int .i64 0] (czF cz0 pl0) 6 rfl (six rfl rfl rfl rfl rfl rfl)).below bC (by simp); have q0 : wC.cell? ⟨_, 0, none⟩ = some (.int .i64 0) := R9.cell (by decide); have f0 := R9.frozen 0; have q1 : wC.cell? ⟨_, 1, none⟩ = some (.string ⟨#[]⟩) := R9.cell (by decide); have f1 := R9.frozen 1; have q2 : wC.cell? ⟨_, 2, none⟩ = some (.slice none 0 0) := R9.cell (by decide); have f2 := R9.frozen 2; have q3 : wC.cell? ⟨_, 3, none⟩ = some (.slice none 0 0) := R9.cell (by decide); have f3 := R9.frozen 3; have q4 : wC.cell? ⟨_, 4, none⟩ = some (.slice none 0 0) := R9.cell (by decide); have f4 := R9.frozen 4; have q5 : wC.cell? ⟨_, 5, none⟩ = some (.int .i64 0) := R9.cell (by decide); have f5 := R9.frozen 5) | (have R9 := Row.below R9 bC (Row.lt R9); have q0 : wC.cell? ⟨_, 0, none⟩ = some (.int .i64 0) := R9.cell (by decide); have f0 := R9.frozen 0; have q1 : wC.cell? ⟨_, 1, none⟩ = some (.string ⟨#[]⟩) := R9.cell (by decide); have f1 := R9.frozen 1; have q2 : wC.cell? ⟨_, 2, none⟩ = some (.slice none 0 0) := R9.cell (by decide); have f2 := R9.frozen 2; have q3 : wC.cell? ⟨_, 3, none⟩ = some (.slice none 0 0) := R9.cell (by decide); have f3 := R9.frozen 3; have q4 : wC.cell? ⟨_, 4, none⟩ = some (.slice none 0 0) := R9.cell (by decide); have f4 := R9.frozen 4; have q5 : wC.cell? ⟨_, 5, none⟩ = some (.int .i64 0) := R9.cell (by decide); have f5 := R9.frozen 5) | skip); have n1wC : gp ≠ wC.heap.size := (by have := BBc.size; have := unhide HLt; omega); have m1wC : wC.heap.size ≠ gp := (by have := BBc.size; have := unhide HLt; omega); have RC := hide BBc; clear bC BBc; try dsimp only))
  · go_wp2_with fail
    refine unhide HK1 _ _ ?_
    apply unhide HE
    exact (unhide RC).alloc (unhide RC).size _
  · go_wp2_with fail
    refine unhide HK1 _ _ ?_
    apply unhide HE
    exact (unhide RC).trans ((st6_but _ wB.heap.size zC pC).below (unhide RB).size)
  · go_wp2_with fail
    refine unhide HK1 _ _ ?_
    apply unhide HE
    exact (unhide RC).trans ((st6_but _ w.heap.size zC pC).below hws)
end Go.Proofs.YtkmkkmdpjliifaaGreatDoor
namespace Go.Proofs.YtkmkkmdpjliifaaGreatDoor
open Go.ChangeShapes Go.WideShapes Go.ChangeAt Go.RowKit

theorem FoW.prn {w1 : World} {gp s gc cc : Nat} {G : List Gt} {n : Nat} {P : Pl} (hF : FoW w1 gp s gc cc G n P) {c : Cm} {p : Pl} {u : World} (hu : Below w1.heap.size w1 u) (hr : rightB c.z = true) (B : Nat) (hB : B ≤ u.heap.size) (hw : w1.heap.size ≤ B) (hL : CzL u B c.z p) :
    Calls Tryz.prog 19 #[.agg #[.int .i64 c.z.id, .string ⟨c.z.sub.toArray⟩, .slice p.a2 c.z.scp.length p.c2, .slice p.a3 c.z.aud.length p.c3, .slice p.a4 c.z.act.length p.c4, .int .i64 c.z.exp]] u fun e w' => e = .returned (.tuple #[.string ⟨(plainS c).toArray⟩, .int .i64 0]) ∧ Below w1.heap.size w1 w' := by
  refine (PrintM_any c.z p u B hB (right_czs hr) hL (hF.ut u hu) (PT.up (hF.pt u hu) hw)).mono ?_
  rintro e w' ⟨h | ⟨m, hm, _, rfl⟩, hb⟩
  · rw [hr] at h
    cases h.1
  · obtain rfl := Cm.z_inj hm
    exact ⟨rfl, hu.trans (hb.mono hu.size)⟩
theorem FoW.sgn {w1 : World} {gp s gc cc : Nat} {G : List Gt} {n : Nat} {P : Pl} (hF : FoW w1 gp s gc cc G n P) {k : Nat} (hk : k < 3) {T : List UInt8} (hT : T.length ≤ 65536) {u : World} (hu : Below w1.heap.size w1 u) :
    Calls Tryz.prog 35 #[.int .i64 (k : Nat), .string ⟨T.toArray⟩] u fun e w' => e = .returned (.string ⟨(tokS (kyN.getD k default) T).toArray⟩) ∧ Below u.heap.size u w' ∧ Below w1.heap.size w1 w' :=
  (signed_any k hk T hT u (by have := hF.l4; have := hu.size; omega) (hF.kt u hu)).mono (fun _ _ ⟨h1, h2⟩ => ⟨h1, h2, hu.trans (h2.mono hu.size)⟩)
set_option maxRecDepth 20000 in
set_option maxHeartbeats 4000000 in
set_option linter.unusedSimpArgs false in
theorem fo_20 (k : Nat) (raw : Cm) (gp s gc cc : Nat) (G : List Gt) (n : Nat) (P : Pl) (u0 u1 u2 u3 u4 u5 u6 u7 u8 u9 u10 u11 u12 u13 u14 u15 u16 u19 u20 u21 u22 u23 u24 u25 u26 u27 u28 u29 u30 u31 u32 u33 u34 u35 u36 u40 u41 u42 u43 u44 u45 u46 u47 u48 u49 u50 u51 u52 u53 u54 u55 u56 u57 u58 u59 u60 u61 u62 u63 u64 u65 u66 u67 u68 u69 u70 u71 u72 u73 u74 u75 u76 u77 u78 u79 u80 u81 u82 u83 u84 u85 u86 u87 u88 u89 u90 u91 u92 u93 u94 u95 u96 u97 u98 u99 u100 u101 u102 u103 u104 u105 u106 u107 u108 u109 u110 u111 u112 u113 u114 u115 u116 u117 u118 u119 u120 u121 u122 u123 u124 u125 u126 u127 u128 u129 u130 u131 u132 u133 u134 u135 u136 u137 u138 u139 u140 u141 u142 u143 u144 u145 u146 u147 u148 u149 u150 u151 u152 u153 u154 u155 u156 u157 u158 u159 u160 u161 u162 u163 u164 u165 u166 u167 u168 u169 u170 u171 u172 u173 u174 u175 u176 u177 u178 u179 u180 u181 u182 u183 u184 u185 u186 u187 u188 u189 u190 u191 u192 u193 u194 u195 u196 u197 u198 u199 u200 u201 u202 u203 u204 u205 u206 u207 u208 u209 u210 u211 u212 u213 u214 u215 u216 u217 u218 u219 u220 u221 u222 u223 u224 u225 u226 u227 u228 u229 u230 u231 u232 u233 u234 u235 u236 u237 u238 u239 u240 u241 : Value) (w0 w1 w : World) (hQ : Below w0.heap.size w0 w1) (hF : FoW w1 gp s gc cc G n P) (hb : Below w1.heap.size w1 w) (hk : k < 3) (hr : rightB raw.z = true) (ha : raw.aud = []) :
    Code.wp Tryz.prog (r8 20) (bodyPost Tryz.prog Tryz.f8 (FoQ w0)) ⟨#[u0, u1, u2, u3, u4, u5, u6, u7, u8, u9, u10, u11, u12, u13, u14, u15, u16, .pointer (some ⟨gp, 0, none⟩), .int .i64 (n : Nat), u19, u20, u21, u22, u23, u24, u25, u26, u27, u28, u29, u30, u31, u32, u33, u34, u35, u36, .int .i64 0, .int .i64 (k : Nat), .string ⟨(tokS (kyN.getD k default) (plainS raw)).toArray⟩, u40, u41, u42, u43, u44, u45, u46, u47, u48, u49, u50, u51, u52, u53, u54, u55, u56, u57, u58, u59, u60, u61, u62, u63, u64, u65, u66, u67, u68, u69, u70, u71, u72, u73, u74, u75, u76, u77, u78, u79, u80, u81, u82, u83, u84, u85, u86, u87, u88, u89, u90, u91, u92, u93, u94, u95, u96, u97, u98, u99, u100, u101, u102, u103, u104, u105, u106, u107, u108, u109, u110, u111, u112, u113, u114, u115, u116, u117, u118, u119, u120, u121, u122, u123, u124, u125, u126, u127, u128, u129, u130, u131, u132, u133, u134, u135, u136, u137, u138, u139, u140, u141, u142, u143, u144, u145, u146, u147, u148, u149, u150, u151, u152, u153, u154, u155, u156, u157, u158, u159, u160, u161, u162, u163, u164, u165, u166, u167, u168, u169, u170, u171, u172, u173, u174, u175, u176, u177, u178, u179, u180, u181, u182, u183, u184, u185, u186, u187, u188, u189, u190, u191, u192, u193, u194, u195, u196, u197, u198, u199, u200, u201, u202, u203, u204, u205, u206, u207, u208, u209, u210, u211, u212, u213, u214, u215, u216, u217, u218, u219, u220, u221, u222, u223, u224, u225, u226, u227, u228, u229, u230, u231, u232, u233, u234, u235, u236, u237, u238, u239, u240, u241], []⟩ w := by
  have HLo : Hid (∀ u : World, Calls Tryz.prog 31 #[.int .i64 0] u fun e w' => e = .returned (.agg #[.string ⟨#[99, 48]⟩, .string ⟨#[115, 48]⟩]) ∧ Below u.heap.size u w') := fun u => login_any 0 (by decide) u
  have HC0 := hide hF.c0
  have HLt := hide hF.lt
  have HBw := hide hb
  have HBd : Hid (Below w1.heap.size w1 w.drew) := (unhide HBw).drew
  have c0 := hF.c0 w hb
  have hws := hb.size
  have nnw : gp ≠ w.heap.size := by have := unhide HLt; omega
  have mmw : w.heap.size ≠ gp := by have := unhide HLt; omega
  have hnI : (n : Int) < (G.length : Int) := Int.ofNat_lt.2 hF.n1
  have hn0 : ¬ (n : Int) < 0 := Int.not_lt.2 (Int.natCast_nonneg _)
  have HRv : Hid (∀ u, Below w1.heap.size w1 u → Calls Tryz.prog 30 #[.pointer (some ⟨s, 0, none⟩), .agg #[.string ⟨#[99, 48]⟩, .string ⟨#[115, 48]⟩], .string ⟨(tokS (kyN.getD k default) (plainS raw)).toArray⟩] u fun e w' => e = .returned (.int .i64 (if k = 2 then 3 else 6)) ∧ Below w1.heap.size w1 w') := fun u hu => hF.rev k hk raw hr ha u hu
  have hlo := plainS_length hF.rt
  obtain ⟨t1, ht1, hl1, k1⟩ := cat_is [32] (plainS (G.getD n default).c) 1 4096 (by decide) hlo (by decide)
  obtain ⟨t2, ht2, hl2, k2⟩ := cat_is t1 [10] _ 1 hl1 (by decide) (by decide)
  have et : 32 :: (plainS (G.getD n default).c ++ [10]) = t2 := by rw [ht2, ht1]; rfl
  have HE := hide (fun (w' : World) (hb' : Below w1.heap.size w1 w') => fo_23 k (if k = 2 then 3 else 6) gp s gc cc G n P (w0 := w0) (w1 := w1) (w := w') (hQ := hQ) (hF := hF) (hb := hb') (hk := hk) (hf := rfl))
  rw [et] at HE
  have HPr : Hid (∀ u, Below w1.heap.size w1 u → Calls Tryz.prog 19 #[.agg #[.int .i64 (G.getD n default).c.z.id, .string ⟨(G.getD n default).c.z.sub.toArray⟩, .slice P.a2 (G.getD n default).c.z.scp.length P.c2, .slice P.a3 (G.getD n default).c.z.aud.length P.c3, .slice P.a4 (G.getD n default).c.z.act.length P.c4, .int .i64 (G.getD n default).c.z.exp]] u fun e w' => e = .returned (.tuple #[.string ⟨(plainS (G.getD n default).c).toArray⟩, .int .i64 0]) ∧ Below w1.heap.size w1 w') := fun u hu => hF.prn hu hF.rt w1.heap.size hu.size (Nat.le_refl _) (hF.ls u hu)
  have HSg : Hid (∀ u, Below w1.heap.size w1 u → Calls Tryz.prog 35 #[.int .i64 (k : Nat), .string ⟨t2.toArray⟩] u fun e w' => e = .returned (.string ⟨(tokS (kyN.getD k default) t2).toArray⟩) ∧ Below u.heap.size u w' ∧ Below w1.heap.size w1 w') := fun u hu => hF.sgn hk (by omega) hu
  have HCj : Hid (∀ u, Below w1.heap.size w1 u → u.cell? ⟨gp, 2, none⟩ = some (.slice (some ⟨gc, 0, none⟩) G.length cc) ∧ ∀ j, j < 6 → u.cell? ⟨gc, n * 6 + j, none⟩ = some (czF (G.getD n default).c.z P j)) := fun u hu => ⟨hF.c2 u hu, hF.cj u hu⟩
  generalize tokS (kyN.getD k default) (plainS raw) = fg at *
  generalize tokS (kyN.getD k default) t2 = ag at *
  generalize (if k = 2 then (3 : Int) else 6) = f at *
  generalize plainS (G.getD n default).c = ow at *
  generalize (G.getD n default).c.z = zc at *
  clear hF hb hQ hr ha hk hl1 hl2 ht1 ht2 et hlo
  conv => arg 2; whnf
  apply wp_seq_k
  intro K1 hK1
  have HK1 := hide hK1
  clear hK1
  go_region_held3 (fun w' => w'.cell? ⟨gp, 0, none⟩ = some (.pointer (some ⟨s, 0, none⟩))) (go_keep)
    (first
      | (go_at_call 31; refine (unhide HLo _).mono ?_; rintro e wB ⟨rfl, bB⟩; have BBb : Below w1.heap.size w1 wB := (by first | exact (unhide HBd).trans (bB.mono (unhide HBd).size) | exact ((unhide HBd).alloc (unhide HBd).size _).trans (bB.mono ((unhide HBd).alloc (unhide HBd).size _).size)); have x0b := unhide HC0 wB BBb; (first | (have R9 : Row wB w.heap.size 60 6 (czF cz0 pl0) := (Row.new w.drew 60 #[.int .i64 0, .string ⟨#[]⟩, .slice none 0 0, .slice none 0 0, .slice none 0 0, .int .i64 0] (czF cz0 pl0) 6 rfl (six rfl rfl rfl rfl rfl rfl)).below bB (by simp); have q0 : wB.cell? ⟨_, 0, none⟩ = some (.int .i64 0) := R9.cell (by decide); have f0 := R9.frozen 0; have q1 : wB.cell? ⟨_, 1, none⟩ = some (.string ⟨#[]⟩) := R9.cell (by decide); have f1 := R9.frozen 1; have q2 : wB.cell? ⟨_, 2, none⟩ = some (.slice none 0 0) := R9.cell (by decide); have f2 := R9.frozen 2; have q3 : wB.cell? ⟨_, 3, none⟩ = some (.slice none 0 0) := R9.cell (by decide); have f3 := R9.frozen 3; have q4 : wB.cell? ⟨_, 4, none⟩ = some (.slice none 0 0) := R9.cell (by decide); have f4 := R9.frozen 4; have q5 : wB.cell? ⟨_, 5, none⟩ = some (.int .i64 0) := R9.cell (by decide); have f5 := R9.frozen 5) | skip); have n1wB : gp ≠ wB.heap.size := (by have := BBb.size; have := unhide HLt; omega); have m1wB : wB.heap.size ≠ gp := (by have := BBb.size; have := unhide HLt; omega); have RB := hide BBb; clear bB BBb; try dsimp only)
      | (go_at_call 30; refine (unhide HRv _ (unhide RB)).mono ?_; rintro e wC ⟨rfl, BBc⟩; have x0c := unhide HC0 wC BBc; have RC := hide BBc; clear BBc; try dsimp only))
  go_wp2_with fail
  refine unhide HK1 _ _ ?_
  apply wp_seq_k
  intro K2 hK2
  have HK2 := hide hK2
  clear hK2 HK1
  obtain ⟨d2, dj⟩ := unhide HCj wC (unhide RC)
  have e0 : wC.cell? ⟨gc, n * 6, none⟩ = some (.int .i64 zc.id) := dj 0 (by decide)
  have e1 : wC.cell? ⟨gc, n * 6 + 1, none⟩ = some (.string ⟨zc.sub.toArray⟩) := dj 1 (by decide)
  have e2 : wC.cell? ⟨gc, n * 6 + 2, none⟩ = some (.slice P.a2 zc.scp.length P.c2) := dj 2 (by decide)
  have e3 : wC.cell? ⟨gc, n * 6 + 3, none⟩ = some (.slice P.a3 zc.aud.length P.c3) := dj 3 (by decide)
  have e4 : wC.cell? ⟨gc, n * 6 + 4, none⟩ = some (.slice P.a4 zc.act.length P.c4) := dj 4 (by decide)
  have e5 : wC.cell? ⟨gc, n * 6 + 5, none⟩ = some (.int .i64 zc.exp) := dj 5 (by decide)
  clear dj x0b x0c c0
  go_wp2_with fail
  refine (unhide HPr wC (unhide RC)).mono ?_
  rintro e wD ⟨rfl, hBD⟩
  have RD := hide hBD
  clear hBD e0 e1 e2 e3 e4 e5 d2
  try dsimp only
  go_wp2_with fail
  refine unhide HK2 _ _ ?_
  apply wp_seq_k
  intro K3 hK3
  have HK3 := hide hK3
  clear hK3 HK2
  go_wp2_with fail
  refine (unhide HSg wD (unhide RD)).mono ?_
  rintro e wE ⟨rfl, _, hBE⟩
  have RE := hide hBE
  clear hBE
  try dsimp only
  go_wp2_with fail
  refine unhide HK3 _ _ ?_
  apply unhide HE
  exact unhide RE
end Go.Proofs.YtkmkkmdpjliifaaGreatDoor
namespace Go.Proofs.YtkmkkmdpjliifaaGreatDoor
open Go.ChangeShapes Go.WideShapes Go.ChangeAt Go.RowKit

set_option maxRecDepth 20000 in
set_option maxHeartbeats 4000000 in
set_option linter.unusedSimpArgs false in
theorem fo_16 (id sj ex ky : Int) (v5 : Value) (l5 : List Int) (gp s gc cc : Nat) (G : List Gt) (n : Nat) (P : Pl) (u0 u1 u2 u8 u9 u10 u11 u12 u13 u14 u15 u16 u19 u20 u21 u22 u23 u24 u25 u26 u27 u28 u29 u30 u31 u32 u33 u34 u35 u36 u37 u38 u39 u40 u41 u42 u43 u44 u45 u46 u47 u48 u49 u50 u51 u52 u53 u54 u55 u56 u57 u58 u59 u60 u61 u62 u63 u64 u65 u66 u67 u68 u69 u70 u71 u72 u73 u74 u75 u76 u77 u78 u79 u80 u81 u82 u83 u84 u85 u86 u87 u88 u89 u90 u91 u92 u93 u94 u95 u96 u97 u98 u99 u100 u101 u102 u103 u104 u105 u106 u107 u108 u109 u110 u111 u112 u113 u114 u115 u116 u117 u118 u119 u120 u121 u122 u123 u124 u125 u126 u127 u128 u129 u130 u131 u132 u133 u134 u135 u136 u137 u138 u139 u140 u141 u142 u143 u144 u145 u146 u147 u148 u149 u150 u151 u152 u153 u154 u155 u156 u157 u158 u159 u160 u161 u162 u163 u164 u165 u166 u167 u168 u169 u170 u171 u172 u173 u174 u175 u176 u177 u178 u179 u180 u181 u182 u183 u184 u185 u186 u187 u188 u189 u190 u191 u192 u193 u194 u195 u196 u197 u198 u199 u200 u201 u202 u203 u204 u205 u206 u207 u208 u209 u210 u211 u212 u213 u214 u215 u216 u217 u218 u219 u220 u221 u222 u223 u224 u225 u226 u227 u228 u229 u230 u231 u232 u233 u234 u235 u236 u237 u238 u239 u240 u241 : Value) (w0 w1 w : World) (hQ : Below w0.heap.size w0 w1) (hF : FoW w1 gp s gc cc G n P) (hb : Below w1.heap.size w1 w) (hid : In64 id) (hsj : In64 sj) (hex : In64 ex) (hky : In64 ky) (hl5 : l5.length ≤ 17592186044416) (h5 : LsI w1 w1.heap.size v5 l5) :
    Code.wp Tryz.prog (r8 16) (bodyPost Tryz.prog Tryz.f8 (FoQ w0)) ⟨#[u0, u1, u2, .int .i64 id, .int .i64 sj, v5, .int .i64 ex, .int .i64 ky, u8, u9, u10, u11, u12, u13, u14, u15, u16, .pointer (some ⟨gp, 0, none⟩), .int .i64 (n : Nat), u19, u20, u21, u22, u23, u24, u25, u26, u27, u28, u29, u30, u31, u32, u33, u34, u35, u36, u37, u38, u39, u40, u41, u42, u43, u44, u45, u46, u47, u48, u49, u50, u51, u52, u53, u54, u55, u56, u57, u58, u59, u60, u61, u62, u63, u64, u65, u66, u67, u68, u69, u70, u71, u72, u73, u74, u75, u76, u77, u78, u79, u80, u81, u82, u83, u84, u85, u86, u87, u88, u89, u90, u91, u92, u93, u94, u95, u96, u97, u98, u99, u100, u101, u102, u103, u104, u105, u106, u107, u108, u109, u110, u111, u112, u113, u114, u115, u116, u117, u118, u119, u120, u121, u122, u123, u124, u125, u126, u127, u128, u129, u130, u131, u132, u133, u134, u135, u136, u137, u138, u139, u140, u141, u142, u143, u144, u145, u146, u147, u148, u149, u150, u151, u152, u153, u154, u155, u156, u157, u158, u159, u160, u161, u162, u163, u164, u165, u166, u167, u168, u169, u170, u171, u172, u173, u174, u175, u176, u177, u178, u179, u180, u181, u182, u183, u184, u185, u186, u187, u188, u189, u190, u191, u192, u193, u194, u195, u196, u197, u198, u199, u200, u201, u202, u203, u204, u205, u206, u207, u208, u209, u210, u211, u212, u213, u214, u215, u216, u217, u218, u219, u220, u221, u222, u223, u224, u225, u226, u227, u228, u229, u230, u231, u232, u233, u234, u235, u236, u237, u238, u239, u240, u241], []⟩ w := by
  have hk1 := (pickN_lt ky 3 (by decide)).1
  have hk2 := (pickN_lt ky 3 (by decide)).2
  have HPk : Hid (∀ u : World, Calls Tryz.prog 26 #[.int .i64 ky, .int .i64 3] u fun e w' => e = .returned (.int .i64 (pickN ky 3 : Nat)) ∧ u = w') := fun u => by
    have h := pickK_any ky 3 u hky (by decide)
    rw [show pickZ ky 3 = ((pickN ky 3 : Nat) : Int) from hk2] at h
    exact h.mono (fun e w' ⟨h1, h2⟩ => ⟨h1, h2.symm⟩)
  have nl : LsI w w1.heap.size (.slice none 0 0) [] := ⟨none, 0, rfl, Nat.le_refl _, fun h => absurd h (Nat.not_lt_zero _)⟩
  have HCl := claimsK_any id sj v5 (.slice none 0 0) (.slice none 0 0) l5 [] [] ex w w1.heap.size hb.size hid hsj hex hl5 (by decide) (by decide) (h5.below hb) nl nl
  have hr := rawC_right id sj l5 [] [] ex
  have ha : (rawC id sj l5 [] [] ex).aud = [] := rfl
  generalize rawC id sj l5 [] [] ex = raw at *
  generalize pickN ky 3 = k at *
  have HE := hide (fun (w' : World) (hb' : Below w1.heap.size w1 w') => fo_20 k raw gp s gc cc G n P (w0 := w0) (w1 := w1) (w := w') (hQ := hQ) (hF := hF) (hb := hb') (hk := hk1) (hr := hr) (ha := ha))
  have HPr : Hid (∀ (u : World) (p : Pl) (B : Nat), Below w1.heap.size w1 u → B ≤ u.heap.size → w1.heap.size ≤ B → CzL u B raw.z p → Calls Tryz.prog 19 #[.agg #[.int .i64 raw.z.id, .string ⟨raw.z.sub.toArray⟩, .slice p.a2 raw.z.scp.length p.c2, .slice p.a3 raw.z.aud.length p.c3, .slice p.a4 raw.z.act.length p.c4, .int .i64 raw.z.exp]] u fun e w' => e = .returned (.tuple #[.string ⟨(plainS raw).toArray⟩, .int .i64 0]) ∧ Below w1.heap.size w1 w') := fun u p B hu hB hw hL => hF.prn hu hr B hB hw hL
  have HSg : Hid (∀ u, Below w1.heap.size w1 u → Calls Tryz.prog 35 #[.int .i64 (k : Nat), .string ⟨(plainS raw).toArray⟩] u fun e w' => e = .returned (.string ⟨(tokS (kyN.getD k default) (plainS raw)).toArray⟩) ∧ Below u.heap.size u w' ∧ Below w1.heap.size w1 w') := fun u hu => hF.sgn hk1 (Nat.le_trans (plainS_length hr) (by decide)) hu
  have HCL := hide HCl
  have HBw := hide hb
  have h5c := h5
  obtain ⟨a5, c5, rfl, _⟩ := h5c
  generalize tokS (kyN.getD k default) (plainS raw) = fg at *
  generalize plainS raw = rt at *
  generalize raw.z = zr at *
  clear hF hb hQ hr ha hk1 hk2 HCl nl h5 hl5 hid hsj hex hky
  conv => arg 2; whnf
  apply wp_seq_k
  intro K1 hK1
  have HK1 := hide hK1
  clear hK1
  go_wp2_with fail
  refine (unhide HCL).mono ?_
  rintro e wA ⟨p', rfl, hN, hbA⟩
  have hBA := (unhide HBw).trans (hbA.mono (unhide HBw).size)
  have hsA := hbA.size
  obtain ⟨wB, hwB⟩ : ∃ wB, wB = wA.alloc (.cells #[.int .i64 zr.id, .string ⟨zr.sub.toArray⟩, .slice p'.a2 zr.scp.length p'.c2, .slice p'.a3 zr.aud.length p'.c3, .slice p'.a4 zr.act.length p'.c4, .int .i64 zr.exp] 60) := ⟨_, rfl⟩
  have hbB : Below wA.heap.size wA wB := by rw [hwB]; exact (Below.refl _ _).alloc (Nat.le_refl _) _
  have hR : Row wB wA.heap.size 60 6 (czF zr p') := by rw [hwB]; exact Row.new wA 60 _ _ 6 rfl (six rfl rfl rfl rfl rfl rfl)
  have hLB : CzL wB wA.heap.size zr p' := (hN.l (fun k hk => hk.2)).below hbB
  have HBB := hide (hBA.trans (hbB.mono hBA.size))
  have HP2 := hide (unhide HPr wB p' wA.heap.size (unhide HBB) hbB.size hBA.size hLB)
  have HWB := hide hwB
  have e0 : wB.cell? ⟨wA.heap.size, 0, none⟩ = some (.int .i64 zr.id) := hR.cell (by decide)
  have e1 : wB.cell? ⟨wA.heap.size, 1, none⟩ = some (.string ⟨zr.sub.toArray⟩) := hR.cell (by decide)
  have e2 : wB.cell? ⟨wA.heap.size, 2, none⟩ = some (.slice p'.a2 zr.scp.length p'.c2) := hR.cell (by decide)
  have e3 : wB.cell? ⟨wA.heap.size, 3, none⟩ = some (.slice p'.a3 zr.aud.length p'.c3) := hR.cell (by decide)
  have e4 : wB.cell? ⟨wA.heap.size, 4, none⟩ = some (.slice p'.a4 zr.act.length p'.c4) := hR.cell (by decide)
  have e5 : wB.cell? ⟨wA.heap.size, 5, none⟩ = some (.int .i64 zr.exp) := hR.cell (by decide)
  clear hN hbA hBA hsA hwB hbB hR hLB HPr
  unfold czA
  try dsimp only
  go_wp2_with fail
  rw [← unhide HWB]
  refine unhide HK1 _ _ ?_
  apply wp_seq_k
  intro K2 hK2
  have HK2 := hide hK2
  clear hK2 HK1
  go_wp2_with fail
  refine (unhide HP2).mono ?_
  rintro e wC ⟨rfl, hBC⟩
  have RC := hide hBC
  clear hBC e0 e1 e2 e3 e4 e5
  try dsimp only
  go_wp2_with fail
  refine unhide HK2 _ _ ?_
  apply wp_seq_k
  intro K3 hK3
  have HK3 := hide hK3
  clear hK3 HK2
  go_wp2_with fail
  refine (unhide HPk wC).mono ?_
  rintro e w' ⟨rfl, rfl⟩
  try dsimp only
  go_wp2_with fail
  refine unhide HK3 _ _ ?_
  apply wp_seq_k
  intro K4 hK4
  have HK4 := hide hK4
  clear hK4 HK3
  go_wp2_with fail
  refine (unhide HSg wC (unhide RC)).mono ?_
  rintro e wD ⟨rfl, _, hBD⟩
  have RD := hide hBD
  clear hBD
  try dsimp only
  go_wp2_with fail
  refine unhide HK4 _ _ ?_
  apply unhide HE
  exact unhide RD
end Go.Proofs.YtkmkkmdpjliifaaGreatDoor
