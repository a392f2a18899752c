import Derived.Test.YtkmkkmdpjliifaaGreatDoorMiCF
import Derived.Test.YtkmkkmdpjliifaaGreatDoorFoE
namespace Go.Proofs.YtkmkkmdpjliifaaGreatDoor
open Go.ChangeShapes Go.WideShapes Go.ChangeAt Go.RowKit

theorem below_setc {B : Nat} {w w' : World} {g j : Nat} {v : Value} (h : Below B w w') (hg : B ≤ g) : Below B w (w'.setCell ⟨g, j, none⟩ v) := h.trans (((But.refl g w').setCell j v).below hg)
theorem below_al {B : Nat} {w w' : World} {o : Obj} (h : Below B w w') (hs : B ≤ w'.heap.size) : Below B w (w'.alloc o) := h.alloc hs o
set_option maxRecDepth 20000 in
set_option maxHeartbeats 4000000 in
set_option linter.unusedSimpArgs false in
theorem fo_14 (id sj ex ky : Int) (v5 : Value) (l5 : List Int) (j : Nat) (gp s gc cc : Nat) (G : List Gt) (n : Nat) (P : Pl) (u0 u1 u2 u8 u9 u10 u11 u12 u13 u14 u15 u16 u19 u20 u21 u22 u23 u24 u25 u26 u27 u29 u32 u33 u34 u35 u36 u37 u38 u39 u40 u41 u42 u43 u44 u45 u46 u47 u48 u49 u50 u51 u52 u53 u54 u55 u56 u57 u58 u59 u60 u61 u62 u63 u64 u65 u66 u67 u68 u69 u70 u71 u72 u73 u74 u75 u76 u77 u78 u79 u80 u81 u82 u83 u84 u85 u86 u87 u88 u89 u90 u91 u92 u93 u94 u95 u96 u97 u98 u99 u100 u101 u102 u103 u104 u105 u106 u107 u108 u109 u110 u111 u112 u113 u114 u115 u116 u117 u118 u119 u120 u121 u122 u123 u124 u125 u126 u127 u128 u129 u130 u131 u132 u133 u134 u135 u136 u137 u138 u139 u140 u141 u142 u143 u144 u145 u146 u147 u148 u149 u150 u151 u152 u153 u154 u155 u156 u157 u158 u159 u160 u161 u162 u163 u164 u165 u166 u167 u168 u169 u170 u171 u172 u173 u174 u175 u176 u177 u178 u179 u180 u181 u182 u183 u184 u185 u186 u187 u188 u189 u190 u191 u192 u193 u194 u195 u196 u197 u198 u199 u200 u201 u202 u203 u204 u205 u206 u207 u208 u209 u210 u211 u212 u213 u214 u215 u216 u217 u218 u219 u220 u221 u222 u223 u224 u225 u226 u227 u228 u229 u230 u231 u232 u233 u234 u235 u236 u237 u238 u239 u240 u241 : Value) (w0 w1 w : World) (hQ : Below w0.heap.size w0 w1) (hF : FoW w1 gp s gc cc G n P) (hb : Below w1.heap.size w1 w) (hid : In64 id) (hsj : In64 sj) (hex : In64 ex) (hky : In64 ky) (hl5 : l5.length ≤ 17592186044416) (h5 : LsI w1 w1.heap.size v5 l5) :
    Code.wp Tryz.prog (r8 14) (bodyPost Tryz.prog Tryz.f8 (FoQ w0)) ⟨#[u0, u1, u2, .int .i64 id, .int .i64 sj, v5, .int .i64 ex, .int .i64 ky, u8, u9, u10, u11, u12, u13, u14, u15, u16, .pointer (some ⟨gp, 0, none⟩), .int .i64 (n : Nat), u19, u20, u21, u22, u23, u24, u25, u26, u27, .bool false, u29, .string ⟨(plainS (bentC (G.getD n default).c j)).toArray⟩, .int .i64 0, u32, u33, u34, u35, u36, u37, u38, u39, u40, u41, u42, u43, u44, u45, u46, u47, u48, u49, u50, u51, u52, u53, u54, u55, u56, u57, u58, u59, u60, u61, u62, u63, u64, u65, u66, u67, u68, u69, u70, u71, u72, u73, u74, u75, u76, u77, u78, u79, u80, u81, u82, u83, u84, u85, u86, u87, u88, u89, u90, u91, u92, u93, u94, u95, u96, u97, u98, u99, u100, u101, u102, u103, u104, u105, u106, u107, u108, u109, u110, u111, u112, u113, u114, u115, u116, u117, u118, u119, u120, u121, u122, u123, u124, u125, u126, u127, u128, u129, u130, u131, u132, u133, u134, u135, u136, u137, u138, u139, u140, u141, u142, u143, u144, u145, u146, u147, u148, u149, u150, u151, u152, u153, u154, u155, u156, u157, u158, u159, u160, u161, u162, u163, u164, u165, u166, u167, u168, u169, u170, u171, u172, u173, u174, u175, u176, u177, u178, u179, u180, u181, u182, u183, u184, u185, u186, u187, u188, u189, u190, u191, u192, u193, u194, u195, u196, u197, u198, u199, u200, u201, u202, u203, u204, u205, u206, u207, u208, u209, u210, u211, u212, u213, u214, u215, u216, u217, u218, u219, u220, u221, u222, u223, u224, u225, u226, u227, u228, u229, u230, u231, u232, u233, u234, u235, u236, u237, u238, u239, u240, u241], []⟩ w := by
  have HLo : Hid (∀ u : World, Calls Tryz.prog 31 #[.int .i64 1] u fun e w' => e = .returned (.agg #[.string ⟨#[99, 49]⟩, .string ⟨#[115, 49]⟩]) ∧ Below u.heap.size u w') := fun u => login_any 1 (by decide) u
  have HC0 := hide hF.c0
  have HLt := hide hF.lt
  have HBw := hide hb
  have HBd : Hid (Below w1.heap.size w1 w.drew) := (unhide HBw).drew
  have c0 := hF.c0 w hb
  have hws := hb.size
  have nnw : gp ≠ w.heap.size := by have := unhide HLt; omega
  have mmw : w.heap.size ≠ gp := by have := unhide HLt; omega
  have hk1 := (pickN_lt ex 2 (by decide)).1
  have hk2 := (pickN_lt ex 2 (by decide)).2
  have HPk : Hid (∀ u : World, Calls Tryz.prog 26 #[.int .i64 ex, .int .i64 2] u fun e w' => e = .returned (.int .i64 (pickN ex 2 : Nat)) ∧ u = w') := fun u => by
    have h := pickK_any ex 2 u hex (by decide)
    rw [show pickZ ex 2 = ((pickN ex 2 : Nat) : Int) from hk2] at h
    exact h.mono (fun e w' ⟨h1, h2⟩ => ⟨h1, h2.symm⟩)
  generalize pickN ex 2 = k at *
  have HLk : Hid (∀ u, Below w1.heap.size w1 u → Calls Tryz.prog 32 #[.pointer (some ⟨s, 0, none⟩), .agg #[.string ⟨#[99, 49]⟩, .string ⟨#[115, 49]⟩], .string ⟨(tokS (kyN.getD k default) (plainS (bentC (G.getD n default).c j))).toArray⟩] u (LkR w1 u false)) := fun u hu => hF.lied k j hk1 u hu
  have HSg : Hid (∀ u, Below w1.heap.size w1 u → Calls Tryz.prog 35 #[.int .i64 (k : Nat), .string ⟨(plainS (bentC (G.getD n default).c j)).toArray⟩] u fun e w' => e = .returned (.string ⟨(tokS (kyN.getD k default) (plainS (bentC (G.getD n default).c j))).toArray⟩) ∧ Below u.heap.size u w' ∧ Below w1.heap.size w1 w') := fun u hu => hF.sgn (by omega) (Nat.le_trans (plainS_length (bentC_right hF.rt hF.nz j)) (by decide)) hu
  have HE := hide (fun (w' : World) (hb' : Below w1.heap.size w1 w') => fo_16 id sj ex ky v5 l5 gp s gc cc G n P (w0 := w0) (w1 := w1) (w := w') (hQ := hQ) (hF := hF) (hb := hb') (hid := hid) (hsj := hsj) (hex := hex) (hky := hky) (hl5 := hl5) (h5 := h5))
  generalize tokS (kyN.getD k default) (plainS (bentC (G.getD n default).c j)) = lt at *
  generalize plainS (bentC (G.getD n default).c j) = bt at *
  clear hF hb hQ hk1 hk2 h5 hl5 hid hsj hex hky
  conv => arg 2; whnf
  apply wp_seq_k
  intro K1 hK1
  have HK1 := hide hK1
  clear hK1
  go_region_held3 (fun w' => w'.cell? ⟨gp, 0, none⟩ = some (.pointer (some ⟨s, 0, none⟩))) (go_keep)
    (first
      | (go_at_call 26; refine (unhide HPk _).mono ?_; rintro e wx ⟨rfl, rfl⟩; try dsimp only)
      | (go_at_call 31; refine (unhide HLo _).mono ?_; rintro e wB ⟨rfl, bB⟩; have BBb : Below w1.heap.size w1 wB := (by first | exact (unhide RD).trans (bB.mono (unhide RD).size) | exact ((unhide RD).alloc (unhide RD).size _).trans (bB.mono ((unhide RD).alloc (unhide RD).size _).size) | exact (unhide HBd).trans (bB.mono (unhide HBd).size) | exact ((unhide HBd).alloc (unhide HBd).size _).trans (bB.mono ((unhide HBd).alloc (unhide HBd).size _).size)); have x0b := unhide HC0 wB BBb; (first | (have R9 : Row wB wD.heap.size 60 6 (czF cz0 pl0) := (Row.new wD 60 #[.int .i64 0, .string ⟨#[]⟩, .slice none 0 0, .slice none 0 0, .slice none 0 0, .int .i64 0] (czF cz0 pl0) 6 rfl (six rfl rfl rfl rfl rfl rfl)).below bB (by simp); have q0 : wB.cell? ⟨_, 0, none⟩ = some (.int .i64 0) := R9.cell (by decide); have f0 := R9.frozen 0; have q1 : wB.cell? ⟨_, 1, none⟩ = some (.string ⟨#[]⟩) := R9.cell (by decide); have f1 := R9.frozen 1; have q2 : wB.cell? ⟨_, 2, none⟩ = some (.slice none 0 0) := R9.cell (by decide); have f2 := R9.frozen 2; have q3 : wB.cell? ⟨_, 3, none⟩ = some (.slice none 0 0) := R9.cell (by decide); have f3 := R9.frozen 3; have q4 : wB.cell? ⟨_, 4, none⟩ = some (.slice none 0 0) := R9.cell (by decide); have f4 := R9.frozen 4; have q5 : wB.cell? ⟨_, 5, none⟩ = some (.int .i64 0) := R9.cell (by decide); have f5 := R9.frozen 5) | (have R9 : Row wB w.heap.size 60 6 (czF cz0 pl0) := (Row.new w.drew 60 #[.int .i64 0, .string ⟨#[]⟩, .slice none 0 0, .slice none 0 0, .slice none 0 0, .int .i64 0] (czF cz0 pl0) 6 rfl (six rfl rfl rfl rfl rfl rfl)).below bB (by simp); have q0 : wB.cell? ⟨_, 0, none⟩ = some (.int .i64 0) := R9.cell (by decide); have f0 := R9.frozen 0; have q1 : wB.cell? ⟨_, 1, none⟩ = some (.string ⟨#[]⟩) := R9.cell (by decide); have f1 := R9.frozen 1; have q2 : wB.cell? ⟨_, 2, none⟩ = some (.slice none 0 0) := R9.cell (by decide); have f2 := R9.frozen 2; have q3 : wB.cell? ⟨_, 3, none⟩ = some (.slice none 0 0) := R9.cell (by decide); have f3 := R9.frozen 3; have q4 : wB.cell? ⟨_, 4, none⟩ = some (.slice none 0 0) := R9.cell (by decide); have f4 := R9.frozen 4; have q5 : wB.cell? ⟨_, 5, none⟩ = some (.int .i64 0) := R9.cell (by decide); have f5 := R9.frozen 5) | (have R9 := Row.below R9 bB (Row.lt R9); have q0 : wB.cell? ⟨_, 0, none⟩ = some (.int .i64 0) := R9.cell (by decide); have f0 := R9.frozen 0; have q1 : wB.cell? ⟨_, 1, none⟩ = some (.string ⟨#[]⟩) := R9.cell (by decide); have f1 := R9.frozen 1; have q2 : wB.cell? ⟨_, 2, none⟩ = some (.slice none 0 0) := R9.cell (by decide); have f2 := R9.frozen 2; have q3 : wB.cell? ⟨_, 3, none⟩ = some (.slice none 0 0) := R9.cell (by decide); have f3 := R9.frozen 3; have q4 : wB.cell? ⟨_, 4, none⟩ = some (.slice none 0 0) := R9.cell (by decide); have f4 := R9.frozen 4; have q5 : wB.cell? ⟨_, 5, none⟩ = some (.int .i64 0) := R9.cell (by decide); have f5 := R9.frozen 5) | skip); have n1wB : gp ≠ wB.heap.size := (by have := BBb.size; have := unhide HLt; omega); have m1wB : wB.heap.size ≠ gp := (by have := BBb.size; have := unhide HLt; omega); have RB := hide BBb; clear bB BBb; try dsimp only)
      | (go_at_call 35; refine (unhide HSg _ (by first | exact unhide RB | exact (unhide RB).alloc (unhide RB).size _ | exact unhide HBd | exact (unhide HBd).alloc (unhide HBd).size _)).mono ?_; rintro e wD ⟨rfl, bD, BBd⟩; have x0d := unhide HC0 wD BBd; (first | (have R9 : Row wD wB.heap.size 60 6 (czF cz0 pl0) := (Row.new wB 60 #[.int .i64 0, .string ⟨#[]⟩, .slice none 0 0, .slice none 0 0, .slice none 0 0, .int .i64 0] (czF cz0 pl0) 6 rfl (six rfl rfl rfl rfl rfl rfl)).below bD (by simp); have q0 : wD.cell? ⟨_, 0, none⟩ = some (.int .i64 0) := R9.cell (by decide); have f0 := R9.frozen 0; have q1 : wD.cell? ⟨_, 1, none⟩ = some (.string ⟨#[]⟩) := R9.cell (by decide); have f1 := R9.frozen 1; have q2 : wD.cell? ⟨_, 2, none⟩ = some (.slice none 0 0) := R9.cell (by decide); have f2 := R9.frozen 2; have q3 : wD.cell? ⟨_, 3, none⟩ = some (.slice none 0 0) := R9.cell (by decide); have f3 := R9.frozen 3; have q4 : wD.cell? ⟨_, 4, none⟩ = some (.slice none 0 0) := R9.cell (by decide); have f4 := R9.frozen 4; have q5 : wD.cell? ⟨_, 5, none⟩ = some (.int .i64 0) := R9.cell (by decide); have f5 := R9.frozen 5) | (have R9 : Row wD w.heap.size 60 6 (czF cz0 pl0) := (Row.new w.drew 60 #[.int .i64 0, .string ⟨#[]⟩, .slice none 0 0, .slice none 0 0, .slice none 0 0, .int .i64 0] (czF cz0 pl0) 6 rfl (six rfl rfl rfl rfl rfl rfl)).below bD (by simp); have q0 : wD.cell? ⟨_, 0, none⟩ = some (.int .i64 0) := R9.cell (by decide); have f0 := R9.frozen 0; have q1 : wD.cell? ⟨_, 1, none⟩ = some (.string ⟨#[]⟩) := R9.cell (by decide); have f1 := R9.frozen 1; have q2 : wD.cell? ⟨_, 2, none⟩ = some (.slice none 0 0) := R9.cell (by decide); have f2 := R9.frozen 2; have q3 : wD.cell? ⟨_, 3, none⟩ = some (.slice none 0 0) := R9.cell (by decide); have f3 := R9.frozen 3; have q4 : wD.cell? ⟨_, 4, none⟩ = some (.slice none 0 0) := R9.cell (by decide); have f4 := R9.frozen 4; have q5 : wD.cell? ⟨_, 5, none⟩ = some (.int .i64 0) := R9.cell (by decide); have f5 := R9.frozen 5) | (have R9 := Row.below R9 bD (Row.lt R9); have q0 : wD.cell? ⟨_, 0, none⟩ = some (.int .i64 0) := R9.cell (by decide); have f0 := R9.frozen 0; have q1 : wD.cell? ⟨_, 1, none⟩ = some (.string ⟨#[]⟩) := R9.cell (by decide); have f1 := R9.frozen 1; have q2 : wD.cell? ⟨_, 2, none⟩ = some (.slice none 0 0) := R9.cell (by decide); have f2 := R9.frozen 2; have q3 : wD.cell? ⟨_, 3, none⟩ = some (.slice none 0 0) := R9.cell (by decide); have f3 := R9.frozen 3; have q4 : wD.cell? ⟨_, 4, none⟩ = some (.slice none 0 0) := R9.cell (by decide); have f4 := R9.frozen 4; have q5 : wD.cell? ⟨_, 5, none⟩ = some (.int .i64 0) := R9.cell (by decide); have f5 := R9.frozen 5) | skip); have n1wD : gp ≠ wD.heap.size := (by have := BBd.size; have := unhide HLt; omega); have m1wD : wD.heap.size ≠ gp := (by have := BBd.size; have := unhide HLt; omega); have RD := hide BBd; clear bD BBd; try dsimp only)
      | (go_at_call 32; refine (unhide HLk _ (by first | exact unhide RB | exact (unhide RB).alloc (unhide RB).size _ | exact unhide RD | exact (unhide RD).alloc (unhide RD).size _)).mono ?_; rintro e wC ⟨zC, pC, rfl, bC, BBc⟩; have x0c := unhide HC0 wC BBc; (first | (have R9 : Row wC wB.heap.size 60 6 (czF cz0 pl0) := (Row.new wB 60 #[.int .i64 0, .string ⟨#[]⟩, .slice none 0 0, .slice none 0 0, .slice none 0 0, .int .i64 0] (czF cz0 pl0) 6 rfl (six rfl rfl rfl rfl rfl rfl)).below bC (by simp); have q0 : wC.cell? ⟨_, 0, none⟩ = some (.int .i64 0) := R9.cell (by decide); have f0 := R9.frozen 0; have q1 : wC.cell? ⟨_, 1, none⟩ = some (.string ⟨#[]⟩) := R9.cell (by decide); have f1 := R9.frozen 1; have q2 : wC.cell? ⟨_, 2, none⟩ = some (.slice none 0 0) := R9.cell (by decide); have f2 := R9.frozen 2; have q3 : wC.cell? ⟨_, 3, none⟩ = some (.slice none 0 0) := R9.cell (by decide); have f3 := R9.frozen 3; have q4 : wC.cell? ⟨_, 4, none⟩ = some (.slice none 0 0) := R9.cell (by decide); have f4 := R9.frozen 4; have q5 : wC.cell? ⟨_, 5, none⟩ = some (.int .i64 0) := R9.cell (by decide); have f5 := R9.frozen 5) | (have R9 : Row wC wD.heap.size 60 6 (czF cz0 pl0) := (Row.new wD 60 #[.int .i64 0, .string ⟨#[]⟩, .slice none 0 0, .slice none 0 0, .slice none 0 0, .int .i64 0] (czF cz0 pl0) 6 rfl (six rfl rfl rfl rfl rfl rfl)).below bC (by simp); have q0 : wC.cell? ⟨_, 0, none⟩ = some (.int .i64 0) := R9.cell (by decide); have f0 := R9.frozen 0; have q1 : wC.cell? ⟨_, 1, none⟩ = some (.string ⟨#[]⟩) := R9.cell (by decide); have f1 := R9.frozen 1; have q2 : wC.cell? ⟨_, 2, none⟩ = some (.slice none 0 0) := R9.cell (by decide); have f2 := R9.frozen 2; have q3 : wC.cell? ⟨_, 3, none⟩ = some (.slice none 0 0) := R9.cell (by decide); have f3 := R9.frozen 3; have q4 : wC.cell? ⟨_, 4, none⟩ = some (.slice none 0 0) := R9.cell (by decide); have f4 := R9.frozen 4; have q5 : wC.cell? ⟨_, 5, none⟩ = some (.int .i64 0) := R9.cell (by decide); have f5 := R9.frozen 5) | (have R9 := Row.below R9 bC (Row.lt R9); have q0 : wC.cell? ⟨_, 0, none⟩ = some (.int .i64 0) := R9.cell (by decide); have f0 := R9.frozen 0; have q1 : wC.cell? ⟨_, 1, none⟩ = some (.string ⟨#[]⟩) := R9.cell (by decide); have f1 := R9.frozen 1; have q2 : wC.cell? ⟨_, 2, none⟩ = some (.slice none 0 0) := R9.cell (by decide); have f2 := R9.frozen 2; have q3 : wC.cell? ⟨_, 3, none⟩ = some (.slice none 0 0) := R9.cell (by decide); have f3 := R9.frozen 3; have q4 : wC.cell? ⟨_, 4, none⟩ = some (.slice none 0 0) := R9.cell (by decide); have f4 := R9.frozen 4; have q5 : wC.cell? ⟨_, 5, none⟩ = some (.int .i64 0) := R9.cell (by decide); have f5 := R9.frozen 5) | skip); have n1wC : gp ≠ wC.heap.size := (by have := BBc.size; have := unhide HLt; omega); have m1wC : wC.heap.size ≠ gp := (by have := BBc.size; have := unhide HLt; omega); have RC := hide BBc; clear bC BBc; try dsimp only))
  all_goals (
    have RF := hide (Below.size (unhide RC))
    go_wp2_with fail
    refine unhide HK1 _ _ ?_
    clear HK1
    apply wp_seq_k
    intro K2 hK2
    have HK2 := hide hK2
    clear hK2
    go_wp2_with fail
    refine unhide HK2 _ _ ?_
    apply unhide HE
    repeat with_reducible refine below_setc ?_ (by first | exact hws | exact (unhide RB).size | exact (unhide RD).size)
    first | exact unhide RC | exact below_al (unhide RC) (unhide RC).size)
end Go.Proofs.YtkmkkmdpjliifaaGreatDoor
namespace Go.Proofs.YtkmkkmdpjliifaaGreatDoor
open Go.ChangeShapes Go.WideShapes Go.ChangeAt Go.RowKit

theorem FoW.bent {w1 : World} {gp s gc cc : Nat} {G : List Gt} {n : Nat} {P : Pl} (hF : FoW w1 gp s gc cc G n P) {id : Int} (hid : In64 id) {u : World} (hu : Below w1.heap.size w1 u) :
    Calls Tryz.prog 34 #[.agg #[.int .i64 (G.getD n default).c.z.id, .string ⟨(G.getD n default).c.z.sub.toArray⟩, .slice P.a2 (G.getD n default).c.z.scp.length P.c2, .slice P.a3 (G.getD n default).c.z.aud.length P.c3, .slice P.a4 (G.getD n default).c.z.act.length P.c4, .int .i64 (G.getD n default).c.z.exp], .int .i64 id] u fun e w' => ∃ p', e = .returned (.agg #[.int .i64 (bentC (G.getD n default).c (pickN id 5)).z.id, .string ⟨(bentC (G.getD n default).c (pickN id 5)).z.sub.toArray⟩, .slice p'.a2 (bentC (G.getD n default).c (pickN id 5)).z.scp.length p'.c2, .slice p'.a3 (bentC (G.getD n default).c (pickN id 5)).z.aud.length p'.c3, .slice p'.a4 (bentC (G.getD n default).c (pickN id 5)).z.act.length p'.c4, .int .i64 (bentC (G.getD n default).c (pickN id 5)).z.exp]) ∧ CzL w' w'.heap.size (bentC (G.getD n default).c (pickN id 5)).z p' ∧ Below w1.heap.size w1 w' := by
  obtain ⟨_, h2, h3, h4, _, _⟩ := (right_iff _).1 hF.rt
  have he := hF.nz.exp
  have h := bent_any (G.getD n default).c.z P id u w1.heap.size hu.size hid ((listB_iff _).1 h2).1 ((listB_iff _).1 h3).1 ((listB_iff _).1 h4).1 ⟨Int.natCast_nonneg _, Int.ofNat_le.2 he⟩ (hF.ls u hu)
  rw [← bentC_z] at h
  exact h.mono (fun _ _ ⟨p', h1, h2, h3⟩ => ⟨p', h1, h2, hu.trans (h3.mono hu.size)⟩)
set_option maxRecDepth 20000 in
set_option maxHeartbeats 4000000 in
set_option linter.unusedSimpArgs false in
theorem fo_13 (id sj ex ky : Int) (v5 : Value) (l5 : List Int) (gp s gc cc : Nat) (G : List Gt) (n : Nat) (P : Pl) (u0 u1 u2 u8 u9 u10 u11 u12 u13 u14 u15 u16 u19 u20 u21 u22 u23 u24 u25 u26 u27 u29 u30 u31 u32 u33 u34 u35 u36 u37 u38 u39 u40 u41 u42 u43 u44 u45 u46 u47 u48 u49 u50 u51 u52 u53 u54 u55 u56 u57 u58 u59 u60 u61 u62 u63 u64 u65 u66 u67 u68 u69 u70 u71 u72 u73 u74 u75 u76 u77 u78 u79 u80 u81 u82 u83 u84 u85 u86 u87 u88 u89 u90 u91 u92 u93 u94 u95 u96 u97 u98 u99 u100 u101 u102 u103 u104 u105 u106 u107 u108 u109 u110 u111 u112 u113 u114 u115 u116 u117 u118 u119 u120 u121 u122 u123 u124 u125 u126 u127 u128 u129 u130 u131 u132 u133 u134 u135 u136 u137 u138 u139 u140 u141 u142 u143 u144 u145 u146 u147 u148 u149 u150 u151 u152 u153 u154 u155 u156 u157 u158 u159 u160 u161 u162 u163 u164 u165 u166 u167 u168 u169 u170 u171 u172 u173 u174 u175 u176 u177 u178 u179 u180 u181 u182 u183 u184 u185 u186 u187 u188 u189 u190 u191 u192 u193 u194 u195 u196 u197 u198 u199 u200 u201 u202 u203 u204 u205 u206 u207 u208 u209 u210 u211 u212 u213 u214 u215 u216 u217 u218 u219 u220 u221 u222 u223 u224 u225 u226 u227 u228 u229 u230 u231 u232 u233 u234 u235 u236 u237 u238 u239 u240 u241 : Value) (w0 w1 w : World) (hQ : Below w0.heap.size w0 w1) (hF : FoW w1 gp s gc cc G n P) (hb : Below w1.heap.size w1 w) (hid : In64 id) (hsj : In64 sj) (hex : In64 ex) (hky : In64 ky) (hl5 : l5.length ≤ 17592186044416) (h5 : LsI w1 w1.heap.size v5 l5) :
    Code.wp Tryz.prog (r8 13) (bodyPost Tryz.prog Tryz.f8 (FoQ w0)) ⟨#[u0, u1, u2, .int .i64 id, .int .i64 sj, v5, .int .i64 ex, .int .i64 ky, u8, u9, u10, u11, u12, u13, u14, u15, u16, .pointer (some ⟨gp, 0, none⟩), .int .i64 (n : Nat), u19, u20, u21, u22, u23, u24, u25, u26, u27, .bool false, u29, u30, u31, u32, u33, u34, u35, u36, u37, u38, u39, u40, u41, u42, u43, u44, u45, u46, u47, u48, u49, u50, u51, u52, u53, u54, u55, u56, u57, u58, u59, u60, u61, u62, u63, u64, u65, u66, u67, u68, u69, u70, u71, u72, u73, u74, u75, u76, u77, u78, u79, u80, u81, u82, u83, u84, u85, u86, u87, u88, u89, u90, u91, u92, u93, u94, u95, u96, u97, u98, u99, u100, u101, u102, u103, u104, u105, u106, u107, u108, u109, u110, u111, u112, u113, u114, u115, u116, u117, u118, u119, u120, u121, u122, u123, u124, u125, u126, u127, u128, u129, u130, u131, u132, u133, u134, u135, u136, u137, u138, u139, u140, u141, u142, u143, u144, u145, u146, u147, u148, u149, u150, u151, u152, u153, u154, u155, u156, u157, u158, u159, u160, u161, u162, u163, u164, u165, u166, u167, u168, u169, u170, u171, u172, u173, u174, u175, u176, u177, u178, u179, u180, u181, u182, u183, u184, u185, u186, u187, u188, u189, u190, u191, u192, u193, u194, u195, u196, u197, u198, u199, u200, u201, u202, u203, u204, u205, u206, u207, u208, u209, u210, u211, u212, u213, u214, u215, u216, u217, u218, u219, u220, u221, u222, u223, u224, u225, u226, u227, u228, u229, u230, u231, u232, u233, u234, u235, u236, u237, u238, u239, u240, u241], []⟩ w := by
  have hnI : (n : Int) < (G.length : Int) := Int.ofNat_lt.2 hF.n1
  have hn0 : ¬ (n : Int) < 0 := Int.not_lt.2 (Int.natCast_nonneg _)
  have HBn := hide (hF.bent hid hb)
  have d2 := hF.c2 w hb
  have dj := hF.cj w hb
  have hbr := bentC_right hF.rt hF.nz (pickN id 5)
  have HE := hide (fun (w' : World) (hb' : Below w1.heap.size w1 w') => fo_14 id sj ex ky v5 l5 (pickN id 5) gp s gc cc G n P (w0 := w0) (w1 := w1) (w := w') (hQ := hQ) (hF := hF) (hb := hb') (hid := hid) (hsj := hsj) (hex := hex) (hky := hky) (hl5 := hl5) (h5 := h5))
  have HPr : Hid (∀ (u : World) (p : Pl), Below w1.heap.size w1 u → CzL u u.heap.size (bentC (G.getD n default).c (pickN id 5)).z p → Calls Tryz.prog 19 #[.agg #[.int .i64 (bentC (G.getD n default).c (pickN id 5)).z.id, .string ⟨(bentC (G.getD n default).c (pickN id 5)).z.sub.toArray⟩, .slice p.a2 (bentC (G.getD n default).c (pickN id 5)).z.scp.length p.c2, .slice p.a3 (bentC (G.getD n default).c (pickN id 5)).z.aud.length p.c3, .slice p.a4 (bentC (G.getD n default).c (pickN id 5)).z.act.length p.c4, .int .i64 (bentC (G.getD n default).c (pickN id 5)).z.exp]] u fun e w' => e = .returned (.tuple #[.string ⟨(plainS (bentC (G.getD n default).c (pickN id 5))).toArray⟩, .int .i64 0]) ∧ Below w1.heap.size w1 w') := fun u p hu hL => hF.prn hu hbr u.heap.size (Nat.le_refl _) hu.size hL
  generalize plainS (bentC (G.getD n default).c (pickN id 5)) = bt at *
  generalize (bentC (G.getD n default).c (pickN id 5)).z = zb at *
  generalize (G.getD n default).c.z = zc at *
  have e0 : w.cell? ⟨gc, n * 6, none⟩ = some (.int .i64 zc.id) := dj 0 (by decide)
  have e1 : w.cell? ⟨gc, n * 6 + 1, none⟩ = some (.string ⟨zc.sub.toArray⟩) := dj 1 (by decide)
  have e2 : w.cell? ⟨gc, n * 6 + 2, none⟩ = some (.slice P.a2 zc.scp.length P.c2) := dj 2 (by decide)
  have e3 : w.cell? ⟨gc, n * 6 + 3, none⟩ = some (.slice P.a3 zc.aud.length P.c3) := dj 3 (by decide)
  have e4 : w.cell? ⟨gc, n * 6 + 4, none⟩ = some (.slice P.a4 zc.act.length P.c4) := dj 4 (by decide)
  have e5 : w.cell? ⟨gc, n * 6 + 5, none⟩ = some (.int .i64 zc.exp) := dj 5 (by decide)
  clear hF hb hQ hbr h5 hl5 hid hsj hex hky dj
  conv => arg 2; whnf
  apply wp_seq_k
  intro K1 hK1
  have HK1 := hide hK1
  clear hK1
  go_wp2_with fail
  refine (unhide HBn).mono ?_
  rintro e wA ⟨p', rfl, hL, hBA⟩
  have HP2 := hide (unhide HPr wA p' hBA hL)
  clear hL hBA e0 e1 e2 e3 e4 e5 d2
  try dsimp only
  go_wp2_with fail
  refine (unhide HP2).mono ?_
  rintro e wB ⟨rfl, hBB⟩
  have RB := hide hBB
  clear hBB
  try dsimp only
  go_wp2_with fail
  refine unhide HK1 _ _ ?_
  apply unhide HE
  exact unhide RB
end Go.Proofs.YtkmkkmdpjliifaaGreatDoor
namespace Go.Proofs.YtkmkkmdpjliifaaGreatDoor
open Go.ChangeShapes Go.WideShapes Go.ChangeAt Go.RowKit

theorem p1_num {p : Nat} (h : p ≤ 20000) : wrap64 ((p : Int) + 1) = ((p + 1 : Nat) : Int) ∧ IntKind.i64.wrap ((p : Int) + 1) = ((p + 1 : Nat) : Int) := by
  refine ⟨?_, ?_⟩
  · rw [w64 _ (by omega) (by omega)]; omega
  · rw [w64q _ ⟨by omega, by omega⟩]; omega
set_option maxRecDepth 20000 in
set_option maxHeartbeats 4000000 in
set_option linter.unusedSimpArgs false in
theorem fo_12 (id sj ex ky : Int) (v5 : Value) (l5 : List Int) (m : Nat) (sx : UInt8) (gp s gc cc : Nat) (G : List Gt) (n : Nat) (P : Pl) (u0 u1 u2 u8 u9 u10 u11 u12 u13 u14 u15 u16 u20 u21 u22 u23 u24 u27 u28 u29 u30 u31 u32 u33 u34 u35 u36 u37 u38 u39 u40 u41 u42 u43 u44 u45 u46 u47 u48 u49 u50 u51 u52 u53 u54 u55 u56 u57 u58 u59 u60 u61 u62 u63 u64 u65 u66 u67 u68 u69 u70 u71 u72 u73 u74 u75 u76 u77 u78 u79 u80 u81 u82 u83 u84 u85 u86 u87 u88 u89 u90 u91 u92 u93 u94 u95 u96 u97 u98 u99 u100 u101 u102 u103 u104 u105 u106 u107 u108 u109 u110 u111 u112 u113 u114 u115 u116 u117 u118 u119 u120 u121 u122 u123 u124 u125 u126 u127 u128 u129 u130 u131 u132 u133 u134 u135 u136 u137 u138 u139 u140 u141 u142 u143 u144 u145 u146 u147 u148 u149 u150 u151 u152 u153 u154 u155 u156 u157 u158 u159 u160 u161 u162 u163 u164 u165 u166 u167 u168 u169 u170 u171 u172 u173 u174 u175 u176 u177 u178 u179 u180 u181 u182 u183 u184 u185 u186 u187 u188 u189 u190 u191 u192 u193 u194 u195 u196 u197 u198 u199 u200 u201 u202 u203 u204 u205 u206 u207 u208 u209 u210 u211 u212 u213 u214 u215 u216 u217 u218 u219 u220 u221 u222 u223 u224 u225 u226 u227 u228 u229 u230 u231 u232 u233 u234 u235 u236 u237 u238 u239 u240 u241 : Value) (w0 w1 w : World) (hQ : Below w0.heap.size w0 w1) (hF : FoW w1 gp s gc cc G n P) (hb : Below w1.heap.size w1 w) (hid : In64 id) (hsj : In64 sj) (hex : In64 ex) (hky : In64 ky) (hl5 : l5.length ≤ 17592186044416) (h5 : LsI w1 w1.heap.size v5 l5) (hm : m < 43) (hsx : (m3G G n).getD m 0 ≠ sx) :
    Code.wp Tryz.prog (r8 12) (bodyPost Tryz.prog Tryz.f8 (FoQ w0)) ⟨#[u0, u1, u2, .int .i64 id, .int .i64 sj, v5, .int .i64 ex, .int .i64 ky, u8, u9, u10, u11, u12, u13, u14, u15, u16, .pointer (some ⟨gp, 0, none⟩), .int .i64 (n : Nat), .string ⟨(sgG G n ++ [46] ++ m3G G n).toArray⟩, u20, u21, u22, u23, u24, .int .i64 (((sgG G n).length + 1 + m : Nat) : Int), .string ⟨#[sx]⟩, u27, u28, u29, u30, u31, u32, u33, u34, u35, u36, u37, u38, u39, u40, u41, u42, u43, u44, u45, u46, u47, u48, u49, u50, u51, u52, u53, u54, u55, u56, u57, u58, u59, u60, u61, u62, u63, u64, u65, u66, u67, u68, u69, u70, u71, u72, u73, u74, u75, u76, u77, u78, u79, u80, u81, u82, u83, u84, u85, u86, u87, u88, u89, u90, u91, u92, u93, u94, u95, u96, u97, u98, u99, u100, u101, u102, u103, u104, u105, u106, u107, u108, u109, u110, u111, u112, u113, u114, u115, u116, u117, u118, u119, u120, u121, u122, u123, u124, u125, u126, u127, u128, u129, u130, u131, u132, u133, u134, u135, u136, u137, u138, u139, u140, u141, u142, u143, u144, u145, u146, u147, u148, u149, u150, u151, u152, u153, u154, u155, u156, u157, u158, u159, u160, u161, u162, u163, u164, u165, u166, u167, u168, u169, u170, u171, u172, u173, u174, u175, u176, u177, u178, u179, u180, u181, u182, u183, u184, u185, u186, u187, u188, u189, u190, u191, u192, u193, u194, u195, u196, u197, u198, u199, u200, u201, u202, u203, u204, u205, u206, u207, u208, u209, u210, u211, u212, u213, u214, u215, u216, u217, u218, u219, u220, u221, u222, u223, u224, u225, u226, u227, u228, u229, u230, u231, u232, u233, u234, u235, u236, u237, u238, u239, u240, u241], []⟩ w := by
  have HLo : Hid (∀ u : World, Calls Tryz.prog 31 #[.int .i64 0] u fun e w' => e = .returned (.agg #[.string ⟨#[99, 48]⟩, .string ⟨#[115, 48]⟩]) ∧ Below u.heap.size u w') := fun u => login_any 0 (by decide) u
  have HC0 := hide hF.c0
  have HLt := hide hF.lt
  have HBw := hide hb
  have HBd : Hid (Below w1.heap.size w1 w.drew) := (unhide HBw).drew
  have c0 := hF.c0 w hb
  have hws := hb.size
  have nnw : gp ≠ w.heap.size := by have := unhide HLt; omega
  have mmw : w.heap.size ≠ gp := by have := unhide HLt; omega
  have hml := m3G_len G n
  have hsg := hF.sg
  have HL3 := hide hF.lk3
  generalize sgG G n = sg at *
  generalize m3G G n = m3 at *
  have hlen : (sg ++ [46] ++ m3).length = sg.length + 44 := by simp only [List.length_append, List.length_cons, List.length_nil]; omega
  have hxl := turned_len (l := m3) (m := m) (by omega) sx
  have hxn := turned_ne (l := m3) (m := m) (by omega) hsx
  have hin := turned_in sg m3 m sx
  have HLk : Hid (∀ u, Below w1.heap.size w1 u → Calls Tryz.prog 32 #[.pointer (some ⟨s, 0, none⟩), .agg #[.string ⟨#[99, 48]⟩, .string ⟨#[115, 48]⟩], .string ⟨(sg ++ [46] ++ (m3.take m ++ [sx] ++ m3.drop (m + 1))).toArray⟩] u (LkR w1 u false)) := fun u hu => by
    have h := unhide HL3 (m3.take m ++ [sx] ++ m3.drop (m + 1)) (by rw [hxl]; omega) u hu
    rw [decide_eq_false hxn] at h
    exact h
  rw [← hin] at HLk
  clear HL3
  have HE := hide (fun (w' : World) (hb' : Below w1.heap.size w1 w') => fo_13 id sj ex ky v5 l5 gp s gc cc G n P (w0 := w0) (w1 := w1) (w := w') (hQ := hQ) (hF := hF) (hb := hb') (hid := hid) (hsj := hsj) (hex := hex) (hky := hky) (hl5 := hl5) (h5 := h5))
  obtain ⟨pp, hpp⟩ : ∃ pp, pp = sg.length + 1 + m := ⟨_, rfl⟩
  rw [← hpp] at HLk ⊢
  have hp1 : pp + 1 ≤ (sg ++ [46] ++ m3).length := by omega
  have hp2 : pp ≤ 10000 := by omega
  have hl2 : (sg ++ [46] ++ m3).length ≤ 10000 := by omega
  generalize sg ++ [46] ++ m3 = tok at *
  have k1 := fun u => upto_any tok pp (by omega) u _ rfl
  have k2 := fun u => drop_any tok (pp + 1) hp1 u
  obtain ⟨t1, ht1, hl1, k3⟩ := cat_is (tok.take pp) [sx] 10000 1 (by rw [List.length_take]; omega) (by simp) (by decide)
  obtain ⟨t2, ht2, hl3, k4⟩ := cat_is t1 (tok.drop (pp + 1)) _ 10000 hl1 (by rw [List.length_drop]; omega) (by decide)
  rw [← ht1, ← ht2] at HLk
  obtain ⟨hw1, hw2⟩ := p1_num (p := pp) (by omega)
  generalize tok.take pp = ta at *
  generalize tok.drop (pp + 1) = tb at *
  generalize hP1 : ((pp + 1 : Nat) : Int) = q1 at *
  clear hF hb hQ h5 hl5 hid hsj hex hky hml hsg hlen hxl hxn hin hpp hp1 hp2 hl2 ht1 ht2 hl1 hl3 hm hsx hP1
  conv => arg 2; whnf
  apply wp_seq_k
  intro K1 hK1
  have HK1 := hide hK1
  clear hK1
  go_region_held3 (fun w' => w'.cell? ⟨gp, 0, none⟩ = some (.pointer (some ⟨s, 0, none⟩))) (go_keep)
    (first
      | (go_at_call 31; refine (unhide HLo _).mono ?_; rintro e wB ⟨rfl, bB⟩; have BBb : Below w1.heap.size w1 wB := (by first | exact (unhide HBd).trans (bB.mono (unhide HBd).size) | exact ((unhide HBd).alloc (unhide HBd).size _).trans (bB.mono ((unhide HBd).alloc (unhide HBd).size _).size)); have x0b := unhide HC0 wB BBb; (first | (have R9 : Row wB w.heap.size 60 6 (czF cz0 pl0) := (Row.new w.drew 60 #[.int .i64 0, .string ⟨#[]⟩, .slice none 0 0, .slice none 0 0, .slice none 0 0, .int .i64 0] (czF cz0 pl0) 6 rfl (six rfl rfl rfl rfl rfl rfl)).below bB (by simp); have q0 : wB.cell? ⟨_, 0, none⟩ = some (.int .i64 0) := R9.cell (by decide); have f0 := R9.frozen 0; have q1 : wB.cell? ⟨_, 1, none⟩ = some (.string ⟨#[]⟩) := R9.cell (by decide); have f1 := R9.frozen 1; have q2 : wB.cell? ⟨_, 2, none⟩ = some (.slice none 0 0) := R9.cell (by decide); have f2 := R9.frozen 2; have q3 : wB.cell? ⟨_, 3, none⟩ = some (.slice none 0 0) := R9.cell (by decide); have f3 := R9.frozen 3; have q4 : wB.cell? ⟨_, 4, none⟩ = some (.slice none 0 0) := R9.cell (by decide); have f4 := R9.frozen 4; have q5 : wB.cell? ⟨_, 5, none⟩ = some (.int .i64 0) := R9.cell (by decide); have f5 := R9.frozen 5) | skip); have n1wB : gp ≠ wB.heap.size := (by have := BBb.size; have := unhide HLt; omega); have m1wB : wB.heap.size ≠ gp := (by have := BBb.size; have := unhide HLt; omega); have RB := hide BBb; clear bB BBb; try dsimp only)
      | (go_at_call 32; refine (unhide HLk _ (by first | exact (unhide RB) | exact (unhide RB).alloc (unhide RB).size _)).mono ?_; rintro e wC ⟨zC, pC, rfl, bC, BBc⟩; have x0c := unhide HC0 wC BBc; (first | (have R9 : Row wC wB.heap.size 60 6 (czF cz0 pl0) := (Row.new wB 60 #[.int .i64 0, .string ⟨#[]⟩, .slice none 0 0, .slice none 0 0, .slice none 0 0, .int .i64 0] (czF cz0 pl0) 6 rfl (six rfl rfl rfl rfl rfl rfl)).below bC (by simp); have q0 : wC.cell? ⟨_, 0, none⟩ = some (.int .i64 0) := R9.cell (by decide); have f0 := R9.frozen 0; have q1 : wC.cell? ⟨_, 1, none⟩ = some (.string ⟨#[]⟩) := R9.cell (by decide); have f1 := R9.frozen 1; have q2 : wC.cell? ⟨_, 2, none⟩ = some (.slice none 0 0) := R9.cell (by decide); have f2 := R9.frozen 2; have q3 : wC.cell? ⟨_, 3, none⟩ = some (.slice none 0 0) := R9.cell (by decide); have f3 := R9.frozen 3; have q4 : wC.cell? ⟨_, 4, none⟩ = some (.slice none 0 0) := R9.cell (by decide); have f4 := R9.frozen 4; have q5 : wC.cell? ⟨_, 5, none⟩ = some (.int .i64 0) := R9.cell (by decide); have f5 := R9.frozen 5) | (have R9 := Row.below R9 bC (Row.lt R9); have q0 : wC.cell? ⟨_, 0, none⟩ = some (.int .i64 0) := R9.cell (by decide); have f0 := R9.frozen 0; have q1 : wC.cell? ⟨_, 1, none⟩ = some (.string ⟨#[]⟩) := R9.cell (by decide); have f1 := R9.frozen 1; have q2 : wC.cell? ⟨_, 2, none⟩ = some (.slice none 0 0) := R9.cell (by decide); have f2 := R9.frozen 2; have q3 : wC.cell? ⟨_, 3, none⟩ = some (.slice none 0 0) := R9.cell (by decide); have f3 := R9.frozen 3; have q4 : wC.cell? ⟨_, 4, none⟩ = some (.slice none 0 0) := R9.cell (by decide); have f4 := R9.frozen 4; have q5 : wC.cell? ⟨_, 5, none⟩ = some (.int .i64 0) := R9.cell (by decide); have f5 := R9.frozen 5) | skip); have n1wC : gp ≠ wC.heap.size := (by have := BBc.size; have := unhide HLt; omega); have m1wC : wC.heap.size ≠ gp := (by have := BBc.size; have := unhide HLt; omega); have RC := hide BBc; clear bC BBc; try dsimp only))
  · go_wp2_with fail
    refine unhide HK1 _ _ ?_
    apply unhide HE
    exact (unhide RC).alloc (unhide RC).size _
  · go_wp2_with fail
    refine unhide HK1 _ _ ?_
    apply unhide HE
    exact (unhide RC).trans ((st6_but _ wB.heap.size zC pC).below (unhide RB).size)
  · go_wp2_with fail
    refine unhide HK1 _ _ ?_
    apply unhide HE
    exact (unhide RC).trans ((st6_but _ w.heap.size zC pC).below hws)
end Go.Proofs.YtkmkkmdpjliifaaGreatDoor
