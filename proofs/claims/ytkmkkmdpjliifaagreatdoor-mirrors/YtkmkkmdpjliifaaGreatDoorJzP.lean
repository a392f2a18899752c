import Derived.Test.YtkmkkmdpjliifaaGreatDoorJzM
namespace Go.Proofs.YtkmkkmdpjliifaaGreatDoor
open Go.ChangeShapes Go.WideShapes Go.ChangeAt Go.RowKit

def atOf : Option Value → Nat
  | some (.int _ q) => q.toNat
  | _ => 0
/-- the frame at the label -/
def FrJ (T : List UInt8) (w : World) (a' : Act) (w' : World) : Prop :=
  ∃ (want cur : Nat) (m : Nat → Bool) (c : Cm) (p : Pl) (a : Nat) (u : Nat → Value), a' = { tmps := #[.string ⟨T.toArray⟩, undef, .pointer (some ⟨w.heap.size, 0, none⟩), .bool false, .pointer (some ⟨w.heap.size + 1, 0, none⟩), .pointer (some ⟨w.heap.size + 1 + 1, 0, none⟩), .int .i64 (want : Nat), u 7, u 8, u 9, u 10, u 11, u 12, u 13, u 14, u 15, u 16, u 17, u 18, u 19, u 20, u 21, u 22, u 23, u 24, u 25, u 26, u 27, u 28, u 29, u 30, u 31, u 32, u 33, u 34, u 35, u 36, u 37, u 38, u 39, u 40, u 41, u 42, u 43, u 44, u 45, u 46, u 47, u 48, u 49, u 50, u 51, u 52, u 53, u 54, u 55, u 56, u 57, u 58, u 59, u 60, u 61, u 62, u 63, u 64, u 65, u 66, u 67, u 68, u 69, u 70, u 71, u 72, u 73, u 74, u 75, u 76, u 77, u 78, u 79, u 80, u 81, u 82, u 83, u 84, u 85, u 86, u 87, u 88, u 89, u 90, u 91, u 92, u 93, u 94, u 95, u 96, u 97, u 98, u 99, u 100, u 101, u 102, u 103, u 104, u 105, u 106, u 107, u 108, u 109, u 110, u 111, u 112, u 113, u 114, u 115, u 116, u 117, u 118, u 119, u 120, u 121, u 122, u 123, u 124, u 125, u 126, u 127, u 128, u 129, u 130, u 131, u 132, u 133, u 134, u 135, u 136, u 137, u 138, u 139, u 140, u 141], defers := [] } ∧ want ≤ 8 ∧ JM w w' T want cur m c p a
theorem FrJ.intro {T : List UInt8} {w : World} {A : Act} {w' : World} {want cur : Nat} {m : Nat → Bool} {c : Cm} {p : Pl} {a : Nat} (h : A = { tmps := #[.string ⟨T.toArray⟩, undef, .pointer (some ⟨w.heap.size, 0, none⟩), .bool false, .pointer (some ⟨w.heap.size + 1, 0, none⟩), .pointer (some ⟨w.heap.size + 1 + 1, 0, none⟩), .int .i64 (want : Nat), A.tmps.getD 7 undef, A.tmps.getD 8 undef, A.tmps.getD 9 undef, A.tmps.getD 10 undef, A.tmps.getD 11 undef, A.tmps.getD 12 undef, A.tmps.getD 13 undef, A.tmps.getD 14 undef, A.tmps.getD 15 undef, A.tmps.getD 16 undef, A.tmps.getD 17 undef, A.tmps.getD 18 undef, A.tmps.getD 19 undef, A.tmps.getD 20 undef, A.tmps.getD 21 undef, A.tmps.getD 22 undef, A.tmps.getD 23 undef, A.tmps.getD 24 undef, A.tmps.getD 25 undef, A.tmps.getD 26 undef, A.tmps.getD 27 undef, A.tmps.getD 28 undef, A.tmps.getD 29 undef, A.tmps.getD 30 undef, A.tmps.getD 31 undef, A.tmps.getD 32 undef, A.tmps.getD 33 undef, A.tmps.getD 34 undef, A.tmps.getD 35 undef, A.tmps.getD 36 undef, A.tmps.getD 37 undef, A.tmps.getD 38 undef, A.tmps.getD 39 undef, A.tmps.getD 40 undef, A.tmps.getD 41 undef, A.tmps.getD 42 undef, A.tmps.getD 43 undef, A.tmps.getD 44 undef, A.tmps.getD 45 undef, A.tmps.getD 46 undef, A.tmps.getD 47 undef, A.tmps.getD 48 undef, A.tmps.getD 49 undef, A.tmps.getD 50 undef, A.tmps.getD 51 undef, A.tmps.getD 52 undef, A.tmps.getD 53 undef, A.tmps.getD 54 undef, A.tmps.getD 55 undef, A.tmps.getD 56 undef, A.tmps.getD 57 undef, A.tmps.getD 58 undef, A.tmps.getD 59 undef, A.tmps.getD 60 undef, A.tmps.getD 61 undef, A.tmps.getD 62 undef, A.tmps.getD 63 undef, A.tmps.getD 64 undef, A.tmps.getD 65 undef, A.tmps.getD 66 undef, A.tmps.getD 67 undef, A.tmps.getD 68 undef, A.tmps.getD 69 undef, A.tmps.getD 70 undef, A.tmps.getD 71 undef, A.tmps.getD 72 undef, A.tmps.getD 73 undef, A.tmps.getD 74 undef, A.tmps.getD 75 undef, A.tmps.getD 76 undef, A.tmps.getD 77 undef, A.tmps.getD 78 undef, A.tmps.getD 79 undef, A.tmps.getD 80 undef, A.tmps.getD 81 undef, A.tmps.getD 82 undef, A.tmps.getD 83 undef, A.tmps.getD 84 undef, A.tmps.getD 85 undef, A.tmps.getD 86 undef, A.tmps.getD 87 undef, A.tmps.getD 88 undef, A.tmps.getD 89 undef, A.tmps.getD 90 undef, A.tmps.getD 91 undef, A.tmps.getD 92 undef, A.tmps.getD 93 undef, A.tmps.getD 94 undef, A.tmps.getD 95 undef, A.tmps.getD 96 undef, A.tmps.getD 97 undef, A.tmps.getD 98 undef, A.tmps.getD 99 undef, A.tmps.getD 100 undef, A.tmps.getD 101 undef, A.tmps.getD 102 undef, A.tmps.getD 103 undef, A.tmps.getD 104 undef, A.tmps.getD 105 undef, A.tmps.getD 106 undef, A.tmps.getD 107 undef, A.tmps.getD 108 undef, A.tmps.getD 109 undef, A.tmps.getD 110 undef, A.tmps.getD 111 undef, A.tmps.getD 112 undef, A.tmps.getD 113 undef, A.tmps.getD 114 undef, A.tmps.getD 115 undef, A.tmps.getD 116 undef, A.tmps.getD 117 undef, A.tmps.getD 118 undef, A.tmps.getD 119 undef, A.tmps.getD 120 undef, A.tmps.getD 121 undef, A.tmps.getD 122 undef, A.tmps.getD 123 undef, A.tmps.getD 124 undef, A.tmps.getD 125 undef, A.tmps.getD 126 undef, A.tmps.getD 127 undef, A.tmps.getD 128 undef, A.tmps.getD 129 undef, A.tmps.getD 130 undef, A.tmps.getD 131 undef, A.tmps.getD 132 undef, A.tmps.getD 133 undef, A.tmps.getD 134 undef, A.tmps.getD 135 undef, A.tmps.getD 136 undef, A.tmps.getD 137 undef, A.tmps.getD 138 undef, A.tmps.getD 139 undef, A.tmps.getD 140 undef, A.tmps.getD 141 undef], defers := [] }) (hw : want ≤ 8) (hJ : JM w w' T want cur m c p a) : FrJ T w A w' :=
  ⟨want, cur, m, c, p, a, fun i => A.tmps.getD i undef, h, hw, hJ⟩
def muOf (T : List UInt8) (w : World) (_ : Act) (w' : World) : Nat := T.length - atOf (w'.cell? ⟨w.heap.size + 1, 1, none⟩)
theorem JM.muEq {w0 wr : World} {T : List UInt8} {want cur : Nat} {m : Nat → Bool} {c : Cm} {p : Pl} {a : Nat} (h : JM w0 wr T want cur m c p a) (A : Act) : muOf T w0 A wr = T.length - a := by
  unfold muOf
  rw [h.sc.c1]
  rfl

/-- the machine's memory -/
structure JS (w0 wr : World) (T : List UInt8) (cur : Nat) (m : Nat → Bool) (c : Cm) (p : Pl) (a : Nat) : Prop where
  sc : Sc wr (w0.heap.size + 1) T a
  la : a ≤ T.length
  dr : Dr wr (w0.heap.size + 2) c.z p cur m
  l3 : L3 wr (w0.heap.size + 3) c p
  res : Row wr w0.heap.size 60 6 (czF cz0 pl0)
  ut : UT wr
  bel : Below w0.heap.size w0 wr
  sz : w0.heap.size + 3 ≤ wr.heap.size
theorem JM.js {w0 wr : World} {T : List UInt8} {want cur : Nat} {m : Nat → Bool} {c : Cm} {p : Pl} {a : Nat} (h : JM w0 wr T want cur m c p a) : JS w0 wr T cur m c p a := ⟨h.sc, h.la, h.dr, h.l3, h.res, h.ut, h.bel, h.sz⟩
theorem JS.next {w0 wr w1 : World} {T : List UInt8} {cur : Nat} {m : Nat → Bool} {c : Cm} {p : Pl} {a b : Nat} (h : JS w0 wr T cur m c p a) (h2 : 2 < w0.heap.size) (hg : Gr (w0.heap.size + 1) wr w1) (hs : Sc w1 (w0.heap.size + 1) T b) (hb : b ≤ T.length) : JS w0 w1 T cur m c p b :=
  have hz := h.sz
  ⟨hs, hb, Row.keep h.dr (hg.block _ (by omega) (by omega)), h.l3.gr hg (by omega), Row.keep h.res (hg.block _ (by omega) (by omega)), h.ut.gr (by omega) hg, h.bel.trans (hg.below (by omega) (by omega)), Nat.le_trans hz hg.size⟩
theorem JS.alloc {w0 wr : World} {T : List UInt8} {cur : Nat} {m : Nat → Bool} {c : Cm} {p : Pl} {a : Nat} (h : JS w0 wr T cur m c p a) (o : Obj) : JS w0 (wr.alloc o) T cur m c p a :=
  have hz := h.sz
  have hb : Below wr.heap.size wr (wr.alloc o) := (Below.refl _ _).alloc (Nat.le_refl _) o
  ⟨Row.alloc h.sc o, h.la, Row.alloc h.dr o, ⟨h.l3.o2.below hb, h.l3.o3.below hb, h.l3.o4.below hb, h.l3.d23, h.l3.d24, h.l3.d34⟩, Row.alloc h.res o, h.ut.belowS hb, h.bel.alloc (by omega) o, by simp; omega⟩
theorem JS.draft {w0 wr w1 : World} {T : List UInt8} {cur cur' : Nat} {m m' : Nat → Bool} {c c' : Cm} {p : Pl} {a : Nat} (h : JS w0 wr T cur m c p a) (h2 : 2 < w0.heap.size) (hg : But (w0.heap.size + 2) wr w1) (hd : Dr w1 (w0.heap.size + 2) c'.z p cur' m') (hl : L3 wr (w0.heap.size + 3) c' p) : JS w0 w1 T cur' m' c' p a :=
  have hz := h.sz
  have hG : Gr (w0.heap.size + 2) wr w1 := Gr.ofBut hg
  ⟨Row.keep h.sc (hg.block _ (by omega)), h.la, hd, hl.gr hG (by omega), Row.keep h.res (hg.block _ (by omega)), h.ut.gr (by omega) hG, h.bel.trans (hg.below (by omega)), by rw [hg.size]; exact hz⟩
theorem JS.lists {w0 wr w1 : World} {T : List UInt8} {cur : Nat} {m : Nat → Bool} {c c' : Cm} {p p' : Pl} {a : Nat} (h : JS w0 wr T cur m c p a) (h2 : 2 < w0.heap.size) (hg : Dg (w0.heap.size + 2) (w0.heap.size + 3) wr w1) (hd : Dr w1 (w0.heap.size + 2) c'.z p' cur m) (hl : L3 w1 (w0.heap.size + 3) c' p') : JS w0 w1 T cur m c' p' a :=
  have hz := h.sz
  have hB : Below (w0.heap.size + 2) wr w1 := ⟨hg.os, hg.tape, hg.output, hg.size, fun k hk => hg.block k (by omega) (by omega) (by omega)⟩
  ⟨Row.keep h.sc (hB.block _ (by omega)), h.la, hd, hl, Row.keep h.res (hB.block _ (by omega)), h.ut.below (B := w0.heap.size + 2) (by omega) hB, h.bel.trans (hB.mono (by omega)), Nat.le_trans hz hg.size⟩
theorem JS.jm {w0 wr : World} {T : List UInt8} {want cur : Nat} {m : Nat → Bool} {c : Cm} {p : Pl} {a : Nat} (h : JS w0 wr T cur m c p a) (jb : JB T a c) (em : ∀ f, (f = 2 ∨ f = 3 ∨ f = 4) → m f = false → getL f c = []) (ec : want = 2 ∨ want = 3 → (cur = 2 ∨ cur = 3 ∨ cur = 4) → getL cur c = []) (mc : 2 ≤ want → want ≤ 6 → m cur = true) (cl : want = 4 ∨ want = 5 ∨ want = 6 → cur = 2 ∨ cur = 3 ∨ cur = 4) (c6 : want = 2 ∨ want = 3 → cur < 6)
    (z0 : want = 0 → m = (fun _ => false) ∧ c = cm0) (rest : objS T = Rst want cur m c (T.drop a)) : JM w0 wr T want cur m c p a := ⟨h.sc, h.la, h.dr, h.l3, h.res, h.ut, h.bel, h.sz, jb, em, ec, mc, cl, c6, z0, rest⟩
theorem drop_lt {T : List UInt8} {a b : Nat} (h : (T.drop b).length < (T.drop a).length) (hb : b ≤ T.length) : a < b := by
  rw [List.length_drop, List.length_drop] at h
  omega

theorem goOn {T : List UInt8} {w W w' : World} {A A0 : Act} {want want' cur cur' : Nat} {m m' : Nat → Bool} {c c' : Cm} {p p' : Pl} {a b : Nat} (h : A = { tmps := #[.string ⟨T.toArray⟩, undef, .pointer (some ⟨w.heap.size, 0, none⟩), .bool false, .pointer (some ⟨w.heap.size + 1, 0, none⟩), .pointer (some ⟨w.heap.size + 1 + 1, 0, none⟩), .int .i64 (want' : Nat), A.tmps.getD 7 undef, A.tmps.getD 8 undef, A.tmps.getD 9 undef, A.tmps.getD 10 undef, A.tmps.getD 11 undef, A.tmps.getD 12 undef, A.tmps.getD 13 undef, A.tmps.getD 14 undef, A.tmps.getD 15 undef, A.tmps.getD 16 undef, A.tmps.getD 17 undef, A.tmps.getD 18 undef, A.tmps.getD 19 undef, A.tmps.getD 20 undef, A.tmps.getD 21 undef, A.tmps.getD 22 undef, A.tmps.getD 23 undef, A.tmps.getD 24 undef, A.tmps.getD 25 undef, A.tmps.getD 26 undef, A.tmps.getD 27 undef, A.tmps.getD 28 undef, A.tmps.getD 29 undef, A.tmps.getD 30 undef, A.tmps.getD 31 undef, A.tmps.getD 32 undef, A.tmps.getD 33 undef, A.tmps.getD 34 undef, A.tmps.getD 35 undef, A.tmps.getD 36 undef, A.tmps.getD 37 undef, A.tmps.getD 38 undef, A.tmps.getD 39 undef, A.tmps.getD 40 undef, A.tmps.getD 41 undef, A.tmps.getD 42 undef, A.tmps.getD 43 undef, A.tmps.getD 44 undef, A.tmps.getD 45 undef, A.tmps.getD 46 undef, A.tmps.getD 47 undef, A.tmps.getD 48 undef, A.tmps.getD 49 undef, A.tmps.getD 50 undef, A.tmps.getD 51 undef, A.tmps.getD 52 undef, A.tmps.getD 53 undef, A.tmps.getD 54 undef, A.tmps.getD 55 undef, A.tmps.getD 56 undef, A.tmps.getD 57 undef, A.tmps.getD 58 undef, A.tmps.getD 59 undef, A.tmps.getD 60 undef, A.tmps.getD 61 undef, A.tmps.getD 62 undef, A.tmps.getD 63 undef, A.tmps.getD 64 undef, A.tmps.getD 65 undef, A.tmps.getD 66 undef, A.tmps.getD 67 undef, A.tmps.getD 68 undef, A.tmps.getD 69 undef, A.tmps.getD 70 undef, A.tmps.getD 71 undef, A.tmps.getD 72 undef, A.tmps.getD 73 undef, A.tmps.getD 74 undef, A.tmps.getD 75 undef, A.tmps.getD 76 undef, A.tmps.getD 77 undef, A.tmps.getD 78 undef, A.tmps.getD 79 undef, A.tmps.getD 80 undef, A.tmps.getD 81 undef, A.tmps.getD 82 undef, A.tmps.getD 83 undef, A.tmps.getD 84 undef, A.tmps.getD 85 undef, A.tmps.getD 86 undef, A.tmps.getD 87 undef, A.tmps.getD 88 undef, A.tmps.getD 89 undef, A.tmps.getD 90 undef, A.tmps.getD 91 undef, A.tmps.getD 92 undef, A.tmps.getD 93 undef, A.tmps.getD 94 undef, A.tmps.getD 95 undef, A.tmps.getD 96 undef, A.tmps.getD 97 undef, A.tmps.getD 98 undef, A.tmps.getD 99 undef, A.tmps.getD 100 undef, A.tmps.getD 101 undef, A.tmps.getD 102 undef, A.tmps.getD 103 undef, A.tmps.getD 104 undef, A.tmps.getD 105 undef, A.tmps.getD 106 undef, A.tmps.getD 107 undef, A.tmps.getD 108 undef, A.tmps.getD 109 undef, A.tmps.getD 110 undef, A.tmps.getD 111 undef, A.tmps.getD 112 undef, A.tmps.getD 113 undef, A.tmps.getD 114 undef, A.tmps.getD 115 undef, A.tmps.getD 116 undef, A.tmps.getD 117 undef, A.tmps.getD 118 undef, A.tmps.getD 119 undef, A.tmps.getD 120 undef, A.tmps.getD 121 undef, A.tmps.getD 122 undef, A.tmps.getD 123 undef, A.tmps.getD 124 undef, A.tmps.getD 125 undef, A.tmps.getD 126 undef, A.tmps.getD 127 undef, A.tmps.getD 128 undef, A.tmps.getD 129 undef, A.tmps.getD 130 undef, A.tmps.getD 131 undef, A.tmps.getD 132 undef, A.tmps.getD 133 undef, A.tmps.getD 134 undef, A.tmps.getD 135 undef, A.tmps.getD 136 undef, A.tmps.getD 137 undef, A.tmps.getD 138 undef, A.tmps.getD 139 undef, A.tmps.getD 140 undef, A.tmps.getD 141 undef], defers := [] }) (hw : want' ≤ 8) (hN : JM w W T want' cur' m' c' p' b) (hO : JM w w' T want cur m c p a) (hab : a < b) : (0 : Nat) = 0 ∧ FrJ T w A W ∧ muOf T w A W < muOf T w A0 w' := by
  refine ⟨rfl, FrJ.intro h hw hN, ?_⟩
  rw [hN.muEq, hO.muEq]
  have := hN.la
  omega
theorem failObj {T : List UInt8} {w W : World} {A : Act} {cur : Nat} {m : Nat → Bool} {c : Cm} {p : Pl} {b : Nat} (hS : JS w W T cur m c p b) (hN : objS T = none) (h2 : A.tmps.getD 2 undef = .pointer (some ⟨w.heap.size, 0, none⟩)) (h3 : A.tmps.getD 3 undef = .bool false) (hd : A.defers = []) : bodyPost Tryz.prog Tryz.f141 (ObjR T w) Exit.ret A (st6 W w.heap.size cz0 pl0) := by
  refine ret_cz Tryz.results141 (st6_row hS.res cz0 pl0) h2 hd ?_
  rw [h3]
  exact ⟨cm0, pl0, false, rfl, L3.none _ _, JB.none _ _, hS.bel.trans ((st6_but W w.heap.size cz0 pl0).below (Nat.le_refl _)), Or.inr ⟨rfl, hN, rfl, rfl⟩⟩
theorem step3_no {l : List UInt8} {k : Nat} {t : List UInt8} {n : Nat} {u : List UInt8} {f : Nat} {m : Nat → Bool} {c : Cm} (h : SignK l k t n u) (hf : f < 6) (hg : (f = 2 ∨ f = 3 ∨ f = 4) → getL f c = []) (h1 : ¬ (k = 9 ∧ (f = 0 ∨ f = 5))) (h2 : ¬ (k = 8 ∧ f = 1)) (h3 : ¬ (k = 4 ∧ (f = 2 ∨ f = 3 ∨ f = 4))) : R3 f m c l = none := by
  by_cases a1 : f = 0 ∨ f = 5
  · rw [step3_num h a1, if_neg (fun e => h1 ⟨e, a1⟩)]
  by_cases a2 : f = 1
  · rw [step3_txt h a2, if_neg (fun e => h2 ⟨e, a2⟩)]
  · have a3 : f = 2 ∨ f = 3 ∨ f = 4 := by omega
    rw [step3_lst h a3 (hg a3), if_neg (fun e => h3 ⟨e, a3⟩)]

theorem scope_jumps {P : Program} {a : Act} {w : World} {Q : Exit → Act → World → Prop} {c body : Code} (l : Nat) (J : Act → World → Prop) (μ : Act → World → Nat) (hf : findLabel c l = some (Code.skip.seq body))
    (first : (∀ a w, J a w → body.wp P (Exit.jump l J Q) a w) → c.wp P (Exit.jump l J Q) a w)
    (pass : ∀ a w, J a w → body.wp P (Exit.jump l (fun a' w' => J a' w' ∧ μ a' w' < μ a w) Q) a w) : (Code.scope c).wp P Q a w :=
  wp_scope_jumps l J μ hf (first (fun a w hJ => wp_mono (pass a w hJ) (fun e a w h => by
    cases e with
    | goto l' => exact ⟨h.1, h.2.1⟩
    | normal => exact h
    | exit id => exact h
    | ret => exact h
    | panic ch => exact h
    | outgrown => exact h))) (fun a w hJ => wp_seq (wp_skip (pass a w hJ)))
theorem JS.start (w : World) (T : List UInt8) (hU : UT w) : JS w (((w.alloc (.cells #[.int .i64 0, .string ⟨#[]⟩, .slice none 0 0, .slice none 0 0, .slice none 0 0, .int .i64 0] 60)).alloc (.cells #[.string ⟨T.toArray⟩, .int .i64 0] 227)).alloc (.cells #[.int .i64 0, .string ⟨#[]⟩, .slice none 0 0, .slice none 0 0, .slice none 0 0, .int .i64 0, .int .i64 0, .bool false, .bool false, .bool false, .bool false, .bool false, .bool false] 231)) T 0 (fun _ => false) cm0 pl0 0 := by
  have r1 : Row (w.alloc (.cells #[.int .i64 0, .string ⟨#[]⟩, .slice none 0 0, .slice none 0 0, .slice none 0 0, .int .i64 0] 60)) w.heap.size 60 6 (czF cz0 pl0) := Row.new w 60 _ _ 6 rfl (six rfl rfl rfl rfl rfl rfl)
  have hb1 : Below w.heap.size w (w.alloc (.cells #[.int .i64 0, .string ⟨#[]⟩, .slice none 0 0, .slice none 0 0, .slice none 0 0, .int .i64 0] 60)) := (Below.refl _ _).alloc (Nat.le_refl _) _
  have hs1 : (w.alloc (.cells #[.int .i64 0, .string ⟨#[]⟩, .slice none 0 0, .slice none 0 0, .slice none 0 0, .int .i64 0] 60)).heap.size = w.heap.size + 1 := by simp
  generalize w.alloc (.cells #[.int .i64 0, .string ⟨#[]⟩, .slice none 0 0, .slice none 0 0, .slice none 0 0, .int .i64 0] 60) = w1 at *
  have r2 : Row (w1.alloc (.cells #[.string ⟨T.toArray⟩, .int .i64 0] 227)) w1.heap.size 227 2 (scF T 0) := Row.new w1 227 _ _ 2 rfl (fun j hj => by rcases (show j = 0 ∨ j = 1 by omega) with rfl | rfl <;> rfl)
  have r12 := r1.alloc (.cells #[.string ⟨T.toArray⟩, .int .i64 0] 227)
  have hb2 := hb1.alloc (by omega) (.cells #[.string ⟨T.toArray⟩, .int .i64 0] 227)
  have hs2 : (w1.alloc (.cells #[.string ⟨T.toArray⟩, .int .i64 0] 227)).heap.size = w1.heap.size + 1 := by simp
  generalize w1.alloc (.cells #[.string ⟨T.toArray⟩, .int .i64 0] 227) = w2 at *
  have r3 : Row (w2.alloc (.cells #[.int .i64 0, .string ⟨#[]⟩, .slice none 0 0, .slice none 0 0, .slice none 0 0, .int .i64 0, .int .i64 0, .bool false, .bool false, .bool false, .bool false, .bool false, .bool false] 231)) w2.heap.size 231 13 (drF cm0.z pl0 0 (fun _ => false)) :=
    Row.new w2 231 _ _ 13 rfl (thirteen (six rfl rfl rfl rfl rfl rfl) rfl (six rfl rfl rfl rfl rfl rfl))
  have e2 : w2.heap.size = w.heap.size + 2 := by omega
  rw [hs1] at r2
  rw [e2] at r3
  have hb3 := hb2.alloc (by omega) (.cells #[.int .i64 0, .string ⟨#[]⟩, .slice none 0 0, .slice none 0 0, .slice none 0 0, .int .i64 0, .int .i64 0, .bool false, .bool false, .bool false, .bool false, .bool false, .bool false] 231)
  exact ⟨r2.alloc _, Nat.zero_le _, r3, L3.none _ _, r12.alloc _, hU.belowS hb3, hb3, by simp; omega⟩
theorem upd_self (m : Nat → Bool) (f : Nat) : upd m f f = true := by unfold upd; rw [if_pos rfl]
theorem upd_false {m : Nat → Bool} {f g : Nat} (h : upd m f g = false) : m g = false ∧ g ≠ f := by
  unfold upd at h
  by_cases e : g = f
  · rw [if_pos e] at h; cases h
  · rw [if_neg e] at h; exact ⟨h, e⟩
theorem l3_setN {w : World} {b : Nat} {c : Cm} {p : Pl} {f n : Nat} (h : L3 w b c p) : L3 w b (c.setN f n) p := by
  unfold Cm.setN
  split <;> exact ⟨h.o2, h.o3, h.o4, h.d23, h.d24, h.d34⟩
theorem l3_setT {w : World} {b : Nat} {c : Cm} {p : Pl} {t : List UInt8} (h : L3 w b c p) : L3 w b (c.setT t) p := ⟨h.o2, h.o3, h.o4, h.d23, h.d24, h.d34⟩
theorem okObj {T : List UInt8} {w W : World} {A : Act} {cur : Nat} {m : Nat → Bool} {c : Cm} {p : Pl} {b : Nat} (hS : JS w W T cur m c p b) (hJB : JB T T.length c) (hN : objS T = some c) (h2 : A.tmps.getD 2 undef = .pointer (some ⟨w.heap.size, 0, none⟩)) (h3 : A.tmps.getD 3 undef = .bool true) (hd : A.defers = []) : bodyPost Tryz.prog Tryz.f141 (ObjR T w) Exit.ret A (st6 W w.heap.size c.z p) := by
  refine ret_cz Tryz.results141 (st6_row hS.res c.z p) h2 hd ?_
  rw [h3]
  exact ⟨c, p, true, rfl, (hS.l3.gr (Gr.ofBut (st6_but W w.heap.size c.z p)) (by omega)).down (by omega), hJB, hS.bel.trans ((st6_but W w.heap.size c.z p).below (Nat.le_refl _)), Or.inl ⟨rfl, hN⟩⟩

set_option maxRecDepth 100000 in
set_option maxHeartbeats 8000000 in
theorem readObject_any (T : List UInt8) (w : World) (hT : T.length ≤ 1048576) (hU : UT w) : Calls Tryz.prog 141 #[.string ⟨T.toArray⟩] w (ObjR T w) := by
  have HT := hide hT
  have h2 := hU.lt
  have HU := hide hU
  clear hT hU
  go_enter Tryz.func141, Tryz.ntmps141
  go_wp2_with fail
  refine scope_jumps 0 (FrJ T w) (muOf T w) rfl ?_ ?_
  · intro hpass
    go_wp2_with fail
    go_step3
    rename_i hK
    refine hK _ _ (hpass _ _ ?_)
    exact (FrJ.intro (want := 0) rfl (by decide) ((JS.start w T (unhide HU)).jm (JB.none _ _) (fun f hf _ => by rcases hf with rfl | rfl | rfl <;> rfl) (fun h => absurd h (by decide)) (fun h => absurd h (by decide)) (fun h => absurd h (by decide)) (fun h => absurd h (by decide)) (fun _ => ⟨rfl, rfl⟩) rfl))
  · rintro a' w' ⟨want, cur, m, c, p, a, u, rfl, hw8, hJ⟩
    go_wp2_with fail
    refine (next_any (w.heap.size + 1) T a _ (unhide HT) hJ.la (by omega) hJ.sc hJ.ut).mono ?_
    rintro e w1 ⟨k, t, n, b, rfl, hb, htl, hR1, hG1, hK⟩
    have hS0 := hJ.js.next h2 hG1 hR1 hb
    have hS := hS0.alloc (.cells #[.int .i64 (k : Nat), .string ⟨t.toArray⟩, .int .i64 (n : Nat)] 235)
    have HK := hide hK
    have HJ := hide hJ
    have HLT : Hid (k ≠ 0 → k ≠ 1 → a < b) := fun h0 h1 => drop_lt (hK.lt h0 h1) hb
    have HTL := hide htl
    have HB := hide hb
    clear hK hJ hG1 hR1 htl hb
    unfold sgA
    rcases (show want = 0 ∨ want = 1 ∨ want = 2 ∨ want = 3 ∨ want = 4 ∨ want = 5 ∨ want = 6 ∨ want = 7 ∨ want = 8 by omega) with rfl | rfl | rfl | rfl | rfl | rfl | rfl | rfl | rfl
    · by_cases e2 : k = 2
      · subst e2
        go_wp2_with fail
        go_step3
        exact goOn rfl (by decide) (hS.jm ((unhide HJ).jb.up (Nat.le_of_lt (unhide HLT (by decide) (by decide)))) (unhide HJ).em (fun h => absurd h (by decide)) (fun h => absurd h (by decide)) (fun h => absurd h (by decide)) (fun h => absurd h (by decide)) (fun h => absurd h (by decide)) (by rw [(unhide HJ).rest]; obtain ⟨h1, h2⟩ := (unhide HJ).z0 rfl; rw [h1, h2]; exact (step0 (unhide HK)).trans (if_pos rfl))) (unhide HJ) (unhide HLT (by decide) (by decide))
      · have nk2 : (((k : Nat) : Int) == 2) = false := by simp only [beq_eq_false_iff_ne, ne_eq]; omega
        have HN : Hid (objS T = none) := by unfold Hid; rw [(unhide HJ).rest]; exact (step0 (unhide HK)).trans (if_neg e2)
        have r0 : (w1.alloc (.cells #[.int .i64 (k : Nat), .string ⟨t.toArray⟩, .int .i64 (n : Nat)] 235)).cell? ⟨w.heap.size, 0, none⟩ = some (.int .i64 0) := hS.res.cell (by decide)
        have rf0 := hS.res.frozen 0
        have r1 : (w1.alloc (.cells #[.int .i64 (k : Nat), .string ⟨t.toArray⟩, .int .i64 (n : Nat)] 235)).cell? ⟨w.heap.size, 1, none⟩ = some (.string ⟨#[]⟩) := hS.res.cell (by decide)
        have rf1 := hS.res.frozen 1
        have r2 : (w1.alloc (.cells #[.int .i64 (k : Nat), .string ⟨t.toArray⟩, .int .i64 (n : Nat)] 235)).cell? ⟨w.heap.size, 2, none⟩ = some (.slice none 0 0) := hS.res.cell (by decide)
        have rf2 := hS.res.frozen 2
        have r3 : (w1.alloc (.cells #[.int .i64 (k : Nat), .string ⟨t.toArray⟩, .int .i64 (n : Nat)] 235)).cell? ⟨w.heap.size, 3, none⟩ = some (.slice none 0 0) := hS.res.cell (by decide)
        have rf3 := hS.res.frozen 3
        have r4 : (w1.alloc (.cells #[.int .i64 (k : Nat), .string ⟨t.toArray⟩, .int .i64 (n : Nat)] 235)).cell? ⟨w.heap.size, 4, none⟩ = some (.slice none 0 0) := hS.res.cell (by decide)
        have rf4 := hS.res.frozen 4
        have r5 : (w1.alloc (.cells #[.int .i64 (k : Nat), .string ⟨t.toArray⟩, .int .i64 (n : Nat)] 235)).cell? ⟨w.heap.size, 5, none⟩ = some (.int .i64 0) := hS.res.cell (by decide)
        have rf5 := hS.res.frozen 5
        go_wp2_with fail
        exact failObj hS (unhide HN) rfl rfl rfl
    · by_cases e8 : k = 8
      · subst e8
        have HC := hide (begin_any (w.heap.size + 2) c.z p cur m t _ hS.dr)
        go_wp2_with fail
        refine (unhide HC).mono ?_
        rintro e w2 ⟨hB2, (⟨f, hf, hmf, rfl, hD2⟩ | ⟨hno, rfl, hD2⟩)⟩
        · have hS2 := hS.draft h2 hB2 hD2 hS.l3
          go_wp2_with fail
          go_step3
          exact goOn rfl (by decide) (hS2.jm ((unhide HJ).jb.up (Nat.le_of_lt (unhide HLT (by decide) (by decide)))) (fun g hg hm => (unhide HJ).em g hg (upd_false hm).1) (fun _ hg => (unhide HJ).em f hg hmf) (fun _ _ => upd_self m f) (fun h => absurd h (by decide)) (fun _ => (fieldS_lt hf).1) (fun h => absurd h (by decide)) (by rw [(unhide HJ).rest]; exact step1_ok (unhide HK) rfl hf hmf)) (unhide HJ) (unhide HLT (by decide) (by decide))
        · have hS2 := hS.draft h2 hB2 hD2 hS.l3
          have HN : Hid (objS T = none) := by unfold Hid; rw [(unhide HJ).rest]; exact step1_no (unhide HK) (Or.inr hno)
          have r0 : w2.cell? ⟨w.heap.size, 0, none⟩ = some (.int .i64 0) := hS2.res.cell (by decide)
          have rf0 := hS2.res.frozen 0
          have r1 : w2.cell? ⟨w.heap.size, 1, none⟩ = some (.string ⟨#[]⟩) := hS2.res.cell (by decide)
          have rf1 := hS2.res.frozen 1
          have r2 : w2.cell? ⟨w.heap.size, 2, none⟩ = some (.slice none 0 0) := hS2.res.cell (by decide)
          have rf2 := hS2.res.frozen 2
          have r3 : w2.cell? ⟨w.heap.size, 3, none⟩ = some (.slice none 0 0) := hS2.res.cell (by decide)
          have rf3 := hS2.res.frozen 3
          have r4 : w2.cell? ⟨w.heap.size, 4, none⟩ = some (.slice none 0 0) := hS2.res.cell (by decide)
          have rf4 := hS2.res.frozen 4
          have r5 : w2.cell? ⟨w.heap.size, 5, none⟩ = some (.int .i64 0) := hS2.res.cell (by decide)
          have rf5 := hS2.res.frozen 5
          go_wp2_with fail
          exact failObj hS2 (unhide HN) rfl rfl rfl
      · have nk8 : (((k : Nat) : Int) == 8) = false := by simp only [beq_eq_false_iff_ne, ne_eq]; omega
        have HN : Hid (objS T = none) := by unfold Hid; rw [(unhide HJ).rest]; exact step1_no (unhide HK) (Or.inl e8)
        have r0 : (w1.alloc (.cells #[.int .i64 (k : Nat), .string ⟨t.toArray⟩, .int .i64 (n : Nat)] 235)).cell? ⟨w.heap.size, 0, none⟩ = some (.int .i64 0) := hS.res.cell (by decide)
        have rf0 := hS.res.frozen 0
        have r1 : (w1.alloc (.cells #[.int .i64 (k : Nat), .string ⟨t.toArray⟩, .int .i64 (n : Nat)] 235)).cell? ⟨w.heap.size, 1, none⟩ = some (.string ⟨#[]⟩) := hS.res.cell (by decide)
        have rf1 := hS.res.frozen 1
        have r2 : (w1.alloc (.cells #[.int .i64 (k : Nat), .string ⟨t.toArray⟩, .int .i64 (n : Nat)] 235)).cell? ⟨w.heap.size, 2, none⟩ = some (.slice none 0 0) := hS.res.cell (by decide)
        have rf2 := hS.res.frozen 2
        have r3 : (w1.alloc (.cells #[.int .i64 (k : Nat), .string ⟨t.toArray⟩, .int .i64 (n : Nat)] 235)).cell? ⟨w.heap.size, 3, none⟩ = some (.slice none 0 0) := hS.res.cell (by decide)
        have rf3 := hS.res.frozen 3
        have r4 : (w1.alloc (.cells #[.int .i64 (k : Nat), .string ⟨t.toArray⟩, .int .i64 (n : Nat)] 235)).cell? ⟨w.heap.size, 4, none⟩ = some (.slice none 0 0) := hS.res.cell (by decide)
        have rf4 := hS.res.frozen 4
        have r5 : (w1.alloc (.cells #[.int .i64 (k : Nat), .string ⟨t.toArray⟩, .int .i64 (n : Nat)] 235)).cell? ⟨w.heap.size, 5, none⟩ = some (.int .i64 0) := hS.res.cell (by decide)
        have rf5 := hS.res.frozen 5
        go_wp2_with fail
        exact failObj hS (unhide HN) rfl rfl rfl
    · by_cases e6 : k = 6
      · subst e6
        go_wp2_with fail
        go_step3
        exact goOn rfl (by decide) (hS.jm ((unhide HJ).jb.up (Nat.le_of_lt (unhide HLT (by decide) (by decide)))) (unhide HJ).em (fun _ => (unhide HJ).ec (Or.inl rfl)) (fun _ _ => (unhide HJ).mc (by decide) (by decide)) (fun h => absurd h (by decide)) (fun _ => (unhide HJ).c6 (Or.inl rfl)) (fun h => absurd h (by decide)) (by rw [(unhide HJ).rest]; exact (step2 (unhide HK)).trans (if_pos rfl))) (unhide HJ) (unhide HLT (by decide) (by decide))
      · have nk6 : (((k : Nat) : Int) == 6) = false := by simp only [beq_eq_false_iff_ne, ne_eq]; omega
        have HN : Hid (objS T = none) := by unfold Hid; rw [(unhide HJ).rest]; exact (step2 (unhide HK)).trans (if_neg e6)
        have r0 : (w1.alloc (.cells #[.int .i64 (k : Nat), .string ⟨t.toArray⟩, .int .i64 (n : Nat)] 235)).cell? ⟨w.heap.size, 0, none⟩ = some (.int .i64 0) := hS.res.cell (by decide)
        have rf0 := hS.res.frozen 0
        have r1 : (w1.alloc (.cells #[.int .i64 (k : Nat), .string ⟨t.toArray⟩, .int .i64 (n : Nat)] 235)).cell? ⟨w.heap.size, 1, none⟩ = some (.string ⟨#[]⟩) := hS.res.cell (by decide)
        have rf1 := hS.res.frozen 1
        have r2 : (w1.alloc (.cells #[.int .i64 (k : Nat), .string ⟨t.toArray⟩, .int .i64 (n : Nat)] 235)).cell? ⟨w.heap.size, 2, none⟩ = some (.slice none 0 0) := hS.res.cell (by decide)
        have rf2 := hS.res.frozen 2
        have r3 : (w1.alloc (.cells #[.int .i64 (k : Nat), .string ⟨t.toArray⟩, .int .i64 (n : Nat)] 235)).cell? ⟨w.heap.size, 3, none⟩ = some (.slice none 0 0) := hS.res.cell (by decide)
        have rf3 := hS.res.frozen 3
        have r4 : (w1.alloc (.cells #[.int .i64 (k : Nat), .string ⟨t.toArray⟩, .int .i64 (n : Nat)] 235)).cell? ⟨w.heap.size, 4, none⟩ = some (.slice none 0 0) := hS.res.cell (by decide)
        have rf4 := hS.res.frozen 4
        have r5 : (w1.alloc (.cells #[.int .i64 (k : Nat), .string ⟨t.toArray⟩, .int .i64 (n : Nat)] 235)).cell? ⟨w.heap.size, 5, none⟩ = some (.int .i64 0) := hS.res.cell (by decide)
        have rf5 := hS.res.frozen 5
        go_wp2_with fail
        exact failObj hS (unhide HN) rfl rfl rfl
    · have hsz1 := hS0.sz
      by_cases e9 : k = 9
      · have tk9 : (((k : Nat) : Int) == 9) = true := by simp [e9]
        have nk8 : (((k : Nat) : Int) == 8) = false := by simp only [beq_eq_false_iff_ne, ne_eq]; omega
        have nk4 : (((k : Nat) : Int) == 4) = false := by simp only [beq_eq_false_iff_ne, ne_eq]; omega
        have HC := hide (setNumber_any (w.heap.size + 2) c p cur m n _ hS.dr)
        have HE := hide e9
        clear e9
        go_wp2_with fail
        refine (unhide HC).mono ?_
        rintro e w2 ⟨hB2, (⟨hc, rfl, hD2⟩ | ⟨hc, rfl, hD2⟩)⟩
        · have hS2 := hS.draft (c' := c.setN cur n) h2 hB2 hD2 (l3_setN hS.l3)
          go_wp2_with fail
          have e9 := unhide HE
          go_step3
          exact goOn rfl (by decide) (hS2.jm (((unhide HJ).jb.up (Nat.le_of_lt (unhide HLT (by omega) (by omega)))).setN _ _) (fun g hg hm => by rw [getL_setN]; exact (unhide HJ).em g hg hm) (fun h => absurd h (by decide)) (fun _ h => absurd h (by decide)) (fun h => absurd h (by decide)) (fun h => absurd h (by decide)) (fun h => absurd h (by decide)) (by rw [(unhide HJ).rest]; exact (step3_num (unhide HK) hc).trans (if_pos e9))) (unhide HJ) (unhide HLT (by omega) (by omega))
        · have hS2 := hS.draft h2 hB2 hD2 hS.l3
          have sg0 : w2.cell? ⟨w1.heap.size, 0, none⟩ = some (.int .i64 (k : Nat)) := (World.cell?_of_block (a := ⟨w1.heap.size, 0, none⟩) (hB2.block w1.heap.size (by omega))).trans (by simp)
          have HN : Hid (objS T = none) := by have e9 := unhide HE; unfold Hid; rw [(unhide HJ).rest]; exact step3_no (unhide HK) ((unhide HJ).c6 (Or.inr rfl)) ((unhide HJ).ec (Or.inr rfl)) (fun h => hc h.2) (by omega) (by omega)
          have r0 : w2.cell? ⟨w.heap.size, 0, none⟩ = some (.int .i64 0) := hS2.res.cell (by decide)
          have rf0 := hS2.res.frozen 0
          have r1 : w2.cell? ⟨w.heap.size, 1, none⟩ = some (.string ⟨#[]⟩) := hS2.res.cell (by decide)
          have rf1 := hS2.res.frozen 1
          have r2 : w2.cell? ⟨w.heap.size, 2, none⟩ = some (.slice none 0 0) := hS2.res.cell (by decide)
          have rf2 := hS2.res.frozen 2
          have r3 : w2.cell? ⟨w.heap.size, 3, none⟩ = some (.slice none 0 0) := hS2.res.cell (by decide)
          have rf3 := hS2.res.frozen 3
          have r4 : w2.cell? ⟨w.heap.size, 4, none⟩ = some (.slice none 0 0) := hS2.res.cell (by decide)
          have rf4 := hS2.res.frozen 4
          have r5 : w2.cell? ⟨w.heap.size, 5, none⟩ = some (.int .i64 0) := hS2.res.cell (by decide)
          have rf5 := hS2.res.frozen 5
          go_wp2_with fail
          exact failObj hS2 (unhide HN) rfl rfl rfl
      by_cases e8 : k = 8
      · have tk8 : (((k : Nat) : Int) == 8) = true := by simp [e8]
        have nk9 : (((k : Nat) : Int) == 9) = false := by simp only [beq_eq_false_iff_ne, ne_eq]; omega
        have nk4 : (((k : Nat) : Int) == 4) = false := by simp only [beq_eq_false_iff_ne, ne_eq]; omega
        have HC := hide (setText_any (w.heap.size + 2) c p cur m t _ hS.dr)
        have HE := hide e8
        clear e8 e9
        go_wp2_with fail
        refine (unhide HC).mono ?_
        rintro e w2 ⟨hB2, (⟨hc, rfl, hD2⟩ | ⟨hc, rfl, hD2⟩)⟩
        · have hS2 := hS.draft (c' := c.setT t) h2 hB2 hD2 (l3_setT hS.l3)
          go_wp2_with fail
          have e8 := unhide HE
          go_step3
          exact goOn rfl (by decide) (hS2.jm (((unhide HJ).jb.up (Nat.le_of_lt (unhide HLT (by omega) (by omega)))).setT (unhide HTL)) (fun g hg hm => (unhide HJ).em g hg hm) (fun h => absurd h (by decide)) (fun _ h => absurd h (by decide)) (fun h => absurd h (by decide)) (fun h => absurd h (by decide)) (fun h => absurd h (by decide)) (by rw [(unhide HJ).rest]; exact (step3_txt (unhide HK) hc).trans (if_pos e8))) (unhide HJ) (unhide HLT (by omega) (by omega))
        · have hS2 := hS.draft h2 hB2 hD2 hS.l3
          have sg0 : w2.cell? ⟨w1.heap.size, 0, none⟩ = some (.int .i64 (k : Nat)) := (World.cell?_of_block (a := ⟨w1.heap.size, 0, none⟩) (hB2.block w1.heap.size (by omega))).trans (by simp)
          have HN : Hid (objS T = none) := by have e8 := unhide HE; unfold Hid; rw [(unhide HJ).rest]; exact step3_no (unhide HK) ((unhide HJ).c6 (Or.inr rfl)) ((unhide HJ).ec (Or.inr rfl)) (by omega) (fun h => hc h.2) (by omega)
          have r0 : w2.cell? ⟨w.heap.size, 0, none⟩ = some (.int .i64 0) := hS2.res.cell (by decide)
          have rf0 := hS2.res.frozen 0
          have r1 : w2.cell? ⟨w.heap.size, 1, none⟩ = some (.string ⟨#[]⟩) := hS2.res.cell (by decide)
          have rf1 := hS2.res.frozen 1
          have r2 : w2.cell? ⟨w.heap.size, 2, none⟩ = some (.slice none 0 0) := hS2.res.cell (by decide)
          have rf2 := hS2.res.frozen 2
          have r3 : w2.cell? ⟨w.heap.size, 3, none⟩ = some (.slice none 0 0) := hS2.res.cell (by decide)
          have rf3 := hS2.res.frozen 3
          have r4 : w2.cell? ⟨w.heap.size, 4, none⟩ = some (.slice none 0 0) := hS2.res.cell (by decide)
          have rf4 := hS2.res.frozen 4
          have r5 : w2.cell? ⟨w.heap.size, 5, none⟩ = some (.int .i64 0) := hS2.res.cell (by decide)
          have rf5 := hS2.res.frozen 5
          go_wp2_with fail
          exact failObj hS2 (unhide HN) rfl rfl rfl
      by_cases e4 : k = 4
      · have tk4 : (((k : Nat) : Int) == 4) = true := by simp [e4]
        have nk9 : (((k : Nat) : Int) == 9) = false := by simp only [beq_eq_false_iff_ne, ne_eq]; omega
        have nk8 : (((k : Nat) : Int) == 8) = false := by simp only [beq_eq_false_iff_ne, ne_eq]; omega
        have HC := hide (takesList_any (w.heap.size + 2) c.z p cur m _ hS.dr)
        have HE := hide e4
        clear e4 e8 e9
        have r0 : (w1.alloc (.cells #[.int .i64 (k : Nat), .string ⟨t.toArray⟩, .int .i64 (n : Nat)] 235)).cell? ⟨w.heap.size, 0, none⟩ = some (.int .i64 0) := hS.res.cell (by decide)
        have rf0 := hS.res.frozen 0
        have r1 : (w1.alloc (.cells #[.int .i64 (k : Nat), .string ⟨t.toArray⟩, .int .i64 (n : Nat)] 235)).cell? ⟨w.heap.size, 1, none⟩ = some (.string ⟨#[]⟩) := hS.res.cell (by decide)
        have rf1 := hS.res.frozen 1
        have r2 : (w1.alloc (.cells #[.int .i64 (k : Nat), .string ⟨t.toArray⟩, .int .i64 (n : Nat)] 235)).cell? ⟨w.heap.size, 2, none⟩ = some (.slice none 0 0) := hS.res.cell (by decide)
        have rf2 := hS.res.frozen 2
        have r3 : (w1.alloc (.cells #[.int .i64 (k : Nat), .string ⟨t.toArray⟩, .int .i64 (n : Nat)] 235)).cell? ⟨w.heap.size, 3, none⟩ = some (.slice none 0 0) := hS.res.cell (by decide)
        have rf3 := hS.res.frozen 3
        have r4 : (w1.alloc (.cells #[.int .i64 (k : Nat), .string ⟨t.toArray⟩, .int .i64 (n : Nat)] 235)).cell? ⟨w.heap.size, 4, none⟩ = some (.slice none 0 0) := hS.res.cell (by decide)
        have rf4 := hS.res.frozen 4
        have r5 : (w1.alloc (.cells #[.int .i64 (k : Nat), .string ⟨t.toArray⟩, .int .i64 (n : Nat)] 235)).cell? ⟨w.heap.size, 5, none⟩ = some (.int .i64 0) := hS.res.cell (by decide)
        have rf5 := hS.res.frozen 5
        go_wp2_with fail
        refine (unhide HC).mono ?_
        rintro e w2 ⟨rfl, (⟨rfl, hc⟩ | ⟨rfl, hc⟩)⟩
        · go_wp2_with fail
          have e4 := unhide HE
          go_step3
          exact goOn rfl (by decide) (hS.jm ((unhide HJ).jb.up (Nat.le_of_lt (unhide HLT (by omega) (by omega)))) (unhide HJ).em (fun h => absurd h (by decide)) (fun _ _ => (unhide HJ).mc (by decide) (by decide)) (fun _ => hc) (fun h => absurd h (by decide)) (fun h => absurd h (by decide)) (by rw [(unhide HJ).rest]; exact (step3_lst (unhide HK) hc ((unhide HJ).ec (Or.inr rfl) hc)).trans (if_pos e4))) (unhide HJ) (unhide HLT (by omega) (by omega))
        · have HN : Hid (objS T = none) := by have e4 := unhide HE; unfold Hid; rw [(unhide HJ).rest]; exact step3_no (unhide HK) ((unhide HJ).c6 (Or.inr rfl)) ((unhide HJ).ec (Or.inr rfl)) (by omega) (by omega) (fun h => hc h.2)
          go_wp2_with fail
          exact failObj hS (unhide HN) rfl rfl rfl
      have nk9 : (((k : Nat) : Int) == 9) = false := by simp only [beq_eq_false_iff_ne, ne_eq]; omega
      have nk8 : (((k : Nat) : Int) == 8) = false := by simp only [beq_eq_false_iff_ne, ne_eq]; omega
      have nk4 : (((k : Nat) : Int) == 4) = false := by simp only [beq_eq_false_iff_ne, ne_eq]; omega
      have HN : Hid (objS T = none) := by unfold Hid; rw [(unhide HJ).rest]; exact step3_no (unhide HK) ((unhide HJ).c6 (Or.inr rfl)) ((unhide HJ).ec (Or.inr rfl)) (by omega) (by omega) (by omega)
      have r0 : (w1.alloc (.cells #[.int .i64 (k : Nat), .string ⟨t.toArray⟩, .int .i64 (n : Nat)] 235)).cell? ⟨w.heap.size, 0, none⟩ = some (.int .i64 0) := hS.res.cell (by decide)
      have rf0 := hS.res.frozen 0
      have r1 : (w1.alloc (.cells #[.int .i64 (k : Nat), .string ⟨t.toArray⟩, .int .i64 (n : Nat)] 235)).cell? ⟨w.heap.size, 1, none⟩ = some (.string ⟨#[]⟩) := hS.res.cell (by decide)
      have rf1 := hS.res.frozen 1
      have r2 : (w1.alloc (.cells #[.int .i64 (k : Nat), .string ⟨t.toArray⟩, .int .i64 (n : Nat)] 235)).cell? ⟨w.heap.size, 2, none⟩ = some (.slice none 0 0) := hS.res.cell (by decide)
      have rf2 := hS.res.frozen 2
      have r3 : (w1.alloc (.cells #[.int .i64 (k : Nat), .string ⟨t.toArray⟩, .int .i64 (n : Nat)] 235)).cell? ⟨w.heap.size, 3, none⟩ = some (.slice none 0 0) := hS.res.cell (by decide)
      have rf3 := hS.res.frozen 3
      have r4 : (w1.alloc (.cells #[.int .i64 (k : Nat), .string ⟨t.toArray⟩, .int .i64 (n : Nat)] 235)).cell? ⟨w.heap.size, 4, none⟩ = some (.slice none 0 0) := hS.res.cell (by decide)
      have rf4 := hS.res.frozen 4
      have r5 : (w1.alloc (.cells #[.int .i64 (k : Nat), .string ⟨t.toArray⟩, .int .i64 (n : Nat)] 235)).cell? ⟨w.heap.size, 5, none⟩ = some (.int .i64 0) := hS.res.cell (by decide)
      have rf5 := hS.res.frozen 5
      go_wp2_with fail
      exact failObj hS (unhide HN) rfl rfl rfl
    · have hcl := (unhide HJ).cl (by decide)
      by_cases e8 : k = 8
      · subst e8
        rcases hcl with rfl | rfl | rfl
        · have HC := hide (addScp_any (w.heap.size + 2) (w.heap.size + 3) c p m t _ (by omega) hS.sz (by have h1 := (unhide HJ).jb.len; have h3 := (unhide HJ).la; have h4 := unhide HT; omega) hS.dr hS.l3)
          go_wp2_with (go_at_call 177; refine (unhide HC).mono ?_; rintro e w2 ⟨⟨v2, rfl⟩, hG2, p2, hD2, hL2⟩)
          have hS2 := hS.lists (c' := c.add 2 t) h2 hG2 hD2 hL2
          have hmc := (unhide HJ).mc (by decide) (by decide)
          go_step3
          exact goOn rfl (by decide) (hS2.jm ((unhide HJ).jb.add (unhide HLT (by decide) (by decide)) 2 (unhide HTL)) (fun g hg hm => by rw [getL_add t hg (by decide) (fun e => by rw [e, hmc] at hm; cases hm)]; exact (unhide HJ).em g hg hm) (fun h => absurd h (by decide)) (fun _ _ => hmc) (fun _ => by decide) (fun h => absurd h (by decide)) (fun h => absurd h (by decide)) (by rw [(unhide HJ).rest]; exact (step4 (unhide HK) (by decide)).trans (if_pos rfl))) (unhide HJ) (unhide HLT (by decide) (by decide))
        · have HC := hide (addAud_any (w.heap.size + 2) (w.heap.size + 3) c p m t _ (by omega) hS.sz (by have h1 := (unhide HJ).jb.len; have h3 := (unhide HJ).la; have h4 := unhide HT; omega) hS.dr hS.l3)
          go_wp2_with (go_at_call 177; refine (unhide HC).mono ?_; rintro e w2 ⟨⟨v2, rfl⟩, hG2, p2, hD2, hL2⟩)
          have hS2 := hS.lists (c' := c.add 3 t) h2 hG2 hD2 hL2
          have hmc := (unhide HJ).mc (by decide) (by decide)
          go_step3
          exact goOn rfl (by decide) (hS2.jm ((unhide HJ).jb.add (unhide HLT (by decide) (by decide)) 3 (unhide HTL)) (fun g hg hm => by rw [getL_add t hg (by decide) (fun e => by rw [e, hmc] at hm; cases hm)]; exact (unhide HJ).em g hg hm) (fun h => absurd h (by decide)) (fun _ _ => hmc) (fun _ => by decide) (fun h => absurd h (by decide)) (fun h => absurd h (by decide)) (by rw [(unhide HJ).rest]; exact (step4 (unhide HK) (by decide)).trans (if_pos rfl))) (unhide HJ) (unhide HLT (by decide) (by decide))
        · have HC := hide (addAct_any (w.heap.size + 2) (w.heap.size + 3) c p m t _ (by omega) hS.sz (by have h1 := (unhide HJ).jb.len; have h3 := (unhide HJ).la; have h4 := unhide HT; omega) hS.dr hS.l3)
          go_wp2_with (go_at_call 177; refine (unhide HC).mono ?_; rintro e w2 ⟨⟨v2, rfl⟩, hG2, p2, hD2, hL2⟩)
          have hS2 := hS.lists (c' := c.add 4 t) h2 hG2 hD2 hL2
          have hmc := (unhide HJ).mc (by decide) (by decide)
          go_step3
          exact goOn rfl (by decide) (hS2.jm ((unhide HJ).jb.add (unhide HLT (by decide) (by decide)) 4 (unhide HTL)) (fun g hg hm => by rw [getL_add t hg (by decide) (fun e => by rw [e, hmc] at hm; cases hm)]; exact (unhide HJ).em g hg hm) (fun h => absurd h (by decide)) (fun _ _ => hmc) (fun _ => by decide) (fun h => absurd h (by decide)) (fun h => absurd h (by decide)) (by rw [(unhide HJ).rest]; exact (step4 (unhide HK) (by decide)).trans (if_pos rfl))) (unhide HJ) (unhide HLT (by decide) (by decide))
      have nk8 : (((k : Nat) : Int) == 8) = false := by simp only [beq_eq_false_iff_ne, ne_eq]; omega
      by_cases e5 : k = 5
      · subst e5
        go_wp2_with fail
        go_step3
        exact goOn rfl (by decide) (hS.jm ((unhide HJ).jb.up (Nat.le_of_lt (unhide HLT (by decide) (by decide)))) (unhide HJ).em (fun h => absurd h (by decide)) (fun _ h => absurd h (by decide)) (fun h => absurd h (by decide)) (fun h => absurd h (by decide)) (fun h => absurd h (by decide)) (by rw [(unhide HJ).rest]; exact ((step4 (unhide HK) hcl).trans (if_neg (by decide))).trans (if_pos rfl))) (unhide HJ) (unhide HLT (by decide) (by decide))
      have nk5 : (((k : Nat) : Int) == 5) = false := by simp only [beq_eq_false_iff_ne, ne_eq]; omega
      have HN : Hid (objS T = none) := by unfold Hid; rw [(unhide HJ).rest]; exact ((step4 (unhide HK) hcl).trans (if_neg e8)).trans (if_neg e5)
      have r0 : (w1.alloc (.cells #[.int .i64 (k : Nat), .string ⟨t.toArray⟩, .int .i64 (n : Nat)] 235)).cell? ⟨w.heap.size, 0, none⟩ = some (.int .i64 0) := hS.res.cell (by decide)
      have rf0 := hS.res.frozen 0
      have r1 : (w1.alloc (.cells #[.int .i64 (k : Nat), .string ⟨t.toArray⟩, .int .i64 (n : Nat)] 235)).cell? ⟨w.heap.size, 1, none⟩ = some (.string ⟨#[]⟩) := hS.res.cell (by decide)
      have rf1 := hS.res.frozen 1
      have r2 : (w1.alloc (.cells #[.int .i64 (k : Nat), .string ⟨t.toArray⟩, .int .i64 (n : Nat)] 235)).cell? ⟨w.heap.size, 2, none⟩ = some (.slice none 0 0) := hS.res.cell (by decide)
      have rf2 := hS.res.frozen 2
      have r3 : (w1.alloc (.cells #[.int .i64 (k : Nat), .string ⟨t.toArray⟩, .int .i64 (n : Nat)] 235)).cell? ⟨w.heap.size, 3, none⟩ = some (.slice none 0 0) := hS.res.cell (by decide)
      have rf3 := hS.res.frozen 3
      have r4 : (w1.alloc (.cells #[.int .i64 (k : Nat), .string ⟨t.toArray⟩, .int .i64 (n : Nat)] 235)).cell? ⟨w.heap.size, 4, none⟩ = some (.slice none 0 0) := hS.res.cell (by decide)
      have rf4 := hS.res.frozen 4
      have r5 : (w1.alloc (.cells #[.int .i64 (k : Nat), .string ⟨t.toArray⟩, .int .i64 (n : Nat)] 235)).cell? ⟨w.heap.size, 5, none⟩ = some (.int .i64 0) := hS.res.cell (by decide)
      have rf5 := hS.res.frozen 5
      go_wp2_with fail
      exact failObj hS (unhide HN) rfl rfl rfl
    · have hcl := (unhide HJ).cl (by decide)
      by_cases e8 : k = 8
      · subst e8
        rcases hcl with rfl | rfl | rfl
        · have HC := hide (addScp_any (w.heap.size + 2) (w.heap.size + 3) c p m t _ (by omega) hS.sz (by have h1 := (unhide HJ).jb.len; have h3 := (unhide HJ).la; have h4 := unhide HT; omega) hS.dr hS.l3)
          go_wp2_with (go_at_call 177; refine (unhide HC).mono ?_; rintro e w2 ⟨⟨v2, rfl⟩, hG2, p2, hD2, hL2⟩)
          have hS2 := hS.lists (c' := c.add 2 t) h2 hG2 hD2 hL2
          have hmc := (unhide HJ).mc (by decide) (by decide)
          go_step3
          exact goOn rfl (by decide) (hS2.jm ((unhide HJ).jb.add (unhide HLT (by decide) (by decide)) 2 (unhide HTL)) (fun g hg hm => by rw [getL_add t hg (by decide) (fun e => by rw [e, hmc] at hm; cases hm)]; exact (unhide HJ).em g hg hm) (fun h => absurd h (by decide)) (fun _ _ => hmc) (fun _ => by decide) (fun h => absurd h (by decide)) (fun h => absurd h (by decide)) (by rw [(unhide HJ).rest]; exact (step5 (unhide HK) (by decide)).trans (if_pos rfl))) (unhide HJ) (unhide HLT (by decide) (by decide))
        · have HC := hide (addAud_any (w.heap.size + 2) (w.heap.size + 3) c p m t _ (by omega) hS.sz (by have h1 := (unhide HJ).jb.len; have h3 := (unhide HJ).la; have h4 := unhide HT; omega) hS.dr hS.l3)
          go_wp2_with (go_at_call 177; refine (unhide HC).mono ?_; rintro e w2 ⟨⟨v2, rfl⟩, hG2, p2, hD2, hL2⟩)
          have hS2 := hS.lists (c' := c.add 3 t) h2 hG2 hD2 hL2
          have hmc := (unhide HJ).mc (by decide) (by decide)
          go_step3
          exact goOn rfl (by decide) (hS2.jm ((unhide HJ).jb.add (unhide HLT (by decide) (by decide)) 3 (unhide HTL)) (fun g hg hm => by rw [getL_add t hg (by decide) (fun e => by rw [e, hmc] at hm; cases hm)]; exact (unhide HJ).em g hg hm) (fun h => absurd h (by decide)) (fun _ _ => hmc) (fun _ => by decide) (fun h => absurd h (by decide)) (fun h => absurd h (by decide)) (by rw [(unhide HJ).rest]; exact (step5 (unhide HK) (by decide)).trans (if_pos rfl))) (unhide HJ) (unhide HLT (by decide) (by decide))
        · have HC := hide (addAct_any (w.heap.size + 2) (w.heap.size + 3) c p m t _ (by omega) hS.sz (by have h1 := (unhide HJ).jb.len; have h3 := (unhide HJ).la; have h4 := unhide HT; omega) hS.dr hS.l3)
          go_wp2_with (go_at_call 177; refine (unhide HC).mono ?_; rintro e w2 ⟨⟨v2, rfl⟩, hG2, p2, hD2, hL2⟩)
          have hS2 := hS.lists (c' := c.add 4 t) h2 hG2 hD2 hL2
          have hmc := (unhide HJ).mc (by decide) (by decide)
          go_step3
          exact goOn rfl (by decide) (hS2.jm ((unhide HJ).jb.add (unhide HLT (by decide) (by decide)) 4 (unhide HTL)) (fun g hg hm => by rw [getL_add t hg (by decide) (fun e => by rw [e, hmc] at hm; cases hm)]; exact (unhide HJ).em g hg hm) (fun h => absurd h (by decide)) (fun _ _ => hmc) (fun _ => by decide) (fun h => absurd h (by decide)) (fun h => absurd h (by decide)) (by rw [(unhide HJ).rest]; exact (step5 (unhide HK) (by decide)).trans (if_pos rfl))) (unhide HJ) (unhide HLT (by decide) (by decide))
      have nk8 : (((k : Nat) : Int) == 8) = false := by simp only [beq_eq_false_iff_ne, ne_eq]; omega
      have HN : Hid (objS T = none) := by unfold Hid; rw [(unhide HJ).rest]; exact (step5 (unhide HK) hcl).trans (if_neg e8)
      have r0 : (w1.alloc (.cells #[.int .i64 (k : Nat), .string ⟨t.toArray⟩, .int .i64 (n : Nat)] 235)).cell? ⟨w.heap.size, 0, none⟩ = some (.int .i64 0) := hS.res.cell (by decide)
      have rf0 := hS.res.frozen 0
      have r1 : (w1.alloc (.cells #[.int .i64 (k : Nat), .string ⟨t.toArray⟩, .int .i64 (n : Nat)] 235)).cell? ⟨w.heap.size, 1, none⟩ = some (.string ⟨#[]⟩) := hS.res.cell (by decide)
      have rf1 := hS.res.frozen 1
      have r2 : (w1.alloc (.cells #[.int .i64 (k : Nat), .string ⟨t.toArray⟩, .int .i64 (n : Nat)] 235)).cell? ⟨w.heap.size, 2, none⟩ = some (.slice none 0 0) := hS.res.cell (by decide)
      have rf2 := hS.res.frozen 2
      have r3 : (w1.alloc (.cells #[.int .i64 (k : Nat), .string ⟨t.toArray⟩, .int .i64 (n : Nat)] 235)).cell? ⟨w.heap.size, 3, none⟩ = some (.slice none 0 0) := hS.res.cell (by decide)
      have rf3 := hS.res.frozen 3
      have r4 : (w1.alloc (.cells #[.int .i64 (k : Nat), .string ⟨t.toArray⟩, .int .i64 (n : Nat)] 235)).cell? ⟨w.heap.size, 4, none⟩ = some (.slice none 0 0) := hS.res.cell (by decide)
      have rf4 := hS.res.frozen 4
      have r5 : (w1.alloc (.cells #[.int .i64 (k : Nat), .string ⟨t.toArray⟩, .int .i64 (n : Nat)] 235)).cell? ⟨w.heap.size, 5, none⟩ = some (.int .i64 0) := hS.res.cell (by decide)
      have rf5 := hS.res.frozen 5
      go_wp2_with fail
      exact failObj hS (unhide HN) rfl rfl rfl
    · by_cases ea : k = 7
      · subst ea
        go_wp2_with fail
        go_step3
        exact goOn rfl (by decide) (hS.jm (want := 5) ((unhide HJ).jb.up (Nat.le_of_lt (unhide HLT (by decide) (by decide)))) (unhide HJ).em (fun h => absurd h (by decide)) (fun _ _ => (unhide HJ).mc (by decide) (by decide)) (fun _ => (unhide HJ).cl (by decide)) (fun h => absurd h (by decide)) (fun h => absurd h (by decide)) (by rw [(unhide HJ).rest]; exact (step6 (unhide HK)).trans (if_pos rfl))) (unhide HJ) (unhide HLT (by decide) (by decide))
      have nka : (((k : Nat) : Int) == 7) = false := by simp only [beq_eq_false_iff_ne, ne_eq]; omega
      by_cases eb : k = 5
      · subst eb
        go_wp2_with fail
        go_step3
        exact goOn rfl (by decide) (hS.jm (want := 7) ((unhide HJ).jb.up (Nat.le_of_lt (unhide HLT (by decide) (by decide)))) (unhide HJ).em (fun h => absurd h (by decide)) (fun _ h => absurd h (by decide)) (fun h => absurd h (by decide)) (fun h => absurd h (by decide)) (fun h => absurd h (by decide)) (by rw [(unhide HJ).rest]; exact ((step6 (unhide HK)).trans (if_neg (by decide))).trans (if_pos rfl))) (unhide HJ) (unhide HLT (by decide) (by decide))
      have nkb : (((k : Nat) : Int) == 5) = false := by simp only [beq_eq_false_iff_ne, ne_eq]; omega
      have HN : Hid (objS T = none) := by unfold Hid; rw [(unhide HJ).rest]; exact ((step6 (unhide HK)).trans (if_neg ea)).trans (if_neg eb)
      have r0 : (w1.alloc (.cells #[.int .i64 (k : Nat), .string ⟨t.toArray⟩, .int .i64 (n : Nat)] 235)).cell? ⟨w.heap.size, 0, none⟩ = some (.int .i64 0) := hS.res.cell (by decide)
      have rf0 := hS.res.frozen 0
      have r1 : (w1.alloc (.cells #[.int .i64 (k : Nat), .string ⟨t.toArray⟩, .int .i64 (n : Nat)] 235)).cell? ⟨w.heap.size, 1, none⟩ = some (.string ⟨#[]⟩) := hS.res.cell (by decide)
      have rf1 := hS.res.frozen 1
      have r2 : (w1.alloc (.cells #[.int .i64 (k : Nat), .string ⟨t.toArray⟩, .int .i64 (n : Nat)] 235)).cell? ⟨w.heap.size, 2, none⟩ = some (.slice none 0 0) := hS.res.cell (by decide)
      have rf2 := hS.res.frozen 2
      have r3 : (w1.alloc (.cells #[.int .i64 (k : Nat), .string ⟨t.toArray⟩, .int .i64 (n : Nat)] 235)).cell? ⟨w.heap.size, 3, none⟩ = some (.slice none 0 0) := hS.res.cell (by decide)
      have rf3 := hS.res.frozen 3
      have r4 : (w1.alloc (.cells #[.int .i64 (k : Nat), .string ⟨t.toArray⟩, .int .i64 (n : Nat)] 235)).cell? ⟨w.heap.size, 4, none⟩ = some (.slice none 0 0) := hS.res.cell (by decide)
      have rf4 := hS.res.frozen 4
      have r5 : (w1.alloc (.cells #[.int .i64 (k : Nat), .string ⟨t.toArray⟩, .int .i64 (n : Nat)] 235)).cell? ⟨w.heap.size, 5, none⟩ = some (.int .i64 0) := hS.res.cell (by decide)
      have rf5 := hS.res.frozen 5
      go_wp2_with fail
      exact failObj hS (unhide HN) rfl rfl rfl
    · by_cases ea : k = 7
      · subst ea
        go_wp2_with fail
        go_step3
        exact goOn rfl (by decide) (hS.jm (want := 1) ((unhide HJ).jb.up (Nat.le_of_lt (unhide HLT (by decide) (by decide)))) (unhide HJ).em (fun h => absurd h (by decide)) (fun h => absurd h (by decide)) (fun h => absurd h (by decide)) (fun h => absurd h (by decide)) (fun h => absurd h (by decide)) (by rw [(unhide HJ).rest]; exact (step7 (unhide HK)).trans (if_pos rfl))) (unhide HJ) (unhide HLT (by decide) (by decide))
      have nka : (((k : Nat) : Int) == 7) = false := by simp only [beq_eq_false_iff_ne, ne_eq]; omega
      by_cases eb : k = 3
      · subst eb
        go_wp2_with fail
        go_step3
        exact goOn rfl (by decide) (hS.jm (want := 8) ((unhide HJ).jb.up (Nat.le_of_lt (unhide HLT (by decide) (by decide)))) (unhide HJ).em (fun h => absurd h (by decide)) (fun _ h => absurd h (by decide)) (fun h => absurd h (by decide)) (fun h => absurd h (by decide)) (fun h => absurd h (by decide)) (by rw [(unhide HJ).rest]; exact ((step7 (unhide HK)).trans (if_neg (by decide))).trans (if_pos rfl))) (unhide HJ) (unhide HLT (by decide) (by decide))
      have nkb : (((k : Nat) : Int) == 3) = false := by simp only [beq_eq_false_iff_ne, ne_eq]; omega
      have HN : Hid (objS T = none) := by unfold Hid; rw [(unhide HJ).rest]; exact ((step7 (unhide HK)).trans (if_neg ea)).trans (if_neg eb)
      have r0 : (w1.alloc (.cells #[.int .i64 (k : Nat), .string ⟨t.toArray⟩, .int .i64 (n : Nat)] 235)).cell? ⟨w.heap.size, 0, none⟩ = some (.int .i64 0) := hS.res.cell (by decide)
      have rf0 := hS.res.frozen 0
      have r1 : (w1.alloc (.cells #[.int .i64 (k : Nat), .string ⟨t.toArray⟩, .int .i64 (n : Nat)] 235)).cell? ⟨w.heap.size, 1, none⟩ = some (.string ⟨#[]⟩) := hS.res.cell (by decide)
      have rf1 := hS.res.frozen 1
      have r2 : (w1.alloc (.cells #[.int .i64 (k : Nat), .string ⟨t.toArray⟩, .int .i64 (n : Nat)] 235)).cell? ⟨w.heap.size, 2, none⟩ = some (.slice none 0 0) := hS.res.cell (by decide)
      have rf2 := hS.res.frozen 2
      have r3 : (w1.alloc (.cells #[.int .i64 (k : Nat), .string ⟨t.toArray⟩, .int .i64 (n : Nat)] 235)).cell? ⟨w.heap.size, 3, none⟩ = some (.slice none 0 0) := hS.res.cell (by decide)
      have rf3 := hS.res.frozen 3
      have r4 : (w1.alloc (.cells #[.int .i64 (k : Nat), .string ⟨t.toArray⟩, .int .i64 (n : Nat)] 235)).cell? ⟨w.heap.size, 4, none⟩ = some (.slice none 0 0) := hS.res.cell (by decide)
      have rf4 := hS.res.frozen 4
      have r5 : (w1.alloc (.cells #[.int .i64 (k : Nat), .string ⟨t.toArray⟩, .int .i64 (n : Nat)] 235)).cell? ⟨w.heap.size, 5, none⟩ = some (.int .i64 0) := hS.res.cell (by decide)
      have rf5 := hS.res.frozen 5
      go_wp2_with fail
      exact failObj hS (unhide HN) rfl rfl rfl
    · by_cases e1 : k = 1
      · have tk1 : (((k : Nat) : Int) == 1) = true := by simp [e1]
        have HC := hide (isWhole_any (w.heap.size + 2) c.z p cur m _ hS.dr)
        have r0 : (w1.alloc (.cells #[.int .i64 (k : Nat), .string ⟨t.toArray⟩, .int .i64 (n : Nat)] 235)).cell? ⟨w.heap.size, 0, none⟩ = some (.int .i64 0) := hS.res.cell (by decide)
        have rf0 := hS.res.frozen 0
        have r1 : (w1.alloc (.cells #[.int .i64 (k : Nat), .string ⟨t.toArray⟩, .int .i64 (n : Nat)] 235)).cell? ⟨w.heap.size, 1, none⟩ = some (.string ⟨#[]⟩) := hS.res.cell (by decide)
        have rf1 := hS.res.frozen 1
        have r2 : (w1.alloc (.cells #[.int .i64 (k : Nat), .string ⟨t.toArray⟩, .int .i64 (n : Nat)] 235)).cell? ⟨w.heap.size, 2, none⟩ = some (.slice none 0 0) := hS.res.cell (by decide)
        have rf2 := hS.res.frozen 2
        have r3 : (w1.alloc (.cells #[.int .i64 (k : Nat), .string ⟨t.toArray⟩, .int .i64 (n : Nat)] 235)).cell? ⟨w.heap.size, 3, none⟩ = some (.slice none 0 0) := hS.res.cell (by decide)
        have rf3 := hS.res.frozen 3
        have r4 : (w1.alloc (.cells #[.int .i64 (k : Nat), .string ⟨t.toArray⟩, .int .i64 (n : Nat)] 235)).cell? ⟨w.heap.size, 4, none⟩ = some (.slice none 0 0) := hS.res.cell (by decide)
        have rf4 := hS.res.frozen 4
        have r5 : (w1.alloc (.cells #[.int .i64 (k : Nat), .string ⟨t.toArray⟩, .int .i64 (n : Nat)] 235)).cell? ⟨w.heap.size, 5, none⟩ = some (.int .i64 0) := hS.res.cell (by decide)
        have rf5 := hS.res.frozen 5
        cases hw6 : decide (cnt m = 6) with
        | true =>
          rw [hw6] at HC
          have HN : Hid (objS T = some c) := by unfold Hid; rw [(unhide HJ).rest]; exact (step8 (unhide HK)).trans (if_pos ⟨e1, of_decide_eq_true hw6⟩)
          have d0 : (w1.alloc (.cells #[.int .i64 (k : Nat), .string ⟨t.toArray⟩, .int .i64 (n : Nat)] 235)).cell? ⟨w.heap.size + 1 + 1, 0, none⟩ = some (.int .i64 (c.id : Int)) := hS.dr.cell (by decide)
          have d1 : (w1.alloc (.cells #[.int .i64 (k : Nat), .string ⟨t.toArray⟩, .int .i64 (n : Nat)] 235)).cell? ⟨w.heap.size + 1 + 1, 1, none⟩ = some (.string ⟨c.sub.toArray⟩) := hS.dr.cell (by decide)
          have d2 : (w1.alloc (.cells #[.int .i64 (k : Nat), .string ⟨t.toArray⟩, .int .i64 (n : Nat)] 235)).cell? ⟨w.heap.size + 1 + 1, 2, none⟩ = some (.slice p.a2 c.scp.length p.c2) := hS.dr.cell (by decide)
          have d3 : (w1.alloc (.cells #[.int .i64 (k : Nat), .string ⟨t.toArray⟩, .int .i64 (n : Nat)] 235)).cell? ⟨w.heap.size + 1 + 1, 3, none⟩ = some (.slice p.a3 c.aud.length p.c3) := hS.dr.cell (by decide)
          have d4 : (w1.alloc (.cells #[.int .i64 (k : Nat), .string ⟨t.toArray⟩, .int .i64 (n : Nat)] 235)).cell? ⟨w.heap.size + 1 + 1, 4, none⟩ = some (.slice p.a4 c.act.length p.c4) := hS.dr.cell (by decide)
          have d5 : (w1.alloc (.cells #[.int .i64 (k : Nat), .string ⟨t.toArray⟩, .int .i64 (n : Nat)] 235)).cell? ⟨w.heap.size + 1 + 1, 5, none⟩ = some (.int .i64 (c.exp : Int)) := hS.dr.cell (by decide)
          clear hw6 e1
          go_wp2_with fail
          refine (unhide HC).mono ?_
          rintro e w2 ⟨rfl, rfl⟩
          go_wp2_with fail
          exact okObj hS ((unhide HJ).jb.up (unhide HJ).la) (unhide HN) rfl rfl rfl
        | false =>
          rw [hw6] at HC
          have HN : Hid (objS T = none) := by unfold Hid; rw [(unhide HJ).rest]; exact (step8 (unhide HK)).trans (if_neg (fun h => of_decide_eq_false hw6 h.2))
          clear hw6 e1
          go_wp2_with fail
          refine (unhide HC).mono ?_
          rintro e w2 ⟨rfl, rfl⟩
          go_wp2_with fail
          exact failObj hS (unhide HN) rfl rfl rfl
      have nk1 : (((k : Nat) : Int) == 1) = false := by simp only [beq_eq_false_iff_ne, ne_eq]; omega
      have HN : Hid (objS T = none) := by unfold Hid; rw [(unhide HJ).rest]; exact (step8 (unhide HK)).trans (if_neg (fun h => e1 h.1))
      have r0 : (w1.alloc (.cells #[.int .i64 (k : Nat), .string ⟨t.toArray⟩, .int .i64 (n : Nat)] 235)).cell? ⟨w.heap.size, 0, none⟩ = some (.int .i64 0) := hS.res.cell (by decide)
      have rf0 := hS.res.frozen 0
      have r1 : (w1.alloc (.cells #[.int .i64 (k : Nat), .string ⟨t.toArray⟩, .int .i64 (n : Nat)] 235)).cell? ⟨w.heap.size, 1, none⟩ = some (.string ⟨#[]⟩) := hS.res.cell (by decide)
      have rf1 := hS.res.frozen 1
      have r2 : (w1.alloc (.cells #[.int .i64 (k : Nat), .string ⟨t.toArray⟩, .int .i64 (n : Nat)] 235)).cell? ⟨w.heap.size, 2, none⟩ = some (.slice none 0 0) := hS.res.cell (by decide)
      have rf2 := hS.res.frozen 2
      have r3 : (w1.alloc (.cells #[.int .i64 (k : Nat), .string ⟨t.toArray⟩, .int .i64 (n : Nat)] 235)).cell? ⟨w.heap.size, 3, none⟩ = some (.slice none 0 0) := hS.res.cell (by decide)
      have rf3 := hS.res.frozen 3
      have r4 : (w1.alloc (.cells #[.int .i64 (k : Nat), .string ⟨t.toArray⟩, .int .i64 (n : Nat)] 235)).cell? ⟨w.heap.size, 4, none⟩ = some (.slice none 0 0) := hS.res.cell (by decide)
      have rf4 := hS.res.frozen 4
      have r5 : (w1.alloc (.cells #[.int .i64 (k : Nat), .string ⟨t.toArray⟩, .int .i64 (n : Nat)] 235)).cell? ⟨w.heap.size, 5, none⟩ = some (.int .i64 0) := hS.res.cell (by decide)
      have rf5 := hS.res.frozen 5
      go_wp2_with fail
      exact failObj hS (unhide HN) rfl rfl rfl
end Go.Proofs.YtkmkkmdpjliifaaGreatDoor
