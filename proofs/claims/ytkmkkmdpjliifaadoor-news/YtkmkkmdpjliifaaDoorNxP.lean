import Derived.Test.YtkmkkmdpjliifaaDoorNxO
import Derived.Test.YtkmkkmdpjliifaaDoorNxR
namespace Go.Proofs.YtkmkkmdpjliifaaDoor
open Go.ChangeShapes Go.WideShapes Go.ChangeAt Go.RowKit

/-- append(none, k...) -/
theorem append_keys {w : World} {a : Option Addr} {ks : List Ky} {c : Nat} {B : Nat} (hl : ks.length ≤ 8) (hv : Ks w B (.slice a ks.length c) ks) (hp : 0 < ks.length) (ty : TypeId) :
    ∃ g d w', (Builtin.append_ #[52, 52] ty #[.slice none 0 0, .slice a ks.length c]).run Tryd.prog w = .ok (.slice (some ⟨g, 0, none⟩) ks.length d) w' ∧ w'.ownsRow w.heap.size 59 2 (.slice (some ⟨g, 0, none⟩) ks.length d) ks.length (kvs ks) ∧ w.grownBy w' none := by
  obtain ⟨a1, c1, he, hv⟩ := hv
  obtain ⟨g, o, rfl, hg, hc⟩ := hv hp
  injection he with e1 e2 e3
  subst e1
  obtain ⟨i0, hi, hz0, hz1, hz2⟩ := info_parts info59
  obtain ⟨v', w', hrun, ho, hgr, _⟩ := run_append_own (P := Tryd.prog) w w.heap.size 52 ty 59 i0 _ 2 32 Tryd.underlying52 hi hz0 hz1 hz2 rfl (by decide) (.slice none 0 0) 0 [] (World.ownsRow_nil w _ 59 2) ⟨g, o, none⟩ ks.length c (kvs ks) (kvs_length ks) (fun j u hu => by
      have hj : j < ks.length * 2 := by
        rcases Nat.lt_or_ge j (ks.length * 2) with h | h
        · exact h
        · rw [List.getElem?_eq_none (by rw [kvs_length]; exact h)] at hu; cases hu
      rw [add_plain]
      rcases (show j % 2 = 0 ∨ j % 2 = 1 by omega) with h | h
      · have hj3 : j = j / 2 * 2 := by omega
        rw [hj3, (kvs_get ks (j / 2) (by omega)).1] at hu
        rw [hj3, (hc (j / 2) (by omega)).1, hu]
      · have hj3 : j = j / 2 * 2 + 1 := by omega
        rw [hj3, (kvs_get ks (j / 2) (by omega)).2] at hu
        rw [hj3, ← Nat.add_assoc, (hc (j / 2) (by omega)).2, hu]) (fun u hu => by
      unfold kvs at hu
      obtain ⟨x, _, hx⟩ := List.mem_flatMap.1 hu
      simp at hx
      rcases hx with rfl | rfl <;> rfl) (by unfold maxLen; omega) (by omega) (Nat.le_refl _)
  rw [Nat.zero_add, List.nil_append] at ho
  obtain ⟨g2, d, rfl, _, _⟩ := ho.form hp
  exact ⟨g2, d, w', hrun, ho, hgr⟩

/-- a server of the document's, cell by cell -/
def srvF (x0 x1 vk vc : Value) (j : Nat) : Value := if j = 0 then x0 else if j = 1 then x1 else if j = 2 then vk else if j = 3 then vc else if j = 4 then .int .i64 0 else if j = 5 then .int .i64 0 else .slice none 0 0

theorem five_one (x y : List UInt8) (a b c : Option Addr) {n1 n2 n3 c1 c2 c3 : Nat} : ∀ u ∈ [Value.string ⟨x.toArray⟩, .string ⟨y.toArray⟩, .slice a n1 c1, .slice b n2 c2, .slice c n3 c3], u.oneCell' = true := by
  intro u hu
  simp at hu
  rcases hu with rfl | rfl | rfl | rfl | rfl <;> rfl
/-- what the loop over the clients carries -/
structure Pk (w : World) (Sx g p B : Nat) (x0 x1 vk vs : Value) (k : Nat) (xs : List Value) (xn xse : List UInt8) (b2 b3 b4 : Option Addr) (c2 c3 c4 : Nat) (sc tg ac : List (List UInt8)) : Prop where
  sz : Sx < w.heap.size
  gS : g < Sx
  BS : B ≤ Sx
  row : Row w Sx 121 7 (srvF x0 x1 vk vs)
  own : w.ownsRow (Sx + 1) 105 5 vs k xs
  five : w.cell? ⟨g, p, none⟩ = some (.string ⟨xn.toArray⟩) ∧ w.cell? ⟨g, p + 1, none⟩ = some (.string ⟨xse.toArray⟩) ∧ w.cell? ⟨g, p + 2, none⟩ = some (.slice b2 sc.length c2) ∧ w.cell? ⟨g, p + 3, none⟩ = some (.slice b3 tg.length c3) ∧ w.cell? ⟨g, p + 4, none⟩ = some (.slice b4 ac.length c4)
  l2 : Ls w B (.slice b2 sc.length c2) sc
  l3 : Ls w B (.slice b3 tg.length c3) tg
  l4 : Ls w B (.slice b4 ac.length c4) ac
section
variable {w : World} {Sx g p B : Nat} {x0 x1 vk vs : Value} {k : Nat} {xs : List Value} {xn xse : List UInt8} {b2 b3 b4 : Option Addr} {c2 c3 c4 : Nat} {sc tg ac : List (List UInt8)}
theorem Pk.below {w' : World} (h : Pk w Sx g p B x0 x1 vk vs k xs xn xse b2 b3 b4 c2 c3 c4 sc tg ac) (hb : Below w.heap.size w w') : Pk w' Sx g p B x0 x1 vk vs k xs xn xse b2 b3 b4 c2 c3 c4 sc tg ac := by
  have hg : g < w.heap.size := Nat.lt_trans h.gS h.sz
  have hB : B ≤ w.heap.size := Nat.le_trans h.BS (Nat.le_of_lt h.sz)
  have hc : ∀ q, w'.cell? ⟨g, q, none⟩ = w.cell? ⟨g, q, none⟩ := fun q => hb.cell (p := ⟨g, q, none⟩) hg
  exact ⟨Nat.lt_of_lt_of_le h.sz hb.size, h.gS, h.BS, h.row.below hb h.sz, ownsRow_below h.own hb (Nat.le_refl _), ⟨(hc _).trans h.five.1, (hc _).trans h.five.2.1, (hc _).trans h.five.2.2.1, (hc _).trans h.five.2.2.2.1, (hc _).trans h.five.2.2.2.2⟩, h.l2.below (hb.mono hB), h.l3.below (hb.mono hB), h.l4.below (hb.mono hB)⟩
theorem Pk.drew (h : Pk w Sx g p B x0 x1 vk vs k xs xn xse b2 b3 b4 c2 c3 c4 sc tg ac) : Pk w.drew Sx g p B x0 x1 vk vs k xs xn xse b2 b3 b4 c2 c3 c4 sc tg ac := ⟨h.sz, h.gS, h.BS, h.row, h.own, h.five, h.l2, h.l3, h.l4⟩
theorem Pk.r3 (h : Pk w Sx g p B x0 x1 vk vs k xs xn xse b2 b3 b4 c2 c3 c4 sc tg ac) : w.cell? ⟨Sx, 3, none⟩ = some vs := h.row.cell (j := 3) (by omega)
theorem Pk.Bw (h : Pk w Sx g p B x0 x1 vk vs k xs xn xse b2 b3 b4 c2 c3 c4 sc tg ac) : B ≤ w.heap.size := Nat.le_trans h.BS (Nat.le_of_lt h.sz)
theorem Pk.alloc (h : Pk w Sx g p B x0 x1 vk vs k xs xn xse b2 b3 b4 c2 c3 c4 sc tg ac) (ob : Obj) : Pk (w.alloc ob) Sx g p B x0 x1 vk vs k xs xn xse b2 b3 b4 c2 c3 c4 sc tg ac := h.below ((Below.refl _ _).alloc (Nat.le_refl _) ob)
theorem Pk.neS (h : Pk w Sx g p B x0 x1 vk vs k xs xn xse b2 b3 b4 c2 c3 c4 sc tg ac) : some Sx ≠ vs.ownBlock := fun e => by have := h.own.lt _ e.symm; omega
theorem Pk.neg (h : Pk w Sx g p B x0 x1 vk vs k xs xn xse b2 b3 b4 c2 c3 c4 sc tg ac) : some g ≠ vs.ownBlock := fun e => by have := h.own.lt _ e.symm; have := h.gS; omega
/-- behind the append -/
theorem Pk.grown {w' : World} (h : Pk w Sx g p B x0 x1 vk vs k xs xn xse b2 b3 b4 c2 c3 c4 sc tg ac) (hg : w.grownBy w' vs.ownBlock) :
    Sx < w'.heap.size ∧ Row w' Sx 121 7 (srvF x0 x1 vk vs) ∧ (w'.cell? ⟨g, p, none⟩ = some (.string ⟨xn.toArray⟩) ∧ w'.cell? ⟨g, p + 1, none⟩ = some (.string ⟨xse.toArray⟩) ∧ w'.cell? ⟨g, p + 2, none⟩ = some (.slice b2 sc.length c2) ∧ w'.cell? ⟨g, p + 3, none⟩ = some (.slice b3 tg.length c3) ∧ w'.cell? ⟨g, p + 4, none⟩ = some (.slice b4 ac.length c4)) := by
  have hgl : g < w.heap.size := Nat.lt_trans h.gS h.sz
  have hc : ∀ q, w'.cell? ⟨g, q, none⟩ = w.cell? ⟨g, q, none⟩ := fun q => hg.cell_far ⟨g, q, none⟩ hgl h.neg
  exact ⟨Nat.lt_of_lt_of_le h.sz hg.size, rowGrown h.row hg h.neS, (hc _).trans h.five.1, (hc _).trans h.five.2.1, (hc _).trans h.five.2.2.1, (hc _).trans h.five.2.2.2.1, (hc _).trans h.five.2.2.2.2⟩
end
theorem five_set {w : World} {Sx g p : Nat} {u u0 u1 u2 u3 u4 : Value} (hg : g < Sx) (h : w.cell? ⟨g, p, none⟩ = some u0 ∧ w.cell? ⟨g, p + 1, none⟩ = some u1 ∧ w.cell? ⟨g, p + 2, none⟩ = some u2 ∧ w.cell? ⟨g, p + 3, none⟩ = some u3 ∧ w.cell? ⟨g, p + 4, none⟩ = some u4) :
    (w.setCell ⟨Sx, 3, none⟩ u).cell? ⟨g, p, none⟩ = some u0 ∧ (w.setCell ⟨Sx, 3, none⟩ u).cell? ⟨g, p + 1, none⟩ = some u1 ∧ (w.setCell ⟨Sx, 3, none⟩ u).cell? ⟨g, p + 2, none⟩ = some u2 ∧ (w.setCell ⟨Sx, 3, none⟩ u).cell? ⟨g, p + 3, none⟩ = some u3 ∧ (w.setCell ⟨Sx, 3, none⟩ u).cell? ⟨g, p + 4, none⟩ = some u4 := by
  have hc : ∀ q, (w.setCell ⟨Sx, 3, none⟩ u).cell? ⟨g, q, none⟩ = w.cell? ⟨g, q, none⟩ := fun q => World.cell?_setCell_other _ _ _ _ (fun hh => by injection hh; omega)
  exact ⟨(hc _).trans h.1, (hc _).trans h.2.1, (hc _).trans h.2.2.1, (hc _).trans h.2.2.2.1, (hc _).trans h.2.2.2.2⟩

theorem meas1 {k q n : Nat} (hk : k + q = n) (h : k < n) : q - 1 < q := by omega
theorem meas2 {k q n : Nat} (hk : k + q = n) (h : k < n) : k + 1 + (q - 1) = n := by omega
theorem srv_step {w wr y1 y2 y3 y4 : World} {Sx g p B : Nat} {x0 x1 vk vs : Value} {k : Nat} {xs zs : List Value} {xn xse : List UInt8} {b2 b3 b4 : Option Addr} {c2 c3 c4 g4 d4 : Nat} {sc tg ac : List (List UInt8)} {ob : Obj} (hw : w.heap.size ≤ Sx) (hb0 : Below w.heap.size w wr) (hb1 : Below wr.drew.heap.size wr.drew y1) (hb2 : Below y1.heap.size y1 y2) (hb3 : Below y2.heap.size y2 y3)
    (hP : Pk y3 Sx g p B x0 x1 vk vs k xs xn xse b2 b3 b4 c2 c3 c4 sc tg ac) (ho : y4.ownsRow (Sx + 1) 105 5 (.slice (some ⟨g4, 0, none⟩) (k + 1) d4) (k + 1) zs) (hg : (y3.alloc ob).grownBy y4 vs.ownBlock) (hs : Sx < y4.heap.size) (hR : Row y4 Sx 121 7 (srvF x0 x1 vk vs)) :
    Row (y4.setCell ⟨Sx, 3, none⟩ (.slice (some ⟨g4, 0, none⟩) (k + 1) d4)) Sx 121 7 (srvF x0 x1 vk (.slice (some ⟨g4, 0, none⟩) (k + 1) d4)) ∧ (y4.setCell ⟨Sx, 3, none⟩ (.slice (some ⟨g4, 0, none⟩) (k + 1) d4)).ownsRow (Sx + 1) 105 5 (.slice (some ⟨g4, 0, none⟩) (k + 1) d4) (k + 1) zs ∧
    Sx + 1 ≤ (y4.setCell ⟨Sx, 3, none⟩ (.slice (some ⟨g4, 0, none⟩) (k + 1) d4)).heap.size ∧ Below w.heap.size w (y4.setCell ⟨Sx, 3, none⟩ (.slice (some ⟨g4, 0, none⟩) (k + 1) d4)) := by
  have s0 := hb0.size
  have s1 : wr.heap.size ≤ y1.heap.size := hb1.size
  have s2 := hb2.size
  have s3 := hb3.size
  have hB3 : Below w.heap.size w y3 := ((hb0.drew.trans (hb1.mono (show w.heap.size ≤ wr.heap.size from s0))).trans (hb2.mono (by omega))).trans (hb3.mono (by omega))
  refine ⟨(hR.set 3 _).congr (fun j hj => ?_), ownsRow_setCell_below ho (by simp) _, by simp [World.setCell]; omega, ?_⟩
  · rcases (show j = 0 ∨ j = 1 ∨ j = 2 ∨ j = 3 ∨ j = 4 ∨ j = 5 ∨ j = 6 by omega) with rfl | rfl | rfl | rfl | rfl | rfl | rfl <;> rfl
  · refine Below.setCell (Below.grown (hB3.alloc (by omega) ob) hg (by simp; omega) (fun j hj => ?_)) hw _
    have := hP.own.lt j hj; omega

set_option linter.unusedSimpArgs false in
set_option maxRecDepth 20000 in
set_option maxHeartbeats 4000000 in
theorem NewR_any (h : Value) (hh : ∃ a n c a2 n2 c2, h = .agg #[.slice a n c, .slice a2 n2 c2]) (v vc : Value) (ks : List Ky) (cs : List Cl) (w : World) (B : Nat) (hB : B ≤ w.heap.size) (hl : ks.length ≤ 4398046511104) (hF : KFits ks) (hv : Ks w B v ks) (hcl : cs.length ≤ 1353245080301) (hCF : CFits cs) (hC : Cs w B vc cs) :
    Calls Tryd.prog 50 #[h, v, vc] w fun e w' => (∃ po, e = .returned (.tuple #[.pointer po, .int .i64 (errOf (newB ks cs))]) ∧ po.isSome = newB ks cs) ∧ Below w.heap.size w w' := by
  obtain ⟨ha, hna, hca, hb_, hnb, hcb, rfl⟩ := hh
  have HL := hide hl
  have HL2 : Hid (ks.length ≤ 8796093022208) := show ks.length ≤ 8796093022208 by omega
  have HF := hide hF
  have HV := hide hv
  have HCL := hide hcl
  have HCF := hide hCF
  have HC := hide hC
  obtain ⟨a, c, rfl, _⟩ := hv
  obtain ⟨a2, c2, rfl, _⟩ := hC
  clear hl hF hcl hCF
  obtain ⟨w0, hw0⟩ : ∃ w0, w0 = w.alloc (.cells #[.slice ha hna hca, .slice hb_ hnb hcb] 24) := ⟨_, rfl⟩
  have hb0 : Below w.heap.size w w0 := by rw [hw0]; exact (Below.refl _ _).alloc (Nat.le_refl _) _
  have hs0 : w0.heap.size = w.heap.size + 1 := by rw [hw0]; simp
  have hH0 : w0.cell? ⟨w.heap.size, 0, none⟩ = some (.slice ha hna hca) := by rw [hw0]; simp
  have hH1 : w0.cell? ⟨w.heap.size, 1, none⟩ = some (.slice hb_ hnb hcb) := by rw [hw0]; simp
  have HW0 := hide hw0
  clear hw0
  go_enter Tryd.func50, Tryd.ntmps50
  go_wp2_with (go_at_call 76; rw [← unhide HW0])
  clear HW0
  refine (keysR_any _ ks w0 B (unhide HL2) (unhide HF) ((unhide HV).below (hb0.mono hB))).mono ?_
  rintro e w1 ⟨rfl, nd, rfl⟩
  have hb1 : Below w.heap.size w (w0.drewN nd) := below_drewN' hb0 nd
  go_wp2_with fail
  refine (clientsR_any _ cs _ B (show B ≤ (w0.drewN nd).heap.size by show B ≤ w0.heap.size; omega) (unhide HCL) (unhide HCF) ((unhide HC).below (hb1.mono hB))).mono ?_
  rintro e w2 ⟨rfl, hb2⟩
  have hs2 : w0.heap.size ≤ w2.heap.size := hb2.size
  have hww2 : w.heap.size ≤ w2.heap.size := by omega
  have hbw2 : Below w.heap.size w w2 := hb1.trans (hb2.mono (show w.heap.size ≤ w0.heap.size by omega))
  have g0 : w2.cell? ⟨w.heap.size, 0, none⟩ = some (.slice ha hna hca) := (hb2.cell (p := ⟨w.heap.size, 0, none⟩) (show w.heap.size < w0.heap.size by omega)).trans hH0
  have g1 : w2.cell? ⟨w.heap.size, 1, none⟩ = some (.slice hb_ hnb hcb) := (hb2.cell (p := ⟨w.heap.size, 1, none⟩) (show w.heap.size < w0.heap.size by omega)).trans hH1
  clear hH0 hH1 hb0 hb1 hb2
  have hkb : keysB ks = true → 1 ≤ ks.length ∧ ks.length ≤ 8 := fun h => by
    unfold keysB at h
    simp at h
    exact ⟨h.1.2, h.2⟩
  have hcb2 : clientsB cs = true → cs.length ≤ 8 := fun h => by
    unfold clientsB at h
    simp at h
    exact h.2
  have HKB := hide hkb
  have HCB := hide hcb2
  have HNB : Hid (newB ks cs = (keysB ks && clientsB cs)) := rfl
  clear hkb hcb2
  generalize keysB ks = bk at HKB HNB ⊢
  generalize clientsB cs = bc at HCB HNB ⊢
  cases bk with
  | false =>
    go_wp2
    go_ret2
    refine ⟨⟨none, ?_, ?_⟩, hbw2⟩ <;> rw [unhide HNB] <;> rfl
  | true =>
  cases bc with
  | false =>
    go_wp2
    go_ret2
    refine ⟨⟨none, ?_, ?_⟩, hbw2⟩ <;> rw [unhide HNB] <;> rfl
  | true =>
  obtain ⟨hk1, hk8⟩ := unhide HKB rfl
  have hc8 := unhide HCB rfl
  obtain ⟨w3, hw3⟩ : ∃ w3, w3 = w2.alloc (.cells #[.slice ha hna hca, .slice hb_ hnb hcb, .slice none 0 0, .slice none 0 0, .int .i64 0, .int .i64 0, .slice none 0 0] 121) := ⟨_, rfl⟩
  have hR3 : Row w3 w2.heap.size 121 7 (srvF (.slice ha hna hca) (.slice hb_ hnb hcb) (.slice none 0 0) (.slice none 0 0)) := by
    rw [hw3]
    refine Row.new w2 121 _ _ 7 rfl (fun j hj => ?_)
    rcases (show j = 0 ∨ j = 1 ∨ j = 2 ∨ j = 3 ∨ j = 4 ∨ j = 5 ∨ j = 6 by omega) with rfl | rfl | rfl | rfl | rfl | rfl | rfl <;> rfl
  have hs3 : w3.heap.size = w2.heap.size + 1 := by rw [hw3]; simp
  have hbw3 : Below w.heap.size w w3 := by rw [hw3]; exact hbw2.alloc (by omega) _
  obtain ⟨gk, dk, w4, hrun, hown, hgr⟩ := append_keys (ty := 52) hk8 ((unhide HV).below (hbw3.mono hB)) (by omega)
  rw [hw3] at hrun
  have hs4 := hgr.size
  have hR4 := rowGrown hR3 hgr (by simp)
  have hbw4 : Below w.heap.size w w4 := hbw3.grown hgr (by omega) (fun k hk => by cases hk)
  have r2 := hR4.cell (j := 2) (by omega)
  have z2 := hR4.frozen 2
  have HR4 := hide hR4
  clear hR3 hR4 hown hgr hw3
  go_wp2_with (at_builtin; refine appLaw rfl _ _ rfl rfl rfl hrun ?_)
  have hR5 : Row (w4.setCell ⟨w2.heap.size, 2, none⟩ (.slice (some ⟨gk, 0, none⟩) ks.length dk)) w2.heap.size 121 7 (srvF (.slice ha hna hca) (.slice hb_ hnb hcb) (.slice (some ⟨gk, 0, none⟩) ks.length dk) (.slice none 0 0)) := by
    refine ((unhide HR4).set 2 _).congr (fun j hj => ?_)
    rcases (show j = 0 ∨ j = 1 ∨ j = 2 ∨ j = 3 ∨ j = 4 ∨ j = 5 ∨ j = 6 by omega) with rfl | rfl | rfl | rfl | rfl | rfl | rfl <;> rfl
  have hbw5 : Below w.heap.size w (w4.setCell ⟨w2.heap.size, 2, none⟩ (.slice (some ⟨gk, 0, none⟩) ks.length dk)) := hbw4.setCell (by show w.heap.size ≤ w2.heap.size; omega) _
  have hs5 : w2.heap.size + 1 ≤ (w4.setCell ⟨w2.heap.size, 2, none⟩ (.slice (some ⟨gk, 0, none⟩) ks.length dk)).heap.size := by simp [World.setCell]; omega
  have HNB1 : Hid (newB ks cs = true) := (unhide HNB)
  clear HNB HKB HCB r2 z2 HR4 hrun
  generalize Value.slice (some ⟨gk, 0, none⟩) ks.length dk = vk at *
  go_loopg [11] cs.length (fun q i wr => ∃ (k : Nat) (vs : Value) (xs : List Value), k + q = cs.length ∧ i = .int .i64 (k : Nat) ∧ Row wr w2.heap.size 121 7 (srvF (.slice ha hna hca) (.slice hb_ hnb hcb) vk vs) ∧
    wr.ownsRow (w2.heap.size + 1) 105 5 vs k xs ∧ w2.heap.size + 1 ≤ wr.heap.size ∧ Below w.heap.size w wr)
  case atStart => exact ⟨0, .slice none 0 0, [], Nat.zero_add _, rfl, hR5, World.ownsRow_nil _ _ _ _, hs5, hbw5⟩
  case round =>
    clear hR5 hs5 hbw5 hbw4 hs4 hbw3
    obtain ⟨k, vs, xs, hk, rfl, hR, hown, hZ, hb⟩ := hrel
    by_cases hlt : k < cs.length
    · have hw : wrap64 ((k : Int) + 1) = (k : Int) + 1 := w64 _ (by omega) (by omega)
      obtain ⟨ax, cx, he, hx⟩ := unhide HC
      obtain ⟨g, o, e, hg, hCC⟩ := hx (Nat.lt_of_le_of_lt (Nat.zero_le k) hlt)
      injection he with e1 e2 e3
      subst e1
      subst e
      have hxk := (hCC k hlt).below (hb.mono hB) hg
      have hsm := (unhide HCF k hlt).1
      clear hCC hx e2 e3
      generalize cs.getD k default = x at hxk hsm
      obtain ⟨h0, h1, ⟨b2, c2', h2, k2⟩, ⟨b3, c3', h3, k3⟩, b4, c4', h4, k4⟩ := hxk
      rw [sv_def] at h0 h1
      have hkl : (k : Int) < cs.length := Int.ofNat_lt.2 hlt
      have S2 := hide hsm.1
      have S3 := hide hsm.2.1
      have S4 := hide hsm.2.2
      generalize x.name = xn at h0
      generalize x.secret = xse at h1
      generalize x.sc = sc at *
      generalize x.tg = tg at *
      generalize x.ac = ac at *
      have PK0 : Hid (Pk wr w2.heap.size g (o + k * 5) B (.slice ha hna hca) (.slice hb_ hnb hcb) vk vs k xs xn xse b2 b3 b4 c2' c3' c4' sc tg ac) := ⟨hZ, Nat.lt_of_lt_of_le hg (Nat.le_trans hB hww2), Nat.le_trans hB hww2, hR, hown, ⟨h0, h1, h2, h3, h4⟩, k2, k3, k4⟩
      have r3 := (unhide PK0).r3
      have HK8 := hide (show k + 1 ≤ 8 from Nat.le_trans hlt hc8)
      have HMX := hide (show k + 1 ≤ maxLen from Nat.le_trans (unhide HK8) (by unfold maxLen; decide))
      have HBY := hide (show (k + 1) * 104 ≤ 140737488355328 from Nat.le_trans (Nat.mul_le_mul_right 104 (unhide HK8)) (by decide))
      have HB0 := hide hb
      have HW := hide hw
      have HKK := hide hk
      clear hsm k2 k3 k4 hR hown h0 h1 h2 h3 h4 hw hb hg hZ hk
      obtain ⟨i0, hi, iz0, iz1, iz2⟩ := info_parts info105
      have HI := hide hi
      have HI0 := hide iz0
      have HI1 := hide iz1
      have HI2 := hide iz2
      clear hi iz0 iz1 iz2
      go_wp2
      refine wp_region_L 38 (fun w' => (w'.cell? ⟨g, o + k * 5, none⟩ = some (.string ⟨xn.toArray⟩) ∧ w'.cell? ⟨g, o + k * 5 + 1, none⟩ = some (.string ⟨xse.toArray⟩) ∧ w'.cell? ⟨g, o + k * 5 + 2, none⟩ = some (.slice b2 sc.length c2') ∧ w'.cell? ⟨g, o + k * 5 + 3, none⟩ = some (.slice b3 tg.length c3') ∧ w'.cell? ⟨g, o + k * 5 + 4, none⟩ = some (.slice b4 ac.length c4')) ∧ w'.cell? ⟨w2.heap.size, 3, none⟩ = some vs) (by kernel_rfl) ?_
      have hH0 := And.intro (unhide PK0).drew.five (unhide PK0).drew.r3
      refine wpAnyL_take (i := 0) (oi := _) (v := ?_) rfl (by kernel_rfl) (by kernel_rfl) (by kernel_rfl) (by kernel_rfl) (fun _ _ _ h => h) (Or.inl ⟨by rfl, ?_⟩) hH0 ?_
      rotate_left
      · intro u hSu
        try dsimp only at hSu
        go_simp
        try with_reducible rfl
      try simp only [Act.put, List.setIfInBounds_toArray, List.set_cons_zero, List.set_cons_succ]
      refine wpAnyL_take (i := 1) (oi := _) (v := ?_) rfl (by kernel_rfl) (by kernel_rfl) (by kernel_rfl) (by kernel_rfl) (fun _ _ _ h => h) (Or.inl ⟨by rfl, ?_⟩) hH0 ?_
      rotate_left
      · intro u hSu
        try dsimp only at hSu
        go_simp
        try with_reducible rfl
      try simp only [Act.put, List.setIfInBounds_toArray, List.set_cons_zero, List.set_cons_succ]
      refine wpAnyL_take (i := 2) (oi := _) (v := ?_) rfl (by kernel_rfl) (by kernel_rfl) (by kernel_rfl) (by kernel_rfl) (fun _ _ _ h => h) (Or.inl ⟨by rfl, ?_⟩) hH0 ?_
      rotate_left
      · intro u hSu
        try dsimp only at hSu
        go_simp
        try with_reducible rfl
      try simp only [Act.put, List.setIfInBounds_toArray, List.set_cons_zero, List.set_cons_succ]
      refine wpAnyL_take (i := 3) (oi := _) (v := ?_) rfl (by kernel_rfl) (by kernel_rfl) (by kernel_rfl) (by kernel_rfl) (fun _ _ _ h => h) (Or.inl ⟨by rfl, ?_⟩) hH0 ?_
      rotate_left
      · intro u hSu
        try dsimp only at hSu
        go_simp
        try with_reducible rfl
      try simp only [Act.put, List.setIfInBounds_toArray, List.set_cons_zero, List.set_cons_succ]
      refine wpAnyL_take (i := 4) (oi := _) (v := ?_) rfl (by kernel_rfl) (by kernel_rfl) (by kernel_rfl) (by kernel_rfl) (fun _ _ _ h => h) (Or.inl ⟨by rfl, ?_⟩) hH0 ?_
      rotate_left
      · intro u hSu
        try dsimp only at hSu
        go_simp
        try with_reducible rfl
      try simp only [Act.put, List.setIfInBounds_toArray, List.set_cons_zero, List.set_cons_succ]
      refine wpAnyL_take (i := 5) (oi := _) (v := ?_) rfl (by kernel_rfl) (by kernel_rfl) (by kernel_rfl) (by kernel_rfl) (fun _ _ _ h => h) (Or.inl ⟨by rfl, ?_⟩) hH0 ?_
      rotate_left
      · intro u hSu
        try dsimp only at hSu
        go_simp
        try with_reducible rfl
      try simp only [Act.put, List.setIfInBounds_toArray, List.set_cons_zero, List.set_cons_succ]
      refine wpAnyL_take (i := 6) (oi := _) (v := ?_) rfl (by kernel_rfl) (by kernel_rfl) (by kernel_rfl) (by kernel_rfl) (fun _ _ _ h => h) (Or.inl ⟨by rfl, ?_⟩) hH0 ?_
      rotate_left
      · intro u hSu
        try dsimp only at hSu
        go_simp
        try with_reducible rfl
      try simp only [Act.put, List.setIfInBounds_toArray, List.set_cons_zero, List.set_cons_succ]
      refine wpAnyL_take (i := 7) (oi := _) (v := ?_) rfl (by kernel_rfl) (by kernel_rfl) (by kernel_rfl) (by kernel_rfl) (fun _ _ _ h => h) (Or.inl ⟨by rfl, ?_⟩) hH0 ?_
      rotate_left
      · intro u hSu
        try dsimp only at hSu
        go_simp
        try with_reducible rfl
      try simp only [Act.put, List.setIfInBounds_toArray, List.set_cons_zero, List.set_cons_succ]
      refine wpAnyL_take (i := 8) (oi := _) (v := ?_) rfl (by kernel_rfl) (by kernel_rfl) (by kernel_rfl) (by kernel_rfl) (fun _ _ _ h => h) (Or.inl ⟨by rfl, ?_⟩) hH0 ?_
      rotate_left
      · intro u hSu
        try dsimp only at hSu
        go_simp
        try with_reducible rfl
      try simp only [Act.put, List.setIfInBounds_toArray, List.set_cons_zero, List.set_cons_succ]
      refine wpAnyL_take (i := 9) (oi := _) (v := ?_) rfl (by kernel_rfl) (by kernel_rfl) (by kernel_rfl) (by kernel_rfl) (fun _ _ _ h => h) (Or.inl ⟨by rfl, ?_⟩) hH0 ?_
      rotate_left
      · intro u hSu
        try dsimp only at hSu
        go_simp
        try with_reducible rfl
      try simp only [Act.put, List.setIfInBounds_toArray, List.set_cons_zero, List.set_cons_succ]
      refine wpAnyL_take (i := 10) (oi := _) (v := ?_) rfl (by kernel_rfl) (by kernel_rfl) (by kernel_rfl) (by kernel_rfl) (fun _ _ _ h => h) (Or.inl ⟨by rfl, ?_⟩) hH0 ?_
      rotate_left
      · intro u hSu
        try dsimp only at hSu
        go_simp
        try with_reducible rfl
      try simp only [Act.put, List.setIfInBounds_toArray, List.set_cons_zero, List.set_cons_succ]
      refine wpAnyL_take (i := 11) (oi := _) (v := ?_) rfl (by kernel_rfl) (by kernel_rfl) (by kernel_rfl) (by kernel_rfl) (fun _ _ _ h => h) (Or.inl ⟨by rfl, ?_⟩) hH0 ?_
      rotate_left
      · intro u hSu
        try dsimp only at hSu
        go_simp
        try with_reducible rfl
      try simp only [Act.put, List.setIfInBounds_toArray, List.set_cons_zero, List.set_cons_succ]
      refine wpAnyL_take (i := 12) (oi := _) (v := ?_) rfl (by kernel_rfl) (by kernel_rfl) (by kernel_rfl) (by kernel_rfl) (fun _ _ _ h => h) (Or.inl ⟨by rfl, ?_⟩) hH0 ?_
      rotate_left
      · intro u hSu
        try dsimp only at hSu
        go_simp
        try with_reducible rfl
      try simp only [Act.put, List.setIfInBounds_toArray, List.set_cons_zero, List.set_cons_succ]
      refine wpAnyL_take (i := 13) (oi := _) (v := ?_) rfl (by kernel_rfl) (by kernel_rfl) (by kernel_rfl) (by kernel_rfl) (fun _ _ _ h => h) (Or.inl ⟨by rfl, ?_⟩) hH0 ?_
      rotate_left
      · intro u hSu
        try dsimp only at hSu
        go_simp
        try with_reducible rfl
      try simp only [Act.put, List.setIfInBounds_toArray, List.set_cons_zero, List.set_cons_succ]
      refine wpAnyL_take (i := 14) (oi := _) (v := ?_) rfl (by kernel_rfl) (by kernel_rfl) (by kernel_rfl) (by kernel_rfl) (fun _ _ _ h => h) (Or.inl ⟨by rfl, ?_⟩) hH0 ?_
      rotate_left
      · intro u hSu
        try dsimp only at hSu
        go_simp
        try with_reducible rfl
      try simp only [Act.put, List.setIfInBounds_toArray, List.set_cons_zero, List.set_cons_succ]
      refine wpAnyL_take (i := 15) (oi := _) (v := ?_) rfl (by kernel_rfl) (by kernel_rfl) (by kernel_rfl) (by kernel_rfl) (fun _ _ _ h => h) (Or.inl ⟨by rfl, ?_⟩) hH0 ?_
      rotate_left
      · intro u hSu
        try dsimp only at hSu
        go_simp
        try with_reducible rfl
      try simp only [Act.put, List.setIfInBounds_toArray, List.set_cons_zero, List.set_cons_succ]
      refine wpAnyL_take (i := 16) (oi := _) (v := ?_) rfl (by kernel_rfl) (by kernel_rfl) (by kernel_rfl) (by kernel_rfl) (fun _ _ _ h => h) (Or.inl ⟨by rfl, ?_⟩) hH0 ?_
      rotate_left
      · intro u hSu
        try dsimp only at hSu
        go_simp
        try with_reducible rfl
      try simp only [Act.put, List.setIfInBounds_toArray, List.set_cons_zero, List.set_cons_succ]
      refine wpAnyL_take (i := 17) (oi := _) (v := ?_) rfl (by kernel_rfl) (by kernel_rfl) (by kernel_rfl) (by kernel_rfl) (fun _ _ _ h => h) (Or.inl ⟨by rfl, ?_⟩) hH0 ?_
      rotate_left
      · intro u hSu
        try dsimp only at hSu
        go_simp
        try with_reducible rfl
      try simp only [Act.put, List.setIfInBounds_toArray, List.set_cons_zero, List.set_cons_succ]
      refine wpAnyL_take (i := 18) (oi := _) (v := ?_) rfl (by kernel_rfl) (by kernel_rfl) (by kernel_rfl) (by kernel_rfl) (fun _ _ _ h => h) (Or.inl ⟨by rfl, ?_⟩) hH0 ?_
      rotate_left
      · intro u hSu
        try dsimp only at hSu
        go_simp
        try with_reducible rfl
      try simp only [Act.put, List.setIfInBounds_toArray, List.set_cons_zero, List.set_cons_succ]
      refine wpAnyL_take (i := 19) (oi := _) (v := ?_) rfl (by kernel_rfl) (by kernel_rfl) (by kernel_rfl) (by kernel_rfl) (fun _ _ _ h => h) (Or.inl ⟨by rfl, ?_⟩) hH0 ?_
      rotate_left
      · intro u hSu
        try dsimp only at hSu
        go_simp
        try with_reducible rfl
      try simp only [Act.put, List.setIfInBounds_toArray, List.set_cons_zero, List.set_cons_succ]
      refine wpAnyL_take (i := 21) (oi := _) (v := ?_) rfl (by kernel_rfl) (by kernel_rfl) (by kernel_rfl) (by kernel_rfl) (fun _ _ _ h => h) (Or.inl ⟨by rfl, ?_⟩) hH0 ?_
      rotate_left
      · intro u hSu
        try dsimp only at hSu
        go_simp
        try with_reducible rfl
      try simp only [Act.put, List.setIfInBounds_toArray, List.set_cons_zero, List.set_cons_succ]
      refine wpAnyL_take (i := 22) (oi := _) (v := ?_) rfl (by kernel_rfl) (by kernel_rfl) (by kernel_rfl) (by kernel_rfl) (fun _ _ _ h => h) (Or.inl ⟨by rfl, ?_⟩) hH0 ?_
      rotate_left
      · intro u hSu
        try dsimp only at hSu
        go_simp
        try with_reducible rfl
      try simp only [Act.put, List.setIfInBounds_toArray, List.set_cons_zero, List.set_cons_succ]
      refine wpAnyL_take (i := 23) (oi := _) (v := ?_) rfl (by kernel_rfl) (by kernel_rfl) (by kernel_rfl) (by kernel_rfl) (fun _ _ _ h => h) (Or.inl ⟨by rfl, ?_⟩) hH0 ?_
      rotate_left
      · intro u hSu
        try dsimp only at hSu
        go_simp
        try with_reducible rfl
      try simp only [Act.put, List.setIfInBounds_toArray, List.set_cons_zero, List.set_cons_succ]
      refine wpAnyL_take (i := 24) (oi := _) (v := ?_) rfl (by kernel_rfl) (by kernel_rfl) (by kernel_rfl) (by kernel_rfl) (fun _ _ _ h => h) (Or.inl ⟨by rfl, ?_⟩) hH0 ?_
      rotate_left
      · intro u hSu
        try dsimp only at hSu
        go_simp
        try with_reducible rfl
      try simp only [Act.put, List.setIfInBounds_toArray, List.set_cons_zero, List.set_cons_succ]
      refine wpAnyL_take (i := 25) (oi := _) (v := ?_) rfl (by kernel_rfl) (by kernel_rfl) (by kernel_rfl) (by kernel_rfl) (fun _ _ _ h => h) (Or.inl ⟨by rfl, ?_⟩) hH0 ?_
      rotate_left
      · intro u hSu
        try dsimp only at hSu
        go_simp
        try with_reducible rfl
      try simp only [Act.put, List.setIfInBounds_toArray, List.set_cons_zero, List.set_cons_succ]
      refine wpAnyL_take (i := 27) (oi := _) (v := ?_) rfl (by kernel_rfl) (by kernel_rfl) (by kernel_rfl) (by kernel_rfl) (fun _ _ _ h => h) (Or.inl ⟨by rfl, ?_⟩) hH0 ?_
      rotate_left
      · intro u hSu
        try dsimp only at hSu
        go_simp
        try with_reducible rfl
      try simp only [Act.put, List.setIfInBounds_toArray, List.set_cons_zero, List.set_cons_succ]
      refine wpAnyL_take (i := 28) (oi := _) (v := ?_) rfl (by kernel_rfl) (by kernel_rfl) (by kernel_rfl) (by kernel_rfl) (fun _ _ _ h => h) (Or.inl ⟨by rfl, ?_⟩) hH0 ?_
      rotate_left
      · intro u hSu
        try dsimp only at hSu
        go_simp
        try with_reducible rfl
      try simp only [Act.put, List.setIfInBounds_toArray, List.set_cons_zero, List.set_cons_succ]
      refine wpAnyL_take (i := 29) (oi := _) (v := ?_) rfl (by kernel_rfl) (by kernel_rfl) (by kernel_rfl) (by kernel_rfl) (fun _ _ _ h => h) (Or.inl ⟨by rfl, ?_⟩) hH0 ?_
      rotate_left
      · intro u hSu
        try dsimp only at hSu
        go_simp
        try with_reducible rfl
      try simp only [Act.put, List.setIfInBounds_toArray, List.set_cons_zero, List.set_cons_succ]
      refine wpAnyL_take (i := 30) (oi := _) (v := ?_) rfl (by kernel_rfl) (by kernel_rfl) (by kernel_rfl) (by kernel_rfl) (fun _ _ _ h => h) (Or.inl ⟨by rfl, ?_⟩) hH0 ?_
      rotate_left
      · intro u hSu
        try dsimp only at hSu
        go_simp
        try with_reducible rfl
      try simp only [Act.put, List.setIfInBounds_toArray, List.set_cons_zero, List.set_cons_succ]
      refine wpAnyL_take (i := 31) (oi := _) (v := ?_) rfl (by kernel_rfl) (by kernel_rfl) (by kernel_rfl) (by kernel_rfl) (fun _ _ _ h => h) (Or.inl ⟨by rfl, ?_⟩) hH0 ?_
      rotate_left
      · intro u hSu
        try dsimp only at hSu
        go_simp
        try with_reducible rfl
      try simp only [Act.put, List.setIfInBounds_toArray, List.set_cons_zero, List.set_cons_succ]
      refine wpAnyL_one (i := 20) (by kernel_rfl) ?_
      refine wpOp_step (o := _) rfl (fun K hK => ?_)
      go_simp
      refine (copied_any _ sc _ B (unhide PK0).drew.Bw (unhide S2) (unhide PK0).drew.l2).mono ?_
      rintro e y1 ⟨v1, rfl, hL1, hb1⟩
      obtain ⟨p2, q2, rfl, _⟩ := hL1
      have PK1 := hide ((unhide PK0).drew.below hb1)
      have HB1 := hide hb1
      clear hb1
      try go_simp
      have hH1 := And.intro (unhide PK1).five (unhide PK1).r3
      refine hK _ _ ⟨fun _ => hH1, ?_⟩
      clear hK K
      try simp only [Act.put, List.setIfInBounds_toArray, List.set_cons_zero, List.set_cons_succ]
      refine wpAnyL_one (i := 26) (by kernel_rfl) ?_
      refine wpOp_step (o := _) rfl (fun K hK => ?_)
      go_simp
      refine (copied_any _ tg _ B (unhide PK1).Bw (unhide S3) (unhide PK1).l3).mono ?_
      rintro e y2 ⟨v2, rfl, hL2, hb2⟩
      obtain ⟨p3, q3, rfl, _⟩ := hL2
      have PK2 := hide ((unhide PK1).below hb2)
      have HB2 := hide hb2
      clear hb2
      try go_simp
      have hH2 := And.intro (unhide PK2).five (unhide PK2).r3
      refine hK _ _ ⟨fun _ => hH2, ?_⟩
      clear hK K
      try simp only [Act.put, List.setIfInBounds_toArray, List.set_cons_zero, List.set_cons_succ]
      refine wpAnyL_one (i := 32) (by kernel_rfl) ?_
      refine wpOp_step (o := _) rfl (fun K hK => ?_)
      go_simp
      refine (copied_any _ ac _ B (unhide PK2).Bw (unhide S4) (unhide PK2).l4).mono ?_
      rintro e y3 ⟨v3, rfl, hL3, hb3⟩
      obtain ⟨p4, q4, rfl, _⟩ := hL3
      have PK3 := hide ((unhide PK2).below hb3)
      have HB3 := hide hb3
      clear hb3
      try go_simp
      have hH3 := And.intro (unhide PK3).five (unhide PK3).r3
      refine hK _ _ ⟨fun _ => hH3, ?_⟩
      clear hK K
      try simp only [Act.put, List.setIfInBounds_toArray, List.set_cons_zero, List.set_cons_succ]
      refine wpAnyL_take (i := 33) (oi := _) (v := ?_) rfl (by kernel_rfl) (by kernel_rfl) (by kernel_rfl) (by kernel_rfl) (fun _ _ _ h => h) (Or.inl ⟨by rfl, ?_⟩) hH3 ?_
      rotate_left
      · intro u hSu
        try dsimp only at hSu
        go_simp
        try with_reducible rfl
      try simp only [Act.put, List.setIfInBounds_toArray, List.set_cons_zero, List.set_cons_succ]
      refine wpAnyL_one (i := 34) (by kernel_rfl) ?_
      refine wpOp_step (o := _) rfl (fun K hK => ?_)
      go_simp
      have hH4 := And.intro ((unhide PK3).alloc (.cells #[.string ⟨xn.toArray⟩, .string ⟨xse.toArray⟩, .slice p2 sc.length q2, .slice p3 tg.length q3, .slice p4 ac.length q4] 105)).five ((unhide PK3).alloc (.cells #[.string ⟨xn.toArray⟩, .string ⟨xse.toArray⟩, .slice p2 sc.length q2, .slice p3 tg.length q3, .slice p4 ac.length q4] 105)).r3
      refine hK _ _ ⟨fun _ => hH4, ?_⟩
      clear hK K
      try simp only [Act.put, List.setIfInBounds_toArray, List.set_cons_zero, List.set_cons_succ]
      refine wpAnyL_one (i := 35) (by kernel_rfl) ?_
      refine wpOp_step (o := _) rfl (fun K hK => ?_)
      refine step_append_lies _ rfl _ _ 53 rfl (w2.heap.size + 1) 105 i0 _ 5 104 Tryd.underlying53 (unhide HI) (unhide HI0) (unhide HI1) (unhide HI2) rfl (by decide) vs k xs rfl ((unhide PK3).alloc _).own ⟨y3.heap.size, 0, none⟩ 1 1 [.string ⟨xn.toArray⟩, .string ⟨xse.toArray⟩, .slice p2 sc.length q2, .slice p3 tg.length q3, .slice p4 ac.length q4] rfl rfl (World.news_of_block (heap_alloc_new y3 _)) (five_one _ _ _ _ _) (by decide) (unhide HMX) (unhide HBY) ((unhide PK3).alloc _).sz _ rfl ?_
      intro g4 d4 y4 ho4 hg4 hat4 hlt4
      obtain ⟨sz4, row4, five4⟩ := ((unhide PK3).alloc _).grown hg4
      have r4 := row4.cell (j := 3) (by decide)
      have z4 := row4.frozen 3
      have HO4 := hide ho4
      have HG4 := hide hg4
      have HRW4 := hide row4
      clear ho4 hg4 hat4 hlt4 row4
      have hH5 := And.intro five4 r4
      refine hK _ _ ⟨fun _ => hH5, ?_⟩
      clear hK K
      try simp only [Act.put, List.setIfInBounds_toArray, List.set_cons_zero, List.set_cons_succ]
      refine wpAnyL_one (i := 36) (by kernel_rfl) ?_
      refine wpOp_step (o := _) rfl (fun K hK => ?_)
      go_simp
      refine hK _ _ ⟨fun _ => hH5, ?_⟩
      clear hK K
      try simp only [Act.put, List.setIfInBounds_toArray, List.set_cons_zero, List.set_cons_succ]
      refine wpAnyL_one (i := 37) (by kernel_rfl) ?_
      refine wpOp_step (o := _) rfl (fun K hK => ?_)
      go_simp
      refine hK _ _ ⟨fun _ => hH5, ?_⟩
      clear hK K
      try simp only [Act.put, List.setIfInBounds_toArray, List.set_cons_zero, List.set_cons_succ]
      refine wpAnyL_one (i := 38) (by kernel_rfl) ?_
      refine wpOp_step (o := _) rfl (fun K hK => ?_)
      go_simp
      refine hK _ _ ⟨fun h => absurd rfl h, ?_⟩
      clear hK K
      refine wpAnyL_done (by kernel_rfl) ?_ _
      have hw := unhide HW
      clear hH0 hH1 hH2 hH3 hH4 hH5
      go_wp2
      go_roundg (gk - 1)
      case measure => exact meas1 (unhide HKK) hlt
      case rel => exact ⟨k + 1, _, _, meas2 (unhide HKK) hlt, by first | exact num1 hw | rfl, srv_step hww2 (unhide HB0) (unhide HB1) (unhide HB2) (unhide HB3) (unhide PK3) (unhide HO4) (unhide HG4) sz4 (unhide HRW4)⟩
    · go_wp2
      go_ret2
      exact ⟨⟨_, by rw [unhide HNB1]; rfl, by rw [unhide HNB1]; rfl⟩, hb⟩
end Go.Proofs.YtkmkkmdpjliifaaDoor
