import Derived.Test.YtkmkkmdpjliifaaGreatDoorNxB
import Derived.RegionTactic
import Derived.BigRegion
import Derived.Test.YtkmkkmdpjliifaaGreatDoorNxE
import Derived.WalkSpells
import Derived.Laws.ResultCell
namespace Go.Proofs.YtkmkkmdpjliifaaGreatDoor
open Go.ChangeShapes Go.WideShapes Go.ChangeAt Go.RowKit

/-- a client, as the document tells it -/
structure Cl where
  name : List UInt8
  secret : List UInt8
  sc : List (List UInt8)
  tg : List (List UInt8)
  ac : List (List UInt8)
instance : Inhabited Cl := ⟨⟨[], [], [], [], []⟩⟩
/-- A cell that holds a slice of strings. -/
def LsAt (w : World) (B g p : Nat) (l : List (List UInt8)) : Prop := ∃ a c, w.cell? ⟨g, p, none⟩ = some (.slice a l.length c) ∧ Ls w B (.slice a l.length c) l
theorem LsAt.below {w w' : World} {B g p : Nat} {l : List (List UInt8)} (h : LsAt w B g p l) (hb : Below B w w') (hg : g < B) : LsAt w' B g p l := by
  obtain ⟨a, c, h1, h2⟩ := h
  exact ⟨a, c, (hb.cell (p := ⟨g, p, none⟩) hg).trans h1, h2.below hb⟩
/-- A client's five cells from p on. -/
def ClAt (w : World) (B g p : Nat) (x : Cl) : Prop :=
  w.cell? ⟨g, p, none⟩ = some (sv x.name) ∧ w.cell? ⟨g, p + 1, none⟩ = some (sv x.secret) ∧ LsAt w B g (p + 2) x.sc ∧ LsAt w B g (p + 3) x.tg ∧ LsAt w B g (p + 4) x.ac
theorem ClAt.below {w w' : World} {B g p : Nat} {x : Cl} (h : ClAt w B g p x) (hb : Below B w w') (hg : g < B) : ClAt w' B g p x := by
  obtain ⟨h0, h1, h2, h3, h4⟩ := h
  have hc : ∀ q, w'.cell? ⟨g, q, none⟩ = w.cell? ⟨g, q, none⟩ := fun q => hb.cell (p := ⟨g, q, none⟩) hg
  exact ⟨(hc _).trans h0, (hc _).trans h1, h2.below hb hg, h3.below hb hg, h4.below hb hg⟩
/-- A slice of clients, to be read. -/
def Cs (w : World) (B : Nat) (v : Value) (cs : List Cl) : Prop :=
  ∃ a c, v = .slice a cs.length c ∧ (0 < cs.length → ∃ g o, a = some ⟨g, o, none⟩ ∧ g < B ∧ ∀ i, i < cs.length → ClAt w B g (o + i * 5) (cs.getD i default))
theorem Cs.below {w w' : World} {B : Nat} {v : Value} {l : List Cl} (h : Cs w B v l) (hb : Below B w w') : Cs w' B v l := by
  obtain ⟨a, c, rfl, h⟩ := h
  refine ⟨a, c, rfl, fun hp => ?_⟩
  obtain ⟨g, o, rfl, hg, h⟩ := h hp
  exact ⟨g, o, rfl, hg, fun j hj => (h j hj).below hb hg⟩

theorem info37 : (Tryz.prog.info? 37).map (fun i => (i.zero, i.size, i.bytes)) = some (some (.agg #[.string ⟨#[]⟩, .string ⟨#[]⟩, .slice none 0 0, .slice none 0 0, .slice none 0 0]), 5, 104) := by kernel_rfl
/-- a client without anything -/
def c0 (f : Nat) : Value := if f < 2 then sv [] else .slice none 0 0
def zc5 (n : Nat) : Array Value := madeCells #[.string ⟨#[]⟩, .string ⟨#[]⟩, .slice none 0 0, .slice none 0 0, .slice none 0 0] n
theorem zc5_get (n j : Nat) (h : j < n) : (zc5 n)[j]? = some (c0 (j % 5)) := by
  have : j % 5 < 5 := Nat.mod_lt _ (by omega)
  simp only [zc5, madeCells, Array.getElem?_map, Array.getElem?_range, h, if_true, Option.map_some]
  rcases (show j % 5 = 0 ∨ j % 5 = 1 ∨ j % 5 = 2 ∨ j % 5 = 3 ∨ j % 5 = 4 by omega) with e | e | e | e | e <;> simp [e, c0, sv]
theorem make23 (l c : Int) (h0 : 0 ≤ l) (hlc : l ≤ c) (hc : 104 * c ≤ 281474976710656) (u : World) : (Instr.makeSlice 23 (.int .i64 l) (.int .i64 c)).run Tryz.prog u =
    .ok (.slice (some ⟨u.heap.size, 0, none⟩) l.toNat c.toNat) (u.alloc (.cells (zc5 (c.toNat * 5)) 37)) := by
  obtain ⟨i0, hi, hz0, hz1, hz2⟩ := info_parts info37
  have h := run_make (P := Tryz.prog) u 23 37 i0 _ Tryz.underlying23 hi hz0 .i64 .i64 l c h0 hlc (by rw [hz2]; exact hc) (by omega)
  rw [hz1] at h
  exact h
/-- field f of client i, as lentClients leaves it: k are laid, of those behind the last one those up to m are marked; their lists lie in the blocks behind G -/
def clF (G : Nat) (cs : List Cl) (k m i f : Nat) : Value :=
  if i < k then
    (if f = 0 then sv (cs.getD i default).name else if f = 1 then sv (cs.getD i default).secret
     else if f = 2 then .slice (some ⟨G + 1 + 3 * i, 0, none⟩) (cs.getD i default).sc.length ((cs.getD i default).sc.length + 4)
     else if f = 3 then .slice (some ⟨G + 2 + 3 * i, 0, none⟩) (cs.getD i default).tg.length ((cs.getD i default).tg.length + 4)
     else .slice (some ⟨G + 3 + 3 * i, 0, none⟩) (cs.getD i default).ac.length ((cs.getD i default).ac.length + 4))
  else if i < m ∧ f = 0 then sv beyondL else c0 f
/-- the lists of client i as lentClients leaves them -/
def ListsAt (w : World) (G i : Nat) (x : Cl) : Prop :=
  Row w (G + 1 + 3 * i) 9 (x.sc.length + 4) (lentF x.sc) ∧ Row w (G + 2 + 3 * i) 9 (x.tg.length + 4) (lentF x.tg) ∧ Row w (G + 3 + 3 * i) 9 (x.ac.length + 4) (lentF x.ac)
def Small (x : Cl) : Prop := x.sc.length ≤ 8796093022208 ∧ x.tg.length ≤ 8796093022208 ∧ x.ac.length ≤ 8796093022208

theorem mod5 {j k : Nat} (h : j / 5 = k) : j = k * 5 + j % 5 ∧ j % 5 < 5 := by omega
theorem clF_step (G : Nat) (cs : List Cl) (k : Nat) (x : Cl) (hx : cs.getD k default = x) (j : Nat) :
    (if j = k * 5 + 4 then .slice (some ⟨G + 1 + 3 * k + 1 + 1, 0, none⟩) x.ac.length (x.ac.length + 4)
     else if j = k * 5 + 3 then .slice (some ⟨G + 1 + 3 * k + 1, 0, none⟩) x.tg.length (x.tg.length + 4)
     else if j = k * 5 + 2 then .slice (some ⟨G + 1 + 3 * k, 0, none⟩) x.sc.length (x.sc.length + 4)
     else if j = k * 5 + 1 then .string ⟨x.secret.toArray⟩ else if j = k * 5 then .string ⟨x.name.toArray⟩ else clF G cs k 0 (j / 5) (j % 5)) = clF G cs (k + 1) 0 (j / 5) (j % 5) := by
  subst hx
  by_cases h : j / 5 = k
  · obtain ⟨h1, h2⟩ := mod5 h
    rw [h]
    generalize j % 5 = f at *
    subst h1
    unfold clF
    rw [if_pos (show k < k + 1 by omega), if_neg (show ¬ k < k by omega)]
    rcases (show f = 0 ∨ f = 1 ∨ f = 2 ∨ f = 3 ∨ f = 4 by omega) with rfl | rfl | rfl | rfl | rfl
    · simp [sv]
    · simp [sv]
    · simp
    · simp
    · simp
  · have hj : ∀ f, f < 5 → ¬ j = k * 5 + f := fun f hf => by omega
    rw [if_neg (hj 4 (by omega)), if_neg (hj 3 (by omega)), if_neg (hj 2 (by omega)), if_neg (hj 1 (by omega)), if_neg (by have := hj 0 (by omega); simpa using this)]
    unfold clF
    have e : (j / 5 < k + 1) ↔ j / 5 < k := by omega
    simp only [e]
theorem clF_mark (G : Nat) (cs : List Cl) (n m : Nat) (hm : n ≤ m) (j : Nat) :
    (if j = m * 5 then .string ⟨#[98, 101, 121, 111, 110, 100]⟩ else clF G cs n m (j / 5) (j % 5)) = clF G cs n (m + 1) (j / 5) (j % 5) := by
  unfold clF
  by_cases h : j = m * 5
  · have h1 : j / 5 = m := by omega
    have h2 : j % 5 = 0 := by omega
    rw [if_pos h, h1, h2, if_neg (by omega), if_pos (by omega)]; rfl
  · rw [if_neg h]
    by_cases e : j / 5 = m
    · rw [if_neg (by omega), if_neg (by omega), if_neg (by omega), if_neg (by omega)]
    · have e2 : (j / 5 < m + 1) ↔ j / 5 < m := by omega
      simp only [e2]

/-- five cells of block g are written -/
abbrev set5 (w : World) (g p : Nat) (v0 v1 v2 v3 v4 : Value) : World :=
  ((((w.setCell ⟨g, p, none⟩ v0).setCell ⟨g, p + 1, none⟩ v1).setCell ⟨g, p + 2, none⟩ v2).setCell ⟨g, p + 3, none⟩ v3).setCell ⟨g, p + 4, none⟩ v4
theorem Row.set5 {w : World} {b g n p : Nat} {t : TypeId} {f : Nat → Value} {v0 v1 v2 v3 v4 : Value} (h : Row w b t n f) (hne : b ≠ g) : Row (set5 w g p v0 v1 v2 v3 v4) b t n f :=
  ((((h.other hne _).other hne _).other hne _).other hne _).other hne _
theorem Below.set5 {B g p : Nat} {a w : World} {v0 v1 v2 v3 v4 : Value} (h : Below B a w) (hg : B ≤ g) : Below B a (set5 w g p v0 v1 v2 v3 v4) :=
  ((((h.setCell (p := ⟨g, p, none⟩) hg _).setCell (p := ⟨g, p + 1, none⟩) hg _).setCell (p := ⟨g, p + 2, none⟩) hg _).setCell (p := ⟨g, p + 3, none⟩) hg _).setCell (p := ⟨g, p + 4, none⟩) hg _
theorem set5_size (w : World) (g p : Nat) (v0 v1 v2 v3 v4 : Value) : (set5 w g p v0 v1 v2 v3 v4).heap.size = w.heap.size := by simp [Go.Proofs.YtkmkkmdpjliifaaGreatDoor.set5, World.setCell]
theorem ListsAt.drew {w : World} {G i : Nat} {x : Cl} (h : ListsAt w G i x) : ListsAt w.drew G i x := h
theorem lists_step {G k p : Nat} {wr w1 w2 w3 : World} {cs : List Cl} {x : Cl} {v0 v1 v2 v3 v4 : Value} (hX : cs.getD k default = x) (hsz : wr.heap.size = G + 1 + 3 * k) (hsz1 : w1.heap.size = wr.heap.size + 1) (hsz2 : w2.heap.size = w1.heap.size + 1)
    (hb1 : Below wr.heap.size wr w1) (hb2 : Below w1.heap.size w1 w2) (hb3 : Below w2.heap.size w2 w3) (hr1 : Row w3 wr.heap.size 9 (x.sc.length + 4) (lentF x.sc)) (hr2 : Row w3 w1.heap.size 9 (x.tg.length + 4) (lentF x.tg))
    (hr3 : Row w3 w2.heap.size 9 (x.ac.length + 4) (lentF x.ac)) (hLs : ∀ i, i < k → ListsAt wr G i (cs.getD i default)) : ∀ i, i < k + 1 → ListsAt (set5 w3 G p v0 v1 v2 v3 v4) G i (cs.getD i default) := by
  intro i hi
  by_cases e : i = k
  · subst e
    rw [hX]
    have e2 : w1.heap.size = G + 2 + 3 * i := by omega
    have e3 : w2.heap.size = G + 3 + 3 * i := by omega
    rw [hsz] at hr1
    rw [e2] at hr2
    rw [e3] at hr3
    exact ⟨hr1.set5 (by omega), hr2.set5 (by omega), hr3.set5 (by omega)⟩
  · obtain ⟨q1, q2, q3⟩ := hLs i (by omega)
    have up : ∀ {b : Nat} {n : Nat} {f : Nat → Value}, b < wr.heap.size → Row wr b 9 n f → Row w3 b 9 n f := fun hb h => ((h.below hb1 hb).below hb2 (by omega)).below hb3 (by omega)
    exact ⟨(up (by omega) q1).set5 (by omega), (up (by omega) q2).set5 (by omega), (up (by omega) q3).set5 (by omega)⟩

set_option maxRecDepth 20000 in
set_option maxHeartbeats 2000000 in
theorem lentClients_any (v : Value) (cs : List Cl) (w : World) (B : Nat) (hB : B ≤ w.heap.size) (hn : cs.length ≤ 1353245080301) (hs : ∀ i, i < cs.length → Small (cs.getD i default)) (hv : Cs w B v cs) :
    Calls Tryz.prog 40 #[v] w fun e w' => e = .returned (.slice (some ⟨w.heap.size, 0, none⟩) cs.length (cs.length + 4)) ∧
      Row w' w.heap.size 37 (5 * (cs.length + 4)) (fun j => clF w.heap.size cs cs.length (cs.length + 4) (j / 5) (j % 5)) ∧ (∀ i, i < cs.length → ListsAt w' w.heap.size i (cs.getD i default)) ∧
      w'.heap.size = w.heap.size + 1 + 3 * cs.length ∧ Below w.heap.size w w' := by
  obtain ⟨a, c, rfl, hv⟩ := hv
  have HL := hide hn
  have HS := hide hs
  have hadd : wrap64 ((cs.length : Int) + 4) = (cs.length : Int) + 4 := w64 _ (by omega) (by omega)
  have hmk := make23 ((cs.length : Int) + 4) ((cs.length : Int) + 4) (by omega) (by omega) (by omega)
  have htn : ((cs.length : Int) + 4).toNat = cs.length + 4 := by omega
  rw [htn] at hmk
  clear hn htn hs
  go_enter Tryz.func40, Tryz.ntmps40
  go_wp2
  go_loopg [4] cs.length (fun q i wr => ∃ k : Nat, k + q = cs.length ∧ i = .int .i64 (k : Nat) ∧ Row wr w.heap.size 37 (5 * (cs.length + 4)) (fun j => clF w.heap.size cs k 0 (j / 5) (j % 5)) ∧
    (∀ i, i < k → ListsAt wr w.heap.size i (cs.getD i default)) ∧ wr.heap.size = w.heap.size + 1 + 3 * k ∧ Below w.heap.size w wr)
  case atStart =>
    refine ⟨0, Nat.zero_add _, rfl, ?_, fun i hi => absurd hi (Nat.not_lt_zero _), by simp, (Below.refl _ _).alloc (Nat.le_refl _) _⟩
    refine Row.new w 37 _ _ _ (by simp [zc5, madeCells, Nat.mul_comm]) (fun j hj => ?_)
    rw [zc5_get _ j (by omega)]
    simp [clF]
  case round =>
    clear hadd hmk
    obtain ⟨k, hk, rfl, hR, hLs, hsz, hB2⟩ := hrel
    have hw : wrap64 ((k : Int) + 1) = (k : Int) + 1 := w64 _ (by omega) (by have := unhide HL; omega)
    by_cases hlt : k < cs.length
    · obtain ⟨g, o, rfl, hg, hC⟩ := hv (by omega)
      have hx := hC k hlt
      obtain ⟨hS2, hS3, hS4⟩ := unhide HS k hlt
      have HLs := hide hLs
      clear hLs hC hv HS
      generalize hxx : cs.getD k default = x at hx hS2 hS3 hS4
      have HX := hide hxx
      clear hxx
      have H2 := hide hS2
      have H3 := hide hS3
      have H4 := hide hS4
      clear hS2 hS3 hS4
      obtain ⟨h0, h1, ⟨a2, c2, h2, k2⟩, ⟨a3, c3, h3, k3⟩, a4, c4, h4, k4⟩ := hx.below (hB2.mono hB) hg
      clear hx
      go_wp2_with fail
      refine (lent_any _ x.sc wr B (by omega) (unhide H2) k2).mono ?_
      rintro e w1 ⟨rfl, hR1, hsz1, hb1⟩
      have hb1' := hb1.mono (show B ≤ wr.heap.size by omega)
      have h0 := (hb1'.cell (p := ⟨g, o + k * 5, none⟩) hg).trans h0
      have h1 := (hb1'.cell (p := ⟨g, o + k * 5 + 1, none⟩) hg).trans h1
      have h3 := (hb1'.cell (p := ⟨g, o + k * 5 + 3, none⟩) hg).trans h3
      have h4 := (hb1'.cell (p := ⟨g, o + k * 5 + 4, none⟩) hg).trans h4
      have k3 := k3.below hb1'
      have k4 := k4.below hb1'
      clear k2 h2
      go_wp2_with fail
      refine (lent_any _ x.tg w1 B (by omega) (unhide H3) k3).mono ?_
      rintro e w2 ⟨rfl, hR2, hsz2, hb2⟩
      have hb2' := hb2.mono (show B ≤ w1.heap.size by omega)
      have h0 := (hb2'.cell (p := ⟨g, o + k * 5, none⟩) hg).trans h0
      have h1 := (hb2'.cell (p := ⟨g, o + k * 5 + 1, none⟩) hg).trans h1
      have h4 := (hb2'.cell (p := ⟨g, o + k * 5 + 4, none⟩) hg).trans h4
      have k4 := k4.below hb2'
      clear k3 h3
      go_wp2_with fail
      refine (lent_any _ x.ac w2 B (by omega) (unhide H4) k4).mono ?_
      rintro e w3 ⟨rfl, hR3, hsz3, hb3⟩
      have hb3' := hb3.mono (show B ≤ w2.heap.size by omega)
      have h0 := (hb3'.cell (p := ⟨g, o + k * 5, none⟩) hg).trans h0
      have h1 := (hb3'.cell (p := ⟨g, o + k * 5 + 1, none⟩) hg).trans h1
      clear k4 h4
      have hRo : Row w3 w.heap.size 37 (5 * (cs.length + 4)) (fun j => clF w.heap.size cs k 0 (j / 5) (j % 5)) := ((hR.below hb1 (by omega)).below hb2 (by omega)).below hb3 (by omega)
      have hr1 := (hR1.below hb2 (by omega)).below hb3 (by omega)
      have hr2 := hR2.below hb3 (by omega)
      clear hR hR1 hR2
      have c0 := hRo.cell (j := k * 5) (by omega)
      have c1 := hRo.cell (j := k * 5 + 1) (by omega)
      have c2 := hRo.cell (j := k * 5 + 2) (by omega)
      have c3 := hRo.cell (j := k * 5 + 3) (by omega)
      have c4 := hRo.cell (j := k * 5 + 4) (by omega)
      have z0 := hRo.frozen (k * 5)
      have z1 := hRo.frozen (k * 5 + 1)
      have z2 := hRo.frozen (k * 5 + 2)
      have z3 := hRo.frozen (k * 5 + 3)
      have z4 := hRo.frozen (k * 5 + 4)
      rw [sv_def] at h0 h1
      go_wp2
      go_region
      go_wp2
      go_roundg (gk - 1)
      case measure => omega
      case rel =>
        have hz : w3.heap.size = w.heap.size + 1 + 3 * (k + 1) := by omega
        refine ⟨k + 1, by omega, by go_num, ?_, ?_, by simpa [World.setCell] using hz, ?_⟩
        · exact Row.drew ((((((hRo.set (k * 5) _).set (k * 5 + 1) _).set (k * 5 + 2) _).set (k * 5 + 3) _).set (k * 5 + 4) _).congr (fun j hj => clF_step w.heap.size cs k x (unhide HX) j))
        · exact fun i hi => ListsAt.drew (lists_step (unhide HX) hsz hsz1 hsz2 hb1 hb2 hb3 hr1 hr2 hR3 (unhide HLs) i hi)
        · exact Below.drew (Below.set5 (((hB2.trans (hb1.mono (by omega))).trans (hb2.mono (by omega))).trans (hb3.mono (by omega))) (Nat.le_refl _))
    · obtain rfl : k = cs.length := by omega
      clear hlt hv HS hw
      go_wp2
      go_loopg [8] 4 (fun q i wq => ∃ m : Nat, m + q = cs.length + 4 ∧ cs.length ≤ m ∧ i = .int .i64 (m : Nat) ∧ Row wq w.heap.size 37 (5 * (cs.length + 4)) (fun j => clF w.heap.size cs cs.length m (j / 5) (j % 5)) ∧
        (∀ i, i < cs.length → ListsAt wq w.heap.size i (cs.getD i default)) ∧ wq.heap.size = w.heap.size + 1 + 3 * cs.length ∧ Below w.heap.size w wq)
      case atStart =>
        refine ⟨cs.length, rfl, Nat.le_refl _, rfl, hR.congr (fun j hj => ?_), hLs, hsz, hB2⟩
        unfold clF
        by_cases e : j / 5 < cs.length
        · rw [if_pos e, if_pos e]
        · rw [if_neg e, if_neg e, if_neg (by omega), if_neg (by omega)]
      case round =>
        clear hR hLs hsz hB2
        obtain ⟨m, hm, hlm, rfl, hR, hLs, hsz, hB2⟩ := hrel
        have hw : wrap64 ((m : Int) + 1) = (m : Int) + 1 := w64 _ (by omega) (by have := unhide HL; omega)
        by_cases hlt : m < cs.length + 4
        · have c0 := hR.cell (j := m * 5) (by omega)
          have z0 := hR.frozen (m * 5)
          have HLs := hide hLs
          clear hLs
          go_wp2
          go_roundg (gk - 1)
          case measure => omega
          case rel =>
            refine ⟨m + 1, by omega, by omega, by go_num, (hR.set (m * 5) _).congr (fun j hj => clF_mark _ _ _ _ hlm j), fun i hi => ?_, by simpa [World.setCell] using hsz, hB2.setCell (Nat.le_refl _) _⟩
            obtain ⟨q1, q2, q3⟩ := unhide HLs i hi
            exact ⟨q1.other (by simp; omega) _, q2.other (by simp; omega) _, q3.other (by simp; omega) _⟩
        · obtain rfl : m = cs.length + 4 := by omega
          have HLs := hide hLs
          clear hLs
          go_wp2
          go_ret
          exact ⟨rfl, hR, unhide HLs, hsz, hB2⟩
end Go.Proofs.YtkmkkmdpjliifaaGreatDoor
namespace Go.Proofs.YtkmkkmdpjliifaaGreatDoor
open Go.ChangeShapes Go.WideShapes Go.ChangeAt Go.RowKit

theorem nest_next {ok : Nat → Bool} {nm : Nat → List UInt8} {k m q : Nat} {y : List UInt8} {b1 : Bool} (hO : ok k = (b1 && (List.range k).all fun j => nm j != y)) (h1 : b1 = true) (hA : ∀ j, j < k → ok j = true)
    (hA2 : ∀ j, j < m → (nm j != y) = true) (hm : m + q = k) (hlt : ¬ m < k) : ∀ j, j < k + 1 → ok j = true := by
  intro j hj
  have hmk : m = k := by omega
  subst hmk
  by_cases e : j = m
  · rw [e, hO, all_true hA2, h1]; rfl
  · exact hA j (by omega)
theorem nest_bad {ok : Nat → Bool} {nm : Nat → List UInt8} {n k m : Nat} {y z : List UInt8} {b1 : Bool} (hk : k < n) (hO : ok k = (b1 && (List.range k).all fun j => nm j != y)) (hm : m < k) (hz : nm m = z) (h2 : (z == y) = true) : (List.range n).all ok = false := by
  have hf : ok k = false := by
    rw [hO, all_false hm]
    · simp
    · rw [hz]; simp at h2; rw [h2]; simp
  exact all_false hk hf
theorem nest_more {nm : Nat → List UInt8} {m : Nat} {y z : List UInt8} (hA2 : ∀ j, j < m → (nm j != y) = true) (hz : nm m = z) (h2 : (z == y) = false) : ∀ j, j < m + 1 → (nm j != y) = true := by
  intro j hj
  by_cases e : j = m
  · rw [e, hz]
    simp at h2
    simpa using h2
  · exact hA2 j (by omega)

/-- a key -/
structure Ky where
  name : List UInt8
  secret : List UInt8
instance : Inhabited Ky := ⟨⟨[], []⟩⟩
def KyAt (w : World) (g p : Nat) (x : Ky) : Prop := w.cell? ⟨g, p, none⟩ = some (sv x.name) ∧ w.cell? ⟨g, p + 1, none⟩ = some (sv x.secret)
/-- A slice of keys, to be read. -/
def Ks (w : World) (B : Nat) (v : Value) (ks : List Ky) : Prop :=
  ∃ a c, v = .slice a ks.length c ∧ (0 < ks.length → ∃ g o, a = some ⟨g, o, none⟩ ∧ g < B ∧ ∀ i, i < ks.length → KyAt w g (o + i * 2) (ks.getD i default))
theorem KyAt.below {w w' : World} {B g p : Nat} {x : Ky} (h : KyAt w g p x) (hb : Below B w w') (hg : g < B) : KyAt w' g p x :=
  ⟨(hb.cell (p := ⟨g, p, none⟩) hg).trans h.1, (hb.cell (p := ⟨g, p + 1, none⟩) hg).trans h.2⟩
theorem Ks.below {w w' : World} {B : Nat} {v : Value} {l : List Ky} (h : Ks w B v l) (hb : Below B w w') : Ks w' B v l := by
  obtain ⟨a, c, rfl, h⟩ := h
  refine ⟨a, c, rfl, fun hp => ?_⟩
  obtain ⟨g, o, rfl, hg, h⟩ := h hp
  exact ⟨g, o, rfl, hg, fun j hj => (h j hj).below hb hg⟩
def kyName (ks : List Ky) (i : Nat) : List UInt8 := (ks.getD i default).name
def kyOk (ks : List Ky) (i : Nat) : Bool := (plainB (ks.getD i default).name && decide ((ks.getD i default).secret.length ≤ 64)) && (List.range i).all (fun k => kyName ks k != (ks.getD i default).name)
def keysB (ks : List Ky) : Bool := (List.range ks.length).all (kyOk ks) && decide (1 ≤ ks.length) && decide (ks.length ≤ 8)
def KFits (ks : List Ky) : Prop := ∀ i, i < ks.length → (ks.getD i default).name.length ≤ 9223372036854775807 ∧ (ks.getD i default).secret.length ≤ 9223372036854775807

theorem keysB_bad {ks : List Ky} (h : (List.range ks.length).all (kyOk ks) = false) : keysB ks = false := by
  unfold keysB
  rw [h]; simp
theorem drewN_two (w : World) (a b : Nat) : (w.drewN a).drewN b = w.drewN (a + b) := by
  simp [World.drewN, Nat.add_assoc]

set_option maxRecDepth 20000 in
set_option maxHeartbeats 1000000 in
theorem keysR_any (v : Value) (ks : List Ky) (w : World) (B : Nat) (hl : ks.length ≤ 8796093022208) (hF : KFits ks) (hv : Ks w B v ks) :
    Calls Tryz.prog 37 #[v] w fun e w' => e = .returned (.bool (keysB ks)) ∧ ∃ n, w' = w.drewN n := by
  obtain ⟨a, c, rfl, hv⟩ := hv
  have HL := hide hl
  have HV := hide hv
  have HF := hide hF
  clear hl hv hF
  go_enter Tryz.func37, Tryz.ntmps37
  go_wp2
  go_loopg [3] ks.length (fun q i wr => ∃ k n : Nat, k + q = ks.length ∧ i = .int .i64 (k : Nat) ∧ (∀ j, j < k → kyOk ks j = true) ∧ wr = w.drewN n)
  case atStart => exact ⟨0, 0, Nat.zero_add _, rfl, fun j hj => absurd hj (Nat.not_lt_zero _), rfl⟩
  case round =>
    obtain ⟨k, n0, hk, rfl, hA, rfl⟩ := hrel
    have HA := hide hA
    clear hA
    have hw : wrap64 ((k : Int) + 1) = (k : Int) + 1 := w64 _ (by omega) (by have := unhide HL; omega)
    by_cases hlt : k < ks.length
    · obtain ⟨g, o, rfl, hg, hC⟩ := unhide HV (by omega)
      have hc := (hC k hlt).1
      have hc' := (hC k hlt).2
      have HC := hide hC
      clear hC
      have hok : kyOk ks k = ((plainB (ks.getD k default).name && decide ((ks.getD k default).secret.length ≤ 64)) && (List.range k).all (fun j => kyName ks j != (ks.getD k default).name)) := rfl
      have hfit := unhide HF k hlt
      generalize hy : (ks.getD k default).name = y at hc hok hfit
      generalize hs : (ks.getD k default).secret = s at hc' hok hfit
      have HO := hide hok
      have HFt := hide hfit
      clear hok hy hfit hs
      rw [sv_def] at hc hc'
      generalize hn : plainB y = b1 at HO
      have HN := hide hn
      clear hn
      have hkl : (k : Int) < ks.length := by omega
      go_wp2_with (go_at_call 76; refine (plainR_any y _ (unhide HFt).1).mono ?_; rintro e w1 ⟨rfl, rfl⟩; rw [unhide HN])
      · rename_i h1 h2
        go_ret
        refine ⟨congrArg (fun b => Ending.returned (Value.bool b)) (keysB_bad (all_false hlt ?_)).symm, _, rfl⟩
        rw [unhide HO, decide_eq_false (p := s.length ≤ 64) (by omega)]; simp
      · rename_i h1 h2
        have hb1 : (b1 && decide (s.length ≤ 64)) = true := by rw [h1, decide_eq_true (p := s.length ≤ 64) (by omega)]; rfl
        obtain ⟨gO, hgO⟩ : ∃ q, q = gk := ⟨_, rfl⟩
        have HW := hide hw
        clear hw
        go_loopg [5] k (fun q i wq => ∃ (m n : Nat), m + q = k ∧ i = .int .i64 (m : Nat) ∧ (∀ j, j < m → (kyName ks j != y) = true) ∧ wq = w.drewN n)
        case atStart => exact ⟨0, n0, Nat.zero_add _, rfl, fun j hj => absurd hj (Nat.not_lt_zero _), rfl⟩
        case round =>
          obtain ⟨m, n, hm, rfl, hA2, rfl⟩ := hrel
          have HA2 := hide hA2
          clear hA2
          by_cases hlt2 : m < k
          · have hw2 : wrap64 ((m : Int) + 1) = (m : Int) + 1 := w64 _ (by omega) (by have := unhide HL; omega)
            have hc2 := (unhide HC m (by omega)).1
            generalize hz : (ks.getD m default).name = z at hc2
            have HZ := hide hz
            clear hz
            rw [sv_def] at hc2
            have hml : (m : Int) < ks.length := by omega
            have hml2 : m < ks.length := by omega
            go_wp2
            go_quiet (fail)
            go_wp2
            · rename_i h3
              go_ret
              refine ⟨congrArg (fun b => Ending.returned (Value.bool b)) (keysB_bad (nest_bad hlt (unhide HO) hlt2 (unhide HZ) h3)).symm, _, drewN_two _ _ _⟩
            · rename_i h3
              go_roundg (gk - 1)
              case measure => omega
              case rel => exact ⟨m + 1, _, by omega, by first | exact num1 hw2 | rfl, nest_more (unhide HA2) (unhide HZ) h3, rfl⟩
          · have hw := unhide HW
            go_wp2
            go_roundg (gO - 1)
            case measure => omega
            case rel => exact ⟨k + 1, _, by omega, by first | exact num1 hw | rfl, nest_next (unhide HO) hb1 (unhide HA) (unhide HA2) hm hlt2, rfl⟩
      · rename_i h1
        go_ret
        refine ⟨congrArg (fun b => Ending.returned (Value.bool b)) (keysB_bad (all_false hlt ?_)).symm, _, rfl⟩
        rw [unhide HO, Bool.eq_false_iff.2 h1]; simp
    · go_wp2
      all_goals go_ret
      all_goals refine ⟨congrArg (fun b => Ending.returned (Value.bool b)) ?_, _, rfl⟩
      all_goals unfold keysB
      all_goals rw [all_true (fun j hj => unhide HA j (by omega)), Bool.true_and]
      · rw [decide_eq_true (p := 1 ≤ ks.length) (by omega), Bool.true_and, decide_eq_decide]
        omega
      · rw [decide_eq_false (p := 1 ≤ ks.length) (by omega), Bool.false_and]

def clName (cs : List Cl) (i : Nat) : List UInt8 := (cs.getD i default).name
def clGood (x : Cl) : Bool := plainB x.name && decide (x.secret.length ≤ 64) && listB x.sc && listB x.tg && listB x.ac
def clOk (cs : List Cl) (i : Nat) : Bool := clGood (cs.getD i default) && (List.range i).all (fun k => clName cs k != (cs.getD i default).name)
def clientsB (cs : List Cl) : Bool := (List.range cs.length).all (clOk cs) && decide (cs.length ≤ 8)
def ClFits (x : Cl) : Prop := x.name.length ≤ 9223372036854775807 ∧ x.secret.length ≤ 9223372036854775807 ∧ Fits x.sc ∧ Fits x.tg ∧ Fits x.ac
def CFits (cs : List Cl) : Prop := ∀ i, i < cs.length → Small (cs.getD i default) ∧ ClFits (cs.getD i default)
theorem clientsB_bad {cs : List Cl} (h : (List.range cs.length).all (clOk cs) = false) : clientsB cs = false := by
  unfold clientsB
  rw [h]; simp

set_option maxRecDepth 20000 in
set_option maxHeartbeats 2000000 in
theorem clientsR_any (v : Value) (cs : List Cl) (w : World) (B : Nat) (hB : B ≤ w.heap.size) (hl : cs.length ≤ 1353245080301) (hF : CFits cs) (hv : Cs w B v cs) :
    Calls Tryz.prog 38 #[v] w fun e w' => e = .returned (.bool (clientsB cs)) ∧ Below w.heap.size w w' := by
  obtain ⟨a, c, rfl, hv⟩ := hv
  have HL := hide hl
  have HV := hide hv
  have HF := hide hF
  clear hl hv hF
  go_enter Tryz.func38, Tryz.ntmps38
  go_wp2
  go_loopg [3] cs.length (fun q i wr => ∃ k : Nat, k + q = cs.length ∧ i = .int .i64 (k : Nat) ∧ (∀ j, j < k → clOk cs j = true) ∧ Below w.heap.size w wr)
  case atStart => exact ⟨0, Nat.zero_add _, rfl, fun j hj => absurd hj (Nat.not_lt_zero _), Below.refl _ _⟩
  case round =>
    obtain ⟨k, hk, rfl, hA, hb⟩ := hrel
    have HA := hide hA
    clear hA
    have hw : wrap64 ((k : Int) + 1) = (k : Int) + 1 := w64 _ (by omega) (by have := unhide HL; omega)
    by_cases hlt : k < cs.length
    · obtain ⟨g, o, rfl, hg, hC⟩ := unhide HV (by omega)
      have hC' : ∀ i, i < cs.length → ClAt wr B g (o + i * 5) (cs.getD i default) := fun i hi => (hC i hi).below (hb.mono hB) hg
      have hx := hC' k hlt
      have HC := hide hC'
      clear hC hC'
      have hok : clOk cs k = (clGood (cs.getD k default) && (List.range k).all (fun j => clName cs j != (cs.getD k default).name)) := rfl
      have hfit := unhide HF k hlt
      generalize hxx : cs.getD k default = x at hx hok hfit
      have HO := hide hok
      have HFt := hide hfit
      clear hok hfit hxx
      obtain ⟨h0, h1, ⟨a2, c2, h2, k2⟩, ⟨a3, c3, h3, k3⟩, a4, c4, h4, k4⟩ := hx
      rw [sv_def] at h0 h1
      have hsz := hb.size
      generalize hn0 : plainB x.name = b0 
      generalize hn2 : listB x.sc = b2
      generalize hn3 : listB x.tg = b3
      generalize hn4 : listB x.ac = b4
      have HN0 := hide hn0
      have HN2 := hide hn2
      have HN3 := hide hn3
      have HN4 := hide hn4
      clear hn0 hn2 hn3 hn4
      have hkl : (k : Int) < cs.length := by omega
      go_wp2_with fail
      refine (plainR_any x.name _ (unhide HFt).2.1).mono ?_
      rintro e w0 ⟨rfl, rfl⟩
      rw [unhide HN0]
      go_wp2_with fail
      refine (ListR_any _ x.sc _ B (by omega) (unhide HFt).1.1 (unhide HFt).2.2.2.1 k2).mono ?_
      rintro e w1 ⟨rfl, hb1⟩
      rw [unhide HN2]
      have hs1 := hb1.size
      have t1 := hb1.mono (show B ≤ w0.heap.size by omega)
      have u0 := (t1.cell (p := ⟨g, o + k * 5, none⟩) hg).trans h0
      have u1 := (t1.cell (p := ⟨g, o + k * 5 + 1, none⟩) hg).trans h1
      have u3 := (t1.cell (p := ⟨g, o + k * 5 + 3, none⟩) hg).trans h3
      have u4 := (t1.cell (p := ⟨g, o + k * 5 + 4, none⟩) hg).trans h4
      have k3 := k3.below t1
      have k4 := k4.below t1
      clear h0 h1 h2 h3 h4 k2
      go_wp2_with fail
      refine (ListR_any _ x.tg _ B (by omega) (unhide HFt).1.2.1 (unhide HFt).2.2.2.2.1 k3).mono ?_
      rintro e w2 ⟨rfl, hb2⟩
      rw [unhide HN3]
      have hs2 := hb2.size
      have t2 := hb2.mono (show B ≤ w1.heap.size by omega)
      have h0 := (t2.cell (p := ⟨g, o + k * 5, none⟩) hg).trans u0
      have h1 := (t2.cell (p := ⟨g, o + k * 5 + 1, none⟩) hg).trans u1
      have h4 := (t2.cell (p := ⟨g, o + k * 5 + 4, none⟩) hg).trans u4
      have k4 := k4.below t2
      clear u0 u1 u3 u4 k3
      go_wp2_with fail
      refine (ListR_any _ x.ac _ B (by omega) (unhide HFt).1.2.2 (unhide HFt).2.2.2.2.2 k4).mono ?_
      rintro e w3 ⟨rfl, hb3⟩
      rw [unhide HN4]
      have hs3 := hb3.size
      have t3 := hb3.mono (show B ≤ w2.heap.size by omega)
      have u0 := (t3.cell (p := ⟨g, o + k * 5, none⟩) hg).trans h0
      have u1 := (t3.cell (p := ⟨g, o + k * 5 + 1, none⟩) hg).trans h1
      clear h0 h1 h4 k4
      have HC3 : Hid (∀ i, i < cs.length → ClAt w3 B g (o + i * 5) (cs.getD i default)) := fun i hi => (((unhide HC i hi).below t1 hg).below t2 hg).below t3 hg
      have hb' : Below w.heap.size w w3 := ((hb.trans (hb1.mono hsz)).trans (hb2.mono (by omega))).trans (hb3.mono (by omega))
      have hok2 : clOk cs k = (b0 && decide (x.secret.length ≤ 64) && b2 && b3 && b4 && (List.range k).all (fun j => clName cs j != x.name)) := by
        rw [unhide HO]; unfold clGood
        rw [unhide HN0, unhide HN2, unhide HN3, unhide HN4]
      have HO2 := hide hok2
      clear hok2 HO HC hb hb1 hb2 hb3 t1 t2 t3
      generalize x.name = y at u0 HO2
      generalize x.secret = s at u1 HO2
      go_wp2
      · rename_i q0 q2 q3 q4 q5
        go_ret
        refine ⟨congrArg (fun b => Ending.returned (Value.bool b)) (clientsB_bad (all_false hlt ?_)).symm, hb'⟩
        rw [unhide HO2, decide_eq_false (p := s.length ≤ 64) (by omega)]; simp
      · rename_i q0 q2 q3 q4 q5
        have hq : (b0 && decide (s.length ≤ 64) && b2 && b3 && b4) = true := by rw [q0, q2, q3, q4, decide_eq_true (p := s.length ≤ 64) (by omega)]; rfl
        obtain ⟨gO, hgO⟩ : ∃ q, q = gk := ⟨_, rfl⟩
        have HW := hide hw
        have HQ := hide hq
        clear hw hq
        go_loopg [8] k (fun q i wq => ∃ (m n : Nat), m + q = k ∧ i = .int .i64 (m : Nat) ∧ (∀ j, j < m → (clName cs j != y) = true) ∧ wq = w3.drewN n)
        case atStart => exact ⟨0, 0, Nat.zero_add _, rfl, fun j hj => absurd hj (Nat.not_lt_zero _), rfl⟩
        case round =>
          obtain ⟨m, n, hm, rfl, hA2, rfl⟩ := hrel
          have HA2 := hide hA2
          clear hA2
          by_cases hlt2 : m < k
          · have hw2 : wrap64 ((m : Int) + 1) = (m : Int) + 1 := w64 _ (by omega) (by have := unhide HL; omega)
            have hc2 := (unhide HC3 m (by omega)).1
            generalize hz : (cs.getD m default).name = z at hc2
            have HZ := hide hz
            clear hz
            rw [sv_def] at hc2
            have hml : (m : Int) < cs.length := by omega
            have hml2 : m < cs.length := by omega
            go_wp2
            go_quiet (fail)
            go_wp2
            · rename_i h3
              go_ret
              exact ⟨congrArg (fun b => Ending.returned (Value.bool b)) (clientsB_bad (nest_bad hlt (unhide HO2) hlt2 (unhide HZ) h3)).symm, below_drewN' (below_drewN' hb' _) _⟩
            · rename_i h3
              go_roundg (gk - 1)
              case measure => omega
              case rel => exact ⟨m + 1, _, by omega, by first | exact num1 hw2 | rfl, nest_more (unhide HA2) (unhide HZ) h3, rfl⟩
          · have hw := unhide HW
            go_wp2
            go_roundg (gO - 1)
            case measure => omega
            case rel => exact ⟨k + 1, by omega, by first | exact num1 hw | rfl, nest_next (unhide HO2) (unhide HQ) (unhide HA) (unhide HA2) hm hlt2, below_drewN' hb' _⟩
      · rename_i q0 q2 q3 q4
        go_ret
        refine ⟨congrArg (fun b => Ending.returned (Value.bool b)) (clientsB_bad (all_false hlt ?_)).symm, hb'⟩
        rw [unhide HO2, Bool.eq_false_iff.2 q4]; simp
      · rename_i q0 q2 q3
        go_ret
        refine ⟨congrArg (fun b => Ending.returned (Value.bool b)) (clientsB_bad (all_false hlt ?_)).symm, hb'⟩
        rw [unhide HO2, Bool.eq_false_iff.2 q3]; simp
      · rename_i q0 q2
        go_ret
        refine ⟨congrArg (fun b => Ending.returned (Value.bool b)) (clientsB_bad (all_false hlt ?_)).symm, hb'⟩
        rw [unhide HO2, Bool.eq_false_iff.2 q2]; simp
      · rename_i q0
        go_ret
        refine ⟨congrArg (fun b => Ending.returned (Value.bool b)) (clientsB_bad (all_false hlt ?_)).symm, hb'⟩
        rw [unhide HO2, Bool.eq_false_iff.2 q0]; simp
    · go_wp2
      go_ret
      refine ⟨congrArg (fun b => Ending.returned (Value.bool b)) ?_, hb⟩
      unfold clientsB
      rw [all_true (fun j hj => unhide HA j (by omega)), Bool.true_and, decide_eq_decide]
      omega
end Go.Proofs.YtkmkkmdpjliifaaGreatDoor
namespace Go.Proofs.YtkmkkmdpjliifaaGreatDoor
open Go.ChangeShapes Go.WideShapes Go.ChangeAt Go.RowKit

theorem appLaw {w : World} {ops : Array Oper} {rest : List Oper} {o : Oper} {a : Act} {Q : Exit → Act → World → Prop} (hgd : o.guard = none) (s x : Operand) {t : TypeId}
    (ho : o.op = .call { callee := .builtin .append, args := #[s, x], argTypes := #[t, t] }) {vs vx v' : Value} {w' : World} (hs : a.eval s = vs) (hx : a.eval x = vx)
    (hrun : (Builtin.append_ #[t, t] o.type #[vs, vx]).run Tryz.prog w = .ok v' w')
    (h : wpList Tryz.prog ops Q rest (a.put o.dst v') w') : wpList Tryz.prog ops Q (o :: rest) a w := by
  refine wpList_plain hgd fun K hK' => ?_
  unfold Oper.wp
  simp [execOp, ho, resolve, invoke, builtin, hs, hx, hrun, Result.andThen]
  exact hK' _ _ h
/-- what a row that the call owns holds, cell by cell -/
theorem owns_cells {w : World} {base size : Nat} {e : TypeId} {v : Value} {n : Nat} {xs : List Value} (h : w.ownsRow base e size v n xs) :
    (v = .slice none 0 0 ∧ n = 0) ∨ ∃ g cap, v = .slice (some ⟨g, 0, none⟩) n cap ∧ n ≤ cap ∧ base ≤ g ∧ g < w.heap.size ∧ ∀ j u, xs[j]? = some u → w.cell? ⟨g, j, none⟩ = some u := by
  obtain ⟨h1, h2⟩ := h
  rcases h2 with h2 | ⟨g, cap, cur, hv, hg, hh, hc, hm, hs, ht⟩
  · exact Or.inl h2
  · refine Or.inr ⟨g, cap, hv, hc, hg, ?_, fun j u hu => ?_⟩
    · rcases Nat.lt_or_ge g w.heap.size with h | h
      · exact h
      · rw [Array.getElem?_eq_none h] at hh; cases hh
    · rw [cell_of_row w g _ cur e _ hh]
      have hj : j < xs.length := by
        rcases Nat.lt_or_ge j xs.length with h | h
        · exact h
        · rw [List.getElem?_eq_none h] at hu; cases hu
      rw [← ht] at hu
      rw [List.getElem?_take_of_lt (by omega)] at hu
      simpa using hu
def svs (l : List (List UInt8)) : List Value := l.map sv
theorem svs_get (l : List (List UInt8)) (j : Nat) (hj : j < l.length) : (svs l)[j]? = some (sv (l.getD j [])) := by simp [svs, List.getD, hj]
theorem owns_Ls {w : World} {base : Nat} {v : Value} {l : List (List UInt8)} (h : w.ownsRow base 9 1 v l.length (svs l)) : Ls w w.heap.size v l := by
  rcases owns_cells h with ⟨rfl, hn⟩ | ⟨g, cap, rfl, hc, hg, hl, hcell⟩
  · exact ⟨none, 0, by rw [hn], by omega, fun hp => by omega⟩
  · exact ⟨_, cap, rfl, hc, fun _ => ⟨g, 0, rfl, hl, fun j hj => by rw [Nat.zero_add]; exact hcell j _ (svs_get l j hj)⟩⟩
/-- a result that lies in a row -/
theorem ret_rowN {fn : Func} {p : Tmp} {ty : TypeId} (h : fn.results = #[.cell p ty]) {a : Act} {w : World} {R : Ending → World → Prop} {g n : Nat} {t : TypeId} {f : Nat → Value} (d : TypeDesc) (hRow : Row w g t n f)
    (hp : a.tmps.getD p undef = .pointer (some ⟨g, 0, none⟩)) (hu : Tryz.prog.underlying ty = some d) (hd : ∃ fs, d = .struct fs)
    (hi : (Tryz.prog.info? ty).map (·.size) = some n) (hdef : a.defers = []) (hR : R (.returned (.agg (arrOf n f))) w) : bodyPost Tryz.prog fn R Exit.ret a w :=
  bodyPost_ret (v := .agg (arrOf n f)) (results_cell_row h a.tmps w g t (arrOf n f) (0, 0) d hp hRow.whole hu (by rcases hd with ⟨_, rfl⟩; rfl) (by rw [arrOf_size]; exact hi)) hdef hR
theorem Ls.drew {w : World} {B : Nat} {v : Value} {l : List (List UInt8)} (h : Ls w B v l) : Ls w.drew B v l := h
theorem But.cell {g : Nat} {w w' : World} (h : But g w w') {a : Addr} (hne : a.block ≠ g) : w'.cell? a = w.cell? a := World.cell?_of_block (h.block a.block hne)
end Go.Proofs.YtkmkkmdpjliifaaGreatDoor
