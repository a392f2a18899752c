import Derived.Test.YtkmkkmdpjliifaaDoorJxY
namespace Go.Proofs.YtkmkkmdpjliifaaDoor
open Go.ChangeShapes Go.WideShapes Go.ChangeAt Go.RowKit

/-- claims, as Go has them -/
structure Cz where
  id : Int
  sub : List UInt8
  scp : List (List UInt8)
  aud : List (List UInt8)
  act : List (List UInt8)
  exp : Int
def Cm.z (c : Cm) : Cz := ⟨(c.id : Int), c.sub, c.scp, c.aud, c.act, (c.exp : Int)⟩
def cz0 : Cz := ⟨0, [], [], [], [], 0⟩
/-- may they be? -/
def rightB (c : Cz) : Bool := nameN c.sub && listB c.scp && listB c.aud && listB c.act && decide (0 ≤ c.id) && decide (c.id ≤ 999999999999) && decide (0 ≤ c.exp) && decide (c.exp ≤ 999999999999)
/-- claims as a value: the lists' places -/
structure Pl where
  a2 : Option Addr
  c2 : Nat
  a3 : Option Addr
  c3 : Nat
  a4 : Option Addr
  c4 : Nat
def czF (c : Cz) (p : Pl) (j : Nat) : Value :=
  if j = 0 then .int .i64 c.id else if j = 1 then .string ⟨c.sub.toArray⟩ else if j = 2 then .slice p.a2 c.scp.length p.c2 else if j = 3 then .slice p.a3 c.aud.length p.c3
  else if j = 4 then .slice p.a4 c.act.length p.c4 else .int .i64 c.exp
def czA (c : Cz) (p : Pl) : Array Value := #[.int .i64 c.id, .string ⟨c.sub.toArray⟩, .slice p.a2 c.scp.length p.c2, .slice p.a3 c.aud.length p.c3, .slice p.a4 c.act.length p.c4, .int .i64 c.exp]
structure CzL (w : World) (B : Nat) (c : Cz) (p : Pl) : Prop where
  k2 : Ls w B (.slice p.a2 c.scp.length p.c2) c.scp
  k3 : Ls w B (.slice p.a3 c.aud.length p.c3) c.aud
  k4 : Ls w B (.slice p.a4 c.act.length p.c4) c.act
theorem CzL.below {w w' : World} {B : Nat} {c : Cz} {p : Pl} (h : CzL w B c p) (hb : Below B w w') : CzL w' B c p := ⟨h.k2.below hb, h.k3.below hb, h.k4.below hb⟩
theorem CzL.up {w : World} {B B' : Nat} {c : Cz} {p : Pl} (h : CzL w B c p) (hb : B ≤ B') : CzL w B' c p := ⟨h.k2.up hb, h.k3.up hb, h.k4.up hb⟩
/-- nothing is too great -/
structure CzS (c : Cz) : Prop where
  sub : c.sub.length ≤ 9223372036854775807
  l2 : c.scp.length ≤ 8796093022208
  l3 : c.aud.length ≤ 8796093022208
  l4 : c.act.length ≤ 8796093022208
  f2 : Fits c.scp
  f3 : Fits c.aud
  f4 : Fits c.act
def numsB (i e : Int) : Bool := decide (0 ≤ i) && decide (i ≤ 999999999999) && decide (0 ≤ e) && decide (e ≤ 999999999999)
theorem rightB_eq (c : Cz) : rightB c = (nameN c.sub && (listB c.scp && (listB c.aud && (listB c.act && numsB c.id c.exp)))) := by
  unfold rightB numsB
  simp only [Bool.and_assoc]

set_option maxRecDepth 20000 in
set_option maxHeartbeats 2000000 in
theorem Right_any (c : Cz) (p : Pl) (w : World) (B : Nat) (hB : B ≤ w.heap.size) (hS : CzS c) (hL : CzL w B c p) :
    Calls Tryd.prog 35 #[.agg (czA c p)] w fun e w' => e = .returned (.bool (rightB c)) ∧ Below w.heap.size w w' := by
  generalize hr : rightB c = r
  rw [rightB_eq] at hr
  have HR := hide hr
  clear hr
  unfold czA
  have HS := hide hS
  obtain ⟨wa, hwa⟩ : ∃ wa, wa = w.alloc (.cells #[.int .i64 c.id, .string ⟨c.sub.toArray⟩, .slice p.a2 c.scp.length p.c2, .slice p.a3 c.aud.length p.c3, .slice p.a4 c.act.length p.c4, .int .i64 c.exp] 37) := ⟨_, rfl⟩
  have hba : Below w.heap.size w wa := by rw [hwa]; exact (Below.refl _ _).alloc (Nat.le_refl _) _
  have hsa : wa.heap.size = w.heap.size + 1 := by rw [hwa]; simp
  have HLa := hide (hL.below (hba.mono hB))
  have g0 : wa.cell? ⟨w.heap.size, 0, none⟩ = some (.int .i64 c.id) := by rw [hwa]; simp
  have g1 : wa.cell? ⟨w.heap.size, 1, none⟩ = some (.string ⟨c.sub.toArray⟩) := by rw [hwa]; simp
  have g2 : wa.cell? ⟨w.heap.size, 2, none⟩ = some (.slice p.a2 c.scp.length p.c2) := by rw [hwa]; simp
  have g3 : wa.cell? ⟨w.heap.size, 3, none⟩ = some (.slice p.a3 c.aud.length p.c3) := by rw [hwa]; simp
  have g4 : wa.cell? ⟨w.heap.size, 4, none⟩ = some (.slice p.a4 c.act.length p.c4) := by rw [hwa]; simp
  have g5 : wa.cell? ⟨w.heap.size, 5, none⟩ = some (.int .i64 c.exp) := by rw [hwa]; simp
  have HWA := hide hwa
  clear hS hL hwa
  go_enter Tryd.func35, Tryd.ntmps35
  go_wp2_with fail
  rw [← unhide HWA]
  clear HWA
  go_wp2_with fail
  refine (Name_any c.sub _ (unhide HS).sub).mono ?_
  rintro e w1 ⟨rfl, hb1⟩
  have hs1 := hb1.size
  have u : ∀ j, w1.cell? ⟨w.heap.size, j, none⟩ = wa.cell? ⟨w.heap.size, j, none⟩ := fun j => hb1.cell (p := ⟨w.heap.size, j, none⟩) (by show w.heap.size < _; omega)
  have HL1 := hide ((unhide HLa).below (hb1.mono (by omega)))
  have hbb1 := hba.trans (hb1.mono (by omega))
  rw [← u 0] at g0
  rw [← u 2] at g2
  rw [← u 3] at g3
  rw [← u 4] at g4
  rw [← u 5] at g5
  clear u g1 HLa hb1 hba
  generalize nameN c.sub = n1 at HR ⊢
  go_wp2_with fail
  refine (ListR_any _ c.scp _ B (by omega) (unhide HS).l2 (unhide HS).f2 (unhide HL1).k2).mono ?_
  rintro e w2 ⟨rfl, hb2⟩
  have hs2 := hb2.size
  have u : ∀ j, w2.cell? ⟨w.heap.size, j, none⟩ = w1.cell? ⟨w.heap.size, j, none⟩ := fun j => hb2.cell (p := ⟨w.heap.size, j, none⟩) (by show w.heap.size < _; omega)
  have HL2 := hide ((unhide HL1).below (hb2.mono (by omega)))
  have hbb2 := hbb1.trans (hb2.mono (by omega))
  rw [← u 0] at g0
  rw [← u 3] at g3
  rw [← u 4] at g4
  rw [← u 5] at g5
  clear u g2 HL1 hb2 hbb1
  generalize listB c.scp = n2 at HR ⊢
  go_wp2_with fail
  refine (ListR_any _ c.aud _ B (by omega) (unhide HS).l3 (unhide HS).f3 (unhide HL2).k3).mono ?_
  rintro e w3 ⟨rfl, hb3⟩
  have hs3 := hb3.size
  have u : ∀ j, w3.cell? ⟨w.heap.size, j, none⟩ = w2.cell? ⟨w.heap.size, j, none⟩ := fun j => hb3.cell (p := ⟨w.heap.size, j, none⟩) (by show w.heap.size < _; omega)
  have HL3 := hide ((unhide HL2).below (hb3.mono (by omega)))
  have hbb3 := hbb2.trans (hb3.mono (by omega))
  rw [← u 0] at g0
  rw [← u 4] at g4
  rw [← u 5] at g5
  clear u g3 HL2 hb3 hbb2
  generalize listB c.aud = n3 at HR ⊢
  go_wp2_with fail
  refine (ListR_any _ c.act _ B (by omega) (unhide HS).l4 (unhide HS).f4 (unhide HL3).k4).mono ?_
  rintro e w4 ⟨rfl, hb4⟩
  have u : ∀ j, w4.cell? ⟨w.heap.size, j, none⟩ = w3.cell? ⟨w.heap.size, j, none⟩ := fun j => hb4.cell (p := ⟨w.heap.size, j, none⟩) (by show w.heap.size < _; omega)
  have hbb4 := hbb3.trans (hb4.mono (by omega))
  rw [← u 0] at g0
  rw [← u 5] at g5
  clear u g4 HL3 hb4 hbb3
  generalize listB c.act = n4 at HR ⊢
  have HNB : Hid (numsB c.id c.exp = (decide (0 ≤ c.id) && decide (c.id ≤ 999999999999) && decide (0 ≤ c.exp) && decide (c.exp ≤ 999999999999))) := rfl
  generalize c.id = ci at *
  generalize c.exp = ce at *
  generalize hd1 : decide (0 ≤ ci) = d1 at HNB
  generalize hd2 : decide (ci ≤ 999999999999) = d2 at HNB
  generalize hd3 : decide (0 ≤ ce) = d3 at HNB
  generalize hd4 : decide (ce ≤ 999999999999) = d4 at HNB
  generalize numsB ci ce = nb at *
  clear HS hs1 hs2 hs3 hsa
  cases n1 with
  | false => go_wp2_with fail; go_ret; exact ⟨by rw [← unhide HR]; rfl, hbb4⟩
  | true =>
  cases n2 with
  | false => go_wp2_with fail; go_ret; exact ⟨by rw [← unhide HR]; rfl, hbb4⟩
  | true =>
  cases n3 with
  | false => go_wp2_with fail; go_ret; exact ⟨by rw [← unhide HR]; rfl, hbb4⟩
  | true =>
  cases n4 with
  | false => go_wp2_with fail; go_ret; exact ⟨by rw [← unhide HR]; rfl, hbb4⟩
  | true =>
  cases d1 with
  | false => go_wp2_with fail; go_ret; exact ⟨by rw [← unhide HR, unhide HNB]; rfl, hbb4⟩
  | true =>
  cases d2 with
  | false => go_wp2_with fail; go_ret; exact ⟨by rw [← unhide HR, unhide HNB]; rfl, hbb4⟩
  | true =>
  cases d3 with
  | false => go_wp2_with fail; go_ret; exact ⟨by rw [← unhide HR, unhide HNB]; rfl, hbb4⟩
  | true =>
  cases d4 with
  | false => go_wp2_with fail; go_ret; exact ⟨by rw [← unhide HR, unhide HNB]; rfl, hbb4⟩
  | true => go_wp2_with fail; go_ret; exact ⟨by rw [← unhide HR, unhide HNB]; rfl, hbb4⟩
end Go.Proofs.YtkmkkmdpjliifaaDoor
