import Derived.Test.YtkmkkmdpjliifaaDoorNxM
namespace Go.Proofs.YtkmkkmdpjliifaaDoor
open Go.ChangeShapes Go.WideShapes Go.ChangeAt Go.RowKit

/-- may a server be of these? -/
def newB (ks : List Ky) (cs : List Cl) : Bool := keysB ks && clientsB cs
def errOf (b : Bool) : Int := if b then 0 else 1

set_option maxRecDepth 20000 in
set_option maxHeartbeats 1000000 in
theorem NewP_any (v vc : Value) (ks : List Ky) (cs : List Cl) (w : World) (B : Nat) (hB : B ≤ w.heap.size) (hl : ks.length ≤ 8796093022208) (hF : KFits ks) (hv : Ks w B v ks) (hCF : CFits cs) (hC : Cs w B vc cs) (hT : UT w) :
    Calls Tryd.prog 49 #[v, vc] w fun e w' => (∃ po, e = .returned (.tuple #[.pointer po, .int .i64 (errOf (newB ks cs))]) ∧ po.isSome = newB ks cs) ∧ Below w.heap.size w w' := by
  have hNR := NewRing_any v ks w B hB hl hF hv
  have hv' := hv
  have hC' := hC
  obtain ⟨a, c, rfl, _⟩ := hv'
  obtain ⟨a2, c2, rfl, _⟩ := hC'
  have HNR := hide hNR
  have HC := hide hC
  have HCF := hide hCF
  have HT := hide hT
  clear hNR hC hCF hT hv hF hl
  go_enter Tryd.func49, Tryd.ntmps49
  go_wp2_with fail
  refine (unhide HNR).mono ?_
  rintro e w1 ⟨hb1, hr⟩
  have hs1 := hb1.size
  rcases hr with ⟨hk, rfl⟩ | ⟨hk, R, vk, rfl, hR, hRow, hown⟩
  · have hnb : newB ks cs = false := by unfold newB; rw [hk]; rfl
    have HNB := hide hnb
    clear hnb hk
    go_wp2
    go_ret2
    exact ⟨⟨none, by rw [unhide HNB]; rfl, by rw [unhide HNB]; rfl⟩, hb1⟩
  · have hnb : newB ks cs = clientsB cs := by unfold newB; rw [hk]; rfl
    have HNB := hide hnb
    clear hnb hk hRow hown
    go_wp2_with fail
    refine (roster_any _ cs w1 B (by omega) (unhide HCF) ((unhide HC).below (hb1.mono hB)) ((unhide HT).belowS hb1)).mono ?_
    rintro e w2 ⟨hb2, hr⟩
    have hb12 := hb1.trans (hb2.mono hs1)
    have hs2 := hb12.size
    rcases hr with ⟨hk, rfl⟩ | ⟨hk, R2, rfl⟩
    · have hnb : newB ks cs = false := by rw [unhide HNB, hk]
      have HNB2 := hide hnb
      clear hnb hk
      go_wp2
      go_ret2
      exact ⟨⟨none, by rw [unhide HNB2]; rfl, by rw [unhide HNB2]; rfl⟩, hb12⟩
    · have hnb : newB ks cs = true := by rw [unhide HNB, hk]
      have HNB2 := hide hnb
      clear hnb hk
      go_wp2
      go_ret2
      exact ⟨⟨_, by rw [unhide HNB2]; rfl, by rw [unhide HNB2]; rfl⟩, hb12.alloc hs2 _⟩

/-- a result that lies in a row -/
theorem ret_rowN {fn : Func} {p : Tmp} {ty : TypeId} (h : fn.results = #[.cell p ty]) {a : Act} {w : World} {R : Ending → World → Prop} {g n : Nat} {t : TypeId} {f : Nat → Value} (d : TypeDesc) (hRow : Row w g t n f)
    (hp : a.tmps.getD p undef = .pointer (some ⟨g, 0, none⟩)) (hu : Tryd.prog.underlying ty = some d) (hd : ∃ fs, d = .struct fs)
    (hi : (Tryd.prog.info? ty).map (·.size) = some n) (hdef : a.defers = []) (hR : R (.returned (.agg (arrOf n f))) w) : bodyPost Tryd.prog fn R Exit.ret a w :=
  bodyPost_ret (v := .agg (arrOf n f)) (results_cell_row h a.tmps w g t (arrOf n f) (0, 0) d hp hRow.whole hu (by rcases hd with ⟨_, rfl⟩; rfl) (by rw [arrOf_size]; exact hi)) hdef hR

theorem arr2 (a b : Value) : arrOf 2 (pr2 a b) = #[a, b] := by
  apply Array.ext (by rw [arrOf_size]; rfl)
  intro i h1 h2
  have e := arrOf_get 2 (pr2 a b) i (by rw [arrOf_size] at h1; exact h1)
  rw [Array.getElem?_eq_getElem h1] at e
  rw [Option.some.inj e]
  rw [arrOf_size] at h1
  rcases (show i = 0 ∨ i = 1 by omega) with rfl | rfl <;> rfl

set_option maxRecDepth 20000 in
set_option maxHeartbeats 1000000 in
theorem Known_any (w : World) :
    Calls Tryd.prog 23 #[] w fun e w' => (∃ a n c a2 n2 c2, e = .returned (.agg #[.slice a n c, .slice a2 n2 c2])) ∧ Below w.heap.size w w' := by
  go_enter Tryd.func23, Tryd.ntmps23
  go_wp2
  refine ret_rowN Tryd.results23 _ (((Row.new w 24 _ (pr2 (.slice (some ⟨w.heap.size + 1, 0, none⟩) 8 8) (.slice (some ⟨w.heap.size + 1 + 1, 0, none⟩) 64 64)) 2 rfl (fun j hj => by rcases (show j = 0 ∨ j = 1 by omega) with rfl | rfl <;> rfl)).alloc _).alloc _) rfl Tryd.underlying24 ⟨_, rfl⟩ (by kernel_rfl) rfl ?_
  exact ⟨⟨_, _, _, _, _, _, congrArg (fun c => Ending.returned (.agg c)) (arr2 _ _)⟩, (((Below.refl _ _).alloc (Nat.le_refl _) _).alloc (by simp) _).alloc (by simp; omega) _⟩
end Go.Proofs.YtkmkkmdpjliifaaDoor
