import Derived.Test.YtkmkkmdpjliifaaGreatDoorExG
namespace Go.Proofs.YtkmkkmdpjliifaaGreatDoor
open Go.ChangeShapes Go.WideShapes Go.ChangeAt Go.RowKit

/-- the targets that the statements take -/
def tgN : List (List UInt8) := [[116], [117], [118]]
def tgOf (x : Int) : List UInt8 := tgN.getD (pickN x 3) []
def tgStep (out : List (List UInt8)) (x : Int) : List (List UInt8) := if hasB out (tgOf x) = false then out ++ [tgOf x] else out
def tgK (l : List Int) : Nat → List (List UInt8)
  | 0 => []
  | k + 1 => tgStep (tgK l k) (l.getD k 0)
theorem tgOf_mem (x : Int) : tgOf x ∈ tgN := by
  have h := (pickN_lt x 3 (by decide)).1
  unfold tgOf
  generalize pickN x 3 = k at h
  rcases (show k = 0 ∨ k = 1 ∨ k = 2 by omega) with rfl | rfl | rfl <;> decide
theorem tgK_ok (l : List Int) : ∀ k, (∀ x ∈ tgK l k, x ∈ tgN) ∧ (tgK l k).Nodup
  | 0 => ⟨fun x h => (by cases h), List.nodup_nil⟩
  | k + 1 => by
    obtain ⟨h1, h2⟩ := tgK_ok l k
    rw [tgK]
    unfold tgStep
    split
    · rename_i hc
      refine ⟨fun x hx => ?_, ?_⟩
      · rcases List.mem_append.1 hx with hx | hx
        · exact h1 x hx
        · rw [List.mem_singleton.1 hx]; exact tgOf_mem _
      · rw [List.nodup_append]
        refine ⟨h2, by simp, fun a ha b hb e => ?_⟩
        rw [List.mem_singleton.1 hb] at e
        have := (hasB_mem _ _).2 (e ▸ ha)
        rw [hc] at this
        cases this
    · exact ⟨h1, h2⟩
theorem nodup_sub {l m : List (List UInt8)} (h : l.Nodup) (hs : ∀ x ∈ l, x ∈ m) : l.length ≤ m.length := by
  induction l generalizing m with
  | nil => exact Nat.zero_le _
  | cons a l ih =>
    obtain ⟨h1, h2⟩ := List.nodup_cons.1 h
    have hm := hs a (List.mem_cons_self ..)
    have := ih (m := m.erase a) h2 (fun x hx => (List.mem_erase_of_ne (by rintro rfl; exact h1 hx)).2 (hs x (List.mem_cons_of_mem _ hx)))
    rw [List.length_erase_of_mem hm] at this
    have hp : 0 < m.length := List.length_pos_of_mem hm
    simp only [List.length_cons]
    omega
theorem tgK_len (l : List Int) (k : Nat) : (tgK l k).length ≤ 3 := nodup_sub (tgK_ok l k).2 (tgK_ok l k).1

set_option maxRecDepth 20000 in
set_option maxHeartbeats 2000000 in
theorem targets_any (v : Value) (l : List Int) (w : World) (B : Nat) (hB : B ≤ w.heap.size) (hl : l.length ≤ 17592186044416) (hv : LsI w B v l) :
    Calls Tryz.prog 65 #[v] w fun e w' => ∃ v', e = .returned v' ∧ OwnS w' w.heap.size v' (tgK l l.length) ∧ Below w.heap.size w w' := by
  obtain ⟨w1, hw1⟩ : ∃ w1, w1 = allocL w [.cells #[.string ⟨#[116]⟩, .string ⟨#[117]⟩, .string ⟨#[118]⟩] 9] := ⟨_, rfl⟩
  have hb1 : Below w.heap.size w w1 := by rw [hw1]; exact allocL_below _ _
  have hs1 : w1.heap.size = w.heap.size + 1 := by rw [hw1, allocL_size]; rfl
  have hAll : ∀ j, j < 3 → w1.cell? ⟨w.heap.size, j, none⟩ = some (sv (tgN.getD j [])) := fun j hj => by
    rw [hw1]
    have h := allocL_ls (os := [.cells #[.string ⟨#[116]⟩, .string ⟨#[117]⟩, .string ⟨#[118]⟩] 9]) (w := w) (i := 0) (l := tgN) rfl (by decide)
    obtain ⟨a, c, e, _, h⟩ := h
    obtain ⟨g, o, rfl, _, h⟩ := h (by decide)
    injection e with e1
    injection e1 with e1
    injection e1 with e2 e3
    subst e2
    subst e3
    have := h j hj
    rw [Nat.zero_add] at this
    exact this
  have hv1 := hv.below (hb1.mono hB)
  have HV := hide hv1
  obtain ⟨a, c, rfl, hle, hx⟩ := hv
  have HL := hide hl
  have HAll := hide hAll
  have HB1 := hide hb1
  have HW1 : Hid (w1 = w.alloc (.cells #[.string ⟨#[116]⟩, .string ⟨#[117]⟩, .string ⟨#[118]⟩] 9)) := hw1
  clear hx hl hAll hb1 hw1 hv1 hle
  go_enter Tryz.func65, Tryz.ntmps65
  go_wp2_with fail
  rw [← unhide HW1]
  clear HW1
  go_loopg [4, 5] l.length (fun q vo i wr => ∃ k : Nat, k + q = l.length ∧ i = .int .i64 (k : Nat) ∧ OwnS wr (w.heap.size + 1) vo (tgK l k) ∧ Below (w.heap.size + 1) w1 wr)
  case atStart => exact ⟨0, Nat.zero_add _, rfl, OwnS.nil _ _, Below.refl _ _⟩
  case round =>
    obtain ⟨k, hk, rfl, hO, hb⟩ := hrel
    have hsr := hb.size
    have HO := hide hO
    have HB := hide hb
    obtain ⟨ao, co, rfl, hox⟩ := hO.ls
    clear hox hO
    by_cases hlt : k < l.length
    · have hkI : (k : Int) < (l.length : Int) := by omega
      have hw := w64J hlt (unhide HL)
      have h3l := tgK_len l k
      obtain ⟨a2, c2, e, _, hxa⟩ := (unhide HV).below ((unhide HB).mono (by omega))
      obtain ⟨g, o, e2, hg, hxb⟩ := hxa (by omega)
      have hxc := hxb k hlt
      clear hxa hxb
      injection e with e3 e4 e5
      subst e3
      subst e2
      subst e5
      clear e4
      obtain ⟨hck, hlo, hhi⟩ := hxc
      have HP := hide (pickK_any (l.getD k 0) 3 wr ⟨hlo, hhi⟩ (by decide))
      obtain ⟨hp1, hp2⟩ := pickN_lt (l.getD k 0) 3 (by decide)
      have hstep : tgK l (k + 1) = tgStep (tgK l k) (l.getD k 0) := rfl
      have HS1 : Hid (hasB (tgK l k) (tgOf (l.getD k 0)) = true → tgK l (k + 1) = tgK l k) := fun h => by
        rw [hstep]
        unfold tgStep
        rw [if_neg (by rw [h]; decide)]
      have HS2 : Hid (hasB (tgK l k) (tgOf (l.getD k 0)) = false → tgK l (k + 1) = tgK l k ++ [tgOf (l.getD k 0)]) := fun h => by
        rw [hstep]
        unfold tgStep
        rw [if_pos h]
      have hnm : tgOf (l.getD k 0) = tgN.getD (pickN (l.getD k 0) 3) [] := rfl
      have hcn := ((unhide HB).cell (p := ⟨w.heap.size, pickN (l.getD k 0) 3, none⟩) (show w.heap.size < w.heap.size + 1 by omega)).trans (unhide HAll _ hp1)
      rw [← hnm, sv_def] at hcn
      rw [show ((3 : Nat) : Int) = 3 from rfl] at hp2
      rw [hp2] at HP
      generalize hpk : pickN (l.getD k 0) 3 = pk at *
      generalize hxk : l.getD k 0 = xk at *
      generalize tgOf xk = y at *
      have HIn := hide (inK_any (.slice ao (tgK l k).length co) (tgK l k) y wr wr.heap.size (by omega) (unhide HO).ls)
      have hpI : (pk : Int) < 3 := by omega
      have HXK := hide (And.intro hpk hxk)
      clear hpk hxk hlo hhi hp1 hp2 hnm hstep
      cases hb0 : hasB (tgK l k) y with
      | true =>
        rw [hb0] at HIn
        have hnx : tgK l (k + 1) = tgK l k := unhide HS1 hb0
        have HNX := hide hnx
        clear hnx hb0 HS1 HS2
        go_wp2_with (first | (go_at_call 26; refine (unhide HP).mono ?_; rintro e w2 ⟨rfl, rfl⟩) | (go_at_call 66; refine (unhide HIn).mono ?_; rintro e w3 ⟨rfl, rfl⟩))
        go_roundg (gk - 1)
        case measure => omega
        case rel => exact ⟨k + 1, by omega, by first | exact num1 hw | rfl, by rw [unhide HNX]; exact unhide HO, unhide HB⟩
      | false =>
        rw [hb0] at HIn
        have hnx : tgK l (k + 1) = tgK l k ++ [y] := unhide HS2 hb0
        have HNX := hide hnx
        clear hnx hb0 HS1 HS2
        have hsx : (wr.alloc (.cells #[.string ⟨y.toArray⟩] 9)).heap.size = wr.heap.size + 1 := by simp
        have hax : Below wr.heap.size wr (wr.alloc (.cells #[.string ⟨y.toArray⟩] 9)) := (Below.refl _ _).alloc (Nat.le_refl _) _
        obtain ⟨v', w', hrun, hO', hg'⟩ := append_onto (w := wr.alloc (.cells #[.string ⟨y.toArray⟩] 9)) (v := .slice (some ⟨wr.heap.size, 0, none⟩) 1 1) (l := [y]) (b0 := w.heap.size + 1) (by omega) ((unhide HO).below hax) (by omega) (by simp) (allocL_ls (os := [.cells #[.string ⟨y.toArray⟩] 9]) (w := wr) (i := 0) (l := [y]) rfl (by simp)) 35
        have hb' : Below (w.heap.size + 1) w1 w' := ((unhide HB).trans (hax.mono (by omega))).grown hg' (by omega) (fun k hk => ((unhide HO).lt k hk).1)
        have HF := hide (And.intro hO' hb')
        clear hO' hb' hg' hax
        go_wp2_with (first | (go_at_call 26; refine (unhide HP).mono ?_; rintro e w2 ⟨rfl, rfl⟩) | (go_at_call 66; refine (unhide HIn).mono ?_; rintro e w3 ⟨rfl, rfl⟩) | (at_builtin; refine appLaw rfl _ _ rfl rfl rfl hrun ?_))
        go_roundg (gk - 1)
        case measure => omega
        case rel => exact ⟨k + 1, by omega, by first | exact num1 hw | rfl, by rw [unhide HNX]; exact (unhide HF).1, (unhide HF).2⟩
    · have hkn : k = l.length := by omega
      subst hkn
      clear hk
      go_wp2_with fail
      go_ret
      exact ⟨_, rfl, (unhide HO).down (by omega), (unhide HB1).trans ((unhide HB).mono (by omega))⟩

/-- all of a list are in another -/
def withinB (l m : List (List UInt8)) : Bool := (List.range l.length).all (fun k => hasB m (l.getD k []))
theorem withinB_iff (l m : List (List UInt8)) : withinB l m = true ↔ ∀ x ∈ l, x ∈ m := by
  unfold withinB
  rw [List.all_eq_true]
  constructor
  · intro h x hx
    obtain ⟨k, hk, rfl⟩ := List.mem_iff_getElem.1 hx
    have := h k (List.mem_range.2 hk)
    rw [List.getD_eq_getElem?_getD, List.getElem?_eq_getElem hk] at this
    exact (hasB_mem _ _).1 this
  · intro h k hk
    have hk' := List.mem_range.1 hk
    rw [List.getD_eq_getElem?_getD, List.getElem?_eq_getElem hk']
    exact (hasB_mem _ _).2 (h _ (List.getElem_mem hk'))

set_option maxRecDepth 20000 in
set_option maxHeartbeats 2000000 in
theorem within_any (v1 v2 : Value) (l m : List (List UInt8)) (w : World) (B : Nat) (hl : l.length ≤ 8796093022208) (hm : m.length ≤ 8796093022208) (h1 : Ls w B v1 l) (h2 : Ls w B v2 m) :
    Calls Tryz.prog 28 #[v1, v2] w fun e w' => e = .returned (.bool (withinB l m)) ∧ w' = w := by
  have HI := hide (fun y => inK_any v2 m y w B hm h2)
  obtain ⟨a1, c1, rfl, _, hx1⟩ := h1
  obtain ⟨a2, c2, rfl, _, hx2⟩ := h2
  have HX1 := hide hx1
  have HL := hide hl
  have HA : Hid (withinB l m = (List.range l.length).all (fun k => hasB m (l.getD k []))) := rfl
  clear hx1 hx2 hl hm
  go_enter Tryz.func28, Tryz.ntmps28
  go_wp2_with fail
  go_loopg [5] l.length (fun q i wr => ∃ k : Nat, k + q = l.length ∧ i = .int .i64 (k : Nat) ∧ wr = w ∧ ∀ j, j < k → hasB m (l.getD j []) = true)
  case atStart => exact ⟨0, Nat.zero_add _, rfl, rfl, fun j hj => absurd hj (Nat.not_lt_zero _)⟩
  case round =>
    obtain ⟨k, hk, rfl, rfl, hall⟩ := hrel
    have HAL := hide hall
    clear hall
    by_cases hlt : k < l.length
    · have hkI : (k : Int) < (l.length : Int) := by omega
      have hw := w64j hlt (unhide HL)
      obtain ⟨g, o, rfl, hg, hxb⟩ := unhide HX1 (by omega)
      have hck := hxb k hlt
      rw [sv_def] at hck
      clear hxb
      have HIn := hide (unhide HI (l.getD k []))
      obtain ⟨y, hy⟩ : ∃ y, y = l.getD k [] := ⟨_, rfl⟩
      rw [← hy] at hck HIn
      have HY := hide hy
      clear hy
      cases hb0 : hasB m y with
      | true =>
        rw [hb0] at HIn
        have HB0 := hide hb0
        clear hb0
        go_wp2_with (first | (go_at_call 66; refine (unhide HIn).mono ?_; rintro e w3 ⟨rfl, rfl⟩))
        go_roundg (gk - 1)
        case measure => omega
        case rel => exact ⟨k + 1, by omega, by first | exact num1 hw | rfl, rfl, fun j hj => by
          by_cases e : j = k
          · rw [e, ← unhide HY]; exact unhide HB0
          · exact unhide HAL j (by omega)⟩
      | false =>
        rw [hb0] at HIn
        have HB0 : Hid (withinB l m = false) := by
          rw [unhide HA, List.all_eq_false]
          exact ⟨k, List.mem_range.2 hlt, by rw [← unhide HY, hb0]; decide⟩
        clear hb0
        go_wp2_with (first | (go_at_call 66; refine (unhide HIn).mono ?_; rintro e w3 ⟨rfl, rfl⟩))
        go_ret
        exact ⟨by rw [unhide HB0]; rfl, rfl⟩
    · have HB0 : Hid (withinB l m = true) := by
        rw [unhide HA, List.all_eq_true]
        intro j hj
        exact unhide HAL j (by have := List.mem_range.1 hj; omega)
      have hkn : k = l.length := by omega
      subst hkn
      clear hk
      go_wp2_with fail
      go_ret
      exact ⟨by rw [unhide HB0]; rfl, rfl⟩
end Go.Proofs.YtkmkkmdpjliifaaGreatDoor
