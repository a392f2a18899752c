import Derived.Test.YtkmkkmdpjliifaaGreatDoorSvE
namespace Go.Proofs.YtkmkkmdpjliifaaGreatDoor
open Go.ChangeShapes Go.WideShapes Go.ChangeAt Go.RowKit

/- blocks made one behind the other -/
def allocL (w : World) : List Obj → World
  | [] => w
  | o :: os => allocL (w.alloc o) os
theorem allocL_size : ∀ (os : List Obj) (w : World), (allocL w os).heap.size = w.heap.size + os.length
  | [], w => rfl
  | o :: os, w => by rw [allocL, allocL_size os]; simp; omega
theorem allocL_below : ∀ (os : List Obj) (w : World), Below w.heap.size w (allocL w os)
  | [], w => Below.refl _ _
  | o :: os, w => ((Below.refl w.heap.size w).alloc (Nat.le_refl _) o).trans ((allocL_below os (w.alloc o)).mono (by simp))
theorem allocL_heap : ∀ (os : List Obj) (w : World) (i : Nat) (o : Obj), os[i]? = some o → (allocL w os).heap[w.heap.size + i]? = some o
  | [], w, i, o, h => by simp at h
  | o1 :: os, w, 0, o, h => by
    have e : o1 = o := by simpa using h
    subst e
    rw [allocL, (allocL_below os (w.alloc o1)).block _ (by simp)]
    exact heap_alloc_new w o1
  | o1 :: os, w, i + 1, o, h => by
    have := allocL_heap os (w.alloc o1) i o (by simpa using h)
    rw [allocL, show w.heap.size + (i + 1) = (w.alloc o1).heap.size + i by simp; omega]
    exact this
theorem allocL_cell {os : List Obj} {w : World} {i : Nat} {ca : Array Value} {t : TypeId} (h : os[i]? = some (.cells ca t)) (j : Nat) : (allocL w os).cell? ⟨w.heap.size + i, j, none⟩ = ca[j]? := by
  unfold World.cell?
  simp only [allocL_heap os w i _ h]
  rfl
theorem allocL_ls {os : List Obj} {w : World} {i : Nat} {l : List (List UInt8)} (h : os[i]? = some (.cells (svs l).toArray 9)) (hi : i < os.length) : Ls (allocL w os) (allocL w os).heap.size (.slice (some ⟨w.heap.size + i, 0, none⟩) l.length l.length) l := by
  refine ⟨_, _, rfl, Nat.le_refl _, fun _ => ⟨_, _, rfl, by rw [allocL_size]; omega, fun j hj => ?_⟩⟩
  rw [allocL_cell h, Nat.zero_add]
  have := svs_get l j hj
  simpa using this

/- the server of the statements: its keys and clients -/
def ks0 : List Ky := [⟨[107, 48], [107, 101, 121]⟩, ⟨[107, 49], [111, 116, 104, 101, 114]⟩]
def cs0 : List Cl := [⟨[99, 48], [115, 48], [[114], [119], [120], [97, 34, 98], [92], [116, 97, 98, 9, 104, 101, 114, 101]], [[116], [117], [118]], [[98, 111, 98], [97, 110, 110], [101, 118, 101]]⟩,
  ⟨[99, 49], [115, 49], [[114], [119]], [[116], [117]], [[97, 110, 110]]⟩, ⟨[99, 50], [115, 50], [[114], [120]], [[116]], [[98, 111, 98]]⟩, ⟨[99, 51], [115, 51], [], [], []⟩]
theorem new0 : newB ks0 cs0 = true := by decide +kernel
/-- what the statements' server lays down -/
def lay0 (h : Nat) : List Obj := [
  .cells #[.string ⟨#[114]⟩, .string ⟨#[119]⟩, .string ⟨#[120]⟩, .string ⟨#[97, 34, 98]⟩, .string ⟨#[92]⟩, .string ⟨#[116, 97, 98, 9, 104, 101, 114, 101]⟩] 9,
  .cells #[.string ⟨#[116]⟩, .string ⟨#[117]⟩, .string ⟨#[118]⟩] 9,
  .cells #[.string ⟨#[98, 111, 98]⟩, .string ⟨#[97, 110, 110]⟩, .string ⟨#[101, 118, 101]⟩] 9,
  .cells #[.string ⟨#[114]⟩, .string ⟨#[119]⟩] 9,
  .cells #[.string ⟨#[116]⟩, .string ⟨#[117]⟩] 9,
  .cells #[.string ⟨#[97, 110, 110]⟩] 9,
  .cells #[.string ⟨#[114]⟩, .string ⟨#[120]⟩] 9,
  .cells #[.string ⟨#[116]⟩] 9,
  .cells #[.string ⟨#[98, 111, 98]⟩] 9,
  .cells #[.string ⟨#[99, 48]⟩, .string ⟨#[115, 48]⟩, .slice (some ⟨h, 0, none⟩) 6 6, .slice (some ⟨h + 1, 0, none⟩) 3 3, .slice (some ⟨h + 2, 0, none⟩) 3 3,
    .string ⟨#[99, 49]⟩, .string ⟨#[115, 49]⟩, .slice (some ⟨h + 3, 0, none⟩) 2 2, .slice (some ⟨h + 4, 0, none⟩) 2 2, .slice (some ⟨h + 5, 0, none⟩) 1 1,
    .string ⟨#[99, 50]⟩, .string ⟨#[115, 50]⟩, .slice (some ⟨h + 6, 0, none⟩) 2 2, .slice (some ⟨h + 7, 0, none⟩) 1 1, .slice (some ⟨h + 8, 0, none⟩) 1 1,
    .string ⟨#[99, 51]⟩, .string ⟨#[115, 51]⟩, .slice none 0 0, .slice none 0 0, .slice none 0 0] 37,
  .cells #[.string ⟨#[107, 48]⟩, .string ⟨#[107, 101, 121]⟩, .string ⟨#[107, 49]⟩, .string ⟨#[111, 116, 104, 101, 114]⟩] 34]
theorem four {P : Nat → Prop} (h0 : P 0) (h1 : P 1) (h2 : P 2) (h3 : P 3) : ∀ j, j < 4 → P j := by
  intro j hj
  rcases (show j = 0 ∨ j = 1 ∨ j = 2 ∨ j = 3 by omega) with rfl | rfl | rfl | rfl
  · exact h0
  · exact h1
  · exact h2
  · exact h3
theorem lay0_keys (w : World) : Ks (allocL w (lay0 w.heap.size)) (allocL w (lay0 w.heap.size)).heap.size (.slice (some ⟨w.heap.size + 10, 0, none⟩) 2 2) ks0 := by
  refine ⟨_, _, rfl, fun _ => ⟨_, _, rfl, by rw [allocL_size]; show w.heap.size + 10 < w.heap.size + 11; omega, fun i hi => ?_⟩⟩
  have hi2 : i < 2 := hi
  have hc := fun j => allocL_cell (os := lay0 w.heap.size) (w := w) (i := 10) rfl j
  rcases (show i = 0 ∨ i = 1 by omega) with rfl | rfl
  · exact ⟨(hc _).trans rfl, (hc _).trans rfl⟩
  · exact ⟨(hc _).trans rfl, (hc _).trans rfl⟩
theorem lsNil (w : World) (B : Nat) : Ls w B (.slice none 0 0) [] := ⟨none, 0, rfl, Nat.le_refl _, fun h => absurd h (Nat.not_lt_zero _)⟩
theorem lay0_clients (w : World) : Cs (allocL w (lay0 w.heap.size)) (allocL w (lay0 w.heap.size)).heap.size (.slice (some ⟨w.heap.size + 9, 0, none⟩) 4 4) cs0 := by
  have hz := allocL_size (lay0 w.heap.size) w
  refine ⟨_, _, rfl, fun _ => ⟨_, _, rfl, by rw [hz]; show w.heap.size + 9 < w.heap.size + 11; omega, ?_⟩⟩
  have hc := fun j => allocL_cell (os := lay0 w.heap.size) (w := w) (i := 9) rfl j
  refine four ?_ ?_ ?_ ?_
  · exact ⟨(hc _).trans rfl, (hc _).trans rfl, ⟨_, _, (hc _).trans rfl, allocL_ls (i := 0) rfl (by simp [lay0])⟩, ⟨_, _, (hc _).trans rfl, allocL_ls (i := 1) rfl (by simp [lay0])⟩, ⟨_, _, (hc _).trans rfl, allocL_ls (i := 2) rfl (by simp [lay0])⟩⟩
  · exact ⟨(hc _).trans rfl, (hc _).trans rfl, ⟨_, _, (hc _).trans rfl, allocL_ls (i := 3) rfl (by simp [lay0])⟩, ⟨_, _, (hc _).trans rfl, allocL_ls (i := 4) rfl (by simp [lay0])⟩, ⟨_, _, (hc _).trans rfl, allocL_ls (i := 5) rfl (by simp [lay0])⟩⟩
  · exact ⟨(hc _).trans rfl, (hc _).trans rfl, ⟨_, _, (hc _).trans rfl, allocL_ls (i := 6) rfl (by simp [lay0])⟩, ⟨_, _, (hc _).trans rfl, allocL_ls (i := 7) rfl (by simp [lay0])⟩, ⟨_, _, (hc _).trans rfl, allocL_ls (i := 8) rfl (by simp [lay0])⟩⟩
  · exact ⟨(hc _).trans rfl, (hc _).trans rfl, ⟨_, _, (hc _).trans rfl, lsNil _ _⟩, ⟨_, _, (hc _).trans rfl, lsNil _ _⟩, ⟨_, _, (hc _).trans rfl, lsNil _ _⟩⟩

theorem kfits0 : KFits ks0 := fun i hi => by
  have : i < 2 := hi
  rcases (show i = 0 ∨ i = 1 by omega) with rfl | rfl <;> exact ⟨by decide, by decide⟩
/-- lists of a few short names -/
theorem few_fits {l : List (List UInt8)} (h : l.all (fun x => decide (x.length ≤ 16)) = true) : Fits l := fun i hi => by
  rw [List.all_eq_true] at h
  have hm : l.getD i [] ∈ l := by rw [List.getD_eq_getElem?_getD, List.getElem?_eq_getElem hi]; exact List.getElem_mem hi
  have h2 := of_decide_eq_true (h _ hm)
  omega
theorem cfits0 : CFits cs0 := by
  have h : ∀ j, j < 4 → Small (cs0.getD j default) ∧ ClFits (cs0.getD j default) := by
    refine four ?_ ?_ ?_ ?_
    all_goals exact ⟨⟨by decide, by decide, by decide⟩, by decide, by decide, few_fits (by decide), few_fits (by decide), few_fits (by decide)⟩
  exact fun i hi => h i hi

set_option maxRecDepth 20000 in
set_option maxHeartbeats 2000000 in
theorem server_any (w : World) (hT : UT w) :
    Calls Tryz.prog 57 #[] w fun e w' => Below w.heap.size w w' ∧ ∃ s R O vk vs Qs, e = .returned (.pointer (some ⟨s, 0, none⟩)) ∧ w.heap.size ≤ s ∧ s + 1 = w'.heap.size ∧ Sb w' s R O vk vs ks0 cs0 Qs ∧ Row w' s 132 4 (seF 0 R O (.slice none 0 0)) := by
  have hb := allocL_below (lay0 w.heap.size) w
  have hz := allocL_size (lay0 w.heap.size) w
  have hN := NewS_any _ _ ks0 cs0 (allocL w (lay0 w.heap.size)) (allocL w (lay0 w.heap.size)).heap.size (Nat.le_refl _) (by decide) kfits0 (lay0_keys w) cfits0 (lay0_clients w) (hT.belowS hb)
  have hN' : Calls Tryz.prog 41 #[.slice (some ⟨w.heap.size + 10, 0, none⟩) 2 2, .slice (some ⟨w.heap.size + 9, 0, none⟩) 4 4] (allocL w (lay0 w.heap.size)) fun e w' => Below w.heap.size w w' ∧ ∃ s R O vk vs Qs, e = .returned (.tuple #[.pointer (some ⟨s, 0, none⟩), .int .i64 0]) ∧ w.heap.size ≤ s ∧ s + 1 = w'.heap.size ∧ Sb w' s R O vk vs ks0 cs0 Qs ∧ Row w' s 132 4 (seF 0 R O (.slice none 0 0)) := hN.mono (fun e w' ⟨h1, h2⟩ => by
    refine ⟨hb.trans (h1.mono (by omega)), ?_⟩
    rcases h2 with ⟨h3, _⟩ | ⟨_, s, R, O, vk, vs, Qs, h4, h5, h6⟩
    · rw [new0] at h3; cases h3
    · exact ⟨s, R, O, vk, vs, Qs, h4, by omega, h6⟩)
  have HN := hide hN'
  clear hT hb hz hN hN'
  go_enter Tryz.func57, Tryz.ntmps57
  go_wp2_with fail
  refine (unhide HN).mono ?_
  rintro e w1 ⟨hb1, s, R, O, vk, vs, Qs, rfl, h5, h6⟩
  have HF := hide (And.intro hb1 (And.intro h5 h6))
  clear HN hb1 h5 h6
  go_wp2_with fail
  go_ret
  exact ⟨(unhide HF).1, s, R, O, vk, vs, Qs, rfl, (unhide HF).2⟩
end Go.Proofs.YtkmkkmdpjliifaaGreatDoor
