import Derived.Test.YtkmkkmdpjliifaaGreatDoorNxC
import Derived.WalkSpells
import Derived.Deep.AppendLies
import Derived.Deep.RegionHeld3
import Derived.Deep.RegionLaw
namespace Go.Proofs.YtkmkkmdpjliifaaGreatDoor
open Go.ChangeShapes Go.WideShapes Go.ChangeAt Go.RowKit

/-- append(none, l...), append(empty, l...) -/
theorem append_list {w : World} {v0 : Value} {b0 : Nat} (hb0 : b0 ≤ w.heap.size) (h0 : w.ownsRow b0 9 1 v0 0 []) {a : Option Addr} {l : List (List UInt8)} {c : Nat} {B : Nat} (hl : l.length ≤ 8796093022208) (hv : Ls w B (.slice a l.length c) l) (hp : 0 < l.length) (ty : TypeId) :
    ∃ v' w', (Builtin.append_ #[35, 35] ty #[v0, .slice a l.length c]).run Tryz.prog w = .ok v' w' ∧ Ls w' w'.heap.size v' l ∧ w.grownBy w' v0.ownBlock := by
  obtain ⟨a1, c1, he, hle, hv⟩ := hv
  obtain ⟨g, o, rfl, hg, hc⟩ := hv hp
  injection he with e1 e2 e3
  subst e1
  obtain ⟨i0, hi, hz0, hz1, hz2⟩ := info_parts info9
  obtain ⟨v', w', hrun, ho, hgr, _⟩ := run_append_own (P := Tryz.prog) w b0 35 ty 9 i0 _ 1 16 Tryz.underlying35 hi hz0 hz1 hz2 rfl (by decide) v0 0 [] h0 ⟨g, o, none⟩ l.length c (svs l) (by simp [svs]) (fun j u hu => by
      have hj : j < l.length := by
        rcases Nat.lt_or_ge j l.length with h | h
        · exact h
        · rw [List.getElem?_eq_none (by simp [svs]; exact h)] at hu; cases hu
      rw [svs_get l j hj] at hu
      rw [add_plain, hc j hj, hu]) (fun u hu => by
      obtain ⟨x, _, rfl⟩ := List.mem_map.1 hu
      rfl) (by unfold maxLen; omega) (by omega) hb0
  rw [Nat.zero_add, List.nil_append] at ho
  exact ⟨v', w', hrun, owns_Ls ho, hgr⟩

set_option maxHeartbeats 1000000 in
theorem copied_any (v : Value) (l : List (List UInt8)) (w : World) (B : Nat) (_hB : B ≤ w.heap.size) (hl : l.length ≤ 8796093022208) (hv : Ls w B v l) :
    Calls Tryz.prog 39 #[v] w fun e w' => ∃ v', e = .returned v' ∧ Ls w' w'.heap.size v' l ∧ Below w.heap.size w w' := by
  have hv' := hv
  obtain ⟨a, c, rfl, hle, hx⟩ := hv'
  by_cases hp : 0 < l.length
  · obtain ⟨v', w', hrun, hL, hgr⟩ := append_list (Nat.le_refl _) (World.ownsRow_nil w _ 9 1) hl hv hp 35
    have hb : Below w.heap.size w w' := (Below.refl w.heap.size w).grown hgr (Nat.le_refl _) (fun k hk => by cases hk)
    have HL := hide hL
    clear hl hL hv hx
    go_enter Tryz.func39, Tryz.ntmps39
    go_wp2_with (at_builtin; refine appLaw rfl _ _ rfl rfl rfl hrun ?_)
    go_ret
    exact ⟨_, rfl, unhide HL, hb⟩
  · have : l = [] := List.length_eq_zero_iff.1 (by omega)
    subst this
    clear hl hv hx
    have hrun : (Builtin.append_ #[35, 35] 35 #[.slice none 0 0, .slice a 0 c]).run Tryz.prog w = .ok (.slice none 0 0) w := by
      obtain ⟨i0, hi, hz0, hz1, hz2⟩ := info_parts info9
      cases a with
      | none => simp [Builtin.append_, run_underlying Tryz.underlying35, sizeOf, typeInfo, hi, Builtin.lenOf, Builtin.firstCells]
      | some ad =>
        have hl0 := run_loadCells_list (P := Tryz.prog) w ad [] (fun j v hv => by simp at hv)
        rw [List.length_nil] at hl0
        simp [Builtin.append_, run_underlying Tryz.underlying35, sizeOf, typeInfo, hi, Builtin.lenOf, Builtin.firstCells, hl0]
    go_enter Tryz.func39, Tryz.ntmps39
    go_wp2_with (at_builtin; refine appLaw rfl _ _ rfl rfl rfl hrun ?_)
    go_ret
    exact ⟨_, rfl, ⟨none, 0, rfl, Nat.le_refl _, fun h => absurd h (by simp)⟩, Below.refl _ _⟩

set_option maxRecDepth 20000 in
set_option maxHeartbeats 1000000 in
theorem Clone_any (v : Value) (l : List (List UInt8)) (w : World) (B : Nat) (hB : B ≤ w.heap.size) (hl : l.length ≤ 8796093022208) (hv : Ls w B v l) :
    Calls Tryz.prog 145 #[v] w fun e w' => ∃ a' c', e = .returned (.slice a' l.length c') ∧ Ls w' w'.heap.size (.slice a' l.length c') l ∧ Below w.heap.size w w' := by
  have hv' := hv
  obtain ⟨a, c, rfl, hle, hx⟩ := hv'
  have q35 : ∀ (w : World) (a : Option Addr) (n c n' c' : Nat), (binOp .eql 35 (.slice a n c) (.slice none n' c')).run Tryz.prog w = .ok (.bool a.isNone) w := fun w a n c n' c' => Lib.run_eql_slice_nil w _ _ a n c n' c' Tryz.underlying35
  by_cases hp : 0 < l.length
  · obtain ⟨g, o, rfl, hg, hcell⟩ := hx hp
    have hown : (w.alloc (.cells #[] 9)).ownsRow w.heap.size 9 1 (.slice (some ⟨w.heap.size, 0, none⟩) 0 0) 0 [] :=
      ⟨rfl, Or.inr ⟨w.heap.size, 0, #[], rfl, Nat.le_refl _, heap_alloc_new w _, Nat.le_refl _, Nat.zero_le _, rfl, rfl⟩⟩
    have hva := hv.below (((Below.refl w.heap.size w).alloc (Nat.le_refl _) (.cells #[] 9)).mono hB)
    obtain ⟨v', w', hrun, hL, hgr⟩ := append_list (show w.heap.size ≤ (w.alloc (.cells #[] 9)).heap.size by simp) hown hl hva hp 35
    have hb : Below w.heap.size w w' := ((Below.refl w.heap.size w).alloc (Nat.le_refl _) _).grown hgr (by simp) (fun k hk => by simp [Value.ownBlock] at hk; omega)
    obtain ⟨a', c', rfl, hrest⟩ := hL
    have HL : Hid (Ls w' w'.heap.size (.slice a' l.length c') l) := ⟨a', c', rfl, hrest⟩
    clear hl hx hrest hv hva hcell
    go_enter Tryz.func145, Tryz.ntmps145
    go_wp2_with (at_builtin; refine appLaw rfl _ _ rfl rfl rfl hrun ?_)
    go_ret
    exact ⟨_, _, rfl, unhide HL, hb⟩
  · have : l = [] := List.length_eq_zero_iff.1 (by omega)
    subst this
    clear hl hv hx
    cases a with
    | none =>
      go_enter Tryz.func145, Tryz.ntmps145
      go_wp2
      go_ret
      exact ⟨_, _, rfl, ⟨_, _, rfl, Nat.zero_le _, fun h => absurd h (by simp)⟩, Below.refl _ _⟩
    | some ad =>
      have hrun : (Builtin.append_ #[35, 35] 35 #[.slice (some ⟨w.heap.size, 0, none⟩) 0 0, .slice (some ad) 0 c]).run Tryz.prog (w.alloc (.cells #[] 9)) = .ok (.slice (some ⟨w.heap.size, 0, none⟩) 0 0) (w.alloc (.cells #[] 9)) := by
        obtain ⟨i0, hi, hz0, hz1, hz2⟩ := info_parts info9
        have hl0 := run_loadCells_list (P := Tryz.prog) (w.alloc (.cells #[] 9)) ad [] (fun j v hv => by simp at hv)
        rw [List.length_nil] at hl0
        simp [Builtin.append_, run_underlying Tryz.underlying35, sizeOf, typeInfo, hi, Builtin.lenOf, Builtin.firstCells, hl0, storeCells]
      go_enter Tryz.func145, Tryz.ntmps145
      go_wp2_with (at_builtin; refine appLaw rfl _ _ rfl rfl rfl hrun ?_)
      go_ret
      exact ⟨_, _, rfl, ⟨_, _, rfl, Nat.zero_le _, fun h => absurd h (by simp)⟩, (Below.refl _ _).alloc (Nat.le_refl _) _⟩
end Go.Proofs.YtkmkkmdpjliifaaGreatDoor
namespace Go.Proofs.YtkmkkmdpjliifaaGreatDoor
open Go.ChangeShapes Go.WideShapes Go.ChangeAt Go.RowKit

theorem find1_any (y s x : List UInt8) (p : Nat) (w : World) (hp : w.cell? ⟨p, 0, none⟩ = some (.string ⟨x.toArray⟩)) (hl : p < w.heap.size) :
    Calls Tryz.prog 152 #[.agg #[.string ⟨y.toArray⟩, .string ⟨s.toArray⟩], .pointer (some ⟨p, 0, none⟩)] w fun e w' => e = .returned (.bool (y == x)) ∧ Below w.heap.size w w' := by
  have hp2 : ∀ o, (w.alloc o).cell? ⟨p, 0, none⟩ = some (.string ⟨x.toArray⟩) := fun o => (((Below.refl w.heap.size w).alloc (Nat.le_refl _) o).cell (p := ⟨p, 0, none⟩) hl).trans hp
  go_enter Tryz.func152, Tryz.ntmps152
  go_wp2
  go_ret
  exact ⟨rfl, (Below.refl _ _).alloc (Nat.le_refl _) _⟩

/-- what a search for a name tells -/
def Found (ks : List Ky) (x : List UInt8) (r : Int) : Prop :=
  (r = -1 ∧ ∀ j, j < ks.length → (kyName ks j != x) = true) ∨ ∃ k : Nat, r = k ∧ k < ks.length ∧ (kyName ks k == x) = true ∧ ∀ j, j < k → (kyName ks j != x) = true

set_option maxRecDepth 20000 in
set_option maxHeartbeats 1000000 in
theorem IndexFunc_any (v : Value) (ks : List Ky) (x : List UInt8) (p : Nat) (w : World) (B : Nat) (hB : B ≤ w.heap.size) (hl : ks.length ≤ 8796093022208) (hv : Ks w B v ks) (hp : w.cell? ⟨p, 0, none⟩ = some (.string ⟨x.toArray⟩)) (hpl : p < w.heap.size) :
    Calls Tryz.prog 151 #[v, .func (.func 152) #[] #[.pointer (some ⟨p, 0, none⟩)]] w fun e w' => (∃ r, e = .returned (.int .i64 r) ∧ Found ks x r) ∧ Below w.heap.size w w' := by
  obtain ⟨a, c, rfl, hv⟩ := hv
  have HL := hide hl
  have HV := hide hv
  clear hl hv
  go_enter Tryz.func151, Tryz.ntmps151
  go_wp2
  go_loopg [8] ks.length (fun q i wr => ∃ k : Nat, k + q = ks.length ∧ i = .int .i64 (k : Nat) ∧ (∀ j, j < k → (kyName ks j != x) = true) ∧ Below w.heap.size w wr)
  case atStart => exact ⟨0, Nat.zero_add _, rfl, fun j hj => absurd hj (Nat.not_lt_zero _), Below.refl _ _⟩
  case round =>
    obtain ⟨k, hk, rfl, hA, hb⟩ := hrel
    have HA := hide hA
    clear hA
    by_cases hlt : k < ks.length
    · have hw : wrap64 ((k : Int) + 1) = (k : Int) + 1 := w64 _ (by omega) (by have := unhide HL; omega)
      obtain ⟨g, o, rfl, hg, hC⟩ := unhide HV (by omega)
      have hx := (hC k hlt).below (hb.mono hB) hg
      have hc := hx.1
      have hc' := hx.2
      clear hC hx
      have hyy : kyName ks k = (ks.getD k default).name := rfl
      generalize (ks.getD k default).name = y at hc hyy
      generalize (ks.getD k default).secret = s at hc'
      have HY := hide hyy
      clear hyy
      rw [sv_def] at hc hc'
      have hsz := hb.size
      have hp' := (hb.cell (p := ⟨p, 0, none⟩) hpl).trans hp
      generalize hq : (y == x) = b
      have HQ := hide hq
      clear hq
      go_wp2_with (go_at_call 152; refine (find1_any y s x p _ hp' (by omega)).mono ?_; rintro e w1 ⟨rfl, hb1⟩; rw [unhide HQ])
      · rename_i h1
        go_ret
        refine ⟨⟨_, rfl, Or.inr ⟨k, rfl, hlt, ?_, unhide HA⟩⟩, hb.trans (hb1.mono hsz)⟩
        rw [unhide HY, unhide HQ, h1]
      · rename_i h1
        go_roundg (gk - 1)
        case measure => omega
        case rel => exact ⟨k + 1, by omega, by first | exact num1 hw | rfl, nest_more (unhide HA) (unhide HY) ((unhide HQ).trans (by simpa using h1)), hb.trans (hb1.mono hsz)⟩
    · go_wp2
      go_ret
      exact ⟨⟨_, rfl, Or.inl ⟨rfl, fun j hj => unhide HA j (by omega)⟩⟩, hb⟩

theorem find_any (v : Value) (ks : List Ky) (x : List UInt8) (R : Nat) (w : World) (B : Nat) (hB : B ≤ w.heap.size) (hl : ks.length ≤ 8796093022208) (hv : Ks w B v ks) (hR : w.cell? ⟨R, 0, none⟩ = some v) (hRl : R < w.heap.size) :
    Calls Tryz.prog 113 #[.pointer (some ⟨R, 0, none⟩), .string ⟨x.toArray⟩] w fun e w' => (∃ r, e = .returned (.int .i64 r) ∧ Found ks x r) ∧ Below w.heap.size w w' := by
  have hI := IndexFunc_any v ks x w.heap.size (w.alloc (.cells #[.string ⟨x.toArray⟩] 9)) B (by simp; omega) hl (hv.below (((Below.refl w.heap.size w).alloc (Nat.le_refl _) _).mono hB)) (by simp) (by simp)
  obtain ⟨a, c, rfl, _⟩ := hv
  have HI := hide hI
  have hR2 : ∀ o, (w.alloc o).cell? ⟨R, 0, none⟩ = some (.slice a ks.length c) := fun o => (((Below.refl w.heap.size w).alloc (Nat.le_refl _) o).cell (p := ⟨R, 0, none⟩) hRl).trans hR
  clear hI hl
  have hmf : ∀ (fn : Fn) (first cap : Array Value) (w : World), (Instr.makeFunc fn first cap).run Tryz.prog w = .ok (.func fn first cap) w := fun _ _ _ _ => rfl
  go_enter Tryz.func113, Tryz.ntmps113
  go_wp2_with (go_at_call 151; refine (unhide HI).mono ?_; rintro e w1 ⟨⟨r, rfl, hr⟩, hb1⟩)
  go_ret
  exact ⟨⟨_, rfl, hr⟩, ((Below.refl _ _).alloc (Nat.le_refl _) _).trans (hb1.mono (by simp))⟩
end Go.Proofs.YtkmkkmdpjliifaaGreatDoor
namespace Go.Proofs.YtkmkkmdpjliifaaGreatDoor
open Go.ChangeShapes Go.WideShapes Go.ChangeAt Go.RowKit

def kvs (ks : List Ky) : List Value := ks.flatMap fun k => [sv k.name, sv k.secret]
theorem kvs_get : ∀ (ks : List Ky) (i : Nat), i < ks.length → (kvs ks)[i * 2]? = some (sv (ks.getD i default).name) ∧ (kvs ks)[i * 2 + 1]? = some (sv (ks.getD i default).secret)
  | [], i, h => by simp at h
  | x :: ks, 0, _ => ⟨rfl, rfl⟩
  | x :: ks, i + 1, h => by
    have := kvs_get ks i (by simpa using h)
    have e : kvs (x :: ks) = sv x.name :: sv x.secret :: kvs ks := rfl
    rw [e, show (i + 1) * 2 = i * 2 + 1 + 1 by omega]
    simpa [List.getElem?_cons_succ] using this
theorem kvs_length (ks : List Ky) : (kvs ks).length = ks.length * 2 := by
  induction ks with
  | nil => rfl
  | cons x ks ih => show (sv x.name :: sv x.secret :: kvs ks).length = _; simp [ih]; omega
theorem kvs_snoc (ks : List Ky) (k : Nat) (h : k < ks.length) : kvs (ks.take k) ++ [sv (ks.getD k default).name, sv (ks.getD k default).secret] = kvs (ks.take (k + 1)) := by
  rw [List.take_add_one]
  unfold kvs
  rw [List.flatMap_append]
  simp [List.getD, List.getElem?_eq_getElem h]
theorem owns_Ks {w : World} {base : Nat} {v : Value} {ks : List Ky} {n : Nat} (hn : n = ks.length) (h : w.ownsRow base 34 2 v n (kvs ks)) : Ks w w.heap.size v ks := by
  subst hn
  rcases owns_cells h with ⟨rfl, hn⟩ | ⟨g, cap, rfl, hc, hg, hl, hcell⟩
  · exact ⟨none, 0, by rw [hn], fun hp => by omega⟩
  · refine ⟨_, cap, rfl, fun _ => ⟨g, 0, rfl, hl, fun i hi => ?_⟩⟩
    rw [Nat.zero_add]
    exact ⟨hcell _ _ (kvs_get ks i hi).1, hcell _ _ (kvs_get ks i hi).2⟩
theorem info34 : (Tryz.prog.info? 34).map (fun i => (i.zero, i.size, i.bytes)) = some (some (.agg #[.string ⟨#[]⟩, .string ⟨#[]⟩]), 2, 32) := by kernel_rfl
/-- a pair of cells -/
def pr2 (a b : Value) (j : Nat) : Value := if j = 0 then a else b

theorem kyName_take (ks : List Ky) (k j : Nat) (h : j < k) : kyName (ks.take k) j = kyName ks j := by
  unfold kyName
  simp [List.getD, h]
theorem found_ge {ks : List Ky} {k : Nat} {y : List UInt8} {r : Int} (hk : k < ks.length) (h : Found (ks.take k) y r) (hr : 0 ≤ r) : (List.range k).all (fun j => kyName ks j != y) = false := by
  rcases h with ⟨rfl, _⟩ | ⟨m, rfl, hm, he, _⟩
  · omega
  · rw [List.length_take] at hm
    have hmk : m < k := by omega
    refine all_false hmk ?_
    rw [kyName_take ks k m hmk] at he
    simp at he
    simp [he]
theorem found_lt {ks : List Ky} {k : Nat} {y : List UInt8} {r : Int} (hk : k < ks.length) (h : Found (ks.take k) y r) (hr : r < 0) : (List.range k).all (fun j => kyName ks j != y) = true := by
  rcases h with ⟨rfl, hA⟩ | ⟨m, rfl, _⟩
  · refine all_true (fun j hj => ?_)
    have := hA j (by rw [List.length_take]; omega)
    rwa [kyName_take ks k j hj] at this
  · omega
theorem ok_more {ok : Nat → Bool} {k : Nat} (hA : ∀ j, j < k → ok j = true) (h : ok k = true) : ∀ j, j < k + 1 → ok j = true := by
  intro j hj
  by_cases e : j = k
  · rw [e]; exact h
  · exact hA j (by omega)
theorem two_news {w : World} {b : Nat} {x y : Value} (hx : w.cell? ⟨b, 0, none⟩ = some x) (hy : w.cell? ⟨b, 1, none⟩ = some y) : ∀ j u, [x, y][j]? = some u → w.cell? ((⟨b, 0, none⟩ : Addr).add j) = some u := by
  intro j u hu
  rw [add_plain, Nat.zero_add]
  match j with
  | 0 => simp at hu; rw [hx, hu]
  | 1 => simp at hu; rw [hy, hu]
  | j + 2 => simp at hu
theorem two_one {x y : List UInt8} : ∀ u ∈ [Value.string ⟨x.toArray⟩, .string ⟨y.toArray⟩], u.oneCell' = true := by
  intro u hu
  simp at hu
  rcases hu with rfl | rfl <;> rfl

theorem rowGrown {w w' : World} {g n : Nat} {t : TypeId} {f : Nat → Value} {row : Option Nat} (h : Row w g t n f) (hg : w.grownBy w' row) (hne : some g ≠ row) : Row w' g t n f := by
  have hl := h.lt
  obtain ⟨cs, h1, h2, h3⟩ := h
  exact ⟨cs, by rw [hg.block g hl hne]; exact h1, h2, h3⟩
theorem ring_step {w w2 w4 : World} {ks : List Ky} {k g4 c4 : Nat} {vk x y : Value} {ob : Obj} (hsn : kvs (ks.take k) ++ [x, y] = kvs (ks.take (k + 1))) (hs : w.heap.size + 1 ≤ w2.heap.size) (hb : Below w.heap.size w w2)
    (hR : Row w2 w.heap.size 173 2 (pr2 vk (.int .i64 0))) (hlt : ∀ j, vk.ownBlock = some j → w.heap.size + 1 ≤ j)
    (ho : w4.ownsRow (w.heap.size + 1) 34 2 (.slice (some ⟨g4, 0, none⟩) (k + 1) c4) (k + 1) (kvs (ks.take k) ++ [x, y])) (hg : (w2.alloc ob).drew.grownBy w4 vk.ownBlock) :
    Row (w4.setCell ⟨w.heap.size, 0, none⟩ (.slice (some ⟨g4, 0, none⟩) (k + 1) c4)) w.heap.size 173 2 (pr2 (.slice (some ⟨g4, 0, none⟩) (k + 1) c4) (.int .i64 0)) ∧
    (w4.setCell ⟨w.heap.size, 0, none⟩ (.slice (some ⟨g4, 0, none⟩) (k + 1) c4)).ownsRow (w.heap.size + 1) 34 2 (.slice (some ⟨g4, 0, none⟩) (k + 1) c4) (k + 1) (kvs (ks.take (k + 1))) ∧
    w.heap.size + 1 ≤ (w4.setCell ⟨w.heap.size, 0, none⟩ (.slice (some ⟨g4, 0, none⟩) (k + 1) c4)).heap.size ∧ Below w.heap.size w (w4.setCell ⟨w.heap.size, 0, none⟩ (.slice (some ⟨g4, 0, none⟩) (k + 1) c4)) := by
  have hne : some w.heap.size ≠ vk.ownBlock := fun e => by have := hlt _ e.symm; omega
  have hsz := hg.size
  have hs4 : w2.heap.size + 1 ≤ w4.heap.size := by simpa using hsz
  have h1 : Row w4 w.heap.size 173 2 (pr2 vk (.int .i64 0)) := rowGrown ((hR.alloc ob).drew) hg hne
  refine ⟨(h1.set 0 _).congr (fun j hj => ?_), ?_, by simp [World.setCell]; omega, ?_⟩
  · rcases (show j = 0 ∨ j = 1 by omega) with rfl | rfl <;> rfl
  · rw [← hsn]
    exact ownsRow_setCell_below ho (by simp) _
  · refine Below.setCell (Below.grown ((hb.alloc (by omega) ob).drew) hg (by simp; omega) (fun j hj => ?_)) (Nat.le_refl _) _
    have := hlt j hj; omega

set_option maxRecDepth 20000 in
set_option maxHeartbeats 2000000 in
theorem NewRing_any (v : Value) (ks : List Ky) (w : World) (B : Nat) (hB : B ≤ w.heap.size) (hl : ks.length ≤ 8796093022208) (hF : KFits ks) (hv : Ks w B v ks) :
    Calls Tryz.prog 79 #[v] w fun e w' => Below w.heap.size w w' ∧
      ((keysB ks = false ∧ e = .returned (.tuple #[.pointer none, .int .i64 1])) ∨
       (keysB ks = true ∧ ∃ R vk, e = .returned (.tuple #[.pointer (some ⟨R, 0, none⟩), .int .i64 0]) ∧ w.heap.size ≤ R ∧ Row w' R 173 2 (pr2 vk (.int .i64 0)) ∧ w'.ownsRow (R + 1) 34 2 vk ks.length (kvs ks))) := by
  obtain ⟨a, c, rfl, hv⟩ := hv
  have HL := hide hl
  have HV := hide hv
  have HF := hide hF
  clear hl hv hF
  by_cases hn : 1 ≤ ks.length ∧ ks.length ≤ 8
  · obtain ⟨hn1, hn8⟩ := hn
    have p1 : ¬ (ks.length : Int) < 1 := by omega
    have p8 : ¬ (8 : Int) < (ks.length : Int) := by omega
    go_enter Tryz.func79, Tryz.ntmps79
    go_wp2
    go_loopg [19] ks.length (fun q i wr => ∃ (k : Nat) (vk : Value), k + q = ks.length ∧ i = .int .i64 (k : Nat) ∧ (∀ j, j < k → kyOk ks j = true) ∧ Row wr w.heap.size 173 2 (pr2 vk (.int .i64 0)) ∧
      wr.ownsRow (w.heap.size + 1) 34 2 vk k (kvs (ks.take k)) ∧ w.heap.size + 1 ≤ wr.heap.size ∧ Below w.heap.size w wr)
    case atStart =>
      refine ⟨0, .slice none 0 0, Nat.zero_add _, rfl, fun j hj => absurd hj (Nat.not_lt_zero _), Row.new w 173 _ _ 2 rfl (fun j hj => by rcases (show j = 0 ∨ j = 1 by omega) with rfl | rfl <;> rfl), World.ownsRow_nil _ _ _ _, by simp, (Below.refl _ _).alloc (Nat.le_refl _) _⟩
    case round =>
      obtain ⟨k, vk, hk, rfl, hA, hR, hown, hZ, hb⟩ := hrel
      have HA := hide hA
      clear hA
      by_cases hlt : k < ks.length
      · have hw : wrap64 ((k : Int) + 1) = (k : Int) + 1 := w64 _ (by omega) (by omega)
        obtain ⟨g, o, rfl, hg, hC⟩ := unhide HV (by omega)
        have hx := (hC k hlt).below (hb.mono hB) hg
        have hc := hx.1
        have hc' := hx.2
        clear hC hx
        have hok : kyOk ks k = ((plainB (ks.getD k default).name && decide ((ks.getD k default).secret.length ≤ 64)) && (List.range k).all (fun j => kyName ks j != (ks.getD k default).name)) := rfl
        have hfit := unhide HF k hlt
        have hsn := kvs_snoc ks k hlt
        generalize hy : (ks.getD k default).name = y at hc hok hfit hsn
        generalize hs : (ks.getD k default).secret = s at hc' hok hfit hsn
        have HO := hide hok
        have HFt := hide hfit
        have HSN := hide hsn
        clear hok hy hfit hs hsn
        rw [sv_def] at hc hc'
        generalize hn : plainB y = b1 at HO
        have HN := hide hn
        clear hn
        have hkl : (k : Int) < ks.length := by omega
        have HR := hide hR
        have HOW := hide hown
        clear hR hown
        have hRa : Row (wr.alloc (.cells #[.string ⟨y.toArray⟩, .string ⟨s.toArray⟩] 34)) w.heap.size 173 2 (pr2 vk (.int .i64 0)) := (unhide HR).alloc _
        have hKa : Ks (wr.alloc (.cells #[.string ⟨y.toArray⟩, .string ⟨s.toArray⟩] 34)) wr.heap.size vk (ks.take k) := (owns_Ks (by rw [List.length_take]; omega) (unhide HOW)).below ((Below.refl wr.heap.size wr).alloc (Nat.le_refl _) _)
        have hba : Below w.heap.size w (wr.alloc (.cells #[.string ⟨y.toArray⟩, .string ⟨s.toArray⟩] 34)) := hb.alloc (by omega) _
        have HRa := hide hRa
        have HKa := hide hKa
        have hca : (wr.alloc (.cells #[.string ⟨y.toArray⟩, .string ⟨s.toArray⟩] 34)).heap.size = wr.heap.size + 1 := by simp
        clear hRa hKa
        go_wp2_with (first
          | (go_at_call 112; refine (IsPlain_any y _ (unhide HFt).1).mono ?_; rintro e w1 ⟨rfl, rfl⟩; rw [unhide HN])
          | (go_at_call 113; refine (find_any vk (ks.take k) y w.heap.size _ wr.heap.size (by simp) (by rw [List.length_take]; omega) (unhide HKa) ((unhide HRa).cell (j := 0) (by omega)) (by simp; omega)).mono ?_; rintro e w2 ⟨⟨r, rfl, hr⟩, hb2⟩))
        · rename_i q1 q2 q3
          go_ret2
          refine ⟨hba.trans (hb2.mono (by simp; omega)), Or.inl ⟨keysB_bad (all_false hlt ?_), rfl⟩⟩
          rw [unhide HO, found_ge hlt hr (by omega)]; simp
        · rename_i q1 q2 q3
          have hokk : kyOk ks k = true := by rw [unhide HO, found_lt hlt hr q3.2, q1, decide_eq_true (p := s.length ≤ 64) (by omega)]; rfl
          have hs2 := hb2.size
          rw [hca] at hs2
          have hR2 := (unhide HRa).below hb2 (by rw [hca]; omega)
          have ho2 := ownsRow_below ((unhide HOW).alloc (.cells #[.string ⟨y.toArray⟩, .string ⟨s.toArray⟩] 34)) hb2 (Nat.le_refl _)
          have hl0 : w2.cell? ⟨wr.heap.size, 0, none⟩ = some (.string ⟨y.toArray⟩) := (hb2.cell (p := ⟨wr.heap.size, 0, none⟩) (by show wr.heap.size < _; rw [hca]; omega)).trans (by simp)
          have hl1 : w2.cell? ⟨wr.heap.size, 1, none⟩ = some (.string ⟨s.toArray⟩) := (hb2.cell (p := ⟨wr.heap.size, 1, none⟩) (by show wr.heap.size < _; rw [hca]; omega)).trans (by simp)
          have hb2' := hba.trans (hb2.mono (by rw [hca]; omega))
          have hr0 : w2.cell? ⟨w.heap.size, 0, none⟩ = some vk := hR2.cell (j := 0) (by omega)
          have hz0 := hR2.frozen 0
          obtain ⟨i0, hi, iz0, iz1, iz2⟩ := info_parts info34
          have HI := hide hi
          have HI0 := hide iz0
          have HI1 := hide iz1
          have HI2 := hide iz2
          have hne : some w.heap.size ≠ vk.ownBlock := fun e => by have := ho2.lt _ e.symm; omega
          have hr0a : ∀ ob, (w2.alloc ob).cell? ⟨w.heap.size, 0, none⟩ = some vk := fun ob => (hR2.alloc ob).cell (j := 0) (by omega)
          have hz0a : ∀ ob, (w2.alloc ob).frozen? ⟨w.heap.size, 0, none⟩ = false := fun ob => (hR2.alloc ob).frozen 0
          have HR0 := hide hr0a
          have HZ0 := hide hz0a
          have HNE := hide hne
          have HO2 := hide ho2
          have HR2 := hide hR2
          clear hne hz0a
          clear hr hb2 hca hi iz0 iz1 iz2 ho2 hR2 hba HRa HKa q3
          go_region_law (refine step_append_lies _ rfl _ _ 22 rfl (w.heap.size + 1) 34 i0 _ 2 32 Tryz.underlying22 (unhide HI) (unhide HI0) (unhide HI1) (unhide HI2) rfl (by decide) vk k (kvs (ks.take k)) rfl (by first | exact ((unhide HO2).alloc _).drew | exact (unhide HO2).drew.alloc _) ⟨w2.heap.size, 0, none⟩ 1 1 [.string ⟨y.toArray⟩, .string ⟨s.toArray⟩] rfl rfl (two_news (by simp) (by simp)) two_one (by decide) (by unfold maxLen; omega) (by omega) (by simp; omega) _ rfl ?_; intro g4 c4 w4 ho4 hg4 hat4 hlt4; have r4 := (hg4.cell_far ⟨w.heap.size, 0, none⟩ (by simp; omega) (unhide HNE)).trans (unhide HR0 _); have z4 := (hg4.frozen_far ⟨w.heap.size, 0, none⟩ (by simp; omega) (unhide HNE)).trans (unhide HZ0 _))
          all_goals
            go_wp2
            go_roundg (gk - 1)
            case measure => omega
            case rel => exact ⟨k + 1, _, by omega, by first | exact num1 hw | rfl, ok_more (unhide HA) hokk, ring_step (unhide HSN) (by omega) hb2' (unhide HR2) (fun j hj => ((unhide HO2).lt j hj).1) ho4 hg4⟩
        · rename_i q1 q2
          go_ret2
          refine ⟨hba, Or.inl ⟨keysB_bad (all_false hlt ?_), rfl⟩⟩
          rw [unhide HO, decide_eq_false (p := s.length ≤ 64) (by omega)]; simp
        · rename_i q1
          go_ret2
          refine ⟨hba, Or.inl ⟨keysB_bad (all_false hlt ?_), rfl⟩⟩
          rw [unhide HO, Bool.eq_false_iff.2 q1]; simp
      · go_wp2
        go_ret2
        have hkk : k = ks.length := by omega
        subst hkk
        rw [List.take_length] at hown
        refine ⟨hb, Or.inr ⟨?_, w.heap.size, vk, rfl, Nat.le_refl _, hR, hown⟩⟩
        unfold keysB
        rw [all_true (unhide HA), decide_eq_true hn1, decide_eq_true hn8]; rfl
  · have hbad : keysB ks = false := by
      unfold keysB
      by_cases h1 : 1 ≤ ks.length
      · rw [decide_eq_false (p := ks.length ≤ 8) (by omega)]; simp
      · rw [decide_eq_false (p := 1 ≤ ks.length) h1]; simp
    have HB := hide hbad
    clear hbad
    go_enter Tryz.func79, Tryz.ntmps79
    by_cases h1 : 1 ≤ ks.length
    · have p1 : ¬ (ks.length : Int) < 1 := by omega
      have p8 : (8 : Int) < (ks.length : Int) := by omega
      go_wp2
      go_ret2
      exact ⟨Below.refl _ _, Or.inl ⟨unhide HB, rfl⟩⟩
    · have p1 : (ks.length : Int) < 1 := by omega
      go_wp2
      go_ret2
      exact ⟨Below.refl _ _, Or.inl ⟨unhide HB, rfl⟩⟩
end Go.Proofs.YtkmkkmdpjliifaaGreatDoor
namespace Go.Proofs.YtkmkkmdpjliifaaGreatDoor
open Go.ChangeShapes Go.WideShapes Go.ChangeAt Go.RowKit

/-- Blocks from lo up to hi alone may have turned. -/
structure Bet (lo hi : Nat) (w w' : World) : Prop where
  os : w'.os = w.os
  tape : w'.tape = w.tape
  output : w'.output = w.output
  size : w'.heap.size = w.heap.size
  block : ∀ k, k < lo ∨ hi ≤ k → w'.heap[k]? = w.heap[k]?
theorem Bet.refl (lo hi : Nat) (w : World) : Bet lo hi w w := ⟨rfl, rfl, rfl, rfl, fun _ _ => rfl⟩
theorem Bet.trans {lo hi : Nat} {a b c : World} (h : Bet lo hi a b) (k : Bet lo hi b c) : Bet lo hi a c := ⟨k.os.trans h.os, k.tape.trans h.tape, k.output.trans h.output, k.size.trans h.size, fun i hi => (k.block i hi).trans (h.block i hi)⟩
theorem Bet.drew {lo hi : Nat} {a w : World} (h : Bet lo hi a w) : Bet lo hi a w.drew := ⟨h.os, h.tape, h.output, h.size, h.block⟩
theorem Bet.drewN {lo hi : Nat} {a w : World} (h : Bet lo hi a w) (n : Nat) : Bet lo hi a (w.drewN n) := ⟨h.os, h.tape, h.output, h.size, h.block⟩
theorem But.bet {g lo hi : Nat} {w w' : World} (h : But g w w') (h1 : lo ≤ g) (h2 : g < hi) : Bet lo hi w w' := ⟨h.os, h.tape, h.output, h.size, fun k hk => h.block k (by omega)⟩
theorem Bet.below {lo hi B : Nat} {w w' : World} (h : Bet lo hi w w') (hB : B ≤ lo) : Below B w w' := ⟨h.os, h.tape, h.output, by rw [h.size]; exact Nat.le_refl _, fun k hk => h.block k (by omega)⟩
theorem Bet.set5 {lo hi g p : Nat} {a w : World} {v0 v1 v2 v3 v4 : Value} (h : Bet lo hi a w) (h1 : lo ≤ g) (h2 : g < hi) : Bet lo hi a (set5 w g p v0 v1 v2 v3 v4) :=
  h.trans (((((((But.refl g w).setCell p v0).setCell (p + 1) v1).setCell (p + 2) v2).setCell (p + 3) v3).setCell (p + 4) v4).bet h1 h2)

/-- a client that the caller wrote over -/
def spF (f : Nat) : Value := if f = 0 then sv spoiltL else c0 f
theorem spF_step (F : Nat → Nat → Value) (k j : Nat) :
    (if j = k * 5 + 4 then .slice none 0 0 else if j = k * 5 + 3 then .slice none 0 0 else if j = k * 5 + 2 then .slice none 0 0 else if j = k * 5 + 1 then .string ⟨#[]⟩ else if j = k * 5 then .string ⟨#[115, 112, 111, 105, 108, 116]⟩
     else if j / 5 < k then spF (j % 5) else F (j / 5) (j % 5)) = if j / 5 < k + 1 then spF (j % 5) else F (j / 5) (j % 5) := by
  by_cases h : j / 5 = k
  · obtain ⟨h1, h2⟩ := mod5 h
    rw [h]
    generalize j % 5 = f at *
    subst h1
    rw [if_pos (show k < k + 1 by omega), if_neg (show ¬ k < k by omega)]
    rcases (show f = 0 ∨ f = 1 ∨ f = 2 ∨ f = 3 ∨ f = 4 by omega) with rfl | rfl | rfl | rfl | rfl
    all_goals simp [spF, sv, c0, spoiltL]
  · have hj : ∀ f, f < 5 → ¬ j = k * 5 + f := fun f hf => by omega
    rw [if_neg (hj 4 (by omega)), if_neg (hj 3 (by omega)), if_neg (hj 2 (by omega)), if_neg (hj 1 (by omega)), if_neg (by have := hj 0 (by omega); simpa using this)]
    have e : (j / 5 < k + 1) ↔ j / 5 < k := by omega
    simp only [e]
theorem ListsAt.but {w w' : World} {G i b : Nat} {x : Cl} (h : ListsAt w G i x) (hb : But b w w') (h1 : b ≠ G + 1 + 3 * i) (h2 : b ≠ G + 2 + 3 * i) (h3 : b ≠ G + 3 + 3 * i) : ListsAt w' G i x :=
  ⟨h.1.but hb (Ne.symm h1), h.2.1.but hb (Ne.symm h2), h.2.2.but hb (Ne.symm h3)⟩
theorem ListsAt.drewN {w : World} {G i : Nat} {x : Cl} (h : ListsAt w G i x) (n : Nat) : ListsAt (w.drewN n) G i x := h
theorem stay_lists {G k p nq : Nat} {wr w1 w2 w3 : World} {cs : List Cl} {v0 v1 v2 v3 v4 : Value} (hb1 : But (G + 1 + 3 * k) wr.drew w1) (hb2 : But (G + 2 + 3 * k) w1.drew w2) (hb3 : But (G + 3 + 3 * k) w2.drew w3)
    (hLs : ∀ i, k ≤ i → i < cs.length → ListsAt wr G i (cs.getD i default)) : ∀ i, k + 1 ≤ i → i < cs.length → ListsAt (set5 (w3.drewN nq) G p v0 v1 v2 v3 v4) G i (cs.getD i default) := by
  intro i hi hn
  obtain ⟨q1, q2, q3⟩ := ((((((hLs i (by omega) hn).drew.but hb1 (by omega) (by omega) (by omega)).drew.but hb2 (by omega) (by omega) (by omega)).drew.but hb3 (by omega) (by omega) (by omega))).drewN nq)
  exact ⟨q1.set5 (by omega), q2.set5 (by omega), q3.set5 (by omega)⟩

set_option maxRecDepth 20000 in
set_option maxHeartbeats 2000000 in
theorem clientsStay_any (v : Value) (cs : List Cl) (w : World) (B G : Nat) (hB : B ≤ G) (hn : cs.length ≤ 1353245080301) (hs : ∀ i, i < cs.length → Small (cs.getD i default)) (hv : Cs w B v cs)
    (hR : Row w G 37 (5 * (cs.length + 4)) (fun j => clF G cs cs.length (cs.length + 4) (j / 5) (j % 5))) (hLs : ∀ i, i < cs.length → ListsAt w G i (cs.getD i default)) :
    Calls Tryz.prog 42 #[.slice (some ⟨G, 0, none⟩) cs.length (cs.length + 4), v] w fun e w' => e = .returned (.bool true) ∧ Bet G (G + 1 + 3 * cs.length) w w' := by
  obtain ⟨a, c, rfl, hv⟩ := hv
  have HL := hide hn
  have HS := hide hs
  have hadd : wrap64 ((cs.length : Int) + 4) = (cs.length : Int) + 4 := w64 _ (by omega) (by omega)
  have HV := hide hv
  have HLs := hide hLs
  clear hn hs hv hLs
  go_enter Tryz.func42, Tryz.ntmps42
  go_wp2
  go_loopg [6, 7] (cs.length + 4) (fun q b i wr => ∃ k : Nat, k + q = cs.length + 4 ∧ b = .bool true ∧ i = .int .i64 (k : Nat) ∧
    Row wr G 37 (5 * (cs.length + 4)) (fun j => if j / 5 < k then spF (j % 5) else clF G cs cs.length (cs.length + 4) (j / 5) (j % 5)) ∧
    (∀ i, k ≤ i → i < cs.length → ListsAt wr G i (cs.getD i default)) ∧ Bet G (G + 1 + 3 * cs.length) w wr)
  case atStart =>
    exact ⟨0, Nat.zero_add _, rfl, rfl, hR.congr (fun j hj => by rw [if_neg (Nat.not_lt_zero _)]), fun i _ hi => unhide HLs i hi, Bet.refl _ _ _⟩
  case round =>
    clear hR HLs hadd
    obtain ⟨k, hk, rfl, rfl, hR, hLs, hb⟩ := hrel
    have hw : wrap64 ((k : Int) + 1) = (k : Int) + 1 := w64 _ (by omega) (by have := unhide HL; omega)
    by_cases hlt : k < cs.length + 4
    · have hcell : ∀ f, f < 5 → wr.cell? ⟨G, k * 5 + f, none⟩ = some (clF G cs cs.length (cs.length + 4) k f) := fun f hf => by
        rw [hR.cell (j := k * 5 + f) (by omega), if_neg (by omega), show (k * 5 + f) / 5 = k by omega, show (k * 5 + f) % 5 = f by omega]
      have c0 := hcell 0 (by omega)
      have c1 := hcell 1 (by omega)
      have c2 := hcell 2 (by omega)
      have c3 := hcell 3 (by omega)
      have c4 := hcell 4 (by omega)
      rw [Nat.add_zero] at c0
      have z0 := hR.frozen (k * 5)
      have z1 := hR.frozen (k * 5 + 1)
      have z2 := hR.frozen (k * 5 + 2)
      have z3 := hR.frozen (k * 5 + 3)
      have z4 := hR.frozen (k * 5 + 4)
      clear hcell
      have HR := hide hR
      have HLL := hide hLs
      clear hR hLs
      by_cases h1 : k < cs.length
      · obtain ⟨g, o, rfl, hg, hC⟩ := unhide HV (by omega)
        have hx := hC k h1
        obtain ⟨hS2, hS3, hS4⟩ := unhide HS k h1
        obtain ⟨hr1, hr2, hr3⟩ := unhide HLL k (Nat.le_refl _) h1
        unfold clF at c0 c1 c2 c3 c4
        rw [if_pos h1] at c0 c1 c2 c3 c4
        simp only [if_true, if_false, Nat.one_ne_zero, show ¬ (2 : Nat) = 0 by omega, show ¬ (2 : Nat) = 1 by omega, show ¬ (3 : Nat) = 0 by omega, show ¬ (3 : Nat) = 1 by omega, show ¬ (3 : Nat) = 2 by omega, show ¬ (4 : Nat) = 0 by omega, show ¬ (4 : Nat) = 1 by omega, show ¬ (4 : Nat) = 2 by omega, show ¬ (4 : Nat) = 3 by omega] at c0 c1 c2 c3 c4
        generalize hxx : cs.getD k default = x at hx hS2 hS3 hS4 hr1 hr2 hr3 c0 c1 c2 c3 c4
        have HX := hide hxx
        have H2 := hide hS2
        have H3 := hide hS3
        have H4 := hide hS4
        clear hC hxx hS2 hS3 hS4
        obtain ⟨h0, h1', ⟨a2, e2, h2, k2⟩, ⟨a3, e3, h3, k3⟩, a4, e4, h4, k4⟩ := hx.below (hb.below hB) hg
        clear hx
        rw [sv_def] at h0 h1' c0 c1
        go_wp2_with fail
        go_region_held3 (fun w' => w'.cell? ⟨G, k * 5 + 2, none⟩ = some (.slice (some ⟨G + 1 + 3 * k, 0, none⟩) x.sc.length (x.sc.length + 4)) ∧ w'.cell? ⟨g, o + k * 5 + 2, none⟩ = some (.slice a2 x.sc.length e2)) (go_keep)
          (first | (go_at_call 81; refine (stays_any _ x.sc _ B (G + 1 + 3 * k) (by omega) (unhide H2) k2.drew hr1.drew).mono ?_; rintro e w1 ⟨rfl, hR1, hb1⟩; have u1 := (hb1.cell (a := ⟨G, k * 5 + 2, none⟩) (by show G ≠ _; omega)).trans c2; have u2 := (hb1.cell (a := ⟨g, o + k * 5 + 2, none⟩) (by show g ≠ _; omega)).trans h2))
        have t1 : ∀ (q b : Nat), (b = G ∨ b = g) → w1.cell? ⟨b, q, none⟩ = wr.cell? ⟨b, q, none⟩ := fun q b hbb => hb1.cell (a := ⟨b, q, none⟩) (by show b ≠ _; omega)
        have c0 := (t1 _ G (Or.inl rfl)).trans c0
        have c1 := (t1 _ G (Or.inl rfl)).trans c1
        have c3 := (t1 _ G (Or.inl rfl)).trans c3
        have c4 := (t1 _ G (Or.inl rfl)).trans c4
        have h0 := (t1 _ g (Or.inr rfl)).trans h0
        have h1' := (t1 _ g (Or.inr rfl)).trans h1'
        have h3 := (t1 _ g (Or.inr rfl)).trans h3
        have h4 := (t1 _ g (Or.inr rfl)).trans h4
        have k3 := k3.drew.below (hb1.below (B := B) (by omega))
        have k4 := k4.drew.below (hb1.below (B := B) (by omega))
        have hr2 := hr2.drew.but hb1 (by omega)
        have hr3 := hr3.drew.but hb1 (by omega)
        clear k2 h2 c2 u1 u2 hR1 t1 hr1
        go_wp2_with fail
        go_region_held3 (fun w' => w'.cell? ⟨G, k * 5 + 3, none⟩ = some (.slice (some ⟨G + 2 + 3 * k, 0, none⟩) x.tg.length (x.tg.length + 4)) ∧ w'.cell? ⟨g, o + k * 5 + 3, none⟩ = some (.slice a3 x.tg.length e3)) (go_keep)
          (first | (go_at_call 81; refine (stays_any _ x.tg _ B (G + 2 + 3 * k) (by omega) (unhide H3) k3.drew hr2.drew).mono ?_; rintro e w2 ⟨rfl, hR2, hb2⟩; have u1 := (hb2.cell (a := ⟨G, k * 5 + 3, none⟩) (by show G ≠ _; omega)).trans c3; have u2 := (hb2.cell (a := ⟨g, o + k * 5 + 3, none⟩) (by show g ≠ _; omega)).trans h3))
        have t1 : ∀ (q b : Nat), (b = G ∨ b = g) → w2.cell? ⟨b, q, none⟩ = w1.cell? ⟨b, q, none⟩ := fun q b hbb => hb2.cell (a := ⟨b, q, none⟩) (by show b ≠ _; omega)
        have c0 := (t1 _ G (Or.inl rfl)).trans c0
        have c1 := (t1 _ G (Or.inl rfl)).trans c1
        have c4 := (t1 _ G (Or.inl rfl)).trans c4
        have h0 := (t1 _ g (Or.inr rfl)).trans h0
        have h1' := (t1 _ g (Or.inr rfl)).trans h1'
        have h4 := (t1 _ g (Or.inr rfl)).trans h4
        have k4 := k4.drew.below (hb2.below (B := B) (by omega))
        have hr3 := hr3.drew.but hb2 (by omega)
        clear k3 h3 c3 u1 u2 hR2 t1 hr2
        go_wp2_with fail
        go_region_held3 (fun w' => w'.cell? ⟨G, k * 5 + 4, none⟩ = some (.slice (some ⟨G + 3 + 3 * k, 0, none⟩) x.ac.length (x.ac.length + 4)) ∧ w'.cell? ⟨g, o + k * 5 + 4, none⟩ = some (.slice a4 x.ac.length e4)) (go_keep)
          (first | (go_at_call 81; refine (stays_any _ x.ac _ B (G + 3 + 3 * k) (by omega) (unhide H4) k4.drew hr3.drew).mono ?_; rintro e w3 ⟨rfl, hR3, hb3⟩; have u1 := (hb3.cell (a := ⟨G, k * 5 + 4, none⟩) (by show G ≠ _; omega)).trans c4; have u2 := (hb3.cell (a := ⟨g, o + k * 5 + 4, none⟩) (by show g ≠ _; omega)).trans h4))
        have t1 : ∀ (q b : Nat), (b = G ∨ b = g) → w3.cell? ⟨b, q, none⟩ = w2.cell? ⟨b, q, none⟩ := fun q b hbb => hb3.cell (a := ⟨b, q, none⟩) (by show b ≠ _; omega)
        have c0 := (t1 _ G (Or.inl rfl)).trans c0
        have c1 := (t1 _ G (Or.inl rfl)).trans c1
        have h0 := (t1 _ g (Or.inr rfl)).trans h0
        have h1' := (t1 _ g (Or.inr rfl)).trans h1'
        clear k4 h4 c4 u1 u2 hR3 t1 hr3
        have hRo := (((unhide HR).drew.but hb1 (by omega)).drew.but hb2 (by omega)).drew.but hb3 (by omega)
        have c2 := hRo.cell (j := k * 5 + 2) (by omega)
        have c3 := hRo.cell (j := k * 5 + 3) (by omega)
        have c4 := hRo.cell (j := k * 5 + 4) (by omega)
        have z0 := hRo.frozen (k * 5)
        have z1 := hRo.frozen (k * 5 + 1)
        have z2 := hRo.frozen (k * 5 + 2)
        have z3 := hRo.frozen (k * 5 + 3)
        have z4 := hRo.frozen (k * 5 + 4)
        generalize x.name = xn at c0 h0
        generalize x.secret = xs at c1 h1'
        have HRo := hide hRo
        clear hRo
        go_wp2_with fail
        go_quiet (fail)
        go_wp2
        go_roundg (gk - 1)
        case measure => omega
        case rel =>
          refine ⟨k + 1, by omega, rfl, by go_num, ?_, ?_, ?_⟩
          · exact (((((((unhide HRo).drewN nq).set (k * 5) _).set (k * 5 + 1) _).set (k * 5 + 2) _).set (k * 5 + 3) _).set (k * 5 + 4) _).congr (fun j hj => spF_step (clF G cs cs.length (cs.length + 4)) k j)
          · exact stay_lists hb1 hb2 hb3 (unhide HLL)
          · exact Bet.set5 (((((hb.drew.trans (hb1.bet (by omega) (by omega))).drew.trans (hb2.bet (by omega) (by omega))).drew.trans (hb3.bet (by omega) (by omega)))).drewN nq) (Nat.le_refl _) (by omega)
      · unfold clF at c0 c1 c2 c3 c4
        rw [if_neg h1] at c0 c1 c2 c3 c4
        rw [if_pos ⟨hlt, rfl⟩] at c0
        simp only [Go.Proofs.YtkmkkmdpjliifaaGreatDoor.c0, Nat.one_ne_zero, and_false, if_false, show ¬ (2 : Nat) = 0 by omega, show ¬ (3 : Nat) = 0 by omega, show ¬ (4 : Nat) = 0 by omega, show (1 : Nat) < 2 by omega, show ¬ (2 : Nat) < 2 by omega, show ¬ (3 : Nat) < 2 by omega, show ¬ (4 : Nat) < 2 by omega, if_true] at c1 c2 c3 c4
        rw [sv_def] at c0 c1
        unfold beyondL at c0
        go_wp2
        go_roundg (gk - 1)
        case measure => omega
        case rel =>
          refine ⟨k + 1, by omega, rfl, by go_num, ?_, ?_, ?_⟩
          · exact ((((((unhide HR).set (k * 5) _).set (k * 5 + 1) _).set (k * 5 + 2) _).set (k * 5 + 3) _).set (k * 5 + 4) _).congr (fun j hj => spF_step (clF G cs cs.length (cs.length + 4)) k j)
          · intro i hi1 hi2
            omega
          · exact Bet.set5 hb (Nat.le_refl _) (by omega)
    · go_wp2
      go_ret
      exact ⟨rfl, hb⟩
end Go.Proofs.YtkmkkmdpjliifaaGreatDoor
