import Derived.Test.YtkmkkmdpjliifaaGreatDoorExF
import Derived.Test.YtkmkkmdpjliifaaGreatDoorUxE
import Derived.Test.YtkmkkmdpjliifaaGreatDoorExE
import Derived.Test.YtkmkkmdpjliifaaGreatDoorSvT
namespace Go.Proofs.YtkmkkmdpjliifaaGreatDoor
open Go.ChangeShapes Go.WideShapes Go.ChangeAt Go.RowKit

/-- a list is one: few names, each a name, none twice -/
theorem listB_iff (l : List (List UInt8)) : listB l = true ↔ l.length ≤ 6 ∧ (∀ x ∈ l, nameN x = true) ∧ l.Nodup := by
  unfold listB
  rw [Bool.and_eq_true, decide_eq_true_eq, List.all_eq_true]
  constructor
  · rintro ⟨h1, h2⟩
    have h3 : ∀ i (hi : i < l.length), nameN l[i] = true ∧ ∀ k (hk : k < i), l[k] ≠ l[i] := by
      intro i hi
      have h := h2 i (List.mem_range.2 hi)
      unfold okAt at h
      rw [Bool.and_eq_true, List.all_eq_true] at h
      have e : l.getD i [] = l[i] := by rw [List.getD_eq_getElem?_getD, List.getElem?_eq_getElem hi]; rfl
      rw [e] at h
      refine ⟨h.1, fun k hk => ?_⟩
      have h4 := h.2 k (List.mem_range.2 hk)
      have e2 : l.getD k [] = l[k] := by rw [List.getD_eq_getElem?_getD, List.getElem?_eq_getElem (by omega)]; rfl
      rw [e2] at h4
      simpa using h4
    refine ⟨h1, fun x hx => ?_, ?_⟩
    · obtain ⟨i, hi, rfl⟩ := List.mem_iff_getElem.1 hx
      exact (h3 i hi).1
    · rw [List.Nodup, List.pairwise_iff_getElem]
      intro a b ha hb hab
      exact (h3 b hb).2 a hab
  · rintro ⟨h1, h2, h3⟩
    rw [List.Nodup, List.pairwise_iff_getElem] at h3
    refine ⟨h1, fun i hi => ?_⟩
    have hi' := List.mem_range.1 hi
    unfold okAt
    have e : l.getD i [] = l[i] := by rw [List.getD_eq_getElem?_getD, List.getElem?_eq_getElem hi']; rfl
    rw [Bool.and_eq_true, List.all_eq_true, e]
    refine ⟨h2 _ (List.getElem_mem hi'), fun k hk => ?_⟩
    have hk' := List.mem_range.1 hk
    have e2 : l.getD k [] = l[k] := by rw [List.getD_eq_getElem?_getD, List.getElem?_eq_getElem (by omega)]; rfl
    rw [e2]
    simpa using h3 k i (by omega) hi' hk'
theorem listB_filter {l : List (List UInt8)} (h : listB l = true) (p : List UInt8 → Bool) : listB (l.filter p) = true := by
  rw [listB_iff] at h ⊢
  exact ⟨Nat.le_trans (List.length_filter_le _ _) h.1, fun x hx => h.2.1 x (List.mem_filter.1 hx).1, h.2.2.sublist List.filter_sublist⟩
theorem chooseL_list {all told L : List (List UInt8)} (h1 : listB all = true) (h2 : listB told = true) : listB (chooseL all told L) = true := by
  unfold chooseL
  split
  · exact listB_filter h1 _
  · split
    · exact h2
    · rfl
/-- what exchange answers besides the token -/
def exE (ks : List Ky) (cs : List Cl) (G : List Gt) (now m i : Nat) (actor : List UInt8) (t1 t2 : List (List UInt8)) (life : Int) : Int :=
  if (actS ks cs G now m i actor).2 ≠ 0 then (actS ks cs G now m i actor).2
  else if (narrowS (G.getD i default).c.z (cs.getD m default) t1 t2).2 ≠ 0 then (narrowS (G.getD i default).c.z (cs.getD m default) t1 t2).2
  else if roomE now life G.length ≠ 0 then roomE now life G.length
  else if listB ((actS ks cs G now m i actor).1 ++ (G.getD i default).c.act) = false then 11 else 0
/-- the claims of the token that is given -/
def exC (ks : List Ky) (cs : List Cl) (G : List Gt) (now m i : Nat) (actor : List UInt8) (t1 t2 : List (List UInt8)) (life : Int) : Cm :=
  ⟨(G.getD i default).c.id, (G.getD i default).c.sub, chooseL (G.getD i default).c.scp t1 (cs.getD m default).sc, chooseL (G.getD i default).c.aud t2 (cs.getD m default).tg, (actS ks cs G now m i actor).1 ++ (G.getD i default).c.act, min (G.getD i default).c.exp (now + life.toNat)⟩
theorem narrowS_ok {c : Cz} {x : Cl} {t1 t2 : List (List UInt8)} (h : (narrowS c x t1 t2).2 = 0) : (narrowS c x t1 t2).1 = { c with scp := chooseL c.scp t1 x.sc, aud := chooseL c.aud t2 x.tg } ∧ listB t1 = true ∧ listB t2 = true := by
  unfold narrowS at h ⊢
  cases h1 : listB t1 <;> cases h2 : listB t2 <;> rw [h1, h2] at h
  · cases h
  · cases h
  · cases h
  · rw [if_neg (by decide)] at h ⊢
    split at h
    · cases h
    · rename_i h3
      rw [if_neg h3]
      split at h
      · cases h
      · rename_i h4
        rw [if_neg h4]
        exact ⟨rfl, rfl, rfl⟩
theorem actS_len (ks : List Ky) (cs : List Cl) (G : List Gt) (now m i : Nat) (actor : List UInt8) : (actS ks cs G now m i actor).1.length ≤ 1 := by
  unfold actS
  split
  · split <;> simp
  · split
    · simp
    · split <;> simp
end Go.Proofs.YtkmkkmdpjliifaaGreatDoor
namespace Go.Proofs.YtkmkkmdpjliifaaGreatDoor
open Go.ChangeShapes Go.WideShapes Go.ChangeAt Go.RowKit

set_option maxHeartbeats 1000000 in
theorem pickK_any (c n : Int) (w : World) (hc : -9223372036854775808 ≤ c ∧ c ≤ 9223372036854775807) (hn : 0 < n ∧ n ≤ 1000000000000) :
    Calls Tryz.prog 26 #[.int .i64 c, .int .i64 n] w fun e w' => e = .returned (.int .i64 (pickZ c n)) ∧ w' = w := by
  go_enter Tryz.func26, Tryz.ntmps26
  go_wp2
  all_goals go_ret
  all_goals refine ⟨?_, rfl⟩
  all_goals unfold pickZ
  · rw [if_pos (by assumption)]; rfl
  · rw [if_neg (by omega)]; rfl
/-- which of n things, as a count -/
def pickN (c : Int) (n : Nat) : Nat := (pickZ c n).toNat
theorem pickN_lt (c : Int) (n : Nat) (hn : 0 < n) : pickN c n < n ∧ pickZ c n = (pickN c n : Nat) := by
  have := pickZ_range c n (by omega)
  unfold pickN
  omega
/-- A slice of numbers, to be read. -/
def LsI (w : World) (B : Nat) (v : Value) (l : List Int) : Prop :=
  ∃ a c, v = .slice a l.length c ∧ l.length ≤ c ∧ (0 < l.length → ∃ g o, a = some ⟨g, o, none⟩ ∧ g < B ∧ ∀ j, j < l.length → w.cell? ⟨g, o + j, none⟩ = some (.int .i64 (l.getD j 0)) ∧ -9223372036854775808 ≤ l.getD j 0 ∧ l.getD j 0 ≤ 9223372036854775807)
theorem LsI.below {w w' : World} {B : Nat} {v : Value} {l : List Int} (h : LsI w B v l) (hb : Below B w w') : LsI w' B v l := by
  obtain ⟨a, c, rfl, hle, h⟩ := h
  refine ⟨a, c, rfl, hle, fun hp => ?_⟩
  obtain ⟨g, o, rfl, hg, h⟩ := h hp
  exact ⟨g, o, rfl, hg, fun j hj => ⟨(hb.cell (p := ⟨g, o + j, none⟩) hg).trans (h j hj).1, (h j hj).2⟩⟩

set_option maxRecDepth 20000 in
set_option maxHeartbeats 1000000 in
theorem inK_any (v : Value) (l : List (List UInt8)) (x : List UInt8) (w : World) (B : Nat) (hl : l.length ≤ 8796093022208) (hv : Ls w B v l) :
    Calls Tryz.prog 66 #[v, .string ⟨x.toArray⟩] w fun e w' => e = .returned (.bool (hasB l x)) ∧ w' = w := by
  obtain ⟨a, c, rfl, hle, hv⟩ := hv
  have HV := hide hv
  have HL := hide hl
  clear hv hl hle
  go_enter Tryz.func66, Tryz.ntmps66
  go_wp2_with fail
  go_loopg [5] l.length (fun q i wr => ∃ k : Nat, k + q = l.length ∧ i = .int .i64 (k : Nat) ∧ (∀ j, j < k → (l.getD j [] != x) = true) ∧ wr = w)
  case atStart => exact ⟨0, Nat.zero_add _, rfl, fun j hj => absurd hj (Nat.not_lt_zero _), rfl⟩
  case round =>
    obtain ⟨k, hk, rfl, hall, rfl⟩ := hrel
    have HALL := hide hall
    clear hall
    by_cases hlt : k < l.length
    · have hkI : (k : Int) < (l.length : Int) := by omega
      have hw := w64j hlt (unhide HL)
      obtain ⟨g, o, rfl, hg, hc⟩ := unhide HV (by omega)
      have hck := hc k hlt
      rw [sv_def] at hck
      generalize hyy : l.getD k [] = y at hck
      have HYY := hide hyy
      clear hc hyy
      by_cases he : y = x
      · subst he
        go_wp2_with fail
        go_ret
        refine ⟨ret_bool ?_, rfl⟩
        unfold hasB
        rw [all_false hlt (by rw [unhide HYY]; simp)]
        rfl
      · have hne : (y == x) = false := by simpa using he
        have HE := hide he
        clear he
        go_wp2_with fail
        go_roundg (gk - 1)
        case measure => omega
        case rel => exact ⟨k + 1, by omega, by first | exact num1 hw | rfl, fun j hj => by
          by_cases e : j = k
          · subst e; rw [unhide HYY]; simpa using unhide HE
          · exact unhide HALL j (by omega), rfl⟩
    · have hkn : k = l.length := by omega
      subst hkn
      clear hk
      go_wp2_with fail
      go_ret
      refine ⟨ret_bool ?_, rfl⟩
      unfold hasB
      rw [all_true (unhide HALL)]
      rfl
end Go.Proofs.YtkmkkmdpjliifaaGreatDoor
namespace Go.Proofs.YtkmkkmdpjliifaaGreatDoor
open Go.ChangeShapes Go.WideShapes Go.ChangeAt Go.RowKit

theorem hasB_mem (l : List (List UInt8)) (x : List UInt8) : hasB l x = true ↔ x ∈ l := by
  unfold hasB
  rw [Bool.not_eq_true', List.all_eq_false]
  constructor
  · rintro ⟨k, hk, h⟩
    have hk' := List.mem_range.1 hk
    have e : l.getD k [] = x := by simpa using h
    rw [← e, List.getD_eq_getElem?_getD, List.getElem?_eq_getElem hk']
    exact List.getElem_mem hk'
  · intro h
    obtain ⟨k, hk, rfl⟩ := List.mem_iff_getElem.1 h
    exact ⟨k, List.mem_range.2 hk, by rw [List.getD_eq_getElem?_getD, List.getElem?_eq_getElem hk]; simp⟩
theorem w64J {j n : Nat} (h : j < n) (hn : n ≤ 17592186044416) : wrap64 ((j : Int) + 1) = (j : Int) + 1 := w64 _ (by omega) (by omega)
/-- the names that the statements take -/
def allN : List (List UInt8) := [[114], [119], [120], [97, 34, 98], [92], [116, 97, 98, 9, 104, 101, 114, 101], [195, 169, 226, 130, 172], [115, 105, 120, 116, 101, 101, 110, 45, 98, 121, 116, 101, 115, 45, 111, 107]]
def nmOf (x : Int) : List UInt8 := allN.getD (pickN x 8) []
def nmStep (out : List (List UInt8)) (x : Int) : List (List UInt8) := if out.length < 6 ∧ hasB out (nmOf x) = false then out ++ [nmOf x] else out
def nmK (l : List Int) : Nat → List (List UInt8)
  | 0 => []
  | k + 1 => nmStep (nmK l k) (l.getD k 0)
theorem allN_name : ∀ k, k < 8 → nameN (allN.getD k []) = true := by decide +kernel
theorem nmOf_name (x : Int) : nameN (nmOf x) = true := allN_name _ (pickN_lt x 8 (by decide)).1
theorem nmStep_list {out : List (List UInt8)} (x : Int) (h : listB out = true) : listB (nmStep out x) = true := by
  unfold nmStep
  split
  · rename_i hc
    rw [listB_iff] at h ⊢
    refine ⟨by rw [List.length_append, List.length_singleton]; omega, fun y hy => ?_, ?_⟩
    · rcases List.mem_append.1 hy with hy | hy
      · exact h.2.1 y hy
      · rw [List.mem_singleton.1 hy]; exact nmOf_name x
    · rw [List.nodup_append]
      refine ⟨h.2.2, by simp, fun a ha b hb e => ?_⟩
      rw [List.mem_singleton.1 hb] at e
      have := (hasB_mem out (nmOf x)).2 (e ▸ ha)
      rw [hc.2] at this
      cases this
  · exact h
theorem nmK_list (l : List Int) : ∀ k, listB (nmK l k) = true
  | 0 => rfl
  | k + 1 => nmStep_list _ (nmK_list l k)
theorem nmK_stop {l : List Int} {k : Nat} (h : ¬ (nmK l k).length < 6) : ∀ j, nmK l (k + j) = nmK l k
  | 0 => rfl
  | j + 1 => by
    rw [← Nat.add_assoc, nmK, nmK_stop h j]
    unfold nmStep
    rw [if_neg (fun hc => h hc.1)]

set_option maxRecDepth 20000 in
set_option maxHeartbeats 2000000 in
theorem names_any (v : Value) (l : List Int) (w : World) (B : Nat) (hB : B ≤ w.heap.size) (hl : l.length ≤ 17592186044416) (hv : LsI w B v l) :
    Calls Tryz.prog 61 #[v] w fun e w' => ∃ v', e = .returned v' ∧ OwnS w' w.heap.size v' (nmK l l.length) ∧ Below w.heap.size w w' := by
  obtain ⟨w1, hw1⟩ : ∃ w1, w1 = allocL w [.cells #[.string ⟨#[114]⟩, .string ⟨#[119]⟩, .string ⟨#[120]⟩, .string ⟨#[97, 34, 98]⟩, .string ⟨#[92]⟩, .string ⟨#[116, 97, 98, 9, 104, 101, 114, 101]⟩, .string ⟨#[195, 169, 226, 130, 172]⟩, .string ⟨#[115, 105, 120, 116, 101, 101, 110, 45, 98, 121, 116, 101, 115, 45, 111, 107]⟩] 9] := ⟨_, rfl⟩
  have hb1 : Below w.heap.size w w1 := by rw [hw1]; exact allocL_below _ _
  have hs1 : w1.heap.size = w.heap.size + 1 := by rw [hw1, allocL_size]; rfl
  have hAll : ∀ j, j < 8 → w1.cell? ⟨w.heap.size, j, none⟩ = some (sv (allN.getD j [])) := fun j hj => by
    rw [hw1]
    have h := allocL_ls (os := [.cells #[.string ⟨#[114]⟩, .string ⟨#[119]⟩, .string ⟨#[120]⟩, .string ⟨#[97, 34, 98]⟩, .string ⟨#[92]⟩, .string ⟨#[116, 97, 98, 9, 104, 101, 114, 101]⟩, .string ⟨#[195, 169, 226, 130, 172]⟩, .string ⟨#[115, 105, 120, 116, 101, 101, 110, 45, 98, 121, 116, 101, 115, 45, 111, 107]⟩] 9]) (w := w) (i := 0) (l := allN) rfl (by simp)
    obtain ⟨a, c, e, _, h⟩ := h
    obtain ⟨g, o, rfl, _, h⟩ := h (by decide)
    injection e with e1
    injection e1 with e1
    injection e1 with e2 e3
    subst e2
    subst e3
    have := h j hj
    rw [Nat.zero_add] at this
    exact this
  have hv1 := hv.below (hb1.mono hB)
  have HV := hide hv1
  obtain ⟨a, c, rfl, hle, hx⟩ := hv
  have HL := hide hl
  have HAll := hide hAll
  have HB1 := hide hb1
  have HW1 : Hid (w1 = w.alloc (.cells #[.string ⟨#[114]⟩, .string ⟨#[119]⟩, .string ⟨#[120]⟩, .string ⟨#[97, 34, 98]⟩, .string ⟨#[92]⟩, .string ⟨#[116, 97, 98, 9, 104, 101, 114, 101]⟩, .string ⟨#[195, 169, 226, 130, 172]⟩, .string ⟨#[115, 105, 120, 116, 101, 101, 110, 45, 98, 121, 116, 101, 115, 45, 111, 107]⟩] 9)) := hw1
  clear hx hl hAll hb1 hw1 hv1 hle
  go_enter Tryz.func61, Tryz.ntmps61
  go_wp2_with fail
  rw [← unhide HW1]
  clear HW1
  go_loopg [4, 5] l.length (fun q vo i wr => ∃ k : Nat, k + q = l.length ∧ i = .int .i64 (k : Nat) ∧ OwnS wr (w.heap.size + 1) vo (nmK l k) ∧ Below (w.heap.size + 1) w1 wr)
  case atStart => exact ⟨0, Nat.zero_add _, rfl, OwnS.nil _ _, Below.refl _ _⟩
  case round =>
    obtain ⟨k, hk, rfl, hO, hb⟩ := hrel
    have hsr := hb.size
    have HO := hide hO
    have HB := hide hb
    obtain ⟨ao, co, rfl, hox⟩ := hO.ls
    clear hox hO
    by_cases hlt : k < l.length
    · have hkI : (k : Int) < (l.length : Int) := by omega
      have hw := w64J hlt (unhide HL)
      by_cases h6 : (nmK l k).length < 6
      · have h6I : ((nmK l k).length : Int) < 6 := by omega
        obtain ⟨a2, c2, e, _, hxa⟩ := (unhide HV).below ((unhide HB).mono (by omega))
        obtain ⟨g, o, e2, hg, hxb⟩ := hxa (by omega)
        have hxc := hxb k hlt
        clear hxa hxb
        injection e with e3 e4 e5
        subst e3
        subst e2
        subst e5
        clear e4
        obtain ⟨hck, hlo, hhi⟩ := hxc
        have HP := hide (pickK_any (l.getD k 0) 8 wr ⟨hlo, hhi⟩ (by decide))
        obtain ⟨hp1, hp2⟩ := pickN_lt (l.getD k 0) 8 (by decide)
        have hstep : nmK l (k + 1) = nmStep (nmK l k) (l.getD k 0) := rfl
        have HS1 : Hid (hasB (nmK l k) (nmOf (l.getD k 0)) = true → nmK l (k + 1) = nmK l k) := fun h => by
          rw [hstep]
          unfold nmStep
          rw [if_neg]
          rintro ⟨_, h2⟩
          rw [h] at h2
          cases h2
        have HS2 : Hid (hasB (nmK l k) (nmOf (l.getD k 0)) = false → nmK l (k + 1) = nmK l k ++ [nmOf (l.getD k 0)]) := fun h => by
          rw [hstep]
          unfold nmStep
          rw [if_pos ⟨h6, h⟩]
        have hnm : nmOf (l.getD k 0) = allN.getD (pickN (l.getD k 0) 8) [] := rfl
        have hcn := ((unhide HB).cell (p := ⟨w.heap.size, pickN (l.getD k 0) 8, none⟩) (show w.heap.size < w.heap.size + 1 by omega)).trans (unhide HAll _ hp1)
        rw [← hnm, sv_def] at hcn
        rw [show ((8 : Nat) : Int) = 8 from rfl] at hp2
        rw [hp2] at HP
        generalize hpk : pickN (l.getD k 0) 8 = pk at *
        generalize hxk : l.getD k 0 = xk at *
        generalize nmOf xk = y at *
        have HIn := hide (inK_any (.slice ao (nmK l k).length co) (nmK l k) y wr wr.heap.size (by omega) (unhide HO).ls)
        have hpI : (pk : Int) < 8 := by omega
        have HXK := hide (And.intro hpk hxk)
        clear hpk hxk hlo hhi hp1 hp2 hnm hstep
        cases hb0 : hasB (nmK l k) y with
        | true =>
          rw [hb0] at HIn
          have hnx : nmK l (k + 1) = nmK l k := unhide HS1 hb0
          have HNX := hide hnx
          clear hnx hb0 HS1 HS2
          go_wp2_with (first | (go_at_call 26; refine (unhide HP).mono ?_; rintro e w2 ⟨rfl, rfl⟩) | (go_at_call 66; refine (unhide HIn).mono ?_; rintro e w3 ⟨rfl, rfl⟩))
          go_roundg (gk - 1)
          case measure => omega
          case rel => exact ⟨k + 1, by omega, by first | exact num1 hw | rfl, by rw [unhide HNX]; exact unhide HO, unhide HB⟩
        | false =>
          rw [hb0] at HIn
          have hnx : nmK l (k + 1) = nmK l k ++ [y] := unhide HS2 hb0
          have HNX := hide hnx
          clear hnx hb0 HS1 HS2
          have hsx : (wr.alloc (.cells #[.string ⟨y.toArray⟩] 9)).heap.size = wr.heap.size + 1 := by simp
          have hax : Below wr.heap.size wr (wr.alloc (.cells #[.string ⟨y.toArray⟩] 9)) := (Below.refl _ _).alloc (Nat.le_refl _) _
          obtain ⟨v', w', hrun, hO', hg'⟩ := append_onto (w := wr.alloc (.cells #[.string ⟨y.toArray⟩] 9)) (v := .slice (some ⟨wr.heap.size, 0, none⟩) 1 1) (l := [y]) (b0 := w.heap.size + 1) (by omega) ((unhide HO).below hax) (by omega) (by simp) (allocL_ls (os := [.cells #[.string ⟨y.toArray⟩] 9]) (w := wr) (i := 0) (l := [y]) rfl (by simp)) 35
          have hb' : Below (w.heap.size + 1) w1 w' := ((unhide HB).trans (hax.mono (by omega))).grown hg' (by omega) (fun k hk => ((unhide HO).lt k hk).1)
          have HF := hide (And.intro hO' hb')
          clear hO' hb' hg' hax
          go_wp2_with (first | (go_at_call 26; refine (unhide HP).mono ?_; rintro e w2 ⟨rfl, rfl⟩) | (go_at_call 66; refine (unhide HIn).mono ?_; rintro e w3 ⟨rfl, rfl⟩) | (at_builtin; refine appLaw rfl _ _ rfl rfl rfl hrun ?_))
          go_roundg (gk - 1)
          case measure => omega
          case rel => exact ⟨k + 1, by omega, by first | exact num1 hw | rfl, by rw [unhide HNX]; exact (unhide HF).1, (unhide HF).2⟩
      · have h6I : ¬ ((nmK l k).length : Int) < 6 := by omega
        have hst : nmK l l.length = nmK l k := by
          have := nmK_stop h6 (l.length - k)
          rw [show k + (l.length - k) = l.length by omega] at this
          exact this
        have HST := hide hst
        clear hst h6
        go_wp2_with fail
        go_ret
        exact ⟨_, rfl, by rw [unhide HST]; exact (unhide HO).down (by omega), (unhide HB1).trans ((unhide HB).mono (by omega))⟩
    · have hkn : k = l.length := by omega
      subst hkn
      clear hk
      go_wp2_with fail
      go_ret
      exact ⟨_, rfl, (unhide HO).down (by omega), (unhide HB1).trans ((unhide HB).mono (by omega))⟩
end Go.Proofs.YtkmkkmdpjliifaaGreatDoor
namespace Go.Proofs.YtkmkkmdpjliifaaGreatDoor
open Go.ChangeShapes Go.WideShapes Go.ChangeAt Go.RowKit

end Go.Proofs.YtkmkkmdpjliifaaGreatDoor
namespace Go.Proofs.YtkmkkmdpjliifaaGreatDoor
open Go.ChangeShapes Go.WideShapes Go.ChangeAt Go.RowKit

/- Unpack of texts of up to 2,097,152 letters (UxF's walk, with a wider bound) -/
end Go.Proofs.YtkmkkmdpjliifaaGreatDoor
namespace Go.Proofs.YtkmkkmdpjliifaaGreatDoor
open Go.ChangeShapes Go.WideShapes Go.ChangeAt Go.RowKit

set_option maxRecDepth 20000 in
set_option maxHeartbeats 1000000 in
theorem login_any (n : Nat) (hn : n ≤ 9) (w : World) :
    Calls Tryz.prog 31 #[.int .i64 (n : Nat)] w fun e w' => e = .returned (.agg #[.string ⟨#[99, UInt8.ofNat (48 + n)]⟩, .string ⟨#[115, UInt8.ofNat (48 + n)]⟩]) ∧ Below w.heap.size w w' := by
  have hw : wrap64 (48 + (n : Int)) = 48 + (n : Int) := w64 _ (by omega) (by omega)
  obtain ⟨wb, hwb⟩ : ∃ wb, wb = (w.alloc (.cells #[.string ⟨#[]⟩, .string ⟨#[]⟩] 81)).alloc (.cells #[.int .u8 (48 + (n : Int))] 5) := ⟨_, rfl⟩
  have hcv : (convert 110 9 (.slice (some ⟨w.heap.size + 1, 0, none⟩) 1 1)).run Tryz.prog wb = .ok (.string ⟨#[UInt8.ofNat (48 + n)]⟩) wb := by
    rw [conv8 (w := wb) (w.heap.size + 1) 0 1 1 (fun _ => 48 + n) (fun i hi => by
      have : i = 0 := by omega
      subst this
      rw [hwb]
      simp)]
    rfl
  have hb : Below w.heap.size w wb := by rw [hwb]; exact ((Below.refl _ _).alloc (Nat.le_refl _) _).alloc (by simp) _
  have hR : Row wb w.heap.size 81 2 (fun _ => .string ⟨#[]⟩) := by
    rw [hwb]
    refine (Row.new w 81 _ _ 2 rfl (fun j hj => ?_)).alloc _
    rcases (show j = 0 ∨ j = 1 by omega) with rfl | rfl <;> rfl
  have s0 := hR.cell (j := 0) (by decide)
  have s1 := hR.cell (j := 1) (by decide)
  have z0 := hR.frozen 0
  have z1 := hR.frozen 1
  have HR := hide hR
  have HB := hide hb
  have HWB := hide hwb
  clear hwb hb hR
  have c1 : (Op.stringOp .add ⟨#[99]⟩ ⟨#[UInt8.ofNat (48 + n)]⟩).run Tryz.prog wb = .ok (.string ⟨#[99, UInt8.ofNat (48 + n)]⟩) wb := cat_str [99] [UInt8.ofNat (48 + n)] _ rfl (by simp) wb
  have c2 : (Op.stringOp .add ⟨#[115]⟩ ⟨#[UInt8.ofNat (48 + n)]⟩).run Tryz.prog wb = .ok (.string ⟨#[115, UInt8.ofNat (48 + n)]⟩) wb := cat_str [115] [UInt8.ofNat (48 + n)] _ rfl (by simp) wb
  generalize UInt8.ofNat (48 + n) = d at *
  go_enter Tryz.func31, Tryz.ntmps31
  go_wp2_with fail
  rw [← unhide HWB, hcv]
  clear HWB hcv
  go_wp2_with fail
  have hfin : Row ((wb.setCell ⟨w.heap.size, 0, none⟩ (.string ⟨#[99, d]⟩)).setCell ⟨w.heap.size, 1, none⟩ (.string ⟨#[115, d]⟩)) w.heap.size 81 2 (fun j => if j = 0 then .string ⟨#[99, d]⟩ else .string ⟨#[115, d]⟩) :=
    (((unhide HR).set 0 (.string ⟨#[99, d]⟩)).set 1 (.string ⟨#[115, d]⟩)).congr (fun j hj => by
      rcases (show j = 0 ∨ j = 1 by omega) with rfl | rfl <;> rfl)
  refine ret_rowN Tryz.results31 _ hfin rfl Tryz.underlying81 ⟨_, rfl⟩ (by kernel_rfl) rfl ?_
  exact ⟨congrArg (fun x => Ending.returned (.agg x)) (arrOf_eq 2 _ _ rfl (fun j hj => by
    rcases (show j = 0 ∨ j = 1 by omega) with rfl | rfl <;> rfl)), ((unhide HB).setCell (Nat.le_refl _) _).setCell (Nat.le_refl _) _⟩

set_option maxRecDepth 20000 in
set_option maxHeartbeats 1000000 in
/-- the statements' comparison of lists -/
theorem sameK_any (v1 v2 : Value) (l1 l2 : List (List UInt8)) (w : World) (B : Nat) (hl : l1.length ≤ 8796093022208) (h1 : Ls w B v1 l1) (h2 : Ls w B v2 l2) :
    Calls Tryz.prog 29 #[v1, v2] w fun e w' => e = .returned (.bool (decide (l1 = l2))) ∧ ∃ n, w' = w.drewN n := by
  obtain ⟨a1, c1, rfl, _, hx1⟩ := h1
  obtain ⟨a2, c2, rfl, _, hx2⟩ := h2
  by_cases hn : l1.length = l2.length
  · have HX1 := hide hx1
    have HX2 := hide hx2
    have HL := hide hl
    have HN := hide hn
    have hnI : (l1.length : Int) = (l2.length : Int) := by omega
    clear hx1 hx2 hl
    go_enter Tryz.func29, Tryz.ntmps29
    go_wp2_with fail
    go_loopg [5] l1.length (fun q i wr => ∃ k n : Nat, k + q = l1.length ∧ i = .int .i64 (k : Nat) ∧ (∀ j, j < k → l1.getD j [] = l2.getD j []) ∧ wr = w.drewN n)
    case atStart => exact ⟨0, 0, Nat.zero_add _, rfl, fun j hj => absurd hj (Nat.not_lt_zero _), rfl⟩
    case round =>
      obtain ⟨k, nd, hk, rfl, hall, rfl⟩ := hrel
      have HALL := hide hall
      clear hall
      by_cases hlt : k < l1.length
      · have hkI : (k : Int) < (l1.length : Int) := by omega
        have hkI2 : (k : Int) < (l2.length : Int) := by omega
        have hw : wrap64 ((k : Int) + 1) = (k : Int) + 1 := w64 _ (by omega) (by have := unhide HL; omega)
        obtain ⟨g1, o1, rfl, hg1, hc1⟩ := unhide HX1 (by omega)
        obtain ⟨g2, o2, rfl, hg2, hc2⟩ := unhide HX2 (by omega)
        have k1 := hc1 k hlt
        have k2 := hc2 k (by omega)
        rw [sv_def] at k1 k2
        generalize hy1 : l1.getD k [] = y1 at k1
        generalize hy2 : l2.getD k [] = y2 at k2
        have HY := hide (And.intro hy1 hy2)
        clear hc1 hc2 hy1 hy2
        by_cases he : y1 = y2
        · subst he
          go_wp2_with fail
          go_quiet (fail)
          go_wp2_with fail
          go_roundg (gk - 1)
          case measure => omega
          case rel => exact ⟨k + 1, nd + nq, by omega, by first | exact num1 hw | rfl, fun j hj => by
            by_cases e : j = k
            · subst e; rw [(unhide HY).1, (unhide HY).2]
            · exact unhide HALL j (by omega), by first | rfl | rw [World.drewN_drewN]⟩
        · have hne : (y1 == y2) = false := by simpa using he
          have HE := hide he
          clear he
          go_wp2_with fail
          go_quiet (fail)
          go_wp2_with fail
          go_ret
          refine ⟨ret_bool ?_, nd + nq, by first | rfl | rw [World.drewN_drewN]⟩
          rw [decide_eq_false]
          intro e
          apply unhide HE
          rw [← (unhide HY).1, ← (unhide HY).2, e]
      · have hkn : k = l1.length := by omega
        subst hkn
        go_wp2_with fail
        go_ret
        refine ⟨ret_bool ?_, nd, rfl⟩
        rw [decide_eq_true (list_eq_of (unhide HN) (unhide HALL))]
  · have hnI : ¬ (l1.length : Int) = (l2.length : Int) := by omega
    have hne : decide (l1 = l2) = false := decide_eq_false (fun e => hn (by rw [e]))
    rw [hne]
    clear hx1 hx2 hl hn hne
    go_enter Tryz.func29, Tryz.ntmps29
    go_wp2_with fail
    go_ret
    exact ⟨rfl, 0, rfl⟩

end Go.Proofs.YtkmkkmdpjliifaaGreatDoor
namespace Go.Proofs.YtkmkkmdpjliifaaGreatDoor
open Go.ChangeShapes Go.WideShapes Go.ChangeAt Go.RowKit

set_option maxRecDepth 20000 in
set_option maxHeartbeats 2000000 in
/-- the statements' comparison of claims -/
theorem alike_any (c1 c2 : Cz) (p1 p2 : Pl) (w : World) (B : Nat) (hB : B ≤ w.heap.size) (hS1 : CzS c1) (hL1 : CzL w B c1 p1) (hL2 : CzL w B c2 p2) :
    Calls Tryz.prog 21 #[.agg (czA c1 p1), .agg (czA c2 p2)] w fun e w' => e = .returned (.bool (sameZ c1 c2)) ∧ Below w.heap.size w w' := by
  obtain ⟨wa, hwa⟩ : ∃ wa, wa = w.alloc (.cells #[.int .i64 c1.id, .string ⟨c1.sub.toArray⟩, .slice p1.a2 c1.scp.length p1.c2, .slice p1.a3 c1.aud.length p1.c3, .slice p1.a4 c1.act.length p1.c4, .int .i64 c1.exp] 60) := ⟨_, rfl⟩
  have hsa : wa.heap.size = w.heap.size + 1 := by rw [hwa]; simp
  obtain ⟨wb, hwb⟩ : ∃ wb, wb = wa.alloc (.cells #[.int .i64 c2.id, .string ⟨c2.sub.toArray⟩, .slice p2.a2 c2.scp.length p2.c2, .slice p2.a3 c2.aud.length p2.c3, .slice p2.a4 c2.act.length p2.c4, .int .i64 c2.exp] 60) := ⟨_, rfl⟩
  have hbb : Below w.heap.size w wb := by rw [hwb, hwa]; exact ((Below.refl _ _).alloc (Nat.le_refl _) _).alloc (by simp) _
  have hRa : Row wb w.heap.size 60 6 (czF c1 p1) := by rw [hwb, hwa]; exact (Row.new w 60 _ _ 6 rfl (six rfl rfl rfl rfl rfl rfl)).alloc _
  have hRb : Row wb (w.heap.size + 1) 60 6 (czF c2 p2) := by rw [hwb, ← hsa]; exact Row.new wa 60 _ _ 6 rfl (six rfl rfl rfl rfl rfl rfl)
  have hLa := hL1.below (hbb.mono hB)
  have hLb := hL2.below (hbb.mono hB)
  have HE2 := hide (fun n => sameK_any _ _ c1.scp c2.scp (wb.drewN n) B hS1.l2 (hLa.k2.drewN n) (hLb.k2.drewN n))
  have HE3 := hide (fun n => sameK_any _ _ c1.aud c2.aud (wb.drewN n) B hS1.l3 (hLa.k3.drewN n) (hLb.k3.drewN n))
  have HE4 := hide (fun n => sameK_any _ _ c1.act c2.act (wb.drewN n) B hS1.l4 (hLa.k4.drewN n) (hLb.k4.drewN n))
  have HW : Hid (wb = (w.alloc (.cells #[.int .i64 c1.id, .string ⟨c1.sub.toArray⟩, .slice p1.a2 c1.scp.length p1.c2, .slice p1.a3 c1.aud.length p1.c3, .slice p1.a4 c1.act.length p1.c4, .int .i64 c1.exp] 60)).alloc (.cells #[.int .i64 c2.id, .string ⟨c2.sub.toArray⟩, .slice p2.a2 c2.scp.length p2.c2, .slice p2.a3 c2.aud.length p2.c3, .slice p2.a4 c2.act.length p2.c4, .int .i64 c2.exp] 60)) := by rw [← hwa]; exact hwb
  have HBB := hide hbb
  have a0 : wb.cell? ⟨w.heap.size, 0, none⟩ = some (.int .i64 c1.id) := hRa.cell (by decide)
  have a1 : wb.cell? ⟨w.heap.size, 1, none⟩ = some (.string ⟨c1.sub.toArray⟩) := hRa.cell (by decide)
  have a2 : wb.cell? ⟨w.heap.size, 2, none⟩ = some (.slice p1.a2 c1.scp.length p1.c2) := hRa.cell (by decide)
  have a3 : wb.cell? ⟨w.heap.size, 3, none⟩ = some (.slice p1.a3 c1.aud.length p1.c3) := hRa.cell (by decide)
  have a4 : wb.cell? ⟨w.heap.size, 4, none⟩ = some (.slice p1.a4 c1.act.length p1.c4) := hRa.cell (by decide)
  have a5 : wb.cell? ⟨w.heap.size, 5, none⟩ = some (.int .i64 c1.exp) := hRa.cell (by decide)
  have b0 : wb.cell? ⟨w.heap.size + 1, 0, none⟩ = some (.int .i64 c2.id) := hRb.cell (by decide)
  have b1 : wb.cell? ⟨w.heap.size + 1, 1, none⟩ = some (.string ⟨c2.sub.toArray⟩) := hRb.cell (by decide)
  have b2 : wb.cell? ⟨w.heap.size + 1, 2, none⟩ = some (.slice p2.a2 c2.scp.length p2.c2) := hRb.cell (by decide)
  have b3 : wb.cell? ⟨w.heap.size + 1, 3, none⟩ = some (.slice p2.a3 c2.aud.length p2.c3) := hRb.cell (by decide)
  have b4 : wb.cell? ⟨w.heap.size + 1, 4, none⟩ = some (.slice p2.a4 c2.act.length p2.c4) := hRb.cell (by decide)
  have b5 : wb.cell? ⟨w.heap.size + 1, 5, none⟩ = some (.int .i64 c2.exp) := hRb.cell (by decide)
  generalize hsz : sameZ c1 c2 = r
  unfold sameZ at hsz
  have HSZ := hide hsz
  clear hS1 hL1 hL2 hLa hLb hRa hRb hwa hwb hbb hsz
  unfold czA
  have hcell : ∀ (n : Nat) (a : Addr), (wb.drewN n).cell? a = wb.cell? a := fun _ _ => rfl
  go_enter Tryz.func21, Tryz.ntmps21
  go_wp2_with fail
  rw [← unhide HW]
  clear HW
  refine (unhide HE2 0).mono ?_
  rintro e w1 ⟨rfl, n1, rfl⟩
  rw [World.drewN_drewN, Nat.zero_add]
  go_wp2_with fail
  refine (unhide HE3 n1).mono ?_
  rintro e w2 ⟨rfl, n2, rfl⟩
  rw [World.drewN_drewN]
  go_wp2_with fail
  refine (unhide HE4 _).mono ?_
  rintro e w3 ⟨rfl, n3, rfl⟩
  rw [World.drewN_drewN]
  clear HE2 HE3 HE4
  cases d1 : decide (c1.scp = c2.scp) with
  | false =>
    go_wp2_with fail
    go_ret
    refine ⟨ret_bool ?_, below_drewN' (unhide HBB) _⟩
    rw [← unhide HSZ]
    simp [d1]
  | true =>
  cases d2 : decide (c1.aud = c2.aud) with
  | false =>
    go_wp2_with fail
    go_ret
    refine ⟨ret_bool ?_, below_drewN' (unhide HBB) _⟩
    rw [← unhide HSZ]
    simp [d1, d2]
  | true =>
  cases d3 : decide (c1.act = c2.act) with
  | false =>
    go_wp2_with fail
    go_ret
    refine ⟨ret_bool ?_, below_drewN' (unhide HBB) _⟩
    rw [← unhide HSZ]
    simp [d1, d2, d3]
  | true =>
  by_cases e1 : c1.id = c2.id
  · rw [← e1] at b0
    by_cases e2 : c1.sub = c2.sub
    · rw [← e2] at b1
      by_cases e3 : c1.exp = c2.exp
      · rw [← e3] at b5
        go_wp2_with fail
        go_ret
        refine ⟨ret_bool ?_, below_drewN' (unhide HBB) _⟩
        rw [← unhide HSZ]
        simp [e1, e2, e3, d1, d2, d3]
      · have q3 : (c1.exp == c2.exp) = false := by simpa using e3
        go_wp2_with fail
        go_ret
        refine ⟨ret_bool ?_, below_drewN' (unhide HBB) _⟩
        rw [← unhide HSZ]
        simp [e3]
    · have q2 : (c1.sub == c2.sub) = false := by simpa using e2
      go_wp2_with fail
      go_ret
      refine ⟨ret_bool ?_, below_drewN' (unhide HBB) _⟩
      rw [← unhide HSZ]
      simp [e2]
  · have q1 : (c1.id == c2.id) = false := by simpa using e1
    go_wp2_with fail
    go_ret
    refine ⟨ret_bool ?_, below_drewN' (unhide HBB) _⟩
    rw [← unhide HSZ]
    simp [e1]
end Go.Proofs.YtkmkkmdpjliifaaGreatDoor
