import Derived.Test.YtkmkkmdpjliifaaGreatDoorExF
import Derived.Test.YtkmkkmdpjliifaaGreatDoorUxE
namespace Go.Proofs.YtkmkkmdpjliifaaGreatDoor
open Go.ChangeShapes Go.WideShapes Go.ChangeAt Go.RowKit

/-- a list is one: few names, each a name, none twice -/
theorem listB_iff (l : List (List UInt8)) : listB l = true ↔ l.length ≤ 6 ∧ (∀ x ∈ l, nameN x = true) ∧ l.Nodup := by
  unfold listB
  rw [Bool.and_eq_true, decide_eq_true_eq, List.all_eq_true]
  constructor
  · rintro ⟨h1, h2⟩
    have h3 : ∀ i (hi : i < l.length), nameN l[i] = true ∧ ∀ k (hk : k < i), l[k] ≠ l[i] := by
      intro i hi
      have h := h2 i (List.mem_range.2 hi)
      unfold okAt at h
      rw [Bool.and_eq_true, List.all_eq_true] at h
      have e : l.getD i [] = l[i] := by rw [List.getD_eq_getElem?_getD, List.getElem?_eq_getElem hi]; rfl
      rw [e] at h
      refine ⟨h.1, fun k hk => ?_⟩
      have h4 := h.2 k (List.mem_range.2 hk)
      have e2 : l.getD k [] = l[k] := by rw [List.getD_eq_getElem?_getD, List.getElem?_eq_getElem (by omega)]; rfl
      rw [e2] at h4
      simpa using h4
    refine ⟨h1, fun x hx => ?_, ?_⟩
    · obtain ⟨i, hi, rfl⟩ := List.mem_iff_getElem.1 hx
      exact (h3 i hi).1
    · rw [List.Nodup, List.pairwise_iff_getElem]
      intro a b ha hb hab
      exact (h3 b hb).2 a hab
  · rintro ⟨h1, h2, h3⟩
    rw [List.Nodup, List.pairwise_iff_getElem] at h3
    refine ⟨h1, fun i hi => ?_⟩
    have hi' := List.mem_range.1 hi
    unfold okAt
    have e : l.getD i [] = l[i] := by rw [List.getD_eq_getElem?_getD, List.getElem?_eq_getElem hi']; rfl
    rw [Bool.and_eq_true, List.all_eq_true, e]
    refine ⟨h2 _ (List.getElem_mem hi'), fun k hk => ?_⟩
    have hk' := List.mem_range.1 hk
    have e2 : l.getD k [] = l[k] := by rw [List.getD_eq_getElem?_getD, List.getElem?_eq_getElem (by omega)]; rfl
    rw [e2]
    simpa using h3 k i (by omega) hi' hk'
theorem listB_filter {l : List (List UInt8)} (h : listB l = true) (p : List UInt8 → Bool) : listB (l.filter p) = true := by
  rw [listB_iff] at h ⊢
  exact ⟨Nat.le_trans (List.length_filter_le _ _) h.1, fun x hx => h.2.1 x (List.mem_filter.1 hx).1, h.2.2.sublist List.filter_sublist⟩
theorem chooseL_list {all told L : List (List UInt8)} (h1 : listB all = true) (h2 : listB told = true) : listB (chooseL all told L) = true := by
  unfold chooseL
  split
  · exact listB_filter h1 _
  · split
    · exact h2
    · rfl
/-- what exchange answers besides the token -/
def exE (ks : List Ky) (cs : List Cl) (G : List Gt) (now m i : Nat) (actor : List UInt8) (t1 t2 : List (List UInt8)) (life : Int) : Int :=
  if (actS ks cs G now m i actor).2 ≠ 0 then (actS ks cs G now m i actor).2
  else if (narrowS (G.getD i default).c.z (cs.getD m default) t1 t2).2 ≠ 0 then (narrowS (G.getD i default).c.z (cs.getD m default) t1 t2).2
  else if roomE now life G.length ≠ 0 then roomE now life G.length
  else if listB ((actS ks cs G now m i actor).1 ++ (G.getD i default).c.act) = false then 11 else 0
/-- the claims of the token that is given -/
def exC (ks : List Ky) (cs : List Cl) (G : List Gt) (now m i : Nat) (actor : List UInt8) (t1 t2 : List (List UInt8)) (life : Int) : Cm :=
  ⟨(G.getD i default).c.id, (G.getD i default).c.sub, chooseL (G.getD i default).c.scp t1 (cs.getD m default).sc, chooseL (G.getD i default).c.aud t2 (cs.getD m default).tg, (actS ks cs G now m i actor).1 ++ (G.getD i default).c.act, min (G.getD i default).c.exp (now + life.toNat)⟩
theorem narrowS_ok {c : Cz} {x : Cl} {t1 t2 : List (List UInt8)} (h : (narrowS c x t1 t2).2 = 0) : (narrowS c x t1 t2).1 = { c with scp := chooseL c.scp t1 x.sc, aud := chooseL c.aud t2 x.tg } ∧ listB t1 = true ∧ listB t2 = true := by
  unfold narrowS at h ⊢
  cases h1 : listB t1 <;> cases h2 : listB t2 <;> rw [h1, h2] at h
  · cases h
  · cases h
  · cases h
  · rw [if_neg (by decide)] at h ⊢
    split at h
    · cases h
    · rename_i h3
      rw [if_neg h3]
      split at h
      · cases h
      · rename_i h4
        rw [if_neg h4]
        exact ⟨rfl, rfl, rfl⟩
theorem actS_len (ks : List Ky) (cs : List Cl) (G : List Gt) (now m i : Nat) (actor : List UInt8) : (actS ks cs G now m i actor).1.length ≤ 1 := by
  unfold actS
  split
  · split <;> simp
  · split
    · simp
    · split <;> simp
end Go.Proofs.YtkmkkmdpjliifaaGreatDoor
namespace Go.Proofs.YtkmkkmdpjliifaaGreatDoor
open Go.ChangeShapes Go.WideShapes Go.ChangeAt Go.RowKit

set_option maxHeartbeats 1000000 in
theorem pickK_any (c n : Int) (w : World) (hc : -9223372036854775808 ≤ c ∧ c ≤ 9223372036854775807) (hn : 0 < n ∧ n ≤ 1000000000000) :
    Calls Tryz.prog 26 #[.int .i64 c, .int .i64 n] w fun e w' => e = .returned (.int .i64 (pickZ c n)) ∧ w' = w := by
  go_enter Tryz.func26, Tryz.ntmps26
  go_wp2
  all_goals go_ret
  all_goals refine ⟨?_, rfl⟩
  all_goals unfold pickZ
  · rw [if_pos (by assumption)]; rfl
  · rw [if_neg (by omega)]; rfl
/-- which of n things, as a count -/
def pickN (c : Int) (n : Nat) : Nat := (pickZ c n).toNat
theorem pickN_lt (c : Int) (n : Nat) (hn : 0 < n) : pickN c n < n ∧ pickZ c n = (pickN c n : Nat) := by
  have := pickZ_range c n (by omega)
  unfold pickN
  omega
/-- A slice of numbers, to be read. -/
def LsI (w : World) (B : Nat) (v : Value) (l : List Int) : Prop :=
  ∃ a c, v = .slice a l.length c ∧ l.length ≤ c ∧ (0 < l.length → ∃ g o, a = some ⟨g, o, none⟩ ∧ g < B ∧ ∀ j, j < l.length → w.cell? ⟨g, o + j, none⟩ = some (.int .i64 (l.getD j 0)) ∧ -9223372036854775808 ≤ l.getD j 0 ∧ l.getD j 0 ≤ 9223372036854775807)
theorem LsI.below {w w' : World} {B : Nat} {v : Value} {l : List Int} (h : LsI w B v l) (hb : Below B w w') : LsI w' B v l := by
  obtain ⟨a, c, rfl, hle, h⟩ := h
  refine ⟨a, c, rfl, hle, fun hp => ?_⟩
  obtain ⟨g, o, rfl, hg, h⟩ := h hp
  exact ⟨g, o, rfl, hg, fun j hj => ⟨(hb.cell (p := ⟨g, o + j, none⟩) hg).trans (h j hj).1, (h j hj).2⟩⟩

set_option maxRecDepth 20000 in
set_option maxHeartbeats 1000000 in
theorem inK_any (v : Value) (l : List (List UInt8)) (x : List UInt8) (w : World) (B : Nat) (hl : l.length ≤ 8796093022208) (hv : Ls w B v l) :
    Calls Tryz.prog 66 #[v, .string ⟨x.toArray⟩] w fun e w' => e = .returned (.bool (hasB l x)) ∧ w' = w := by
  obtain ⟨a, c, rfl, hle, hv⟩ := hv
  have HV := hide hv
  have HL := hide hl
  clear hv hl hle
  go_enter Tryz.func66, Tryz.ntmps66
  go_wp2_with fail
  go_loopg [5] l.length (fun q i wr => ∃ k : Nat, k + q = l.length ∧ i = .int .i64 (k : Nat) ∧ (∀ j, j < k → (l.getD j [] != x) = true) ∧ wr = w)
  case atStart => exact ⟨0, Nat.zero_add _, rfl, fun j hj => absurd hj (Nat.not_lt_zero _), rfl⟩
  case round =>
    obtain ⟨k, hk, rfl, hall, rfl⟩ := hrel
    have HALL := hide hall
    clear hall
    by_cases hlt : k < l.length
    · have hkI : (k : Int) < (l.length : Int) := by omega
      have hw := w64j hlt (unhide HL)
      obtain ⟨g, o, rfl, hg, hc⟩ := unhide HV (by omega)
      have hck := hc k hlt
      rw [sv_def] at hck
      generalize hyy : l.getD k [] = y at hck
      have HYY := hide hyy
      clear hc hyy
      by_cases he : y = x
      · subst he
        go_wp2_with fail
        go_ret
        refine ⟨ret_bool ?_, rfl⟩
        unfold hasB
        rw [all_false hlt (by rw [unhide HYY]; simp)]
        rfl
      · have hne : (y == x) = false := by simpa using he
        have HE := hide he
        clear he
        go_wp2_with fail
        go_roundg (gk - 1)
        case measure => omega
        case rel => exact ⟨k + 1, by omega, by first | exact num1 hw | rfl, fun j hj => by
          by_cases e : j = k
          · subst e; rw [unhide HYY]; simpa using unhide HE
          · exact unhide HALL j (by omega), rfl⟩
    · have hkn : k = l.length := by omega
      subst hkn
      clear hk
      go_wp2_with fail
      go_ret
      refine ⟨ret_bool ?_, rfl⟩
      unfold hasB
      rw [all_true (unhide HALL)]
      rfl
end Go.Proofs.YtkmkkmdpjliifaaGreatDoor
namespace Go.Proofs.YtkmkkmdpjliifaaGreatDoor
open Go.ChangeShapes Go.WideShapes Go.ChangeAt Go.RowKit

theorem hasB_mem (l : List (List UInt8)) (x : List UInt8) : hasB l x = true ↔ x ∈ l := by
  unfold hasB
  rw [Bool.not_eq_true', List.all_eq_false]
  constructor
  · rintro ⟨k, hk, h⟩
    have hk' := List.mem_range.1 hk
    have e : l.getD k [] = x := by simpa using h
    rw [← e, List.getD_eq_getElem?_getD, List.getElem?_eq_getElem hk']
    exact List.getElem_mem hk'
  · intro h
    obtain ⟨k, hk, rfl⟩ := List.mem_iff_getElem.1 h
    exact ⟨k, List.mem_range.2 hk, by rw [List.getD_eq_getElem?_getD, List.getElem?_eq_getElem hk]; simp⟩
theorem w64J {j n : Nat} (h : j < n) (hn : n ≤ 17592186044416) : wrap64 ((j : Int) + 1) = (j : Int) + 1 := w64 _ (by omega) (by omega)
/-- the names that the statements take -/
def allN : List (List UInt8) := [[114], [119], [120], [97, 34, 98], [92], [116, 97, 98, 9, 104, 101, 114, 101], [195, 169, 226, 130, 172], [115, 105, 120, 116, 101, 101, 110, 45, 98, 121, 116, 101, 115, 45, 111, 107]]
def nmOf (x : Int) : List UInt8 := allN.getD (pickN x 8) []
def nmStep (out : List (List UInt8)) (x : Int) : List (List UInt8) := if out.length < 6 ∧ hasB out (nmOf x) = false then out ++ [nmOf x] else out
def nmK (l : List Int) : Nat → List (List UInt8)
  | 0 => []
  | k + 1 => nmStep (nmK l k) (l.getD k 0)
theorem allN_name : ∀ k, k < 8 → nameN (allN.getD k []) = true := by decide +kernel
theorem nmOf_name (x : Int) : nameN (nmOf x) = true := allN_name _ (pickN_lt x 8 (by decide)).1
theorem nmStep_list {out : List (List UInt8)} (x : Int) (h : listB out = true) : listB (nmStep out x) = true := by
  unfold nmStep
  split
  · rename_i hc
    rw [listB_iff] at h ⊢
    refine ⟨by rw [List.length_append, List.length_singleton]; omega, fun y hy => ?_, ?_⟩
    · rcases List.mem_append.1 hy with hy | hy
      · exact h.2.1 y hy
      · rw [List.mem_singleton.1 hy]; exact nmOf_name x
    · rw [List.nodup_append]
      refine ⟨h.2.2, by simp, fun a ha b hb e => ?_⟩
      rw [List.mem_singleton.1 hb] at e
      have := (hasB_mem out (nmOf x)).2 (e ▸ ha)
      rw [hc.2] at this
      cases this
  · exact h
theorem nmK_list (l : List Int) : ∀ k, listB (nmK l k) = true
  | 0 => rfl
  | k + 1 => nmStep_list _ (nmK_list l k)
theorem nmK_stop {l : List Int} {k : Nat} (h : ¬ (nmK l k).length < 6) : ∀ j, nmK l (k + j) = nmK l k
  | 0 => rfl
  | j + 1 => by
    rw [← Nat.add_assoc, nmK, nmK_stop h j]
    unfold nmStep
    rw [if_neg (fun hc => h hc.1)]

set_option maxRecDepth 20000 in
set_option maxHeartbeats 2000000 in
theorem names_any (v : Value) (l : List Int) (w : World) (B : Nat) (hB : B ≤ w.heap.size) (hl : l.length ≤ 17592186044416) (hv : LsI w B v l) :
    Calls Tryz.prog 61 #[v] w fun e w' => ∃ v', e = .returned v' ∧ OwnS w' w.heap.size v' (nmK l l.length) ∧ Below w.heap.size w w' := by
  obtain ⟨w1, hw1⟩ : ∃ w1, w1 = allocL w [.cells #[.string ⟨#[114]⟩, .string ⟨#[119]⟩, .string ⟨#[120]⟩, .string ⟨#[97, 34, 98]⟩, .string ⟨#[92]⟩, .string ⟨#[116, 97, 98, 9, 104, 101, 114, 101]⟩, .string ⟨#[195, 169, 226, 130, 172]⟩, .string ⟨#[115, 105, 120, 116, 101, 101, 110, 45, 98, 121, 116, 101, 115, 45, 111, 107]⟩] 9] := ⟨_, rfl⟩
  have hb1 : Below w.heap.size w w1 := by rw [hw1]; exact allocL_below _ _
  have hs1 : w1.heap.size = w.heap.size + 1 := by rw [hw1, allocL_size]; rfl
  have hAll : ∀ j, j < 8 → w1.cell? ⟨w.heap.size, j, none⟩ = some (sv (allN.getD j [])) := fun j hj => by
    rw [hw1]
    have h := allocL_ls (os := [.cells #[.string ⟨#[114]⟩, .string ⟨#[119]⟩, .string ⟨#[120]⟩, .string ⟨#[97, 34, 98]⟩, .string ⟨#[92]⟩, .string ⟨#[116, 97, 98, 9, 104, 101, 114, 101]⟩, .string ⟨#[195, 169, 226, 130, 172]⟩, .string ⟨#[115, 105, 120, 116, 101, 101, 110, 45, 98, 121, 116, 101, 115, 45, 111, 107]⟩] 9]) (w := w) (i := 0) (l := allN) rfl (by simp)
    obtain ⟨a, c, e, _, h⟩ := h
    obtain ⟨g, o, rfl, _, h⟩ := h (by decide)
    injection e with e1
    injection e1 with e1
    injection e1 with e2 e3
    subst e2
    subst e3
    have := h j hj
    rw [Nat.zero_add] at this
    exact this
  have hv1 := hv.below (hb1.mono hB)
  have HV := hide hv1
  obtain ⟨a, c, rfl, hle, hx⟩ := hv
  have HL := hide hl
  have HAll := hide hAll
  have HB1 := hide hb1
  have HW1 : Hid (w1 = w.alloc (.cells #[.string ⟨#[114]⟩, .string ⟨#[119]⟩, .string ⟨#[120]⟩, .string ⟨#[97, 34, 98]⟩, .string ⟨#[92]⟩, .string ⟨#[116, 97, 98, 9, 104, 101, 114, 101]⟩, .string ⟨#[195, 169, 226, 130, 172]⟩, .string ⟨#[115, 105, 120, 116, 101, 101, 110, 45, 98, 121, 116, 101, 115, 45, 111, 107]⟩] 9)) := hw1
  clear hx hl hAll hb1 hw1 hv1 hle
  go_enter Tryz.func61, Tryz.ntmps61
  go_wp2_with fail
  rw [← unhide HW1]
  clear HW1
  go_loopg [4, 5] l.length (fun q vo i wr => ∃ k : Nat, k + q = l.length ∧ i = .int .i64 (k : Nat) ∧ OwnS wr (w.heap.size + 1) vo (nmK l k) ∧ Below (w.heap.size + 1) w1 wr)
  case atStart => exact ⟨0, Nat.zero_add _, rfl, OwnS.nil _ _, Below.refl _ _⟩
  case round =>
    obtain ⟨k, hk, rfl, hO, hb⟩ := hrel
    have hsr := hb.size
    have HO := hide hO
    have HB := hide hb
    obtain ⟨ao, co, rfl, hox⟩ := hO.ls
    clear hox hO
    by_cases hlt : k < l.length
    · have hkI : (k : Int) < (l.length : Int) := by omega
      have hw := w64J hlt (unhide HL)
      by_cases h6 : (nmK l k).length < 6
      · have h6I : ((nmK l k).length : Int) < 6 := by omega
        obtain ⟨a2, c2, e, _, hxa⟩ := (unhide HV).below ((unhide HB).mono (by omega))
        obtain ⟨g, o, e2, hg, hxb⟩ := hxa (by omega)
        have hxc := hxb k hlt
        clear hxa hxb
        injection e with e3 e4 e5
        subst e3
        subst e2
        subst e5
        clear e4
        obtain ⟨hck, hlo, hhi⟩ := hxc
        have HP := hide (pickK_any (l.getD k 0) 8 wr ⟨hlo, hhi⟩ (by decide))
        obtain ⟨hp1, hp2⟩ := pickN_lt (l.getD k 0) 8 (by decide)
        have hstep : nmK l (k + 1) = nmStep (nmK l k) (l.getD k 0) := rfl
        have HS1 : Hid (hasB (nmK l k) (nmOf (l.getD k 0)) = true → nmK l (k + 1) = nmK l k) := fun h => by
          rw [hstep]
          unfold nmStep
          rw [if_neg]
          rintro ⟨_, h2⟩
          rw [h] at h2
          cases h2
        have HS2 : Hid (hasB (nmK l k) (nmOf (l.getD k 0)) = false → nmK l (k + 1) = nmK l k ++ [nmOf (l.getD k 0)]) := fun h => by
          rw [hstep]
          unfold nmStep
          rw [if_pos ⟨h6, h⟩]
        have hnm : nmOf (l.getD k 0) = allN.getD (pickN (l.getD k 0) 8) [] := rfl
        have hcn := ((unhide HB).cell (p := ⟨w.heap.size, pickN (l.getD k 0) 8, none⟩) (show w.heap.size < w.heap.size + 1 by omega)).trans (unhide HAll _ hp1)
        rw [← hnm, sv_def] at hcn
        rw [show ((8 : Nat) : Int) = 8 from rfl] at hp2
        rw [hp2] at HP
        generalize hpk : pickN (l.getD k 0) 8 = pk at *
        generalize hxk : l.getD k 0 = xk at *
        generalize nmOf xk = y at *
        have HIn := hide (inK_any (.slice ao (nmK l k).length co) (nmK l k) y wr wr.heap.size (by omega) (unhide HO).ls)
        have hpI : (pk : Int) < 8 := by omega
        have HXK := hide (And.intro hpk hxk)
        clear hpk hxk hlo hhi hp1 hp2 hnm hstep
        cases hb0 : hasB (nmK l k) y with
        | true =>
          rw [hb0] at HIn
          have hnx : nmK l (k + 1) = nmK l k := unhide HS1 hb0
          have HNX := hide hnx
          clear hnx hb0 HS1 HS2
          go_wp2_with (first | (go_at_call 26; refine (unhide HP).mono ?_; rintro e w2 ⟨rfl, rfl⟩) | (go_at_call 66; refine (unhide HIn).mono ?_; rintro e w3 ⟨rfl, rfl⟩))
          go_roundg (gk - 1)
          case measure => omega
          case rel => exact ⟨k + 1, by omega, by first | exact num1 hw | rfl, by rw [unhide HNX]; exact unhide HO, unhide HB⟩
        | false =>
          rw [hb0] at HIn
          have hnx : nmK l (k + 1) = nmK l k ++ [y] := unhide HS2 hb0
          have HNX := hide hnx
          clear hnx hb0 HS1 HS2
          have hsx : (wr.alloc (.cells #[.string ⟨y.toArray⟩] 9)).heap.size = wr.heap.size + 1 := by simp
          have hax : Below wr.heap.size wr (wr.alloc (.cells #[.string ⟨y.toArray⟩] 9)) := (Below.refl _ _).alloc (Nat.le_refl _) _
          obtain ⟨v', w', hrun, hO', hg'⟩ := append_onto (w := wr.alloc (.cells #[.string ⟨y.toArray⟩] 9)) (v := .slice (some ⟨wr.heap.size, 0, none⟩) 1 1) (l := [y]) (b0 := w.heap.size + 1) (by omega) ((unhide HO).below hax) (by omega) (by simp) (allocL_ls (os := [.cells #[.string ⟨y.toArray⟩] 9]) (w := wr) (i := 0) (l := [y]) rfl (by simp)) 35
          have hb' : Below (w.heap.size + 1) w1 w' := ((unhide HB).trans (hax.mono (by omega))).grown hg' (by omega) (fun k hk => ((unhide HO).lt k hk).1)
          have HF := hide (And.intro hO' hb')
          clear hO' hb' hg' hax
          go_wp2_with (first | (go_at_call 26; refine (unhide HP).mono ?_; rintro e w2 ⟨rfl, rfl⟩) | (go_at_call 66; refine (unhide HIn).mono ?_; rintro e w3 ⟨rfl, rfl⟩) | (at_builtin; refine appLaw rfl _ _ rfl rfl rfl hrun ?_))
          go_roundg (gk - 1)
          case measure => omega
          case rel => exact ⟨k + 1, by omega, by first | exact num1 hw | rfl, by rw [unhide HNX]; exact (unhide HF).1, (unhide HF).2⟩
      · have h6I : ¬ ((nmK l k).length : Int) < 6 := by omega
        have hst : nmK l l.length = nmK l k := by
          have := nmK_stop h6 (l.length - k)
          rw [show k + (l.length - k) = l.length by omega] at this
          exact this
        have HST := hide hst
        clear hst h6
        go_wp2_with fail
        go_ret
        exact ⟨_, rfl, by rw [unhide HST]; exact (unhide HO).down (by omega), (unhide HB1).trans ((unhide HB).mono (by omega))⟩
    · have hkn : k = l.length := by omega
      subst hkn
      clear hk
      go_wp2_with fail
      go_ret
      exact ⟨_, rfl, (unhide HO).down (by omega), (unhide HB1).trans ((unhide HB).mono (by omega))⟩
end Go.Proofs.YtkmkkmdpjliifaaGreatDoor
namespace Go.Proofs.YtkmkkmdpjliifaaGreatDoor
open Go.ChangeShapes Go.WideShapes Go.ChangeAt Go.RowKit

theorem nm6 : nmK [0, 1, 2, 3, 4, 5] 6 = allN.take 6 := by decide +kernel
/-- right claims, out of raw numbers -/
def rawC (id subject : Int) (l2 l3 l4 : List Int) (expiry : Int) : Cm :=
  ⟨pickN id 1000000000000, allN.getD (pickN subject 6) [], nmK l2 l2.length, nmK l3 l3.length, nmK l4 l4.length, pickN expiry 1000000000000⟩
theorem rawC_right (id subject : Int) (l2 l3 l4 : List Int) (expiry : Int) : rightB (rawC id subject l2 l3 l4 expiry).z = true := by
  have h1 := pickN_lt id 1000000000000 (by decide)
  have h2 := pickN_lt expiry 1000000000000 (by decide)
  have h3 := pickN_lt subject 6 (by decide)
  rw [rightB_eq]
  show (nameN (allN.getD (pickN subject 6) []) && (listB (nmK l2 l2.length) && (listB (nmK l3 l3.length) && (listB (nmK l4 l4.length) && numsB ((pickN id 1000000000000 : Nat) : Int) ((pickN expiry 1000000000000 : Nat) : Int))))) = true
  rw [allN_name _ (by omega), nmK_list, nmK_list, nmK_list]
  have hn : numsB ((pickN id 1000000000000 : Nat) : Int) ((pickN expiry 1000000000000 : Nat) : Int) = true := by unfold numsB; simp; omega
  rw [hn]
  rfl

set_option maxRecDepth 20000 in
set_option maxHeartbeats 2000000 in
theorem claimsK_any (id subject : Int) (v2 v3 v4 : Value) (l2 l3 l4 : List Int) (expiry : Int) (w : World) (B : Nat) (hB : B ≤ w.heap.size) (hi : -9223372036854775808 ≤ id ∧ id ≤ 9223372036854775807) (hsj : -9223372036854775808 ≤ subject ∧ subject ≤ 9223372036854775807) (he : -9223372036854775808 ≤ expiry ∧ expiry ≤ 9223372036854775807)
    (n2 : l2.length ≤ 17592186044416) (n3 : l3.length ≤ 17592186044416) (n4 : l4.length ≤ 17592186044416) (k2 : LsI w B v2 l2) (k3 : LsI w B v3 l3) (k4 : LsI w B v4 l4) :
    Calls Tryz.prog 18 #[.int .i64 id, .int .i64 subject, v2, v3, v4, .int .i64 expiry] w fun e w' => ∃ p', e = .returned (.agg (czA (rawC id subject l2 l3 l4 expiry).z p')) ∧ CzN w' (New w w') (rawC id subject l2 l3 l4 expiry).z p' ∧ Below w.heap.size w w' := by
  obtain ⟨w1, hw1⟩ : ∃ w1, w1 = allocL w [.cells #[.int .i64 0, .string ⟨#[]⟩, .slice none 0 0, .slice none 0 0, .slice none 0 0, .int .i64 0] 60, .cells #[.int .i64 0, .int .i64 1, .int .i64 2, .int .i64 3, .int .i64 4, .int .i64 5] 3] := ⟨_, rfl⟩
  have hb1 : Below w.heap.size w w1 := by rw [hw1]; exact allocL_below _ _
  have hs1 : w1.heap.size = w.heap.size + 2 := by rw [hw1, allocL_size]; rfl
  have hZ1 : Row w1 w.heap.size 60 6 (czF cz0 pl0) := by rw [hw1]; exact ⟨_, allocL_heap _ w 0 _ rfl, rfl, six rfl rfl rfl rfl rfl rfl⟩
  have hI1 : LsI w1 w1.heap.size (.slice (some ⟨w.heap.size + 1, 0, none⟩) 6 6) [0, 1, 2, 3, 4, 5] := by
    refine ⟨_, _, rfl, Nat.le_refl _, fun _ => ⟨_, _, rfl, by omega, fun j hj => ?_⟩⟩
    have hj6 : j < 6 := hj
    rw [Nat.zero_add, hw1, allocL_cell (i := 1) rfl]
    rcases (show j = 0 ∨ j = 1 ∨ j = 2 ∨ j = 3 ∨ j = 4 ∨ j = 5 by omega) with rfl | rfl | rfl | rfl | rfl | rfl <;> exact ⟨rfl, by decide, by decide⟩
  have HN1 := hide (names_any _ [0, 1, 2, 3, 4, 5] w1 w1.heap.size (Nat.le_refl _) (by decide) hI1)
  have HN2 := hide (fun (u : World) (hu : Below w.heap.size w u) => names_any v2 l2 u B (by have := hu.size; omega) n2 (k2.below (hu.mono hB)))
  have HN3 := hide (fun (u : World) (hu : Below w.heap.size w u) => names_any v3 l3 u B (by have := hu.size; omega) n3 (k3.below (hu.mono hB)))
  have HN4 := hide (fun (u : World) (hu : Below w.heap.size w u) => names_any v4 l4 u B (by have := hu.size; omega) n4 (k4.below (hu.mono hB)))
  have HP1 := hide (fun u => pickK_any id 1000000000000 u hi (by decide))
  have HP2 := hide (fun u => pickK_any subject 6 u hsj (by decide))
  have HP3 := hide (fun u => pickK_any expiry 1000000000000 u he (by decide))
  obtain ⟨a2, c2, rfl, x2⟩ := k2
  obtain ⟨a3, c3, rfl, x3⟩ := k3
  obtain ⟨a4, c4, rfl, x4⟩ := k4
  have HW1 : Hid (w1 = (w.alloc (.cells #[.int .i64 0, .string ⟨#[]⟩, .slice none 0 0, .slice none 0 0, .slice none 0 0, .int .i64 0] 60)).alloc (.cells #[.int .i64 0, .int .i64 1, .int .i64 2, .int .i64 3, .int .i64 4, .int .i64 5] 3)) := hw1
  have HB1 := hide hb1
  have HZ1 := hide hZ1
  clear x2 x3 x4 hw1 hb1 hZ1 hI1 n2 n3 n4 hi hsj he
  go_enter Tryz.func18, Tryz.ntmps18
  go_wp2_with fail
  rw [← unhide HW1]
  refine (unhide HN1).mono ?_
  rintro e w2 ⟨va, rfl, hO2, hb2⟩
  have hs2 := hb2.size
  have hB2 := (unhide HB1).trans (hb2.mono (by omega))
  rw [show ([0, 1, 2, 3, 4, 5] : List Int).length = 6 from rfl, nm6] at hO2
  rcases hO2.row with ⟨_, h0⟩ | ⟨ga, cap, fa, rfl, hga, hgl, hcap, hRa, hfa⟩
  · exact absurd h0 (by decide)
  have HRa := hide (And.intro hRa hfa)
  clear hRa hfa hO2 HW1 HN1
  rw [show (allN.take 6).length = 6 from rfl]
  go_wp2_with fail
  refine (unhide HN2 w2 hB2).mono ?_
  rintro e w3 ⟨vb, rfl, hO3, hb3⟩
  have hs3 := hb3.size
  have hB3 := hB2.trans (hb3.mono (by omega))
  have HO3 := hide hO3
  obtain ⟨b2, d2, rfl, y2⟩ := hO3.ls
  clear hO3 y2 HN2
  go_wp2_with fail
  refine (unhide HN3 w3 hB3).mono ?_
  rintro e w4 ⟨vc, rfl, hO4, hb4⟩
  have hs4 := hb4.size
  have hB4 := hB3.trans (hb4.mono (by omega))
  have HO4 := hide hO4
  obtain ⟨b3, d3, rfl, y3⟩ := hO4.ls
  clear hO4 y3 HN3
  go_wp2_with fail
  refine (unhide HN4 w4 hB4).mono ?_
  rintro e w5 ⟨vd, rfl, hO5, hb5⟩
  have hs5 := hb5.size
  have hB5 := hB4.trans (hb5.mono (by omega))
  have HO5 := hide hO5
  obtain ⟨b4, d4, rfl, y4⟩ := hO5.ls
  clear hO5 y4 HN4
  obtain ⟨p1, p1e⟩ := pickN_lt id 1000000000000 (by decide)
  obtain ⟨p2, p2e⟩ := pickN_lt subject 6 (by decide)
  obtain ⟨p3, p3e⟩ := pickN_lt expiry 1000000000000 (by decide)
  rw [show ((1000000000000 : Nat) : Int) = 1000000000000 from rfl] at p1e p3e
  rw [show ((6 : Nat) : Int) = 6 from rfl] at p2e
  rw [p1e] at HP1
  rw [p2e] at HP2
  rw [p3e] at HP3
  have hb25 : Below w2.heap.size w2 w5 := (hb3.trans (hb4.mono hs3)).trans (hb5.mono (by omega))
  have hZ5 := ((unhide HZ1).below hb2 (by omega)).below hb25 (by omega)
  have hRa5 := (unhide HRa).1.below hb25 hgl
  have hcs : w5.cell? ⟨ga, pickN subject 6, none⟩ = some (.string ⟨(allN.getD (pickN subject 6) []).toArray⟩) := by
    have h6 : (allN.take 6).length = 6 := rfl
    rw [hRa5.cell (by omega), (unhide HRa).2 _ (by omega)]
    have e : (allN.take 6).getD (pickN subject 6) [] = allN.getD (pickN subject 6) [] := by
      rw [List.getD_eq_getElem?_getD, List.getElem?_take_of_lt p2, ← List.getD_eq_getElem?_getD]
    rw [e]
    rfl
  have HRW : Hid (rawC id subject l2 l3 l4 expiry = ⟨pickN id 1000000000000, allN.getD (pickN subject 6) [], nmK l2 l2.length, nmK l3 l3.length, nmK l4 l4.length, pickN expiry 1000000000000⟩) := rfl
  generalize hrw : rawC id subject l2 l3 l4 expiry = cr at *
  have HRC := hide hrw
  clear hrw
  generalize pickN id 1000000000000 = pi at *
  generalize pickN expiry 1000000000000 = pe at *
  generalize allN.getD (pickN subject 6) [] = sub at *
  generalize pickN subject 6 = pk at *
  have hpk6 : (pk : Int) < 6 := by omega
  have y0 : w5.cell? ⟨w.heap.size, 0, none⟩ = some (.int .i64 0) := hZ5.cell (by decide)
  have y1 : w5.cell? ⟨w.heap.size, 1, none⟩ = some (.string ⟨#[]⟩) := hZ5.cell (by decide)
  have y2 : w5.cell? ⟨w.heap.size, 2, none⟩ = some (.slice none 0 0) := hZ5.cell (by decide)
  have y3 : w5.cell? ⟨w.heap.size, 3, none⟩ = some (.slice none 0 0) := hZ5.cell (by decide)
  have y4 : w5.cell? ⟨w.heap.size, 4, none⟩ = some (.slice none 0 0) := hZ5.cell (by decide)
  have y5 : w5.cell? ⟨w.heap.size, 5, none⟩ = some (.int .i64 0) := hZ5.cell (by decide)
  have z0 := hZ5.frozen 0
  have z1 := hZ5.frozen 1
  have z2 := hZ5.frozen 2
  have z3 := hZ5.frozen 3
  have z4 := hZ5.frozen 4
  have z5 := hZ5.frozen 5
  have nga : ga ≠ w.heap.size := by omega
  have mga : w.heap.size ≠ ga := by omega
  have HZ5 := hide hZ5
  have HN5 : Hid (CzN w5 (fun k => w.heap.size < k ∧ k < w5.heap.size) cr.z ⟨b2, d2, b3, d3, b4, d4⟩) := by
    rw [unhide HRW]
    refine ⟨?_, ?_, ?_⟩
    · exact (owns_LsN (((unhide HO3).below hb4).below hb5)).keep (fun k hk => ⟨rfl, by have := hk.1; omega, hk.2⟩)
    · exact (owns_LsN ((unhide HO4).below hb5)).keep (fun k hk => ⟨rfl, by have := hk.1; omega, hk.2⟩)
    · exact (owns_LsN (unhide HO5)).keep (fun k hk => ⟨rfl, by have := hk.1; omega, hk.2⟩)
  have HB5 := hide hB5
  clear hZ5 hRa5 HRa hb25 hb2 hb3 hb4 hb5 hB2 hB3 hB4 hB5 HZ1 HB1 HO3 HO4 HO5 p1 p2 p3 p1e p2e p3e hgl hcap
  generalize nmK l2 l2.length = m2 at *
  generalize nmK l3 l3.length = m3 at *
  generalize nmK l4 l4.length = m4 at *
  go_wp2_with fail
  go_region_held3 (fun w' => w'.cell? ⟨ga, pk, none⟩ = some (.string ⟨sub.toArray⟩)) (go_keep)
    (first
      | (go_at_call_of 26 (Value.int IntKind.i64 id); refine (unhide HP1 _).mono ?_; rintro e wx ⟨rfl, rfl⟩)
      | (go_at_call_of 26 (Value.int IntKind.i64 subject); refine (unhide HP2 _).mono ?_; rintro e wx ⟨rfl, rfl⟩)
      | (go_at_call_of 26 (Value.int IntKind.i64 expiry); refine (unhide HP3 _).mono ?_; rintro e wx ⟨rfl, rfl⟩))
  go_wp2_with fail
  have hcr := unhide HRW
  subst hcr
  have hrow : Row (st6 w5 w.heap.size (⟨pi, sub, m2, m3, m4, pe⟩ : Cm).z ⟨b2, d2, b3, d3, b4, d4⟩).drew w.heap.size 60 6 (czF (⟨pi, sub, m2, m3, m4, pe⟩ : Cm).z ⟨b2, d2, b3, d3, b4, d4⟩) := (st6_row (unhide HZ5) (⟨pi, sub, m2, m3, m4, pe⟩ : Cm).z ⟨b2, d2, b3, d3, b4, d4⟩).below (Below.refl (w.heap.size + 1) _).drew (Nat.lt_succ_self _)
  have hfin : CzN (st6 w5 w.heap.size (⟨pi, sub, m2, m3, m4, pe⟩ : Cm).z ⟨b2, d2, b3, d3, b4, d4⟩).drew (New w (st6 w5 w.heap.size (⟨pi, sub, m2, m3, m4, pe⟩ : Cm).z ⟨b2, d2, b3, d3, b4, d4⟩).drew) (⟨pi, sub, m2, m3, m4, pe⟩ : Cm).z ⟨b2, d2, b3, d3, b4, d4⟩ ∧ Below w.heap.size w (st6 w5 w.heap.size (⟨pi, sub, m2, m3, m4, pe⟩ : Cm).z ⟨b2, d2, b3, d3, b4, d4⟩).drew := by
    have b6 := (st6_but w5 w.heap.size (⟨pi, sub, m2, m3, m4, pe⟩ : Cm).z ⟨b2, d2, b3, d3, b4, d4⟩).drew
    generalize (st6 w5 w.heap.size (⟨pi, sub, m2, m3, m4, pe⟩ : Cm).z ⟨b2, d2, b3, d3, b4, d4⟩).drew = w6 at b6 ⊢
    exact ⟨(unhide HN5).keep (fun k hk => ⟨b6.block k (by have := hk.1; omega), by have h1 : w.heap.size < k := hk.1; show w.heap.size ≤ k; omega, by rw [b6.size]; exact hk.2⟩), (unhide HB5).trans (b6.below (Nat.le_refl _))⟩
  refine ret_czo (c := (⟨pi, sub, m2, m3, m4, pe⟩ : Cm).z) (p := ⟨b2, d2, b3, d3, b4, d4⟩) (g := w.heap.size) Tryz.results18 hrow rfl rfl ?_
  rw [unhide HRC]
  exact ⟨⟨b2, d2, b3, d3, b4, d4⟩, rfl, hfin⟩
end Go.Proofs.YtkmkkmdpjliifaaGreatDoor
namespace Go.Proofs.YtkmkkmdpjliifaaGreatDoor
open Go.ChangeShapes Go.WideShapes Go.ChangeAt Go.RowKit

/- Unpack of texts of up to 2,097,152 letters (UxF's walk, with a wider bound) -/
end Go.Proofs.YtkmkkmdpjliifaaGreatDoor
