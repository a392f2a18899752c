import Derived.Test.YtkmkkmdpjliifaaGreatDoorExF
import Derived.Test.YtkmkkmdpjliifaaGreatDoorUxD
import Derived.Test.YtkmkkmdpjliifaaGreatDoorExE
import Derived.Test.YtkmkkmdpjliifaaGreatDoorSvU
namespace Go.Proofs.YtkmkkmdpjliifaaGreatDoor
open Go.ChangeShapes Go.WideShapes Go.ChangeAt Go.RowKit

theorem hasB_mem (l : List (List UInt8)) (x : List UInt8) : hasB l x = true ↔ x ∈ l := by
  unfold hasB
  rw [Bool.not_eq_true', List.all_eq_false]
  constructor
  · rintro ⟨k, hk, h⟩
    have hk' := List.mem_range.1 hk
    have e : l.getD k [] = x := by simpa using h
    rw [← e, List.getD_eq_getElem?_getD, List.getElem?_eq_getElem hk']
    exact List.getElem_mem hk'
  · intro h
    obtain ⟨k, hk, rfl⟩ := List.mem_iff_getElem.1 h
    exact ⟨k, List.mem_range.2 hk, by rw [List.getD_eq_getElem?_getD, List.getElem?_eq_getElem hk]; simp⟩
/-- the names that the statements take -/
def allN : List (List UInt8) := [[114], [119], [120], [97, 34, 98], [92], [116, 97, 98, 9, 104, 101, 114, 101], [195, 169, 226, 130, 172], [115, 105, 120, 116, 101, 101, 110, 45, 98, 121, 116, 101, 115, 45, 111, 107]]
def nmOf (x : Int) : List UInt8 := allN.getD (pickN x 8) []
def nmStep (out : List (List UInt8)) (x : Int) : List (List UInt8) := if out.length < 6 ∧ hasB out (nmOf x) = false then out ++ [nmOf x] else out
def nmK (l : List Int) : Nat → List (List UInt8)
  | 0 => []
  | k + 1 => nmStep (nmK l k) (l.getD k 0)
theorem allN_name : ∀ k, k < 8 → nameN (allN.getD k []) = true := by decide +kernel
theorem nmOf_name (x : Int) : nameN (nmOf x) = true := allN_name _ (pickN_lt x 8 (by decide)).1
theorem nmStep_list {out : List (List UInt8)} (x : Int) (h : listB out = true) : listB (nmStep out x) = true := by
  unfold nmStep
  split
  · rename_i hc
    rw [listB_iff] at h ⊢
    refine ⟨by rw [List.length_append, List.length_singleton]; omega, fun y hy => ?_, ?_⟩
    · rcases List.mem_append.1 hy with hy | hy
      · exact h.2.1 y hy
      · rw [List.mem_singleton.1 hy]; exact nmOf_name x
    · rw [List.nodup_append]
      refine ⟨h.2.2, by simp, fun a ha b hb e => ?_⟩
      rw [List.mem_singleton.1 hb] at e
      have := (hasB_mem out (nmOf x)).2 (e ▸ ha)
      rw [hc.2] at this
      cases this
  · exact h
theorem nmK_list (l : List Int) : ∀ k, listB (nmK l k) = true
  | 0 => rfl
  | k + 1 => nmStep_list _ (nmK_list l k)
theorem nmK_stop {l : List Int} {k : Nat} (h : ¬ (nmK l k).length < 6) : ∀ j, nmK l (k + j) = nmK l k
  | 0 => rfl
  | j + 1 => by
    rw [← Nat.add_assoc, nmK, nmK_stop h j]
    unfold nmStep
    rw [if_neg (fun hc => h hc.1)]

set_option maxRecDepth 20000 in
set_option maxHeartbeats 2000000 in
theorem names_any (v : Value) (l : List Int) (w : World) (B : Nat) (hB : B ≤ w.heap.size) (hl : l.length ≤ 8796093022208) (hv : LsI w B v l) :
    Calls Tryz.prog 61 #[v] w fun e w' => ∃ v', e = .returned v' ∧ OwnS w' w.heap.size v' (nmK l l.length) ∧ Below w.heap.size w w' := by
  obtain ⟨w1, hw1⟩ : ∃ w1, w1 = allocL w [.cells #[.string ⟨#[114]⟩, .string ⟨#[119]⟩, .string ⟨#[120]⟩, .string ⟨#[97, 34, 98]⟩, .string ⟨#[92]⟩, .string ⟨#[116, 97, 98, 9, 104, 101, 114, 101]⟩, .string ⟨#[195, 169, 226, 130, 172]⟩, .string ⟨#[115, 105, 120, 116, 101, 101, 110, 45, 98, 121, 116, 101, 115, 45, 111, 107]⟩] 9] := ⟨_, rfl⟩
  have hb1 : Below w.heap.size w w1 := by rw [hw1]; exact allocL_below _ _
  have hs1 : w1.heap.size = w.heap.size + 1 := by rw [hw1, allocL_size]; rfl
  have hAll : ∀ j, j < 8 → w1.cell? ⟨w.heap.size, j, none⟩ = some (sv (allN.getD j [])) := fun j hj => by
    rw [hw1]
    have h := allocL_ls (os := [.cells #[.string ⟨#[114]⟩, .string ⟨#[119]⟩, .string ⟨#[120]⟩, .string ⟨#[97, 34, 98]⟩, .string ⟨#[92]⟩, .string ⟨#[116, 97, 98, 9, 104, 101, 114, 101]⟩, .string ⟨#[195, 169, 226, 130, 172]⟩, .string ⟨#[115, 105, 120, 116, 101, 101, 110, 45, 98, 121, 116, 101, 115, 45, 111, 107]⟩] 9]) (w := w) (i := 0) (l := allN) rfl (by simp)
    obtain ⟨a, c, e, _, h⟩ := h
    obtain ⟨g, o, rfl, _, h⟩ := h (by decide)
    injection e with e1
    injection e1 with e1
    injection e1 with e2 e3
    subst e2
    subst e3
    have := h j hj
    rw [Nat.zero_add] at this
    exact this
  have hv1 := hv.below (hb1.mono hB)
  have HV := hide hv1
  obtain ⟨a, c, rfl, hle, hx⟩ := hv
  have HL := hide hl
  have HAll := hide hAll
  have HB1 := hide hb1
  have HW1 : Hid (w1 = w.alloc (.cells #[.string ⟨#[114]⟩, .string ⟨#[119]⟩, .string ⟨#[120]⟩, .string ⟨#[97, 34, 98]⟩, .string ⟨#[92]⟩, .string ⟨#[116, 97, 98, 9, 104, 101, 114, 101]⟩, .string ⟨#[195, 169, 226, 130, 172]⟩, .string ⟨#[115, 105, 120, 116, 101, 101, 110, 45, 98, 121, 116, 101, 115, 45, 111, 107]⟩] 9)) := hw1
  clear hx hl hAll hb1 hw1 hv1 hle
  go_enter Tryz.func61, Tryz.ntmps61
  go_wp2_with fail
  rw [← unhide HW1]
  clear HW1
  go_loopg [4, 5] l.length (fun q vo i wr => ∃ k : Nat, k + q = l.length ∧ i = .int .i64 (k : Nat) ∧ OwnS wr (w.heap.size + 1) vo (nmK l k) ∧ Below (w.heap.size + 1) w1 wr)
  case atStart => exact ⟨0, Nat.zero_add _, rfl, OwnS.nil _ _, Below.refl _ _⟩
  case round =>
    obtain ⟨k, hk, rfl, hO, hb⟩ := hrel
    have hsr := hb.size
    have HO := hide hO
    have HB := hide hb
    obtain ⟨ao, co, rfl, hox⟩ := hO.ls
    clear hox hO
    by_cases hlt : k < l.length
    · have hkI : (k : Int) < (l.length : Int) := by omega
      have hw := w64j hlt (unhide HL)
      by_cases h6 : (nmK l k).length < 6
      · have h6I : ((nmK l k).length : Int) < 6 := by omega
        obtain ⟨a2, c2, e, _, hxa⟩ := (unhide HV).below ((unhide HB).mono (by omega))
        obtain ⟨g, o, e2, hg, hxb⟩ := hxa (by omega)
        have hxc := hxb k hlt
        clear hxa hxb
        injection e with e3 e4 e5
        subst e3
        subst e2
        subst e5
        clear e4
        obtain ⟨hck, hlo, hhi⟩ := hxc
        have HP := hide (pickK_any (l.getD k 0) 8 wr ⟨hlo, hhi⟩ (by decide))
        obtain ⟨hp1, hp2⟩ := pickN_lt (l.getD k 0) 8 (by decide)
        have hstep : nmK l (k + 1) = nmStep (nmK l k) (l.getD k 0) := rfl
        have HS1 : Hid (hasB (nmK l k) (nmOf (l.getD k 0)) = true → nmK l (k + 1) = nmK l k) := fun h => by
          rw [hstep]
          unfold nmStep
          rw [if_neg]
          rintro ⟨_, h2⟩
          rw [h] at h2
          cases h2
        have HS2 : Hid (hasB (nmK l k) (nmOf (l.getD k 0)) = false → nmK l (k + 1) = nmK l k ++ [nmOf (l.getD k 0)]) := fun h => by
          rw [hstep]
          unfold nmStep
          rw [if_pos ⟨h6, h⟩]
        have hnm : nmOf (l.getD k 0) = allN.getD (pickN (l.getD k 0) 8) [] := rfl
        have hcn := ((unhide HB).cell (p := ⟨w.heap.size, pickN (l.getD k 0) 8, none⟩) (show w.heap.size < w.heap.size + 1 by omega)).trans (unhide HAll _ hp1)
        rw [← hnm, sv_def] at hcn
        rw [show ((8 : Nat) : Int) = 8 from rfl] at hp2
        rw [hp2] at HP
        generalize hpk : pickN (l.getD k 0) 8 = pk at *
        generalize hxk : l.getD k 0 = xk at *
        generalize nmOf xk = y at *
        have HIn := hide (inK_any (.slice ao (nmK l k).length co) (nmK l k) y wr wr.heap.size (by omega) (unhide HO).ls)
        have hpI : (pk : Int) < 8 := by omega
        have HXK := hide (And.intro hpk hxk)
        clear hpk hxk hlo hhi hp1 hp2 hnm hstep
        cases hb0 : hasB (nmK l k) y with
        | true =>
          rw [hb0] at HIn
          have hnx : nmK l (k + 1) = nmK l k := unhide HS1 hb0
          have HNX := hide hnx
          clear hnx hb0 HS1 HS2
          go_wp2_with (first | (go_at_call 26; refine (unhide HP).mono ?_; rintro e w2 ⟨rfl, rfl⟩) | (go_at_call 66; refine (unhide HIn).mono ?_; rintro e w3 ⟨rfl, rfl⟩))
          go_roundg (gk - 1)
          case measure => omega
          case rel => exact ⟨k + 1, by omega, by first | exact num1 hw | rfl, by rw [unhide HNX]; exact unhide HO, unhide HB⟩
        | false =>
          rw [hb0] at HIn
          have hnx : nmK l (k + 1) = nmK l k ++ [y] := unhide HS2 hb0
          have HNX := hide hnx
          clear hnx hb0 HS1 HS2
          have hsx : (wr.alloc (.cells #[.string ⟨y.toArray⟩] 9)).heap.size = wr.heap.size + 1 := by simp
          have hax : Below wr.heap.size wr (wr.alloc (.cells #[.string ⟨y.toArray⟩] 9)) := (Below.refl _ _).alloc (Nat.le_refl _) _
          obtain ⟨v', w', hrun, hO', hg'⟩ := append_onto (w := wr.alloc (.cells #[.string ⟨y.toArray⟩] 9)) (v := .slice (some ⟨wr.heap.size, 0, none⟩) 1 1) (l := [y]) (b0 := w.heap.size + 1) (by omega) ((unhide HO).below hax) (by omega) (by simp) (allocL_ls (os := [.cells #[.string ⟨y.toArray⟩] 9]) (w := wr) (i := 0) (l := [y]) rfl (by simp)) 35
          have hb' : Below (w.heap.size + 1) w1 w' := ((unhide HB).trans (hax.mono (by omega))).grown hg' (by omega) (fun k hk => ((unhide HO).lt k hk).1)
          have HF := hide (And.intro hO' hb')
          clear hO' hb' hg' hax
          go_wp2_with (first | (go_at_call 26; refine (unhide HP).mono ?_; rintro e w2 ⟨rfl, rfl⟩) | (go_at_call 66; refine (unhide HIn).mono ?_; rintro e w3 ⟨rfl, rfl⟩) | (at_builtin; refine appLaw rfl _ _ rfl rfl rfl hrun ?_))
          go_roundg (gk - 1)
          case measure => omega
          case rel => exact ⟨k + 1, by omega, by first | exact num1 hw | rfl, by rw [unhide HNX]; exact (unhide HF).1, (unhide HF).2⟩
      · have h6I : ¬ ((nmK l k).length : Int) < 6 := by omega
        have hst : nmK l l.length = nmK l k := by
          have := nmK_stop h6 (l.length - k)
          rw [show k + (l.length - k) = l.length by omega] at this
          exact this
        have HST := hide hst
        clear hst h6
        go_wp2_with fail
        go_ret
        exact ⟨_, rfl, by rw [unhide HST]; exact (unhide HO).down (by omega), (unhide HB1).trans ((unhide HB).mono (by omega))⟩
    · have hkn : k = l.length := by omega
      subst hkn
      clear hk
      go_wp2_with fail
      go_ret
      exact ⟨_, rfl, (unhide HO).down (by omega), (unhide HB1).trans ((unhide HB).mono (by omega))⟩
end Go.Proofs.YtkmkkmdpjliifaaGreatDoor
namespace Go.Proofs.YtkmkkmdpjliifaaGreatDoor
open Go.ChangeShapes Go.WideShapes Go.ChangeAt Go.RowKit

theorem nm6 : nmK [0, 1, 2, 3, 4, 5] 6 = allN.take 6 := by decide +kernel
theorem nmK_len (l : List Int) (k : Nat) : (nmK l k).length ≤ 6 := ((listB_iff _).1 (nmK_list l k)).1
/-- right claims, out of raw numbers -/
def rawC (id subject : Int) (l2 l3 l4 : List Int) (expiry : Int) : Cm :=
  ⟨pickN id 1000000000000, allN.getD (pickN subject 6) [], nmK l2 l2.length, nmK l3 l3.length, nmK l4 l4.length, pickN expiry 1000000000000⟩
theorem rawC_right (id subject : Int) (l2 l3 l4 : List Int) (expiry : Int) : rightB (rawC id subject l2 l3 l4 expiry).z = true := by
  have h1 := pickN_lt id 1000000000000 (by decide)
  have h2 := pickN_lt expiry 1000000000000 (by decide)
  have h3 := pickN_lt subject 6 (by decide)
  rw [rightB_eq]
  show (nameN (allN.getD (pickN subject 6) []) && (listB (nmK l2 l2.length) && (listB (nmK l3 l3.length) && (listB (nmK l4 l4.length) && numsB ((pickN id 1000000000000 : Nat) : Int) ((pickN expiry 1000000000000 : Nat) : Int))))) = true
  rw [allN_name _ (by omega), nmK_list, nmK_list, nmK_list]
  have hn : numsB ((pickN id 1000000000000 : Nat) : Int) ((pickN expiry 1000000000000 : Nat) : Int) = true := by unfold numsB; simp; omega
  rw [hn]
  rfl

set_option maxRecDepth 20000 in
set_option maxHeartbeats 2000000 in
theorem claimsK_any (id subject : Int) (v2 v3 v4 : Value) (l2 l3 l4 : List Int) (expiry : Int) (w : World) (B : Nat) (hB : B ≤ w.heap.size) (hi : -9223372036854775808 ≤ id ∧ id ≤ 9223372036854775807) (hsj : -9223372036854775808 ≤ subject ∧ subject ≤ 9223372036854775807) (he : -9223372036854775808 ≤ expiry ∧ expiry ≤ 9223372036854775807)
    (n2 : l2.length ≤ 8796093022208) (n3 : l3.length ≤ 8796093022208) (n4 : l4.length ≤ 8796093022208) (k2 : LsI w B v2 l2) (k3 : LsI w B v3 l3) (k4 : LsI w B v4 l4) :
    Calls Tryz.prog 18 #[.int .i64 id, .int .i64 subject, v2, v3, v4, .int .i64 expiry] w fun e w' => ∃ p', e = .returned (.agg (czA (rawC id subject l2 l3 l4 expiry).z p')) ∧ CzN w' (New w w') (rawC id subject l2 l3 l4 expiry).z p' ∧ Below w.heap.size w w' := by
  obtain ⟨w1, hw1⟩ : ∃ w1, w1 = allocL w [.cells #[.int .i64 0, .string ⟨#[]⟩, .slice none 0 0, .slice none 0 0, .slice none 0 0, .int .i64 0] 60, .cells #[.int .i64 0, .int .i64 1, .int .i64 2, .int .i64 3, .int .i64 4, .int .i64 5] 3] := ⟨_, rfl⟩
  have hb1 : Below w.heap.size w w1 := by rw [hw1]; exact allocL_below _ _
  have hs1 : w1.heap.size = w.heap.size + 2 := by rw [hw1, allocL_size]; rfl
  have hZ1 : Row w1 w.heap.size 60 6 (czF cz0 pl0) := by rw [hw1]; exact ⟨_, allocL_heap _ w 0 _ rfl, rfl, six rfl rfl rfl rfl rfl rfl⟩
  have hI1 : LsI w1 w1.heap.size (.slice (some ⟨w.heap.size + 1, 0, none⟩) 6 6) [0, 1, 2, 3, 4, 5] := by
    refine ⟨_, _, rfl, Nat.le_refl _, fun _ => ⟨_, _, rfl, by omega, fun j hj => ?_⟩⟩
    have hj6 : j < 6 := hj
    rw [Nat.zero_add, hw1, allocL_cell (i := 1) rfl]
    rcases (show j = 0 ∨ j = 1 ∨ j = 2 ∨ j = 3 ∨ j = 4 ∨ j = 5 by omega) with rfl | rfl | rfl | rfl | rfl | rfl <;> exact ⟨rfl, by decide, by decide⟩
  have HN1 := hide (names_any _ [0, 1, 2, 3, 4, 5] w1 w1.heap.size (Nat.le_refl _) (by decide) hI1)
  have HN2 := hide (fun (u : World) (hu : Below w.heap.size w u) => names_any v2 l2 u B (by have := hu.size; omega) n2 (k2.below (hu.mono hB)))
  have HN3 := hide (fun (u : World) (hu : Below w.heap.size w u) => names_any v3 l3 u B (by have := hu.size; omega) n3 (k3.below (hu.mono hB)))
  have HN4 := hide (fun (u : World) (hu : Below w.heap.size w u) => names_any v4 l4 u B (by have := hu.size; omega) n4 (k4.below (hu.mono hB)))
  have HP1 := hide (fun u => pickK_any id 1000000000000 u hi (by decide))
  have HP2 := hide (fun u => pickK_any subject 6 u hsj (by decide))
  have HP3 := hide (fun u => pickK_any expiry 1000000000000 u he (by decide))
  obtain ⟨a2, c2, rfl, x2⟩ := k2
  obtain ⟨a3, c3, rfl, x3⟩ := k3
  obtain ⟨a4, c4, rfl, x4⟩ := k4
  have HW1 : Hid (w1 = (w.alloc (.cells #[.int .i64 0, .string ⟨#[]⟩, .slice none 0 0, .slice none 0 0, .slice none 0 0, .int .i64 0] 60)).alloc (.cells #[.int .i64 0, .int .i64 1, .int .i64 2, .int .i64 3, .int .i64 4, .int .i64 5] 3)) := hw1
  have HB1 := hide hb1
  have HZ1 := hide hZ1
  clear x2 x3 x4 hw1 hb1 hZ1 hI1 n2 n3 n4 hi hsj he
  go_enter Tryz.func18, Tryz.ntmps18
  go_wp2_with fail
  rw [← unhide HW1]
  refine (unhide HN1).mono ?_
  rintro e w2 ⟨va, rfl, hO2, hb2⟩
  have hs2 := hb2.size
  have hB2 := (unhide HB1).trans (hb2.mono (by omega))
  rw [show ([0, 1, 2, 3, 4, 5] : List Int).length = 6 from rfl, nm6] at hO2
  rcases hO2.row with ⟨_, h0⟩ | ⟨ga, cap, fa, rfl, hga, hgl, hcap, hRa, hfa⟩
  · exact absurd h0 (by decide)
  have HRa := hide (And.intro hRa hfa)
  clear hRa hfa hO2 HW1 HN1
  rw [show (allN.take 6).length = 6 from rfl]
  go_wp2_with fail
  refine (unhide HN2 w2 hB2).mono ?_
  rintro e w3 ⟨vb, rfl, hO3, hb3⟩
  have hs3 := hb3.size
  have hB3 := hB2.trans (hb3.mono (by omega))
  have HO3 := hide hO3
  obtain ⟨b2, d2, rfl, y2⟩ := hO3.ls
  clear hO3 y2 HN2
  go_wp2_with fail
  refine (unhide HN3 w3 hB3).mono ?_
  rintro e w4 ⟨vc, rfl, hO4, hb4⟩
  have hs4 := hb4.size
  have hB4 := hB3.trans (hb4.mono (by omega))
  have HO4 := hide hO4
  obtain ⟨b3, d3, rfl, y3⟩ := hO4.ls
  clear hO4 y3 HN3
  go_wp2_with fail
  refine (unhide HN4 w4 hB4).mono ?_
  rintro e w5 ⟨vd, rfl, hO5, hb5⟩
  have hs5 := hb5.size
  have hB5 := hB4.trans (hb5.mono (by omega))
  have HO5 := hide hO5
  obtain ⟨b4, d4, rfl, y4⟩ := hO5.ls
  clear hO5 y4 HN4
  obtain ⟨p1, p1e⟩ := pickN_lt id 1000000000000 (by decide)
  obtain ⟨p2, p2e⟩ := pickN_lt subject 6 (by decide)
  obtain ⟨p3, p3e⟩ := pickN_lt expiry 1000000000000 (by decide)
  rw [show ((1000000000000 : Nat) : Int) = 1000000000000 from rfl] at p1e p3e
  rw [show ((6 : Nat) : Int) = 6 from rfl] at p2e
  rw [p1e] at HP1
  rw [p2e] at HP2
  rw [p3e] at HP3
  have hb25 : Below w2.heap.size w2 w5 := (hb3.trans (hb4.mono hs3)).trans (hb5.mono (by omega))
  have hZ5 := ((unhide HZ1).below hb2 (by omega)).below hb25 (by omega)
  have hRa5 := (unhide HRa).1.below hb25 hgl
  have hcs : w5.cell? ⟨ga, pickN subject 6, none⟩ = some (.string ⟨(allN.getD (pickN subject 6) []).toArray⟩) := by
    have h6 : (allN.take 6).length = 6 := rfl
    rw [hRa5.cell (by omega), (unhide HRa).2 _ (by omega)]
    have e : (allN.take 6).getD (pickN subject 6) [] = allN.getD (pickN subject 6) [] := by
      rw [List.getD_eq_getElem?_getD, List.getElem?_take_of_lt p2, ← List.getD_eq_getElem?_getD]
    rw [e]
    rfl
  have HRW : Hid (rawC id subject l2 l3 l4 expiry = ⟨pickN id 1000000000000, allN.getD (pickN subject 6) [], nmK l2 l2.length, nmK l3 l3.length, nmK l4 l4.length, pickN expiry 1000000000000⟩) := rfl
  generalize hrw : rawC id subject l2 l3 l4 expiry = cr at *
  have HRC := hide hrw
  clear hrw
  generalize pickN id 1000000000000 = pi at *
  generalize pickN expiry 1000000000000 = pe at *
  generalize allN.getD (pickN subject 6) [] = sub at *
  generalize pickN subject 6 = pk at *
  have hpk6 : (pk : Int) < 6 := by omega
  have y0 : w5.cell? ⟨w.heap.size, 0, none⟩ = some (.int .i64 0) := hZ5.cell (by decide)
  have y1 : w5.cell? ⟨w.heap.size, 1, none⟩ = some (.string ⟨#[]⟩) := hZ5.cell (by decide)
  have y2 : w5.cell? ⟨w.heap.size, 2, none⟩ = some (.slice none 0 0) := hZ5.cell (by decide)
  have y3 : w5.cell? ⟨w.heap.size, 3, none⟩ = some (.slice none 0 0) := hZ5.cell (by decide)
  have y4 : w5.cell? ⟨w.heap.size, 4, none⟩ = some (.slice none 0 0) := hZ5.cell (by decide)
  have y5 : w5.cell? ⟨w.heap.size, 5, none⟩ = some (.int .i64 0) := hZ5.cell (by decide)
  have z0 := hZ5.frozen 0
  have z1 := hZ5.frozen 1
  have z2 := hZ5.frozen 2
  have z3 := hZ5.frozen 3
  have z4 := hZ5.frozen 4
  have z5 := hZ5.frozen 5
  have nga : ga ≠ w.heap.size := by omega
  have mga : w.heap.size ≠ ga := by omega
  have HZ5 := hide hZ5
  have HN5 : Hid (CzN w5 (fun k => w.heap.size < k ∧ k < w5.heap.size) cr.z ⟨b2, d2, b3, d3, b4, d4⟩) := by
    rw [unhide HRW]
    refine ⟨?_, ?_, ?_⟩
    · exact (owns_LsN (((unhide HO3).below hb4).below hb5)).keep (fun k hk => ⟨rfl, by have := hk.1; omega, hk.2⟩)
    · exact (owns_LsN ((unhide HO4).below hb5)).keep (fun k hk => ⟨rfl, by have := hk.1; omega, hk.2⟩)
    · exact (owns_LsN (unhide HO5)).keep (fun k hk => ⟨rfl, by have := hk.1; omega, hk.2⟩)
  have HB5 := hide hB5
  clear hZ5 hRa5 HRa hb25 hb2 hb3 hb4 hb5 hB2 hB3 hB4 hB5 HZ1 HB1 HO3 HO4 HO5 p1 p2 p3 p1e p2e p3e hgl hcap
  generalize nmK l2 l2.length = m2 at *
  generalize nmK l3 l3.length = m3 at *
  generalize nmK l4 l4.length = m4 at *
  go_wp2_with fail
  go_region_held3 (fun w' => w'.cell? ⟨ga, pk, none⟩ = some (.string ⟨sub.toArray⟩)) (go_keep)
    (first
      | (go_at_call_of 26 (Value.int IntKind.i64 id); refine (unhide HP1 _).mono ?_; rintro e wx ⟨rfl, rfl⟩)
      | (go_at_call_of 26 (Value.int IntKind.i64 subject); refine (unhide HP2 _).mono ?_; rintro e wx ⟨rfl, rfl⟩)
      | (go_at_call_of 26 (Value.int IntKind.i64 expiry); refine (unhide HP3 _).mono ?_; rintro e wx ⟨rfl, rfl⟩))
  go_wp2_with fail
  have hcr := unhide HRW
  subst hcr
  have hrow : Row (st6 w5 w.heap.size (⟨pi, sub, m2, m3, m4, pe⟩ : Cm).z ⟨b2, d2, b3, d3, b4, d4⟩).drew w.heap.size 60 6 (czF (⟨pi, sub, m2, m3, m4, pe⟩ : Cm).z ⟨b2, d2, b3, d3, b4, d4⟩) := (st6_row (unhide HZ5) (⟨pi, sub, m2, m3, m4, pe⟩ : Cm).z ⟨b2, d2, b3, d3, b4, d4⟩).below (Below.refl (w.heap.size + 1) _).drew (Nat.lt_succ_self _)
  have hfin : CzN (st6 w5 w.heap.size (⟨pi, sub, m2, m3, m4, pe⟩ : Cm).z ⟨b2, d2, b3, d3, b4, d4⟩).drew (New w (st6 w5 w.heap.size (⟨pi, sub, m2, m3, m4, pe⟩ : Cm).z ⟨b2, d2, b3, d3, b4, d4⟩).drew) (⟨pi, sub, m2, m3, m4, pe⟩ : Cm).z ⟨b2, d2, b3, d3, b4, d4⟩ ∧ Below w.heap.size w (st6 w5 w.heap.size (⟨pi, sub, m2, m3, m4, pe⟩ : Cm).z ⟨b2, d2, b3, d3, b4, d4⟩).drew := by
    have b6 := (st6_but w5 w.heap.size (⟨pi, sub, m2, m3, m4, pe⟩ : Cm).z ⟨b2, d2, b3, d3, b4, d4⟩).drew
    generalize (st6 w5 w.heap.size (⟨pi, sub, m2, m3, m4, pe⟩ : Cm).z ⟨b2, d2, b3, d3, b4, d4⟩).drew = w6 at b6 ⊢
    exact ⟨(unhide HN5).keep (fun k hk => ⟨b6.block k (by have := hk.1; omega), by have h1 : w.heap.size < k := hk.1; show w.heap.size ≤ k; omega, by rw [b6.size]; exact hk.2⟩), (unhide HB5).trans (b6.below (Nat.le_refl _))⟩
  refine ret_czo (c := (⟨pi, sub, m2, m3, m4, pe⟩ : Cm).z) (p := ⟨b2, d2, b3, d3, b4, d4⟩) (g := w.heap.size) Tryz.results18 hrow rfl rfl ?_
  rw [unhide HRC]
  exact ⟨⟨b2, d2, b3, d3, b4, d4⟩, rfl, hfin⟩
end Go.Proofs.YtkmkkmdpjliifaaGreatDoor
namespace Go.Proofs.YtkmkkmdpjliifaaGreatDoor
open Go.ChangeShapes Go.WideShapes Go.ChangeAt Go.RowKit

/- Unpack of texts of up to 2,097,152 letters (UxF's walk, with a wider bound) -/
set_option maxRecDepth 20000 in
set_option maxHeartbeats 1000000 in
theorem unpackP2_any (s : List UInt8) (w : World) (hl : s.length ≤ 2097152) :
    Calls Tryz.prog 60 #[.string ⟨s.toArray⟩] w fun e w' => e = .returned (.tuple #[.string ⟨(uO s).toArray⟩, .int .i64 (uE s)]) ∧ Below w.heap.size w w' := by
  have hmk : ∀ u : World, (Instr.makeSlice 110 (.int .i64 0) (.int .i64 ((s.length : Int) / 4 * 3 + 3))).run Tryz.prog u = .ok (.slice (some ⟨u.heap.size, 0, none⟩) 0 (s.length / 4 * 3 + 3)) (u.alloc (.cells (zc .u8 (s.length / 4 * 3 + 3)) 5)) := fun u => by
    rw [make8 _ _ (by omega) (by omega) (by omega), show ((s.length : Int) / 4 * 3 + 3).toNat = s.length / 4 * 3 + 3 by omega]; rfl
  have hO0 := ownB_made w (s.length / 4 * 3 + 3) (by omega)
  go_enter Tryz.func60, Tryz.ntmps60
  by_cases h1 : s.length % 4 = 1
  · have h1' : (((s.length : Int) % 4) == 1) = true := by rw [beq_iff_eq]; omega
    have hno : (allB s && okN s) = false := by rw [okN_one s h1, Bool.and_false]
    have HNO := hide hno
    clear hno h1
    go_wp2
    go_ret2
    exact ⟨ret_tup (by rw [uO_no s (unhide HNO)]) (uE_no s (unhide HNO)).symm, Below.refl _ _⟩
  · have h1' : (((s.length : Int) % 4) == 1) = false := by rw [beq_eq_false_iff_ne]; omega
    have H1 := hide h1
    clear h1
    go_wp2
    go_loopg [4, 5, 6, 22] s.length (fun q v h c i wr => ∃ k p : Nat, k + q = s.length ∧ i = .int .i64 k ∧ 8 * p ≤ 6 * k ∧ 6 * k < 8 * p + 8 ∧ c = .int .i64 ((6 * k - 8 * p : Nat) : Int) ∧ h = .int .u32 ((nbu 6 (fs s) k % 4294967296 : Nat) : Int) ∧ OwnB wr w.heap.size v (uN s p) ∧ allS s k ∧ Below w.heap.size w wr)
    case atStart => exact ⟨0, 0, by omega, rfl, by omega, by omega, rfl, rfl, hO0, fun j hj => by omega, (Below.refl _ _).alloc (Nat.le_refl _) _⟩
    case round =>
      clear hO0 hmk
      obtain ⟨k, p, hk, rfl, hp1, hp2, rfl, rfl, hO, hA, hB⟩ := hrel
      generalize hc : 6 * k - 8 * p = c
      have hc6 : c < 8 := by omega
      have HC := hide hc
      clear hc
      generalize hh : nbu 6 (fs s) k % 4294967296 = h
      have HH := hide hh
      have hhl : h < 4294967296 := by omega
      have HHL := hide hhl
      have HA := hide hA
      clear hh hhl hA
      have hsz := hB.size
      by_cases hlt : k < s.length
      · have hlk : k < (ByteArray.mk s.toArray).size := by simpa [ByteArray.size] using hlt
        have hbl := by_lt s k
        cases hok : sgo (by_ s k)
        · have HOK := hide hok
          clear hok
          go_wp2_with fail
          rw [by_get ⟨s.toArray⟩ k hlk, show (ByteArray.mk s.toArray).data.toList = s from rfl]
          refine (six_any (by_ s k) _ hbl).mono ?_
          rintro e w' ⟨rfl, rfl⟩
          rw [unhide HOK]
          go_wp2
          go_ret2
          have hno : (allB s && okN s) = false := by rw [allB_no s k hlt (unhide HOK), Bool.false_and]
          exact ⟨ret_tup (by rw [uO_no s hno]) (uE_no s hno).symm, hB⟩
        · have HOK := hide hok
          clear hok
          go_wp2_with fail
          rw [by_get ⟨s.toArray⟩ k hlk, show (ByteArray.mk s.toArray).data.toList = s from rfl]
          refine (six_any (by_ s k) _ hbl).mono ?_
          rintro e w' ⟨rfl, rfl⟩
          rw [unhide HOK]
          have hsg : sgv (by_ s k) < 64 := fs_lt s k
          have hH := held6 h (sgv (by_ s k)) (unhide HHL) hsg
          have hN : nbu 6 (fs s) (k + 1) % 4294967296 = (64 * h + sgv (by_ s k)) % 4294967296 := by
            have := unhide HH
            rw [nbu, ← this]; show (2 ^ 6 * nbu 6 (fs s) k + sgv (by_ s k)) % 4294967296 = _; omega
          generalize (64 * h + sgv (by_ s k)) % 4294967296 = H at hH hN
          have HN := hide hN
          clear hN
          by_cases h8 : 2 ≤ c
          · have hem := emit8 H (nbu 6 (fs s) (k + 1)) (c - 2) (unhide HN) (by omega)
            have hcc := unhide HC
            rw [show c - 2 = 6 * (k + 1) - 8 * p - 8 by omega, ← uv_full s p (k + 1) (by omega) (by omega), show 6 * (k + 1) - 8 * p - 8 = c - 2 by omega] at hem
            have HEM := hide hem
            clear hem hcc
            go_wp2_with (at_builtin; refine app110 rfl _ _ rfl w.heap.size _ _ (uv s p) rfl (hO.alloc _) _ rfl (by rw [← unhide HEM]; exact cell_new _ _ _) (by rw [uN_length]; omega) (by simp; omega) ?_; intro v' w1 hO1 hg1)
            go_roundg (gk - 1)
            case measure => omega
            case rel =>
              rw [uN_succ] at hO1
              have hcc := unhide HC
              refine ⟨k + 1, p + 1, by omega, by go_num, by omega, by omega, congrArg (Value.int .i64) (by omega), by rw [unhide HN], hO1, fun j hj => ?_, below_grown (hB.alloc hsz _) hg1 (by simp; omega) (fun k hk => by have := OwnB.lt hO k hk; simp; omega) (Nat.le_refl _)⟩
              by_cases e : j = k
              · subst e; exact unhide HOK
              · exact unhide HA j (by omega)
          · have h8' : ¬ (8 : Int) ≤ (c : Int) + 6 := by omega
            go_wp2
            go_roundg (gk - 1)
            case measure => omega
            case rel =>
              have hcc := unhide HC
              refine ⟨k + 1, p, by omega, by go_num, by omega, by omega, congrArg (Value.int .i64) (by omega), by rw [unhide HN], hO, fun j hj => ?_, hB⟩
              by_cases e : j = k
              · subst e; exact unhide HOK
              · exact unhide HA j (by omega)
      · obtain rfl : k = s.length := by omega
        have hcv := conv_own hO
        have hcc := unhide HC
        have hcr : 6 * s.length % 8 = c := by omega
        have hpq : 6 * s.length / 8 = p := by omega
        have hmk := maskC h c (unhide HHL) hc6
        have hml := mod_low (nbu 6 (fs s) s.length) c hc6
        rw [unhide HH] at hml
        have hall := allB_yes s (unhide HA)
        have hok : okN s = decide (h % 2 ^ c = 0) := by
          unfold okN
          rw [hcr, ← hml, decide_eq_decide]
          exact ⟨fun h => h.2, fun h => ⟨unhide H1, h⟩⟩
        have HFIN : Hid (okN s = decide (h % 2 ^ c = 0) ∧ allB s = true ∧ outL s = (uN s p).map UInt8.ofNat) := ⟨hok, hall, by unfold outL; rw [hpq]⟩
        clear hcc hcr hpq hml hall hok
        generalize h % 2 ^ c = m at hmk HFIN
        by_cases hm : m = 0
        · have hm' : ((m : Int) != 0) = false := by rw [hm]; rfl
          have HM := hide hm
          clear hm
          go_wp2
          go_ret2
          have hyes : (allB s && okN s) = true := by rw [HFIN.out.2.1, HFIN.out.1, unhide HM]; rfl
          exact ⟨ret_tup (by rw [uO_yes s hyes, HFIN.out.2.2]) (uE_yes s hyes).symm, hB⟩
        · have hm' : ((m : Int) != 0) = true := by rw [bne_iff_ne]; omega
          have HM := hide hm
          clear hm
          go_wp2
          go_ret2
          have hno : (allB s && okN s) = false := by rw [HFIN.out.2.1, HFIN.out.1, decide_eq_false (unhide HM)]; rfl
          exact ⟨ret_tup (by rw [uO_no s hno]) (uE_no s hno).symm, hB⟩

theorem Unpack2_any (s : List UInt8) (w : World) (hl : s.length ≤ 2097152) :
    Calls Tryz.prog 17 #[.string ⟨s.toArray⟩] w fun e w' => e = .returned (.tuple #[.string ⟨(uO s).toArray⟩, .int .i64 (uE s)]) ∧ Below w.heap.size w w' := by
  go_enter Tryz.func17, Tryz.ntmps17
  go_wp2_with fail
  refine (unpackP2_any s _ hl).mono ?_
  rintro e w1 ⟨rfl, hb1⟩
  go_wp2
  go_ret2
  exact ⟨rfl, hb1⟩


end Go.Proofs.YtkmkkmdpjliifaaGreatDoor
namespace Go.Proofs.YtkmkkmdpjliifaaGreatDoor
open Go.ChangeShapes Go.WideShapes Go.ChangeAt Go.RowKit

set_option maxRecDepth 20000 in
set_option maxHeartbeats 1000000 in
theorem login_any (n : Nat) (hn : n ≤ 9) (w : World) :
    Calls Tryz.prog 31 #[.int .i64 (n : Nat)] w fun e w' => e = .returned (.agg #[.string ⟨#[99, UInt8.ofNat (48 + n)]⟩, .string ⟨#[115, UInt8.ofNat (48 + n)]⟩]) ∧ Below w.heap.size w w' := by
  have hw : wrap64 (48 + (n : Int)) = 48 + (n : Int) := w64 _ (by omega) (by omega)
  obtain ⟨wb, hwb⟩ : ∃ wb, wb = (w.alloc (.cells #[.string ⟨#[]⟩, .string ⟨#[]⟩] 81)).alloc (.cells #[.int .u8 (48 + (n : Int))] 5) := ⟨_, rfl⟩
  have hcv : (convert 110 9 (.slice (some ⟨w.heap.size + 1, 0, none⟩) 1 1)).run Tryz.prog wb = .ok (.string ⟨#[UInt8.ofNat (48 + n)]⟩) wb := by
    rw [conv8 (w := wb) (w.heap.size + 1) 0 1 1 (fun _ => 48 + n) (fun i hi => by
      have : i = 0 := by omega
      subst this
      rw [hwb]
      simp)]
    rfl
  have hb : Below w.heap.size w wb := by rw [hwb]; exact ((Below.refl _ _).alloc (Nat.le_refl _) _).alloc (by simp) _
  have hR : Row wb w.heap.size 81 2 (fun _ => .string ⟨#[]⟩) := by
    rw [hwb]
    refine (Row.new w 81 _ _ 2 rfl (fun j hj => ?_)).alloc _
    rcases (show j = 0 ∨ j = 1 by omega) with rfl | rfl <;> rfl
  have s0 := hR.cell (j := 0) (by decide)
  have s1 := hR.cell (j := 1) (by decide)
  have z0 := hR.frozen 0
  have z1 := hR.frozen 1
  have HR := hide hR
  have HB := hide hb
  have HWB := hide hwb
  clear hwb hb hR
  have c1 : (Op.stringOp .add ⟨#[99]⟩ ⟨#[UInt8.ofNat (48 + n)]⟩).run Tryz.prog wb = .ok (.string ⟨#[99, UInt8.ofNat (48 + n)]⟩) wb := cat_str [99] [UInt8.ofNat (48 + n)] _ rfl (by simp) wb
  have c2 : (Op.stringOp .add ⟨#[115]⟩ ⟨#[UInt8.ofNat (48 + n)]⟩).run Tryz.prog wb = .ok (.string ⟨#[115, UInt8.ofNat (48 + n)]⟩) wb := cat_str [115] [UInt8.ofNat (48 + n)] _ rfl (by simp) wb
  generalize UInt8.ofNat (48 + n) = d at *
  go_enter Tryz.func31, Tryz.ntmps31
  go_wp2_with fail
  rw [← unhide HWB, hcv]
  clear HWB hcv
  go_wp2_with fail
  have hfin : Row ((wb.setCell ⟨w.heap.size, 0, none⟩ (.string ⟨#[99, d]⟩)).setCell ⟨w.heap.size, 1, none⟩ (.string ⟨#[115, d]⟩)) w.heap.size 81 2 (fun j => if j = 0 then .string ⟨#[99, d]⟩ else .string ⟨#[115, d]⟩) :=
    (((unhide HR).set 0 (.string ⟨#[99, d]⟩)).set 1 (.string ⟨#[115, d]⟩)).congr (fun j hj => by
      rcases (show j = 0 ∨ j = 1 by omega) with rfl | rfl <;> rfl)
  refine ret_rowN Tryz.results31 _ hfin rfl Tryz.underlying81 ⟨_, rfl⟩ (by kernel_rfl) rfl ?_
  exact ⟨congrArg (fun x => Ending.returned (.agg x)) (arrOf_eq 2 _ _ rfl (fun j hj => by
    rcases (show j = 0 ∨ j = 1 by omega) with rfl | rfl <;> rfl)), ((unhide HB).setCell (Nat.le_refl _) _).setCell (Nat.le_refl _) _⟩

set_option maxRecDepth 20000 in
set_option maxHeartbeats 1000000 in
/-- the statements' comparison of lists -/
theorem sameK_any (v1 v2 : Value) (l1 l2 : List (List UInt8)) (w : World) (B : Nat) (hl : l1.length ≤ 8796093022208) (h1 : Ls w B v1 l1) (h2 : Ls w B v2 l2) :
    Calls Tryz.prog 29 #[v1, v2] w fun e w' => e = .returned (.bool (decide (l1 = l2))) ∧ ∃ n, w' = w.drewN n := by
  obtain ⟨a1, c1, rfl, _, hx1⟩ := h1
  obtain ⟨a2, c2, rfl, _, hx2⟩ := h2
  by_cases hn : l1.length = l2.length
  · have HX1 := hide hx1
    have HX2 := hide hx2
    have HL := hide hl
    have HN := hide hn
    have hnI : (l1.length : Int) = (l2.length : Int) := by omega
    clear hx1 hx2 hl
    go_enter Tryz.func29, Tryz.ntmps29
    go_wp2_with fail
    go_loopg [5] l1.length (fun q i wr => ∃ k n : Nat, k + q = l1.length ∧ i = .int .i64 (k : Nat) ∧ (∀ j, j < k → l1.getD j [] = l2.getD j []) ∧ wr = w.drewN n)
    case atStart => exact ⟨0, 0, Nat.zero_add _, rfl, fun j hj => absurd hj (Nat.not_lt_zero _), rfl⟩
    case round =>
      obtain ⟨k, nd, hk, rfl, hall, rfl⟩ := hrel
      have HALL := hide hall
      clear hall
      by_cases hlt : k < l1.length
      · have hkI : (k : Int) < (l1.length : Int) := by omega
        have hkI2 : (k : Int) < (l2.length : Int) := by omega
        have hw : wrap64 ((k : Int) + 1) = (k : Int) + 1 := w64 _ (by omega) (by have := unhide HL; omega)
        obtain ⟨g1, o1, rfl, hg1, hc1⟩ := unhide HX1 (by omega)
        obtain ⟨g2, o2, rfl, hg2, hc2⟩ := unhide HX2 (by omega)
        have k1 := hc1 k hlt
        have k2 := hc2 k (by omega)
        rw [sv_def] at k1 k2
        generalize hy1 : l1.getD k [] = y1 at k1
        generalize hy2 : l2.getD k [] = y2 at k2
        have HY := hide (And.intro hy1 hy2)
        clear hc1 hc2 hy1 hy2
        by_cases he : y1 = y2
        · subst he
          go_wp2_with fail
          go_quiet (fail)
          go_wp2_with fail
          go_roundg (gk - 1)
          case measure => omega
          case rel => exact ⟨k + 1, nd + nq, by omega, by first | exact num1 hw | rfl, fun j hj => by
            by_cases e : j = k
            · subst e; rw [(unhide HY).1, (unhide HY).2]
            · exact unhide HALL j (by omega), by first | rfl | rw [World.drewN_drewN]⟩
        · have hne : (y1 == y2) = false := by simpa using he
          have HE := hide he
          clear he
          go_wp2_with fail
          go_quiet (fail)
          go_wp2_with fail
          go_ret
          refine ⟨ret_bool ?_, nd + nq, by first | rfl | rw [World.drewN_drewN]⟩
          rw [decide_eq_false]
          intro e
          apply unhide HE
          rw [← (unhide HY).1, ← (unhide HY).2, e]
      · have hkn : k = l1.length := by omega
        subst hkn
        go_wp2_with fail
        go_ret
        refine ⟨ret_bool ?_, nd, rfl⟩
        rw [decide_eq_true (list_eq_of (unhide HN) (unhide HALL))]
  · have hnI : ¬ (l1.length : Int) = (l2.length : Int) := by omega
    have hne : decide (l1 = l2) = false := decide_eq_false (fun e => hn (by rw [e]))
    rw [hne]
    clear hx1 hx2 hl hn hne
    go_enter Tryz.func29, Tryz.ntmps29
    go_wp2_with fail
    go_ret
    exact ⟨rfl, 0, rfl⟩

end Go.Proofs.YtkmkkmdpjliifaaGreatDoor
namespace Go.Proofs.YtkmkkmdpjliifaaGreatDoor
open Go.ChangeShapes Go.WideShapes Go.ChangeAt Go.RowKit

set_option maxRecDepth 20000 in
set_option maxHeartbeats 2000000 in
/-- the statements' comparison of claims -/
theorem alike_any (c1 c2 : Cz) (p1 p2 : Pl) (w : World) (B : Nat) (hB : B ≤ w.heap.size) (hS1 : CzS c1) (hL1 : CzL w B c1 p1) (hL2 : CzL w B c2 p2) :
    Calls Tryz.prog 21 #[.agg (czA c1 p1), .agg (czA c2 p2)] w fun e w' => e = .returned (.bool (sameZ c1 c2)) ∧ Below w.heap.size w w' := by
  obtain ⟨wa, hwa⟩ : ∃ wa, wa = w.alloc (.cells #[.int .i64 c1.id, .string ⟨c1.sub.toArray⟩, .slice p1.a2 c1.scp.length p1.c2, .slice p1.a3 c1.aud.length p1.c3, .slice p1.a4 c1.act.length p1.c4, .int .i64 c1.exp] 60) := ⟨_, rfl⟩
  have hsa : wa.heap.size = w.heap.size + 1 := by rw [hwa]; simp
  obtain ⟨wb, hwb⟩ : ∃ wb, wb = wa.alloc (.cells #[.int .i64 c2.id, .string ⟨c2.sub.toArray⟩, .slice p2.a2 c2.scp.length p2.c2, .slice p2.a3 c2.aud.length p2.c3, .slice p2.a4 c2.act.length p2.c4, .int .i64 c2.exp] 60) := ⟨_, rfl⟩
  have hbb : Below w.heap.size w wb := by rw [hwb, hwa]; exact ((Below.refl _ _).alloc (Nat.le_refl _) _).alloc (by simp) _
  have hRa : Row wb w.heap.size 60 6 (czF c1 p1) := by rw [hwb, hwa]; exact (Row.new w 60 _ _ 6 rfl (six rfl rfl rfl rfl rfl rfl)).alloc _
  have hRb : Row wb (w.heap.size + 1) 60 6 (czF c2 p2) := by rw [hwb, ← hsa]; exact Row.new wa 60 _ _ 6 rfl (six rfl rfl rfl rfl rfl rfl)
  have hLa := hL1.below (hbb.mono hB)
  have hLb := hL2.below (hbb.mono hB)
  have HE2 := hide (fun n => sameK_any _ _ c1.scp c2.scp (wb.drewN n) B hS1.l2 (hLa.k2.drewN n) (hLb.k2.drewN n))
  have HE3 := hide (fun n => sameK_any _ _ c1.aud c2.aud (wb.drewN n) B hS1.l3 (hLa.k3.drewN n) (hLb.k3.drewN n))
  have HE4 := hide (fun n => sameK_any _ _ c1.act c2.act (wb.drewN n) B hS1.l4 (hLa.k4.drewN n) (hLb.k4.drewN n))
  have HW : Hid (wb = (w.alloc (.cells #[.int .i64 c1.id, .string ⟨c1.sub.toArray⟩, .slice p1.a2 c1.scp.length p1.c2, .slice p1.a3 c1.aud.length p1.c3, .slice p1.a4 c1.act.length p1.c4, .int .i64 c1.exp] 60)).alloc (.cells #[.int .i64 c2.id, .string ⟨c2.sub.toArray⟩, .slice p2.a2 c2.scp.length p2.c2, .slice p2.a3 c2.aud.length p2.c3, .slice p2.a4 c2.act.length p2.c4, .int .i64 c2.exp] 60)) := by rw [← hwa]; exact hwb
  have HBB := hide hbb
  have a0 : wb.cell? ⟨w.heap.size, 0, none⟩ = some (.int .i64 c1.id) := hRa.cell (by decide)
  have a1 : wb.cell? ⟨w.heap.size, 1, none⟩ = some (.string ⟨c1.sub.toArray⟩) := hRa.cell (by decide)
  have a2 : wb.cell? ⟨w.heap.size, 2, none⟩ = some (.slice p1.a2 c1.scp.length p1.c2) := hRa.cell (by decide)
  have a3 : wb.cell? ⟨w.heap.size, 3, none⟩ = some (.slice p1.a3 c1.aud.length p1.c3) := hRa.cell (by decide)
  have a4 : wb.cell? ⟨w.heap.size, 4, none⟩ = some (.slice p1.a4 c1.act.length p1.c4) := hRa.cell (by decide)
  have a5 : wb.cell? ⟨w.heap.size, 5, none⟩ = some (.int .i64 c1.exp) := hRa.cell (by decide)
  have b0 : wb.cell? ⟨w.heap.size + 1, 0, none⟩ = some (.int .i64 c2.id) := hRb.cell (by decide)
  have b1 : wb.cell? ⟨w.heap.size + 1, 1, none⟩ = some (.string ⟨c2.sub.toArray⟩) := hRb.cell (by decide)
  have b2 : wb.cell? ⟨w.heap.size + 1, 2, none⟩ = some (.slice p2.a2 c2.scp.length p2.c2) := hRb.cell (by decide)
  have b3 : wb.cell? ⟨w.heap.size + 1, 3, none⟩ = some (.slice p2.a3 c2.aud.length p2.c3) := hRb.cell (by decide)
  have b4 : wb.cell? ⟨w.heap.size + 1, 4, none⟩ = some (.slice p2.a4 c2.act.length p2.c4) := hRb.cell (by decide)
  have b5 : wb.cell? ⟨w.heap.size + 1, 5, none⟩ = some (.int .i64 c2.exp) := hRb.cell (by decide)
  generalize hsz : sameZ c1 c2 = r
  unfold sameZ at hsz
  have HSZ := hide hsz
  clear hS1 hL1 hL2 hLa hLb hRa hRb hwa hwb hbb hsz
  unfold czA
  have hcell : ∀ (n : Nat) (a : Addr), (wb.drewN n).cell? a = wb.cell? a := fun _ _ => rfl
  go_enter Tryz.func21, Tryz.ntmps21
  go_wp2_with fail
  rw [← unhide HW]
  clear HW
  refine (unhide HE2 0).mono ?_
  rintro e w1 ⟨rfl, n1, rfl⟩
  rw [World.drewN_drewN, Nat.zero_add]
  go_wp2_with fail
  refine (unhide HE3 n1).mono ?_
  rintro e w2 ⟨rfl, n2, rfl⟩
  rw [World.drewN_drewN]
  go_wp2_with fail
  refine (unhide HE4 _).mono ?_
  rintro e w3 ⟨rfl, n3, rfl⟩
  rw [World.drewN_drewN]
  clear HE2 HE3 HE4
  cases d1 : decide (c1.scp = c2.scp) with
  | false =>
    go_wp2_with fail
    go_ret
    refine ⟨ret_bool ?_, below_drewN' (unhide HBB) _⟩
    rw [← unhide HSZ]
    simp [d1]
  | true =>
  cases d2 : decide (c1.aud = c2.aud) with
  | false =>
    go_wp2_with fail
    go_ret
    refine ⟨ret_bool ?_, below_drewN' (unhide HBB) _⟩
    rw [← unhide HSZ]
    simp [d1, d2]
  | true =>
  cases d3 : decide (c1.act = c2.act) with
  | false =>
    go_wp2_with fail
    go_ret
    refine ⟨ret_bool ?_, below_drewN' (unhide HBB) _⟩
    rw [← unhide HSZ]
    simp [d1, d2, d3]
  | true =>
  by_cases e1 : c1.id = c2.id
  · rw [← e1] at b0
    by_cases e2 : c1.sub = c2.sub
    · rw [← e2] at b1
      by_cases e3 : c1.exp = c2.exp
      · rw [← e3] at b5
        go_wp2_with fail
        go_ret
        refine ⟨ret_bool ?_, below_drewN' (unhide HBB) _⟩
        rw [← unhide HSZ]
        simp [e1, e2, e3, d1, d2, d3]
      · have q3 : (c1.exp == c2.exp) = false := by simpa using e3
        go_wp2_with fail
        go_ret
        refine ⟨ret_bool ?_, below_drewN' (unhide HBB) _⟩
        rw [← unhide HSZ]
        simp [e3]
    · have q2 : (c1.sub == c2.sub) = false := by simpa using e2
      go_wp2_with fail
      go_ret
      refine ⟨ret_bool ?_, below_drewN' (unhide HBB) _⟩
      rw [← unhide HSZ]
      simp [e2]
  · have q1 : (c1.id == c2.id) = false := by simpa using e1
    go_wp2_with fail
    go_ret
    refine ⟨ret_bool ?_, below_drewN' (unhide HBB) _⟩
    rw [← unhide HSZ]
    simp [e1]
end Go.Proofs.YtkmkkmdpjliifaaGreatDoor
