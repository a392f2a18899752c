import Derived.Test.YtkmkkmdpjliifaaGreatDoorSvY
import Derived.LaidEqlPtr
namespace Go.Proofs.YtkmkkmdpjliifaaGreatDoor
open Go.ChangeShapes Go.WideShapes Go.ChangeAt Go.RowKit

/-- does a client hold a grant, or one that it came of? (with so many steps at most) -/
def lineF (G : List Gt) (m : Nat) : Nat → Option Nat → Bool
  | _, none => false
  | 0, some _ => false
  | f + 1, some i => decide ((G.getD i default).h = m) || lineF G m f (G.getD i default).p
def lineG (G : List Gt) (m : Nat) (o : Option Nat) : Bool := lineF G m (match o with | none => 0 | some i => i + 1) o
theorem lineF_more {G : List Gt} {m : Nat} (hp : ∀ i, i < G.length → ∀ k, (G.getD i default).p = some k → k < i) : ∀ (f i : Nat), i < G.length → i < f → lineF G m f (some i) = lineG G m (some i)
  | 0, i, _, h => by omega
  | f + 1, i, hi, h => by
    unfold lineG
    show lineF G m (f + 1) (some i) = lineF G m (i + 1) (some i)
    unfold lineF
    cases hpi : (G.getD i default).p with
    | none => cases f <;> cases i <;> rfl
    | some k =>
      have hk := hp i hi k hpi
      rw [lineF_more hp f k (by omega) (by omega), lineF_more hp i k (by omega) hk]
theorem lineG_step {G : List Gt} {m : Nat} (hp : ∀ i, i < G.length → ∀ k, (G.getD i default).p = some k → k < i) {i : Nat} (hi : i < G.length) :
    lineG G m (some i) = (decide ((G.getD i default).h = m) || lineG G m (G.getD i default).p) := by
  show lineF G m (i + 1) (some i) = _
  unfold lineF
  cases hpi : (G.getD i default).p with
  | none => cases i <;> rfl
  | some k => rw [lineF_more hp i k (by have := hp i hi k hpi; omega) (hp i hi k hpi)]
theorem qs_at {Qs : List Nat} {k : Nat} (h : k < Qs.length) : Qs[k]? = some (Qs.getD k 0) := by simp [List.getD, h]
/-- clients lie apart -/
theorem Sb.inj {w : World} {s R O : Nat} {vk vs : Value} {ks : List Ky} {cs : List Cl} {Qs : List Nat} (h : Sb w s R O vk vs ks cs Qs) {j k q : Nat} (hj : Qs[j]? = some q) (hk : Qs[k]? = some q) : j = k := by
  have key : ∀ a b : Nat, a < b → Qs[a]? = some q → Qs[b]? = some q → False := fun a b hab ha hb => by
    have n1 := (h.cli a q ha).name
    have n2 := (h.cli b q hb).name
    rw [n1] at n2
    injection n2 with n2
    injection n2 with n2
    have n3 : (cs.getD a default).name = (cs.getD b default).name := by
      have := congrArg (fun x : ByteArray => x.data.toList) n2
      simpa using this
    have hbl : b < cs.length := by
      rcases Nat.lt_or_ge b Qs.length with hx | hx
      · rw [← h.len]; exact hx
      · rw [List.getElem?_eq_none hx] at hb; cases hb
    have hcb := h.cb
    unfold clientsB at hcb
    simp only [Bool.and_eq_true, List.all_eq_true] at hcb
    have h1 := hcb.1 b (List.mem_range.2 hbl)
    unfold clOk at h1
    simp only [Bool.and_eq_true, List.all_eq_true] at h1
    have h2 := h1.2 a (List.mem_range.2 hab)
    unfold clName at h2
    rw [n3] at h2
    simp at h2
  rcases Nat.lt_trichotomy j k with hx | hx | hx
  · exact (key j k hx hj hk).elim
  · exact hx
  · exact (key k j hx hk hj).elim
theorem Sv.holder {w : World} {s R O now : Nat} {vk vs vg : Value} {ks : List Ky} {cs : List Cl} {Qs : List Nat} {G : List Gt} (h : Sv w s R O now vk vs vg ks cs Qs G) {i m q : Nat} (hi : i < G.length) (hq : Qs[m]? = some q) : (Qs.getD (G.getD i default).h 0 = q) ↔ (G.getD i default).h = m := by
  have hl := h.hl i hi
  have hg := qs_at (Qs := Qs) (k := (G.getD i default).h) (by rw [h.sb.len]; exact hl)
  constructor
  · intro e
    rw [e] at hg
    exact h.sb.inj hg hq
  · intro e
    rw [e, List.getD_eq_getElem?_getD, hq]
    rfl

theorem info152s : ∃ j, Tryz.prog.info? 152 = some j ∧ j.size ≠ 0 := by
  have h : (Tryz.prog.info? 152).map (fun i => i.size) = some 5 := by kernel_rfl
  cases hi : Tryz.prog.info? 152 with
  | none => rw [hi] at h; cases h
  | some j =>
    rw [hi] at h
    have h5 : j.size = 5 := by simpa using h
    exact ⟨j, rfl, by omega⟩
/-- two clients are the same, if their blocks are -/
theorem eqCli {w : World} {s R O : Nat} {vk vs : Value} {ks : List Ky} {cs : List Cl} {Qs : List Nat} (h : Sb w s R O vk vs ks cs Qs) {a b qa qb : Nat} (ha : Qs[a]? = some qa) (hb : Qs[b]? = some qb) :
    (binOp .eql 120 (.pointer (some ⟨qa, 0, none⟩)) (.pointer (some ⟨qb, 0, none⟩))).run Tryz.prog w = .ok (.bool (decide (qa = qb))) w := by
  obtain ⟨j, hj, hs⟩ := info152s
  have hp : Tryz.prog.underlying 120 = some (.pointer 152) := by kernel_rfl
  by_cases e : qa = qb
  · subst e
    rw [run_eql_ptr_same (P := Tryz.prog) w _ hp hj, decide_eq_true rfl]
  · obtain ⟨_, _, _, _, _, _, _, _, ca, h1⟩ := h.cli a qa ha
    obtain ⟨_, _, _, _, _, _, _, _, cb, h2⟩ := h.cli b qb hb
    rw [run_eql_ptr_other (P := Tryz.prog) w hp hj hs (fun x => e (by injection x)) h1 h2, decide_eq_false e]

set_option maxRecDepth 20000 in
set_option maxHeartbeats 1000000 in
theorem HasInLine_any (i0 m q : Nat) (w : World) (s R O now : Nat) (vk vs vg : Value) (ks : List Ky) (cs : List Cl) (Qs : List Nat) (G : List Gt) (hS : Sv w s R O now vk vs vg ks cs Qs G) (hi0 : i0 < G.length) (hq : Qs[m]? = some q) :
    Calls Tryz.prog 106 #[.pointer (some ⟨(G.getD i0 default).b, 0, none⟩), .pointer (some ⟨q, 0, none⟩)] w fun e w' => e = .returned (.bool (lineG G m (some i0))) ∧ w' = w := by
  have HS := hide hS
  have HI0 := hide hi0
  have HQ := hide hq
  generalize hb0 : (G.getD i0 default).b = b0
  have HB0 := hide hb0
  clear hS hi0 hb0 hq
  go_enter Tryz.func106, Tryz.ntmps106
  go_wp2_with fail
  go_loopg [5] (i0 + 1) (fun qq x wr => ∃ o : Option Nat, x = .pointer (o.map fun i => ⟨(G.getD i default).b, 0, none⟩) ∧ (∀ i, o = some i → i < G.length ∧ i < qq) ∧ lineG G m (some i0) = lineG G m o ∧ wr = w)
  case atStart => exact ⟨some i0, by rw [Option.map_some, unhide HB0], fun i h => by cases h; exact ⟨unhide HI0, Nat.lt_succ_self _⟩, rfl, rfl⟩
  case round =>
    obtain ⟨o, rfl, ho, ha, rfl⟩ := hrel
    have HA := hide ha
    clear ha
    cases o with
    | none =>
      go_wp2_with fail
      go_ret
      exact ⟨ret_bool (by rw [unhide HA]; rfl), rfl⟩
    | some i =>
      obtain ⟨hil, hiq⟩ := ho i rfl
      have hgr := (unhide HS).gr i hil
      have hst := lineG_step (m := m) (unhide HS).pr hil
      have hpr := (unhide HS).pr i hil
      have hhl := (unhide HS).hl i hil
      have hhh := (unhide HS).holder hil (unhide HQ)
      have hg := qs_at (Qs := Qs) (k := (G.getD i default).h) (by rw [(unhide HS).sb.len]; exact hhl)
      have heq := eqCli (unhide HS).sb hg (unhide HQ)
      clear ho hhl hg
      generalize hgg : G.getD i default = g at *
      generalize hqh : Qs.getD g.h 0 = qh at *
      have q0 : wr.cell? ⟨g.b, 0, none⟩ = some (.pointer (some ⟨qh, 0, none⟩)) := hgr.cell (by decide)
      have q1 : wr.cell? ⟨g.b, 1, none⟩ = some (.pointer ((g.p.map fun k => (G.getD k default).b).map fun b => ⟨b, 0, none⟩)) := hgr.cell (by decide)
      have hmm : ((g.p.map fun k => (G.getD k default).b).map fun b => (⟨b, 0, none⟩ : Addr)) = g.p.map fun k => ⟨(G.getD k default).b, 0, none⟩ := by rw [Option.map_map]; rfl
      rw [hmm] at q1
      have HST := hide hst
      have HPR := hide hpr
      have HGG := hide hgg
      have HIL := hide hil
      have HHH := hide hhh
      clear hgr hst hpr hmm hgg hil hhh hqh
      have hpo : (Option.map (fun i => (⟨(G.getD i default).b, 0, none⟩ : Addr)) (some i)) = some ⟨g.b, 0, none⟩ := by rw [Option.map_some, unhide HGG]
      rw [hpo]
      clear hpo
      generalize hpp : (g.p.map fun k => (⟨(G.getD k default).b, 0, none⟩ : Addr)) = pq at q1
      have HPP := hide hpp
      clear hpp
      by_cases hx : qh = q
      · rw [decide_eq_true hx] at heq
        have hfin : lineG G m (some i0) = true := by rw [unhide HA, unhide HST, decide_eq_true ((unhide HHH).1 hx)]; rfl
        have HFin := hide hfin
        clear hfin hx
        go_wp2_with fail
        go_ret
        exact ⟨ret_bool (unhide HFin).symm, rfl⟩
      · rw [decide_eq_false hx] at heq
        have hnx : lineG G m (some i0) = lineG G m g.p := by rw [unhide HA, unhide HST, decide_eq_false (fun e => hx ((unhide HHH).2 e))]; rfl
        have HNX := hide hnx
        clear hnx hx
        go_wp2_with fail
        go_roundg i
        case measure => omega
        case rel => exact ⟨g.p, by rw [unhide HPP], fun k hk => ⟨by have := unhide HPR k hk; have := unhide HIL; omega, unhide HPR k hk⟩, unhide HNX, rfl⟩

/-- a grant taken back -/
def revG (G : List Gt) (i : Nat) : List Gt := G.set i { G.getD i default with rev := true }
theorem revG_len (G : List Gt) (i : Nat) : (revG G i).length = G.length := List.length_set
theorem revG_at {G : List Gt} {i : Nat} (hi : i < G.length) : (revG G i).getD i default = { G.getD i default with rev := true } := by
  unfold revG
  rw [List.getD_eq_getElem?_getD, List.getElem?_set_self hi]
  rfl
theorem revG_ne {G : List Gt} {i k : Nat} (h : k ≠ i) : (revG G i).getD k default = G.getD k default := by
  unfold revG
  rw [List.getD_eq_getElem?_getD, List.getElem?_set_ne (by omega), ← List.getD_eq_getElem?_getD]
theorem revG_b {G : List Gt} {i : Nat} (hi : i < G.length) (k : Nat) : ((revG G i).getD k default).b = (G.getD k default).b := by
  by_cases e : k = i
  · subst e; rw [revG_at hi]
  · rw [revG_ne e]
theorem revG_rest {G : List Gt} {i : Nat} (hi : i < G.length) (k : Nat) : ((revG G i).getD k default).h = (G.getD k default).h ∧ ((revG G i).getD k default).p = (G.getD k default).p ∧ ((revG G i).getD k default).c = (G.getD k default).c ∧ ((revG G i).getD k default).pl = (G.getD k default).pl := by
  by_cases e : k = i
  · subst e; rw [revG_at hi]; exact ⟨rfl, rfl, rfl, rfl⟩
  · rw [revG_ne e]; exact ⟨rfl, rfl, rfl, rfl⟩
theorem revG_ptr {G : List Gt} {i : Nat} (hi : i < G.length) : (revG G i).map gptr = G.map gptr := by
  apply List.ext_getElem?
  intro k
  rw [List.getElem?_map, List.getElem?_map]
  by_cases hk : k < G.length
  · have h1 := revG_b hi k
    rw [List.getD_eq_getElem?_getD, List.getD_eq_getElem?_getD, List.getElem?_eq_getElem hk, List.getElem?_eq_getElem (by rw [revG_len]; exact hk)] at h1
    rw [List.getElem?_eq_getElem hk, List.getElem?_eq_getElem (by rw [revG_len]; exact hk)]
    have h2 : ((revG G i)[k]'(by rw [revG_len]; exact hk)).b = (G[k]).b := h1
    show some (gptr _) = some (gptr _)
    unfold gptr
    rw [h2]
  · rw [List.getElem?_eq_none (by rw [revG_len]; omega), List.getElem?_eq_none (by omega)]
theorem FrS.rev {s : Nat} {vg : Value} {G : List Gt} {i : Nat} (hi : i < G.length) {k : Nat} (h : FrS s vg G k) : FrS s vg (revG G i) k :=
  ⟨h.s, h.q, fun j hj => by rw [revG_b hi]; exact h.g j (by rw [revG_len] at hj; exact hj)⟩
theorem Sv.rev {w : World} {s R O now : Nat} {vk vs vg : Value} {ks : List Ky} {cs : List Cl} {Qs : List Nat} {G : List Gt} {i : Nat} (h : Sv w s R O now vk vs vg ks cs Qs G) (hi : i < G.length) :
    Sv (w.setCell ⟨(G.getD i default).b, 2, none⟩ (.bool true)) s R O now vk vs vg ks cs Qs (revG G i) ∧ But (G.getD i default).b w (w.setCell ⟨(G.getD i default).b, 2, none⟩ (.bool true)) := by
  have hB : But (G.getD i default).b w (w.setCell ⟨(G.getD i default).b, 2, none⟩ (.bool true)) := (But.refl _ _).setCell 2 _
  refine ⟨?_, hB⟩
  have hgs := h.gs i hi
  have hrow := (h.gr i hi).set 2 (.bool true)
  generalize hw : w.setCell ⟨(G.getD i default).b, 2, none⟩ (.bool true) = w' at *
  have hkb : ∀ k, k ≠ (G.getD i default).b → w'.heap[k]? = w.heap[k]? := fun k hk => hB.block k hk
  have hpar : ∀ o : Option Nat, (o.map fun k => ((revG G i).getD k default).b) = o.map fun k => (G.getD k default).b := fun o => by
    cases o with
    | none => rfl
    | some k => simp only [Option.map_some, revG_b hi k]
  refine ⟨h.sb.below (hB.below (Nat.le_of_lt hgs)), h.row.keep (hkb s (by omega)), ?_, fun k hk => ?_, fun k hk => ?_, fun k hk => ?_, fun k hk => ?_, fun k hk => ?_, fun k hk => ?_, fun k hk => ?_, fun a b ha hb => ?_, fun k hk => ?_, by rw [revG_len]; exact h.small⟩
  · rw [revG_len, revG_ptr hi]
    exact ownsRow_at h.own (fun k e => hkb k (fun e2 => h.gq i hi (by rw [← e2]; exact e)))
  · rw [revG_len] at hk
    rw [hpar]
    by_cases e : k = i
    · subst e
      rw [revG_at hi]
      refine hrow.congr (fun j hj => ?_)
      by_cases e2 : j = 2
      · subst e2; rfl
      · rw [if_neg e2]
        unfold gtF
        simp only [e2, if_false]
    · rw [revG_ne e]
      refine (h.gr k hk).keep (hkb _ ?_)
      rcases Nat.lt_or_ge k i with hki | hki
      · exact h.inj i k hi hki
      · exact fun e3 => h.inj k i hk (by omega) e3.symm
  · rw [revG_len] at hk; rw [(revG_rest hi k).1]; exact h.hl k hk
  · rw [revG_len] at hk; rw [(revG_rest hi k).2.1]; exact h.pr k hk
  · rw [revG_len] at hk; rw [(revG_rest hi k).2.2.1]; exact h.id k hk
  · rw [revG_len] at hk; rw [(revG_rest hi k).2.2.1, (revG_rest hi k).2.2.2]
    exact (h.ls k hk).keep (fun x hx => ⟨hkb x (fun e => hx.2.g i hi e.symm), by rw [hB.size]; exact hx.1, hx.2.rev hi⟩)
  · rw [revG_len] at hk; rw [revG_b hi]; exact h.gs k hk
  · rw [revG_len] at hk; rw [revG_b hi]; exact h.gq k hk
  · rw [revG_len] at ha; rw [revG_b hi, revG_b hi]; exact h.inj a b ha hb
  · rw [revG_len] at hk; rw [(revG_rest hi k).2.2.1]; exact h.right k hk

set_option maxRecDepth 20000 in
set_option maxHeartbeats 1000000 in
theorem revoke_any (i m q : Nat) (w : World) (s R O now : Nat) (vk vs vg : Value) (ks : List Ky) (cs : List Cl) (Qs : List Nat) (G : List Gt) (hS : Sv w s R O now vk vs vg ks cs Qs G) (hi : i < G.length) (hq : Qs[m]? = some q) :
    Calls Tryz.prog 68 #[.pointer (some ⟨q, 0, none⟩), .pointer (some ⟨(G.getD i default).b, 0, none⟩)] w fun e w' => (lineG G m (some i) = false ∧ e = .returned (.int .i64 7) ∧ w' = w) ∨ (lineG G m (some i) = true ∧ e = .returned (.int .i64 0) ∧ w' = w.setCell ⟨(G.getD i default).b, 2, none⟩ (.bool true)) := by
  have HC := hide (HasInLine_any i m q w s R O now vk vs vg ks cs Qs G hS hi hq)
  have c2 := (hS.gr i hi).cell (j := 2) (by decide)
  have z2 := (hS.gr i hi).frozen 2
  have c2' : w.cell? ⟨(G.getD i default).b, 2, none⟩ = some (.bool (G.getD i default).rev) := c2
  clear hS hi hq c2
  generalize G.getD i default = g at *
  generalize hlb : lineG G m (some i) = lb at *
  have HLB := hide hlb
  clear hlb
  cases hl : lb with
  | true =>
    subst hl
    go_enter Tryz.func68, Tryz.ntmps68
    go_wp2_with (go_at_call 106; refine (unhide HC).mono ?_; rintro e w1 ⟨rfl, rfl⟩)
    go_ret
    first
      | exact Or.inr ⟨rfl, rfl, rfl⟩
      | exact Or.inr ⟨trivial, rfl, rfl⟩
  | false =>
    subst hl
    go_enter Tryz.func68, Tryz.ntmps68
    go_wp2_with (go_at_call 106; refine (unhide HC).mono ?_; rintro e w1 ⟨rfl, rfl⟩)
    go_ret
    first
      | exact Or.inl ⟨rfl, rfl, rfl⟩
      | exact Or.inl ⟨trivial, rfl, rfl⟩

set_option maxRecDepth 20000 in
theorem passOn_any (k : Int) (w : World) : Calls Tryz.prog 69 #[.int .i64 k] w fun e w' => e = .returned (.int .i64 k) ∧ w' = w := by
  go_enter Tryz.func69, Tryz.ntmps69
  go_wp2_with fail
  go_ret
  exact ⟨rfl, rfl⟩

/-- what Revoke takes back, and what it answers -/
def revS (ks : List Ky) (cs : List Cl) (G : List Gt) (now : Nat) (n sec t : List UInt8) : Option Nat × Int :=
  match loginK cs n sec with
  | none => (none, 5)
  | some m => match takeS ks G now t with
    | (none, e) => (none, e)
    | (some i, _) => if lineG G m (some i) = true then (some i, 0) else (none, 7)

set_option maxRecDepth 20000 in
set_option maxHeartbeats 1000000 in
theorem Revoke_any (n sec t : List UInt8) (w : World) (s R O now : Nat) (vk vs vg : Value) (ks : List Ky) (cs : List Cl) (Qs : List Nat) (G : List Gt) (hS : Sv w s R O now vk vs vg ks cs Qs G) (hT : Tb s w) (hm : MX w) (h4 : 4 < s) (ht : t.length ≤ 1048576) :
    Calls Tryz.prog 30 #[.pointer (some ⟨s, 0, none⟩), .agg #[.string ⟨n.toArray⟩, .string ⟨sec.toArray⟩], .string ⟨t.toArray⟩] w fun e w' => e = .returned (.int .i64 (revS ks cs G now n sec t).2) ∧
      (((revS ks cs G now n sec t).1 = none ∧ Below w.heap.size w w') ∨ ∃ i, (revS ks cs G now n sec t).1 = some i ∧ i < G.length ∧ Sv w' s R O now vk vs vg ks cs Qs (revG G i) ∧ Below s w w' ∧ ∀ k, k < w.heap.size → k ≠ (G.getD i default).b → w'.heap[k]? = w.heap[k]?) := by
  have hsl := hS.lt
  obtain ⟨w0, hw0⟩ : ∃ w0, w0 = w.alloc (.cells #[.string ⟨n.toArray⟩, .string ⟨sec.toArray⟩] 81) := ⟨_, rfl⟩
  have hb0 : Below w.heap.size w w0 := by rw [hw0]; exact (Below.refl _ _).alloc (Nat.le_refl _) _
  have hs0 : w0.heap.size = w.heap.size + 1 := by rw [hw0]; simp
  have g0 : w0.cell? ⟨w.heap.size, 0, none⟩ = some (.string ⟨n.toArray⟩) := by rw [hw0]; simp
  have g1 : w0.cell? ⟨w.heap.size, 1, none⟩ = some (.string ⟨sec.toArray⟩) := by rw [hw0]; simp
  have hS0 := hS.below hb0
  obtain ⟨L, hL⟩ : ∃ L, L = revS ks cs G now n sec t := ⟨_, rfl⟩
  have hRun := run_any 68 69 #[] #[] n sec t w0 s R O now vk vs vg ks cs Qs G
    (fun e w' => e = .returned (.int .i64 L.2) ∧ ((L.1 = none ∧ Below w.heap.size w w') ∨ ∃ i, L.1 = some i ∧ i < G.length ∧ Sv w' s R O now vk vs vg ks cs Qs (revG G i) ∧ Below s w w' ∧ ∀ k, k < w.heap.size → k ≠ (G.getD i default).b → w'.heap[k]? = w.heap[k]?))
    Tryz.call68 Tryz.call69 (fun e w' ⟨h, _⟩ => ⟨_, h⟩) hS0 (hT.below (hb0.mono (Nat.le_of_lt hsl))) (hm.below (show 4 < w.heap.size by omega) hb0) h4 ht
    (fun hl w' hb => by
      have e : L = (none, 5) := by rw [hL]; unfold revS; rw [hl]
      rw [e]
      exact ⟨rfl, Or.inl ⟨rfl, hb0.trans (hb.mono (by omega))⟩⟩)
    (fun m hl hz w' hb => by
      have e : L = (none, (takeS ks G now t).2) := by
        rw [hL]; unfold revS; rw [hl]; dsimp only
        have h1 := takeS_none hz
        generalize takeS ks G now t = x at h1 ⊢
        obtain ⟨x1, x2⟩ := x
        dsimp only at h1
        subst h1
        rfl
      rw [e]
      refine (passOn_any _ w').mono ?_
      rintro e w2 ⟨rfl, rfl⟩
      exact ⟨rfl, Or.inl ⟨rfl, hb0.trans (hb.mono (by omega))⟩⟩)
    (fun m q i hl hq htk hi hal w' hb => by
      have hSw := hS0.below hb
      have hB := hb0.trans (hb.mono (show w.heap.size ≤ w0.heap.size by omega))
      have e : L = if lineG G m (some i) = true then (some i, 0) else (none, 7) := by rw [hL]; unfold revS; rw [hl]; dsimp only; rw [htk]
      refine (revoke_any i m q w' s R O now vk vs vg ks cs Qs G hSw hi hq).mono ?_
      rintro e2 w2 (⟨h1, rfl, rfl⟩ | ⟨h1, rfl, rfl⟩)
      · rw [h1, if_neg (by decide)] at e
        rw [e]
        exact ⟨rfl, Or.inl ⟨rfl, hB⟩⟩
      · rw [h1, if_pos rfl] at e
        rw [e]
        obtain ⟨h2, h3⟩ := hSw.rev hi
        exact ⟨rfl, Or.inr ⟨i, rfl, hi, h2, (hB.mono (Nat.le_of_lt hsl)).trans (h3.below (Nat.le_of_lt (hS.gs i hi))), fun k hk hne => (h3.block k hne).trans (hB.block k hk)⟩⟩)
  have HRun := hide hRun
  have HW0 := hide hw0
  rw [← hL]
  clear hRun hS hT hm h4 ht hS0 hb0 hw0 hL hsl
  go_enter Tryz.func30, Tryz.ntmps30
  go_wp2_with fail
  rw [← unhide HW0]
  refine (unhide HRun).mono ?_
  rintro e w4 ⟨rfl, hrest⟩
  have HR := hide hrest
  clear HRun HW0 hrest g0 g1
  go_wp2_with fail
  go_ret
  exact ⟨rfl, unhide HR⟩

/-- what Tick answers -/
def tickE (now : Nat) (t : Int) : Int := if t < (now : Int) ∨ 999999999999 < t then 1 else 0
theorem Sv.tick {w : World} {s R O now : Nat} {vk vs vg : Value} {ks : List Ky} {cs : List Cl} {Qs : List Nat} {G : List Gt} (h : Sv w s R O now vk vs vg ks cs Qs G) (t : Nat) :
    Sv (w.setCell ⟨s, 0, none⟩ (.int .i64 (t : Nat))) s R O t vk vs vg ks cs Qs G ∧ But s w (w.setCell ⟨s, 0, none⟩ (.int .i64 (t : Nat))) := by
  have hB : But s w (w.setCell ⟨s, 0, none⟩ (.int .i64 (t : Nat))) := (But.refl _ _).setCell 0 _
  refine ⟨?_, hB⟩
  have hrow := h.row.set 0 (.int .i64 (t : Nat))
  generalize hw : w.setCell ⟨s, 0, none⟩ (.int .i64 (t : Nat)) = w' at *
  refine ⟨h.sb.below (hB.below (Nat.le_refl _)), hrow.congr (fun j hj => ?_), ownsRow_at h.own (fun k e => hB.block k (by have := (h.own.lt k e).1; omega)), fun k hk => (h.gr k hk).keep (hB.block _ (by have := h.gs k hk; omega)), h.hl, h.pr, h.id, fun k hk => (h.ls k hk).keep (fun x hx => ⟨hB.block x hx.2.s, by rw [hB.size]; exact hx.1, hx.2⟩), h.gs, h.gq, h.inj, h.right, h.small⟩
  by_cases e : j = 0
  · subst e; rfl
  · rw [if_neg e]
    unfold seF
    simp only [e, if_false]

set_option maxRecDepth 20000 in
set_option maxHeartbeats 1000000 in
theorem Tick_any (t : Int) (w : World) (s R O now : Nat) (vk vs vg : Value) (ks : List Ky) (cs : List Cl) (Qs : List Nat) (G : List Gt) (hS : Sv w s R O now vk vs vg ks cs Qs G) :
    Calls Tryz.prog 36 #[.pointer (some ⟨s, 0, none⟩), .int .i64 t] w fun e w' => (tickE now t = 1 ∧ e = .returned (.int .i64 1) ∧ w' = w) ∨ (tickE now t = 0 ∧ e = .returned (.int .i64 0) ∧ (now : Int) ≤ t ∧ t ≤ 999999999999 ∧ Sv w' s R O t.toNat vk vs vg ks cs Qs G ∧ But s w w') := by
  have c0 : w.cell? ⟨s, 0, none⟩ = some (.int .i64 (now : Nat)) := hS.row.cell (j := 0) (by decide)
  have z0 := hS.row.frozen 0
  by_cases h1 : t < (now : Int)
  · have HE : Hid (tickE now t = 1) := by unfold Hid tickE; rw [if_pos (Or.inl h1)]
    generalize tickE now t = te at *
    clear hS
    go_enter Tryz.func36, Tryz.ntmps36
    go_wp2_with fail
    go_ret
    exact Or.inl ⟨unhide HE, rfl, rfl⟩
  · by_cases h3 : 999999999999 < t
    · have HE : Hid (tickE now t = 1) := by unfold Hid tickE; rw [if_pos (Or.inr h3)]
      generalize tickE now t = te at *
      clear hS
      go_enter Tryz.func36, Tryz.ntmps36
      go_wp2_with fail
      go_ret
      exact Or.inl ⟨unhide HE, rfl, rfl⟩
    · have HE : Hid (tickE now t = 0) := by unfold Hid tickE; rw [if_neg (fun h => h.elim h1 h3)]
      generalize tickE now t = te at *
      have hfin := hS.tick t.toNat
      rw [show ((t.toNat : Nat) : Int) = t by omega] at hfin
      have HF := hide hfin
      have HN : Hid ((now : Int) ≤ t ∧ t ≤ 999999999999) := ⟨by omega, by omega⟩
      clear hS hfin
      go_enter Tryz.func36, Tryz.ntmps36
      go_wp2_with fail
      go_ret
      first
        | exact Or.inr ⟨unhide HE, rfl, (unhide HF).1, (unhide HF).2⟩
        | exact Or.inr ⟨unhide HE, rfl, (unhide HN).1, (unhide HN).2, (unhide HF).1, (unhide HF).2⟩
end Go.Proofs.YtkmkkmdpjliifaaGreatDoor
namespace Go.Proofs.YtkmkkmdpjliifaaGreatDoor
open Go.ChangeShapes Go.WideShapes Go.ChangeAt Go.RowKit

theorem append_own {w : World} {v0 : Value} {b0 : Nat} (hb0 : b0 ≤ w.heap.size) (h0 : w.ownsRow b0 9 1 v0 0 []) {a : Option Addr} {l : List (List UInt8)} {c : Nat} {B : Nat} (hl : l.length ≤ 8796093022208) (hv : Ls w B (.slice a l.length c) l) (hp : 0 < l.length) (ty : TypeId) :
    ∃ v' w', (Builtin.append_ #[35, 35] ty #[v0, .slice a l.length c]).run Tryz.prog w = .ok v' w' ∧ OwnS w' b0 v' l ∧ w.grownBy w' v0.ownBlock := by
  obtain ⟨a1, c1, he, hle, hv⟩ := hv
  obtain ⟨g, o, rfl, hg, hc⟩ := hv hp
  injection he with e1 e2 e3
  subst e1
  obtain ⟨i0, hi, hz0, hz1, hz2⟩ := info_parts info9
  obtain ⟨v', w', hrun, ho, hgr, _⟩ := run_append_own (P := Tryz.prog) w b0 35 ty 9 i0 _ 1 16 Tryz.underlying35 hi hz0 hz1 hz2 rfl (by decide) v0 0 [] h0 ⟨g, o, none⟩ l.length c (svs l) (by simp [svs]) (fun j u hu => by
      have hj : j < l.length := by
        rcases Nat.lt_or_ge j l.length with h | h
        · exact h
        · rw [List.getElem?_eq_none (by simp [svs]; exact h)] at hu; cases hu
      rw [svs_get l j hj] at hu
      rw [add_plain, hc j hj, hu]) (fun u hu => by
      obtain ⟨x, _, rfl⟩ := List.mem_map.1 hu
      rfl) (by unfold maxLen; omega) (by omega) hb0
  rw [Nat.zero_add, List.nil_append] at ho
  exact ⟨v', w', hrun, ho, hgr⟩

set_option maxRecDepth 20000 in
set_option maxHeartbeats 1000000 in
/-- a copy that is the caller's own -/
theorem CloneO_any (v : Value) (l : List (List UInt8)) (w : World) (B : Nat) (hB : B ≤ w.heap.size) (hl : l.length ≤ 8796093022208) (hv : Ls w B v l) :
    Calls Tryz.prog 145 #[v] w fun e w' => ∃ v', e = .returned v' ∧ OwnS w' w.heap.size v' l ∧ Below w.heap.size w w' := by
  have hv' := hv
  obtain ⟨a, c, rfl, hle, hx⟩ := hv'
  have q35 : ∀ (w : World) (a : Option Addr) (n c n' c' : Nat), (binOp .eql 35 (.slice a n c) (.slice none n' c')).run Tryz.prog w = .ok (.bool a.isNone) w := fun w a n c n' c' => Lib.run_eql_slice_nil w _ _ a n c n' c' Tryz.underlying35
  have hown : (w.alloc (.cells #[] 9)).ownsRow w.heap.size 9 1 (.slice (some ⟨w.heap.size, 0, none⟩) 0 0) 0 [] :=
    ⟨rfl, Or.inr ⟨w.heap.size, 0, #[], rfl, Nat.le_refl _, heap_alloc_new w _, Nat.le_refl _, Nat.zero_le _, rfl, rfl⟩⟩
  by_cases hp : 0 < l.length
  · obtain ⟨g, o, rfl, hg, hcell⟩ := hx hp
    have hva := hv.below (((Below.refl w.heap.size w).alloc (Nat.le_refl _) (.cells #[] 9)).mono hB)
    obtain ⟨v', w', hrun, hL, hgr⟩ := append_own (show w.heap.size ≤ (w.alloc (.cells #[] 9)).heap.size by simp) hown hl hva hp 35
    have hb : Below w.heap.size w w' := ((Below.refl w.heap.size w).alloc (Nat.le_refl _) _).grown hgr (by simp) (fun k hk => by simp [Value.ownBlock] at hk; omega)
    have HL := hide hL
    clear hl hx hL hv hva hcell
    go_enter Tryz.func145, Tryz.ntmps145
    go_wp2_with (at_builtin; refine appLaw rfl _ _ rfl rfl rfl hrun ?_)
    go_ret
    exact ⟨_, rfl, unhide HL, hb⟩
  · have : l = [] := List.length_eq_zero_iff.1 (by omega)
    subst this
    clear hl hv hx
    cases a with
    | none =>
      clear hown
      go_enter Tryz.func145, Tryz.ntmps145
      go_wp2
      go_ret
      exact ⟨_, rfl, OwnS.nil _ _, Below.refl _ _⟩
    | some ad =>
      have hrun : (Builtin.append_ #[35, 35] 35 #[.slice (some ⟨w.heap.size, 0, none⟩) 0 0, .slice (some ad) 0 c]).run Tryz.prog (w.alloc (.cells #[] 9)) = .ok (.slice (some ⟨w.heap.size, 0, none⟩) 0 0) (w.alloc (.cells #[] 9)) := by
        obtain ⟨i0, hi, hz0, hz1, hz2⟩ := info_parts info9
        have hl0 := run_loadCells_list (P := Tryz.prog) (w.alloc (.cells #[] 9)) ad [] (fun j v hv => by simp at hv)
        rw [List.length_nil] at hl0
        simp [Builtin.append_, run_underlying Tryz.underlying35, sizeOf, typeInfo, hi, Builtin.lenOf, Builtin.firstCells, hl0, storeCells]
      have HO := hide hown
      clear hown
      go_enter Tryz.func145, Tryz.ntmps145
      go_wp2_with (at_builtin; refine appLaw rfl _ _ rfl rfl rfl hrun ?_)
      go_ret
      exact ⟨_, rfl, unhide HO, (Below.refl _ _).alloc (Nat.le_refl _) _⟩

set_option maxRecDepth 20000 in
set_option maxHeartbeats 1000000 in
theorem notMay_any (x : List UInt8) (b p : Nat) (L : List (List UInt8)) (w : World) (N : Nat → Prop) (hN : ∀ k, N k → k < w.heap.size) (hl : L.length ≤ 8796093022208) (h : LsP w N p L) (hb : w.cell? ⟨b, 0, none⟩ = some (.func (.func 188) #[] #[.pointer (some ⟨p, 0, none⟩)])) :
    Calls Tryz.prog 185 #[.string ⟨x.toArray⟩, .pointer (some ⟨b, 0, none⟩)] w fun e w' => e = .returned (.bool (!hasB L x)) ∧ w' = w := by
  have HC := hide (among_any x p L w N hN hl h)
  clear hl h hN
  go_enter Tryz.func185, Tryz.ntmps185
  go_wp2_with (go_at_call 188; refine (unhide HC).mono ?_; rintro e w1 ⟨rfl, rfl⟩)
  go_ret
  exact ⟨rfl, rfl⟩

set_option maxRecDepth 20000 in
set_option maxHeartbeats 1000000 in
/-- the first name that may not be -/
theorem idxF_any (v : Value) (l : List (List UInt8)) (b p : Nat) (L : List (List UInt8)) (w : World) (B : Nat) (N : Nat → Prop) (hN : ∀ k, N k → k < w.heap.size) (hl : l.length ≤ 8796093022208) (hL : L.length ≤ 8796093022208) (hv : Ls w B v l) (h : LsP w N p L) (hb : w.cell? ⟨b, 0, none⟩ = some (.func (.func 188) #[] #[.pointer (some ⟨p, 0, none⟩)])) :
    Calls Tryz.prog 214 #[v, .func (.func 185) #[] #[.pointer (some ⟨b, 0, none⟩)]] w fun e w' => w' = w ∧ (((∀ j, j < l.length → hasB L (l.getD j []) = true) ∧ e = .returned (.int .i64 (-1))) ∨ ∃ k : Nat, k < l.length ∧ hasB L (l.getD k []) = false ∧ (∀ j, j < k → hasB L (l.getD j []) = true) ∧ e = .returned (.int .i64 (k : Nat))) := by
  obtain ⟨a, c, rfl, hle, hv⟩ := hv
  have HV := hide hv
  have HL := hide hl
  have HA := hide (fun x => notMay_any x b p L w N hN hL h hb)
  clear hv hl hL hle h hN hb
  go_enter Tryz.func214, Tryz.ntmps214
  go_wp2_with fail
  go_loopg [8] l.length (fun q i wr => ∃ k : Nat, k + q = l.length ∧ i = .int .i64 (k : Nat) ∧ (∀ j, j < k → hasB L (l.getD j []) = true) ∧ wr = w)
  case atStart => exact ⟨0, Nat.zero_add _, rfl, fun j hj => absurd hj (Nat.not_lt_zero _), rfl⟩
  case round =>
    obtain ⟨k, hk, rfl, hall, rfl⟩ := hrel
    have HALL := hide hall
    clear hall
    by_cases hlt : k < l.length
    · have hkI : (k : Int) < (l.length : Int) := by omega
      have hw : wrap64 ((k : Int) + 1) = (k : Int) + 1 := w64 _ (by omega) (by have := unhide HL; omega)
      obtain ⟨g, o, rfl, hg, hc⟩ := unhide HV (by omega)
      have hck := hc k hlt
      rw [sv_def] at hck
      have HX := hide (unhide HA (l.getD k []))
      generalize hxx : l.getD k [] = x at hck HX
      have HXX := hide hxx
      clear hc hxx
      cases hb : hasB L x with
      | true =>
        rw [hb] at HX
        go_wp2_with (go_at_call 185; refine (unhide HX).mono ?_; rintro e w1 ⟨rfl, rfl⟩)
        go_roundg (gk - 1)
        case measure => omega
        case rel => exact ⟨k + 1, by omega, by first | exact num1 hw | rfl, fun j hj => by
          by_cases e : j = k
          · subst e; rw [unhide HXX]; exact hb
          · exact unhide HALL j (by omega), rfl⟩
      | false =>
        rw [hb] at HX
        go_wp2_with (go_at_call 185; refine (unhide HX).mono ?_; rintro e w1 ⟨rfl, rfl⟩)
        go_ret
        exact ⟨rfl, Or.inr ⟨k, hlt, by rw [unhide HXX]; exact hb, unhide HALL, rfl⟩⟩
    · have hkn : k = l.length := by omega
      subst hkn
      clear hk
      go_wp2_with fail
      go_ret
      exact ⟨rfl, Or.inl ⟨unhide HALL, rfl⟩⟩
end Go.Proofs.YtkmkkmdpjliifaaGreatDoor
