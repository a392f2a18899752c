import Derived.Test.YtkmkkmdpjliifaaGreatDoorExA
import Derived.Lib.AppendZerosOnto
import Derived.Test.YtkmkkmdpjliifaaGreatDoorSvY
import Derived.OrdersHeld
import Derived.RegionTactic
namespace Go.Proofs.YtkmkkmdpjliifaaGreatDoor
open Go.ChangeShapes Go.WideShapes Go.ChangeAt Go.RowKit

/-- an append, by what it comes to -/
theorem appLaw2 {w : World} {ops : Array Oper} {rest : List Oper} {o : Oper} {a : Act} {Q : Exit → Act → World → Prop} (hgd : o.guard = none) (s x : Operand) {t t2 : TypeId}
    (ho : o.op = .call { callee := .builtin .append, args := #[s, x], argTypes := #[t, t2] }) {vs vx v' : Value} {w' : World} (hs : a.eval s = vs) (hx : a.eval x = vx)
    (hrun : (Builtin.append_ #[t, t2] o.type #[vs, vx]).run Tryz.prog w = .ok v' w')
    (h : wpList Tryz.prog ops Q rest (a.put o.dst v') w') : wpList Tryz.prog ops Q (o :: rest) a w := by
  refine wpList_plain hgd fun K hK' => ?_
  unfold Oper.wp
  simp [execOp, ho, resolve, invoke, builtin, hs, hx, hrun, Result.andThen]
  exact hK' _ _ h
/-- what a row that the call owns holds, cell by cell -/
theorem svs_append (a b : List (List UInt8)) : svs (a ++ b) = svs a ++ svs b := by simp [svs]
/-- names put behind a list of the call's own -/
theorem append_onto {w : World} {v0 v : Value} {b0 B : Nat} {l0 l : List (List UInt8)} (hb0 : b0 ≤ w.heap.size) (h0 : OwnS w b0 v0 l0) (hl0 : l0.length ≤ 1000) (hl : l.length ≤ 1000) (hv : Ls w B v l) (ty : TypeId) :
    ∃ v' w', (Builtin.append_ #[35, 35] ty #[v0, v]).run Tryz.prog w = .ok v' w' ∧ OwnS w' b0 v' (l0 ++ l) ∧ w.grownBy w' v0.ownBlock := by
  obtain ⟨a1, c1, rfl, hle, hv⟩ := hv
  obtain ⟨i0, hi, hz0, hz1, hz2⟩ := info_parts info9
  have key : ∀ a : Addr, (∀ j u, (svs l)[j]? = some u → w.cell? (a.add j) = some u) → ∃ v' w', (Builtin.append_ #[35, 35] ty #[v0, .slice (some a) l.length c1]).run Tryz.prog w = .ok v' w' ∧ OwnS w' b0 v' (l0 ++ l) ∧ w.grownBy w' v0.ownBlock := fun a ha => by
    obtain ⟨v', w', hrun, ho, hgr, _⟩ := run_append_own (P := Tryz.prog) w b0 35 ty 9 i0 _ 1 16 Tryz.underlying35 hi hz0 hz1 hz2 rfl (by decide) v0 l0.length (svs l0) h0 a l.length c1 (svs l) (by simp [svs]) ha (fun u hu => by
        obtain ⟨x, _, rfl⟩ := List.mem_map.1 hu
        rfl) (by unfold maxLen; omega) (by omega) hb0
    refine ⟨v', w', hrun, ?_, hgr⟩
    unfold OwnS
    rw [List.length_append, svs_append]
    exact ho
  by_cases hp : 0 < l.length
  · obtain ⟨g, o, rfl, hg, hc⟩ := hv hp
    exact key _ (fun j u hu => by
      have hj : j < l.length := by
        rcases Nat.lt_or_ge j l.length with h | h
        · exact h
        · rw [List.getElem?_eq_none (by simp [svs]; exact h)] at hu; cases hu
      rw [svs_get l j hj] at hu
      rw [add_plain, hc j hj, hu])
  · have : l = [] := List.length_eq_zero_iff.1 (by omega)
    subst this
    cases a1 with
    | some a => exact key a (fun j u hu => by simp [svs] at hu)
    | none =>
      refine ⟨v0, w, ?_, by rw [List.append_nil]; exact h0, ⟨rfl, rfl, rfl, Nat.le_refl _, fun _ _ _ => rfl⟩⟩
      obtain ⟨h1, h2⟩ := h0
      rcases h2 with ⟨rfl, h3⟩ | ⟨g, cap, cur, rfl, _, _, hn, _⟩
      · simp [Builtin.append_, run_underlying Tryz.underlying35, sizeOf, typeInfo, hi, Builtin.lenOf, Builtin.firstCells]
      · simp [Builtin.append_, run_underlying Tryz.underlying35, sizeOf, typeInfo, hi, Builtin.lenOf, Builtin.firstCells, storeCells, hn]

set_option maxRecDepth 20000 in
set_option maxHeartbeats 1000000 in
theorem Grow_any (n : Nat) (hn : n ≤ 1000) (w : World) :
    Calls Tryz.prog 147 #[.slice none 0 0, .int .i64 (n : Nat)] w fun e w' => ∃ v', e = .returned v' ∧ OwnS w' w.heap.size v' [] ∧ Below w.heap.size w w' := by
  obtain ⟨i0, hi, hz0, hz1, hz2⟩ := info_parts info9
  have h1 : ¬ ((n : Int) < 0) := by omega
  have h2 : wrap64 ((n : Int) - 0) = (n : Int) := by rw [w64 _ (by omega) (by omega)]; omega
  by_cases h0 : n = 0
  · subst h0
    go_enter Tryz.func147, Tryz.ntmps147
    go_wp2_with fail
    go_ret
    exact ⟨_, rfl, OwnS.nil _ _, Below.refl _ _⟩
  · have h3 : ((n : Nat) : Int) > 0 := by omega
    have hr := Lib.run_append_grow_zeros (P := Tryz.prog) w 35 3 35 9 i0 _ .i64 .i64 Tryz.underlying35 Tryz.underlying3 hi hz0 none 0 0 [] (run_firstCells_none w.drew i0.size 0 0 0) n (by omega) (by omega) (by omega) (by omega) (by rw [hz2]; omega) (growslice_fits (by omega) (by rw [hz2]; omega))
    rw [Nat.zero_add] at hr
    have hge := grownCap_ge w n 0 9
    have hle := grownCap_le_maxLen w n 0 9 (by unfold maxLen; omega)
    have hG63 : ((grownCap w n 0 9 : Nat) : Int) ≤ 9223372036854775807 := by unfold maxLen at hle; omega
    have hfin : OwnS (w.drew.alloc (.cells (([] : List Value).toArray ++ Builtin.zeroCells (Value.string ⟨#[]⟩).cells n ++ Builtin.zeroCells (Value.string ⟨#[]⟩).cells (grownCap w n 0 9 - n)) 9)) w.heap.size (.slice (some ⟨w.heap.size, 0, none⟩) 0 (grownCap w n 0 9)) [] := by
      refine ⟨rfl, Or.inr ⟨w.heap.size, grownCap w n 0 9, _, rfl, Nat.le_refl _, heap_alloc_new w.drew _, Nat.zero_le _, hle, ?_, ?_⟩⟩
      · have h1 : (Value.string ⟨#[]⟩).cells.size = 1 := rfl
        simp [size_zeroCells, h1]
        omega
      · simp [svs]
    have hb : Below w.heap.size w (w.drew.alloc (.cells (([] : List Value).toArray ++ Builtin.zeroCells (Value.string ⟨#[]⟩).cells n ++ Builtin.zeroCells (Value.string ⟨#[]⟩).cells (grownCap w n 0 9 - n)) 9)) := (Below.refl _ _).drew.alloc (Nat.le_refl _) _
    generalize w.drew.alloc (.cells (([] : List Value).toArray ++ Builtin.zeroCells (Value.string ⟨#[]⟩).cells n ++ Builtin.zeroCells (Value.string ⟨#[]⟩).cells (grownCap w n 0 9 - n)) 9) = wz at *
    generalize grownCap w n 0 9 = cap at *
    have HF := hide (And.intro hfin hb)
    clear hfin hb hle
    go_enter Tryz.func147, Tryz.ntmps147
    go_wp2_with (at_builtin; refine appLaw2 rfl _ _ rfl rfl rfl hr ?_)
    go_ret
    exact ⟨_, rfl, (unhide HF).1, (unhide HF).2⟩

set_option maxRecDepth 20000 in
set_option maxHeartbeats 2000000 in
/-- two lists, one behind the other -/
theorem Concat_any (g : Nat) (va vb : Value) (la lb : List (List UInt8)) (w : World) (hla : la.length ≤ 500) (hlb : lb.length ≤ 500) (c0 : w.cell? ⟨g, 0, none⟩ = some va) (c1 : w.cell? ⟨g, 1, none⟩ = some vb) (hg : g < w.heap.size) (ha : Ls w w.heap.size va la) (hb : Ls w w.heap.size vb lb) :
    Calls Tryz.prog 110 #[.slice (some ⟨g, 0, none⟩) 2 2] w fun e w' => ∃ v', e = .returned v' ∧ OwnS w' w.heap.size v' (la ++ lb) ∧ Below w.heap.size w w' := by
  have HA := hide ha
  have HB := hide hb
  have HL := hide (And.intro hla hlb)
  obtain ⟨a1, d1, rfl, hx1⟩ := ha
  obtain ⟨a2, d2, rfl, hx2⟩ := hb
  clear hx1 hx2
  have w1 : wrap64 (la.length : Int) = ((la.length : Nat) : Int) := w64 _ (by omega) (by omega)
  have w2 : wrap64 ((la.length : Int) + (lb.length : Int)) = ((la.length + lb.length : Nat) : Int) := by rw [w64 _ (by omega) (by omega)]; omega
  have n1 : ¬ ((la.length : Nat) : Int) < 0 := by omega
  have n2 : ¬ ((la.length + lb.length : Nat) : Int) < 0 := by omega
  have HG := hide (Grow_any (la.length + lb.length) (by omega))
  clear hla hlb
  generalize la.length + lb.length = tot at *
  go_enter Tryz.func110, Tryz.ntmps110
  go_wp2_with fail
  go_loopg [3, 11] 2 (fun q vs vi wr => wr = w ∧ ((q = 2 ∧ vs = .int .i64 0 ∧ vi = .int .i64 0) ∨ (q = 1 ∧ vs = .int .i64 (la.length : Nat) ∧ vi = .int .i64 1) ∨ (q = 0 ∧ vs = .int .i64 (tot : Nat) ∧ vi = .int .i64 2)))
  case atStart => exact ⟨rfl, Or.inl ⟨rfl, rfl, rfl⟩⟩
  case round =>
    obtain ⟨rfl, ⟨rfl, rfl, rfl⟩ | ⟨rfl, rfl, rfl⟩ | ⟨rfl, rfl, rfl⟩⟩ := hrel
    · go_wp2_with fail
      go_roundg 1
      case measure => omega
      case rel => exact ⟨rfl, Or.inr (Or.inl ⟨rfl, by first | rfl | exact congrArg (Value.int .i64) w1, rfl⟩)⟩
    · go_wp2_with fail
      go_roundg 0
      case measure => omega
      case rel => exact ⟨rfl, Or.inr (Or.inr ⟨rfl, by first | rfl | exact congrArg (Value.int .i64) w2, rfl⟩)⟩
    · go_wp2_with fail
      refine (unhide HG wr).mono ?_
      rintro e w1 ⟨v1, rfl, hO, hb1⟩
      have hs1 := hb1.size
      obtain ⟨v2, w2', hr2, hO2, hg2⟩ := append_onto (B := wr.heap.size) hs1 hO (by simp) (by have := unhide HL; omega) ((unhide HA).below hb1) 35
      have hb2 : Below wr.heap.size wr w2' := hb1.grown hg2 hs1 (fun k hk => (hO.lt k hk).1)
      rw [List.nil_append] at hO2
      obtain ⟨v3, w3', hr3, hO3, hg3⟩ := append_onto (B := wr.heap.size) hb2.size hO2 (by have := unhide HL; omega) (by have := unhide HL; omega) ((unhide HB).below hb2) 35
      have hb3 : Below wr.heap.size wr w3' := hb2.grown hg3 hb2.size (fun k hk => (hO2.lt k hk).1)
      have HF := hide (And.intro hO3 hb3)
      have HB1 := hide hb1
      have HB2 := hide hb2
      have HB3 := hide hb3
      have e0 : w1.cell? ⟨g, 0, none⟩ = some (.slice a1 la.length d1) := (hb1.cell (p := ⟨g, 0, none⟩) hg).trans c0
      have e1 : w2'.cell? ⟨g, 1, none⟩ = some (.slice a2 lb.length d2) := (hb2.cell (p := ⟨g, 1, none⟩) hg).trans c1
      clear hO hb1 hO2 hb2 hg2 hO3 hb3 hg3 HG HA HB c0 c1
      go_wp2_with fail
      go_loopg [6, 27] 2 (fun q v vi wz => (q = 2 ∧ v = v1 ∧ vi = .int .i64 0 ∧ wz = w1) ∨ (q = 1 ∧ v = v2 ∧ vi = .int .i64 1 ∧ wz = w2') ∨ (q = 0 ∧ v = v3 ∧ vi = .int .i64 2 ∧ wz = w3'))
      case atStart => exact Or.inl ⟨rfl, rfl, rfl, rfl⟩
      case round =>
        rcases hrel with ⟨rfl, rfl, rfl, rfl⟩ | ⟨rfl, rfl, rfl, rfl⟩ | ⟨rfl, rfl, rfl, rfl⟩
        · go_wp2_with (at_builtin; refine appLaw rfl _ _ rfl rfl rfl hr2 ?_)
          go_roundg 1
          case measure => omega
          case rel => exact Or.inr (Or.inl ⟨rfl, rfl, rfl, rfl⟩)
        · go_wp2_with (at_builtin; refine appLaw rfl _ _ rfl rfl rfl hr3 ?_)
          go_roundg 0
          case measure => omega
          case rel => exact Or.inr (Or.inr ⟨rfl, rfl, rfl, rfl⟩)
        · go_wp2_with fail
          go_ret
          exact ⟨_, rfl, unhide HF⟩
end Go.Proofs.YtkmkkmdpjliifaaGreatDoor
namespace Go.Proofs.YtkmkkmdpjliifaaGreatDoor
open Go.ChangeShapes Go.WideShapes Go.ChangeAt Go.RowKit

theorem neqCli {w : World} {s R O : Nat} {vk vs : Value} {ks : List Ky} {cs : List Cl} {Qs : List Nat} (h : Sb w s R O vk vs ks cs Qs) {a b qa qb : Nat} (ha : Qs[a]? = some qa) (hb : Qs[b]? = some qb) :
    (binOp .neq 120 (.pointer (some ⟨qa, 0, none⟩)) (.pointer (some ⟨qb, 0, none⟩))).run Tryz.prog w = .ok (.bool (!decide (qa = qb))) w := by
  obtain ⟨j, hj, hs⟩ := info152s
  have hp : Tryz.prog.underlying 120 = some (.pointer 152) := by kernel_rfl
  by_cases e : qa = qb
  · subst e
    have h : ∀ d : Nat, (Op.equalIn (d + 1) 120 (.pointer (some ⟨qa, 0, none⟩)) (.pointer (some ⟨qa, 0, none⟩))).run Tryz.prog w = .ok true w := fun d => by
      simp [Op.equalIn, run_underlying hp, sizeOf, typeInfo, hj, run_sameAddr_same]
    rw [decide_eq_true rfl]
    simp only [binOp]
    simp [Op.equal, Op.maxDepth, h 9999]
  · obtain ⟨_, _, _, _, _, _, _, _, ca, h1⟩ := h.cli a qa ha
    obtain ⟨_, _, _, _, _, _, _, _, cb, h2⟩ := h.cli b qb hb
    have h : ∀ d : Nat, (Op.equalIn (d + 1) 120 (.pointer (some ⟨qa, 0, none⟩)) (.pointer (some ⟨qb, 0, none⟩))).run Tryz.prog w = .ok false w := fun d => by
      simp [Op.equalIn, run_underlying hp, sizeOf, typeInfo, hj, hs, run_sameAddr_other w (a := ⟨qa, 0, none⟩) (b := ⟨qb, 0, none⟩) (fun x => e (by injection x)) h1 h2]
    rw [decide_eq_false e]
    simp only [binOp]
    simp [Op.equal, Op.maxDepth, h 9999]
theorem field1 (i e : Int) (b : ByteArray) (v2 v3 v4 : Value) (w : World) : (Instr.field 60 (.agg #[.int .i64 i, .string b, v2, v3, v4, .int .i64 e]) 1).run Tryz.prog w = .ok (.string b) w := by kernel_rfl
/-- whom a token is handed on for, and why not -/
def actS (ks : List Ky) (cs : List Cl) (G : List Gt) (now m i : Nat) (actor : List UInt8) : List (List UInt8) × Int :=
  if actor = [] then (if (G.getD i default).h = m then ([], 0) else ([], 7))
  else match takeS ks G now actor with
    | (none, e) => ([], e)
    | (some j, _) => if hasB (cs.getD (G.getD i default).h default).ac (G.getD j default).c.sub = true then ([(G.getD j default).c.sub], 0) else ([], 7)

set_option maxRecDepth 20000 in
set_option maxHeartbeats 2000000 in
theorem findActor_any (m q i : Nat) (actor : List UInt8) (w : World) (s R O now : Nat) (vk vs vg : Value) (ks : List Ky) (cs : List Cl) (Qs : List Nat) (G : List Gt) (hS : Sv w s R O now vk vs vg ks cs Qs G) (hT : Tb s w) (hm : MX w) (h4 : 4 < s) (hi : i < G.length) (hq : Qs[m]? = some q) (ht : actor.length ≤ 1048576) :
    Calls Tryz.prog 108 #[.pointer (some ⟨s, 0, none⟩), .pointer (some ⟨q, 0, none⟩), .pointer (some ⟨(G.getD i default).b, 0, none⟩), .string ⟨actor.toArray⟩] w fun e w' => ∃ v, e = .returned (.tuple #[v, .int .i64 (actS ks cs G now m i actor).2]) ∧ Ls w' w'.heap.size v (actS ks cs G now m i actor).1 ∧ Below w.heap.size w w' := by
  have hhl := hS.hl i hi
  have hg := qs_at (Qs := Qs) (k := (G.getD i default).h) (by rw [hS.sb.len]; exact hhl)
  have nilL : ∀ w' : World, Ls w' w'.heap.size (.slice none 0 0) [] := fun w' => ⟨none, 0, rfl, Nat.le_refl _, fun h => absurd h (Nat.not_lt_zero _)⟩
  by_cases ha : actor = []
  · subst ha
    have hne := neqCli hS.sb hg hq
    have hho := hS.holder hi hq
    have q0 : w.cell? ⟨(G.getD i default).b, 0, none⟩ = some (.pointer (some ⟨Qs.getD (G.getD i default).h 0, 0, none⟩)) := (hS.gr i hi).cell (by decide)
    have HE : Hid (actS ks cs G now m i [] = if (G.getD i default).h = m then ([], 0) else ([], 7)) := by unfold Hid actS; rw [if_pos rfl]
    have HNL := hide nilL
    have HH := hide hho
    clear hS hT hm h4 hi ht hg hhl nilL hq hho
    generalize hgg : G.getD i default = g at *
    generalize Qs.getD g.h 0 = qh at *
    have HGG := hide hgg
    clear hgg
    by_cases hx : qh = q
    · rw [decide_eq_true hx] at hne
      have HX := hide ((unhide HH).1 hx)
      clear hx
      go_enter Tryz.func108, Tryz.ntmps108
      go_wp2_with fail
      go_ret2
      refine ⟨.slice none 0 0, ?_, ?_, Below.refl _ _⟩
      · rw [unhide HE, if_pos (unhide HX)]; rfl
      · rw [unhide HE, if_pos (unhide HX)]; exact unhide HNL _
    · rw [decide_eq_false hx] at hne
      have HX : Hid (¬ g.h = m) := fun e => hx ((unhide HH).2 e)
      clear hx
      go_enter Tryz.func108, Tryz.ntmps108
      go_wp2_with fail
      go_ret2
      refine ⟨.slice none 0 0, ?_, ?_, Below.refl _ _⟩
      · rw [unhide HE, if_neg (unhide HX)]; rfl
      · rw [unhide HE, if_neg (unhide HX)]; exact unhide HNL _
  · have hTk := takeTok_any actor w s R O now vk vs vg ks cs Qs G hS hT hm h4 ht
    have HE : Hid (actS ks cs G now m i actor = match takeS ks G now actor with
        | (none, e) => ([], e)
        | (some j, _) => if hasB (cs.getD (G.getD i default).h default).ac (G.getD j default).c.sub = true then ([(G.getD j default).c.sub], 0) else ([], 7)) := by unfold Hid actS; rw [if_neg ha]
    have hne1 : (actor == []) = false := by simpa using ha
    have HNL := hide nilL
    have hcl := hS.sb.cli _ _ hg
    have hac := (clientsB_at hS.sb.cb (G.getD i default).h hhl).2.2
    have HS := hide hS
    have HI := hide hi
    by_cases hz : (takeS ks G now actor).2 = 0
    · obtain ⟨j, htk, hj, _⟩ := takeS_ok hz
      rw [htk] at HE hTk
      have hTk' : Calls Tryz.prog 105 #[.pointer (some ⟨s, 0, none⟩), .string ⟨actor.toArray⟩] w fun e w' => e = .returned (.tuple #[.pointer (some ⟨(G.getD j default).b, 0, none⟩), .int .i64 0]) ∧ Below w.heap.size w w' := hTk
      have HTk := hide hTk'
      have q0 : w.cell? ⟨(G.getD i default).b, 0, none⟩ = some (.pointer (some ⟨Qs.getD (G.getD i default).h 0, 0, none⟩)) := (hS.gr i hi).cell (by decide)
      have hbl := hS.glt i hi
      obtain ⟨hqs, p2, p3, p4, hcell, _, _, hP4, _⟩ := hcl
      have q3 : w.cell? ⟨Qs.getD (G.getD i default).h 0, 3, none⟩ = some (.func (.func 188) #[] #[.pointer (some ⟨p4, 0, none⟩)]) := hcell 3 (by decide)
      have hsl := hS.lt
      have HAm := hide (fun (x : List UInt8) (w' : World) (hb : Below w.heap.size w w') => among_any x p4 (cs.getD (G.getD i default).h default).ac w' (· < s) (fun k hk => by have : k < s := hk; have := hb.size; omega) (by have := listB_len hac; omega) (hP4.keep (fun k hk => ⟨hb.block k (by have : k < s := hk; omega), hk⟩)))
      have HJ := hide hj
      clear hTk hTk' hS hT hm h4 hi ht hq hhl hg nilL hac htk hj hP4 hcell ha hz
      generalize hgi : G.getD i default = gi at *
      generalize hqh : Qs.getD gi.h 0 = qh at *
      have hqs' : qh < s := hqs
      clear hqh hqs
      go_enter Tryz.func108, Tryz.ntmps108
      go_wp2_with fail
      refine (unhide HTk).mono ?_
      rintro e w1 ⟨rfl, hb1⟩
      have hs1 := hb1.size
      have HC := hide (Claims_any j w1 s R O now vk vs vg ks cs Qs G ((unhide HS).below hb1) (unhide HJ))
      have HB1 := hide hb1
      clear hb1 HTk
      generalize hgj : G.getD j default = gj at *
      go_wp2_with fail
      refine (unhide HC).mono ?_
      rintro e w2 ⟨p', rfl, _, hb2⟩
      have hb12 := (unhide HB1).trans (hb2.mono hs1)
      have k0 : w2.cell? ⟨gi.b, 0, none⟩ = some (.pointer (some ⟨qh, 0, none⟩)) := (hb12.cell (p := ⟨gi.b, 0, none⟩) hbl).trans q0
      have k3 : w2.cell? ⟨qh, 3, none⟩ = some (.func (.func 188) #[] #[.pointer (some ⟨p4, 0, none⟩)]) := (hb12.cell (p := ⟨qh, 3, none⟩) (show qh < w.heap.size by omega)).trans q3
      have HAx := hide (unhide HAm gj.c.sub w2 hb12)
      have HB := hide hb12
      clear HC hb2 hb12 HAm q0 q3
      unfold czA
      have hfd := field1
      have hsub : gj.c.z.sub = gj.c.sub := rfl
      rw [hsub]
      generalize gj.c.sub = sub at *
      have HE2 : Hid (actS ks cs G now m i actor = if hasB (cs.getD gi.h default).ac sub = true then ([sub], 0) else ([], 7)) := unhide HE
      clear HE hsub
      have HE3 : Hid (∀ b, hasB (cs.getD gi.h default).ac sub = b → actS ks cs G now m i actor = if b = true then ([sub], 0) else ([], 7)) := fun b hb => by rw [unhide HE2, hb]
      clear HE2
      cases hhb : hasB (cs.getD gi.h default).ac sub with
      | true =>
        rw [hhb] at HAx
        have HE2 : Hid (actS ks cs G now m i actor = ([sub], 0)) := unhide HE3 true hhb
        clear HE3 hhb
        go_wp2_with (go_at_call 188; refine (unhide HAx).mono ?_; rintro e w3 ⟨rfl, rfl⟩)
        go_ret2
        refine ⟨_, by rw [unhide HE2]; rfl, ?_, ?_⟩
        · rw [unhide HE2]
          exact ⟨_, 1, rfl, Nat.le_refl _, fun _ => ⟨_, _, rfl, by simp, fun j hj => by
            have : j = 0 := by have : j < 1 := hj; omega
            subst this
            simp [sv]⟩⟩
        · exact (unhide HB).alloc (unhide HB).size _
      | false =>
        rw [hhb] at HAx
        have HE2 : Hid (actS ks cs G now m i actor = ([], 7)) := unhide HE3 false hhb
        clear HE3 hhb
        go_wp2_with (go_at_call 188; refine (unhide HAx).mono ?_; rintro e w3 ⟨rfl, rfl⟩)
        go_ret2
        refine ⟨_, by rw [unhide HE2]; rfl, ?_, unhide HB⟩
        rw [unhide HE2]
        exact unhide HNL _
    · have HZ := hide hz
      have hN := takeS_none hz
      have HE2 : Hid (actS ks cs G now m i actor = ([], (takeS ks G now actor).2)) := by
        have h1 := unhide HE
        unfold Hid
        rw [h1]
        generalize takeS ks G now actor = x at hN ⊢
        obtain ⟨x1, x2⟩ := x
        dsimp only at hN
        subst hN
        rfl
      rw [hN] at hTk
      dsimp only [Option.map_none] at hTk
      generalize (takeS ks G now actor).2 = te at *
      have HTk := hide hTk
      clear HE hTk hS hT hm h4 hi ht hq hhl hg nilL hac hN ha hcl HS HI
      generalize (G.getD i default).b = gb at *
      go_enter Tryz.func108, Tryz.ntmps108
      go_wp2_with fail
      refine (unhide HTk).mono ?_
      rintro e w1 ⟨rfl, hb1⟩
      have HB := hide hb1
      clear hb1 HTk
      go_wp2_with fail
      go_ret2
      refine ⟨_, by rw [unhide HE2]; rfl, ?_, unhide HB⟩
      rw [unhide HE2]
      exact unhide HNL _
end Go.Proofs.YtkmkkmdpjliifaaGreatDoor
namespace Go.Proofs.YtkmkkmdpjliifaaGreatDoor
section
variable {P : Program} {ops : Array Oper} {Q : Exit → Act → World → Prop} {md : Region.Mode} {S : World → Prop} {last : Nat}
/-- Whatever order is picked; S holds behind every operation but the one numbered 'last'. -/
def wpAnyL (P : Program) (md : Region.Mode) (ops : Array Oper) (Q : Exit → Act → World → Prop) (S : World → Prop) (last : Nat) : Nat → Array Bool → Act → World → Prop
  | 0, listed, a, w => Region.ready md ops listed = [] ∧ Q .normal a w
  | n + 1, listed, a, w => (Region.ready md ops listed = [] → Q .normal a w) ∧
      ∀ j ∈ Region.ready md ops listed, wpOp P ops Q j (fun b u => (j ≠ last → S u) ∧ wpAnyL P md ops Q S last n (listed.setIfInBounds j true) b u) a w
theorem wpAny_of_L : ∀ (n : Nat) (listed : Array Bool) (a : Act) (w : World), wpAnyL P md ops Q S last n listed a w → wpAny P md ops Q n listed a w
  | 0, _, _, _, h => h
  | n + 1, _, _, _, h => ⟨h.1, fun j hj => wpOp_mono (fun b u k => wpAny_of_L n _ b u k.2) (h.2 j hj)⟩
/-- An operation that 'last' waits for, and that yields its value wherever S holds, may be taken first. -/
theorem wpAnyL_first {i : Nat} {oi : Oper} {v : Value} (hi : ops[i]? = some oi) (hsel : ∀ (j : Nat) (o : Oper) cs b, ops[j]? = some o → o.op ≠ .select cs b)
    (hQ : ∀ c a w, Q (.panic c) (a.put oi.dst v) w → Q (.panic c) a w) (hlast : ∀ o, ops[last]? = some o → ∃ e ∈ o.after, Region.binds md e = true ∧ e.on = i) :
    ∀ (n : Nat) (listed : Array Bool) (a : Act) (w : World),
      (∀ j oj, ops[j]? = some oj → j ≠ i → listed.getD j true = false → (∀ e ∈ oj.after, Region.binds md e = true → e.on ≠ i) → oi.apart ops oj = true) →
      i ∈ Region.ready md ops listed → YieldsIf P ops S oi v a → S w →
      wpAnyL P md ops Q S last n (listed.setIfInBounds i true) (a.put oi.dst v) w → wpAnyL P md ops Q S last (n + 1) listed a w := by
  intro n
  induction n with
  | zero =>
    intro listed a w _ hr hy hS K
    constructor
    · intro h; rw [h] at hr; cases hr
    · intro j hj
      by_cases e : j = i
      · subst e; exact hy.wpOp hi hS ⟨fun _ => hS, K⟩
      · exact absurd (ready_mono hj e) (by rw [K.1]; simp)
  | succ n ih =>
    intro listed a w hfree hr hy hS K
    constructor
    · intro h; rw [h] at hr; cases hr
    · intro j hj
      by_cases e : j = i
      · subst e; exact hy.wpOp hi hS ⟨fun _ => hS, K⟩
      · obtain ⟨hun, oj, hoj, hall⟩ := mem_ready.1 hj
        have hno : ∀ d ∈ oj.after, Region.binds md d = true → d.on ≠ i := by
          intro d hd hb heq
          have h1 := hall d hd hb
          have h0 := (mem_ready.1 hr).1
          rw [heq] at h1
          rcases Nat.lt_or_ge i listed.size with h | h
          · simp [h] at h0 h1; rw [h0] at h1; cases h1
          · simp [Array.getElem?_eq_none h] at h1
        have hjl : j ≠ last := by
          intro h
          subst h
          obtain ⟨d, hd, hb, ho⟩ := hlast oj hoj
          exact hno d hd hb ho
        have hstep := wpOp_putIf hoj (hfree j oj hoj e hun hno) (fun cs b => hsel i oi cs b hi) (fun cs b => hsel j oj cs b hoj) hQ hy (K.2 j (ready_mono hj e))
        refine wpOp_mono (fun b u k => ⟨k.2.1, ih _ b u ?_ (ready_mono hr (Ne.symm e)) k.1 (k.2.1 hjl) ?_⟩) hstep
        · intro m om hm hmi hu hn
          refine hfree m om hm hmi ?_ hn
          by_cases h : j = m
          · subst h; exact hun
          · rw [getD_set_ne true h] at hu; exact hu
        · rw [Array.setIfInBounds_comm _ _ e]
          exact k.2.2
theorem wpAnyL_take {i : Nat} {oi : Oper} {v : Value} {n : Nat} {listed : Array Bool} {a : Act} {w : World} (hi : ops[i]? = some oi)
    (hs : Region.noSelect ops = true) (hf : Region.free md ops listed i = true) (hr : (Region.ready md ops listed).contains i = true)
    (hl : (match ops[last]? with | some o => o.after.any (fun e => Region.binds md e && e.on == i) | none => true) = true)
    (hQ : ∀ c a w, Q (.panic c) (a.put oi.dst v) w → Q (.panic c) a w) (hy : YieldsIf P ops S oi v a) (hS : S w)
    (h : wpAnyL P md ops Q S last n (listed.setIfInBounds i true) (a.put oi.dst v) w) : wpAnyL P md ops Q S last (n + 1) listed a w :=
  wpAnyL_first hi (Region.noSelect_spec hs) hQ (fun o ho => by
    rw [ho] at hl
    obtain ⟨e, he, hb⟩ := Array.any_eq_true'.1 hl
    simp at hb
    exact ⟨e, he, hb.1, hb.2⟩) n listed a w (Region.free_spec hi hf) (by simpa using hr) hy hS h
theorem wpAnyL_one {i : Nat} {n : Nat} {listed : Array Bool} {a : Act} {w : World} (hr : Region.ready md ops listed = [i])
    (h : wpOp P ops Q i (fun b u => (i ≠ last → S u) ∧ wpAnyL P md ops Q S last n (listed.setIfInBounds i true) b u) a w) : wpAnyL P md ops Q S last (n + 1) listed a w :=
  ⟨fun h0 => (by rw [hr] at h0; cases h0), fun j hj => (by rw [hr] at hj; obtain rfl : j = i := (by simpa using hj); exact h)⟩
theorem wpAnyL_done {listed : Array Bool} {a : Act} {w : World} (hr : Region.ready md ops listed = []) (h : Q .normal a w) : ∀ n, wpAnyL P md ops Q S last n listed a w
  | 0 => ⟨hr, h⟩
  | _ + 1 => ⟨fun _ => h, by rw [hr]; simp⟩
theorem wp_region_L {id : Nat} {a : Act} {w : World} (last : Nat) (S : World → Prop) (hm : P.follows .mixedOrders = true)
    (h : wpAnyL P .any ops Q S last ops.size (Array.replicate ops.size false) a w.drew) : (Code.region id ops true).wp P Q a w :=
  wp_region_any hm (wpAny_of_L _ _ _ _ h)
end
end Go.Proofs.YtkmkkmdpjliifaaGreatDoor
