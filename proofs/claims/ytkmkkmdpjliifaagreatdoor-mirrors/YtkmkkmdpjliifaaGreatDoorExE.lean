import Derived.Test.YtkmkkmdpjliifaaGreatDoorRvA
import Derived.Test.YtkmkkmdpjliifaaGreatDoorExB
import Derived.OrdersHeld
import Derived.RegionTactic
import Derived.Test.YtkmkkmdpjliifaaGreatDoorSvE
namespace Go.Proofs.YtkmkkmdpjliifaaGreatDoor
open Go.ChangeShapes Go.WideShapes Go.ChangeAt Go.RowKit

theorem neqCli {w : World} {s R O : Nat} {vk vs : Value} {ks : List Ky} {cs : List Cl} {Qs : List Nat} (h : Sb w s R O vk vs ks cs Qs) {a b qa qb : Nat} (ha : Qs[a]? = some qa) (hb : Qs[b]? = some qb) :
    (binOp .neq 120 (.pointer (some ⟨qa, 0, none⟩)) (.pointer (some ⟨qb, 0, none⟩))).run Tryz.prog w = .ok (.bool (!decide (qa = qb))) w := by
  obtain ⟨j, hj, hs⟩ := info152s
  have hp : Tryz.prog.underlying 120 = some (.pointer 152) := by kernel_rfl
  by_cases e : qa = qb
  · subst e
    have h : ∀ d : Nat, (Op.equalIn (d + 1) 120 (.pointer (some ⟨qa, 0, none⟩)) (.pointer (some ⟨qa, 0, none⟩))).run Tryz.prog w = .ok true w := fun d => by
      simp [Op.equalIn, run_underlying hp, sizeOf, typeInfo, hj, run_sameAddr_same]
    rw [decide_eq_true rfl]
    simp only [binOp]
    simp [Op.equal, Op.maxDepth, h 9999]
  · obtain ⟨_, _, _, _, _, _, _, _, ca, h1⟩ := h.cli a qa ha
    obtain ⟨_, _, _, _, _, _, _, _, cb, h2⟩ := h.cli b qb hb
    have h : ∀ d : Nat, (Op.equalIn (d + 1) 120 (.pointer (some ⟨qa, 0, none⟩)) (.pointer (some ⟨qb, 0, none⟩))).run Tryz.prog w = .ok false w := fun d => by
      simp [Op.equalIn, run_underlying hp, sizeOf, typeInfo, hj, hs, run_sameAddr_other w (a := ⟨qa, 0, none⟩) (b := ⟨qb, 0, none⟩) (fun x => e (by injection x)) h1 h2]
    rw [decide_eq_false e]
    simp only [binOp]
    simp [Op.equal, Op.maxDepth, h 9999]
theorem field1 (i e : Int) (b : ByteArray) (v2 v3 v4 : Value) (w : World) : (Instr.field 60 (.agg #[.int .i64 i, .string b, v2, v3, v4, .int .i64 e]) 1).run Tryz.prog w = .ok (.string b) w := by kernel_rfl
/-- whom a token is handed on for, and why not -/
def actS (ks : List Ky) (cs : List Cl) (G : List Gt) (now m i : Nat) (actor : List UInt8) : List (List UInt8) × Int :=
  if actor = [] then (if (G.getD i default).h = m then ([], 0) else ([], 7))
  else match takeS ks G now actor with
    | (none, e) => ([], e)
    | (some j, _) => if hasB (cs.getD (G.getD i default).h default).ac (G.getD j default).c.sub = true then ([(G.getD j default).c.sub], 0) else ([], 7)

set_option maxRecDepth 20000 in
set_option maxHeartbeats 2000000 in
theorem findActor_any (m q i : Nat) (actor : List UInt8) (w : World) (s R O now : Nat) (vk vs vg : Value) (ks : List Ky) (cs : List Cl) (Qs : List Nat) (G : List Gt) (hS : Sv w s R O now vk vs vg ks cs Qs G) (hT : Tb s w) (hm : MX w) (h4 : 4 < s) (hi : i < G.length) (hq : Qs[m]? = some q) (ht : actor.length ≤ 1048576) :
    Calls Tryz.prog 108 #[.pointer (some ⟨s, 0, none⟩), .pointer (some ⟨q, 0, none⟩), .pointer (some ⟨(G.getD i default).b, 0, none⟩), .string ⟨actor.toArray⟩] w fun e w' => ∃ v, e = .returned (.tuple #[v, .int .i64 (actS ks cs G now m i actor).2]) ∧ Ls w' w'.heap.size v (actS ks cs G now m i actor).1 ∧ Below w.heap.size w w' := by
  have hhl := hS.hl i hi
  have hg := qs_at (Qs := Qs) (k := (G.getD i default).h) (by rw [hS.sb.len]; exact hhl)
  have nilL : ∀ w' : World, Ls w' w'.heap.size (.slice none 0 0) [] := fun w' => ⟨none, 0, rfl, Nat.le_refl _, fun h => absurd h (Nat.not_lt_zero _)⟩
  by_cases ha : actor = []
  · subst ha
    have hne := neqCli hS.sb hg hq
    have hho := hS.holder hi hq
    have q0 : w.cell? ⟨(G.getD i default).b, 0, none⟩ = some (.pointer (some ⟨Qs.getD (G.getD i default).h 0, 0, none⟩)) := (hS.gr i hi).cell (by decide)
    have HE : Hid (actS ks cs G now m i [] = if (G.getD i default).h = m then ([], 0) else ([], 7)) := by unfold Hid actS; rw [if_pos rfl]
    have HNL := hide nilL
    have HH := hide hho
    clear hS hT hm h4 hi ht hg hhl nilL hq hho
    generalize hgg : G.getD i default = g at *
    generalize Qs.getD g.h 0 = qh at *
    have HGG := hide hgg
    clear hgg
    by_cases hx : qh = q
    · rw [decide_eq_true hx] at hne
      have HX := hide ((unhide HH).1 hx)
      clear hx
      go_enter Tryz.func108, Tryz.ntmps108
      go_wp2_with fail
      go_ret2
      refine ⟨.slice none 0 0, ?_, ?_, Below.refl _ _⟩
      · rw [unhide HE, if_pos (unhide HX)]; rfl
      · rw [unhide HE, if_pos (unhide HX)]; exact unhide HNL _
    · rw [decide_eq_false hx] at hne
      have HX : Hid (¬ g.h = m) := fun e => hx ((unhide HH).2 e)
      clear hx
      go_enter Tryz.func108, Tryz.ntmps108
      go_wp2_with fail
      go_ret2
      refine ⟨.slice none 0 0, ?_, ?_, Below.refl _ _⟩
      · rw [unhide HE, if_neg (unhide HX)]; rfl
      · rw [unhide HE, if_neg (unhide HX)]; exact unhide HNL _
  · have hTk := takeTok_any actor w s R O now vk vs vg ks cs Qs G hS hT hm h4 ht
    have HE : Hid (actS ks cs G now m i actor = match takeS ks G now actor with
        | (none, e) => ([], e)
        | (some j, _) => if hasB (cs.getD (G.getD i default).h default).ac (G.getD j default).c.sub = true then ([(G.getD j default).c.sub], 0) else ([], 7)) := by unfold Hid actS; rw [if_neg ha]
    have hne1 : (actor == []) = false := by simpa using ha
    have HNL := hide nilL
    have hcl := hS.sb.cli _ _ hg
    have hac := (clientsB_at hS.sb.cb (G.getD i default).h hhl).2.2
    have HS := hide hS
    have HI := hide hi
    by_cases hz : (takeS ks G now actor).2 = 0
    · obtain ⟨j, htk, hj, _⟩ := takeS_ok hz
      rw [htk] at HE hTk
      have hTk' : Calls Tryz.prog 105 #[.pointer (some ⟨s, 0, none⟩), .string ⟨actor.toArray⟩] w fun e w' => e = .returned (.tuple #[.pointer (some ⟨(G.getD j default).b, 0, none⟩), .int .i64 0]) ∧ Below w.heap.size w w' := hTk
      have HTk := hide hTk'
      have q0 : w.cell? ⟨(G.getD i default).b, 0, none⟩ = some (.pointer (some ⟨Qs.getD (G.getD i default).h 0, 0, none⟩)) := (hS.gr i hi).cell (by decide)
      have hbl := hS.glt i hi
      obtain ⟨hqs, p2, p3, p4, hcell, _, _, hP4, _⟩ := hcl
      have q3 : w.cell? ⟨Qs.getD (G.getD i default).h 0, 3, none⟩ = some (.func (.func 188) #[] #[.pointer (some ⟨p4, 0, none⟩)]) := hcell 3 (by decide)
      have hsl := hS.lt
      have HAm := hide (fun (x : List UInt8) (w' : World) (hb : Below w.heap.size w w') => among_any x p4 (cs.getD (G.getD i default).h default).ac w' (· < s) (fun k hk => by have : k < s := hk; have := hb.size; omega) (by have := listB_len hac; omega) (hP4.keep (fun k hk => ⟨hb.block k (by have : k < s := hk; omega), hk⟩)))
      have HJ := hide hj
      clear hTk hTk' hS hT hm h4 hi ht hq hhl hg nilL hac htk hj hP4 hcell ha hz
      generalize hgi : G.getD i default = gi at *
      generalize hqh : Qs.getD gi.h 0 = qh at *
      have hqs' : qh < s := hqs
      clear hqh hqs
      go_enter Tryz.func108, Tryz.ntmps108
      go_wp2_with fail
      refine (unhide HTk).mono ?_
      rintro e w1 ⟨rfl, hb1⟩
      have hs1 := hb1.size
      have HC := hide (Claims_any j w1 s R O now vk vs vg ks cs Qs G ((unhide HS).below hb1) (unhide HJ))
      have HB1 := hide hb1
      clear hb1 HTk
      generalize hgj : G.getD j default = gj at *
      go_wp2_with fail
      refine (unhide HC).mono ?_
      rintro e w2 ⟨p', rfl, _, hb2⟩
      have hb12 := (unhide HB1).trans (hb2.mono hs1)
      have k0 : w2.cell? ⟨gi.b, 0, none⟩ = some (.pointer (some ⟨qh, 0, none⟩)) := (hb12.cell (p := ⟨gi.b, 0, none⟩) hbl).trans q0
      have k3 : w2.cell? ⟨qh, 3, none⟩ = some (.func (.func 188) #[] #[.pointer (some ⟨p4, 0, none⟩)]) := (hb12.cell (p := ⟨qh, 3, none⟩) (show qh < w.heap.size by omega)).trans q3
      have HAx := hide (unhide HAm gj.c.sub w2 hb12)
      have HB := hide hb12
      clear HC hb2 hb12 HAm q0 q3
      unfold czA
      have hfd := field1
      have hsub : gj.c.z.sub = gj.c.sub := rfl
      rw [hsub]
      generalize gj.c.sub = sub at *
      have HE2 : Hid (actS ks cs G now m i actor = if hasB (cs.getD gi.h default).ac sub = true then ([sub], 0) else ([], 7)) := unhide HE
      clear HE hsub
      have HE3 : Hid (∀ b, hasB (cs.getD gi.h default).ac sub = b → actS ks cs G now m i actor = if b = true then ([sub], 0) else ([], 7)) := fun b hb => by rw [unhide HE2, hb]
      clear HE2
      cases hhb : hasB (cs.getD gi.h default).ac sub with
      | true =>
        rw [hhb] at HAx
        have HE2 : Hid (actS ks cs G now m i actor = ([sub], 0)) := unhide HE3 true hhb
        clear HE3 hhb
        go_wp2_with (go_at_call 188; refine (unhide HAx).mono ?_; rintro e w3 ⟨rfl, rfl⟩)
        go_ret2
        refine ⟨_, by rw [unhide HE2]; rfl, ?_, ?_⟩
        · rw [unhide HE2]
          exact ⟨_, 1, rfl, Nat.le_refl _, fun _ => ⟨_, _, rfl, by simp, fun j hj => by
            have : j = 0 := by have : j < 1 := hj; omega
            subst this
            simp [sv]⟩⟩
        · exact (unhide HB).alloc (unhide HB).size _
      | false =>
        rw [hhb] at HAx
        have HE2 : Hid (actS ks cs G now m i actor = ([], 7)) := unhide HE3 false hhb
        clear HE3 hhb
        go_wp2_with (go_at_call 188; refine (unhide HAx).mono ?_; rintro e w3 ⟨rfl, rfl⟩)
        go_ret2
        refine ⟨_, by rw [unhide HE2]; rfl, ?_, unhide HB⟩
        rw [unhide HE2]
        exact unhide HNL _
    · have HZ := hide hz
      have hN := takeS_none hz
      have HE2 : Hid (actS ks cs G now m i actor = ([], (takeS ks G now actor).2)) := by
        have h1 := unhide HE
        unfold Hid
        rw [h1]
        generalize takeS ks G now actor = x at hN ⊢
        obtain ⟨x1, x2⟩ := x
        dsimp only at hN
        subst hN
        rfl
      rw [hN] at hTk
      dsimp only [Option.map_none] at hTk
      generalize (takeS ks G now actor).2 = te at *
      have HTk := hide hTk
      clear HE hTk hS hT hm h4 hi ht hq hhl hg nilL hac hN ha hcl HS HI
      generalize (G.getD i default).b = gb at *
      go_enter Tryz.func108, Tryz.ntmps108
      go_wp2_with fail
      refine (unhide HTk).mono ?_
      rintro e w1 ⟨rfl, hb1⟩
      have HB := hide hb1
      clear hb1 HTk
      go_wp2_with fail
      go_ret2
      refine ⟨_, by rw [unhide HE2]; rfl, ?_, unhide HB⟩
      rw [unhide HE2]
      exact unhide HNL _
end Go.Proofs.YtkmkkmdpjliifaaGreatDoor
namespace Go.Proofs.YtkmkkmdpjliifaaGreatDoor
section
variable {P : Program} {ops : Array Oper} {Q : Exit → Act → World → Prop} {md : Region.Mode} {S : World → Prop} {last : Nat}
/-- Whatever order is picked; S holds behind every operation but the one numbered 'last'. -/
def wpAnyL (P : Program) (md : Region.Mode) (ops : Array Oper) (Q : Exit → Act → World → Prop) (S : World → Prop) (last : Nat) : Nat → Array Bool → Act → World → Prop
  | 0, listed, a, w => Region.ready md ops listed = [] ∧ Q .normal a w
  | n + 1, listed, a, w => (Region.ready md ops listed = [] → Q .normal a w) ∧
      ∀ j ∈ Region.ready md ops listed, wpOp P ops Q j (fun b u => (j ≠ last → S u) ∧ wpAnyL P md ops Q S last n (listed.setIfInBounds j true) b u) a w
theorem wpAny_of_L : ∀ (n : Nat) (listed : Array Bool) (a : Act) (w : World), wpAnyL P md ops Q S last n listed a w → wpAny P md ops Q n listed a w
  | 0, _, _, _, h => h
  | n + 1, _, _, _, h => ⟨h.1, fun j hj => wpOp_mono (fun b u k => wpAny_of_L n _ b u k.2) (h.2 j hj)⟩
/-- An operation that 'last' waits for, and that yields its value wherever S holds, may be taken first. -/
theorem wpAnyL_first {i : Nat} {oi : Oper} {v : Value} (hi : ops[i]? = some oi) (hsel : ∀ (j : Nat) (o : Oper) cs b, ops[j]? = some o → o.op ≠ .select cs b)
    (hQ : ∀ c a w, Q (.panic c) (a.put oi.dst v) w → Q (.panic c) a w) (hlast : ∀ o, ops[last]? = some o → ∃ e ∈ o.after, Region.binds md e = true ∧ e.on = i) :
    ∀ (n : Nat) (listed : Array Bool) (a : Act) (w : World),
      (∀ j oj, ops[j]? = some oj → j ≠ i → listed.getD j true = false → (∀ e ∈ oj.after, Region.binds md e = true → e.on ≠ i) → oi.apart ops oj = true) →
      i ∈ Region.ready md ops listed → YieldsIf P ops S oi v a → S w →
      wpAnyL P md ops Q S last n (listed.setIfInBounds i true) (a.put oi.dst v) w → wpAnyL P md ops Q S last (n + 1) listed a w := by
  intro n
  induction n with
  | zero =>
    intro listed a w _ hr hy hS K
    constructor
    · intro h; rw [h] at hr; cases hr
    · intro j hj
      by_cases e : j = i
      · subst e; exact hy.wpOp hi hS ⟨fun _ => hS, K⟩
      · exact absurd (ready_mono hj e) (by rw [K.1]; simp)
  | succ n ih =>
    intro listed a w hfree hr hy hS K
    constructor
    · intro h; rw [h] at hr; cases hr
    · intro j hj
      by_cases e : j = i
      · subst e; exact hy.wpOp hi hS ⟨fun _ => hS, K⟩
      · obtain ⟨hun, oj, hoj, hall⟩ := mem_ready.1 hj
        have hno : ∀ d ∈ oj.after, Region.binds md d = true → d.on ≠ i := by
          intro d hd hb heq
          have h1 := hall d hd hb
          have h0 := (mem_ready.1 hr).1
          rw [heq] at h1
          rcases Nat.lt_or_ge i listed.size with h | h
          · simp [h] at h0 h1; rw [h0] at h1; cases h1
          · simp [Array.getElem?_eq_none h] at h1
        have hjl : j ≠ last := by
          intro h
          subst h
          obtain ⟨d, hd, hb, ho⟩ := hlast oj hoj
          exact hno d hd hb ho
        have hstep := wpOp_putIf hoj (hfree j oj hoj e hun hno) (fun cs b => hsel i oi cs b hi) (fun cs b => hsel j oj cs b hoj) hQ hy (K.2 j (ready_mono hj e))
        refine wpOp_mono (fun b u k => ⟨k.2.1, ih _ b u ?_ (ready_mono hr (Ne.symm e)) k.1 (k.2.1 hjl) ?_⟩) hstep
        · intro m om hm hmi hu hn
          refine hfree m om hm hmi ?_ hn
          by_cases h : j = m
          · subst h; exact hun
          · rw [getD_set_ne true h] at hu; exact hu
        · rw [Array.setIfInBounds_comm _ _ e]
          exact k.2.2
theorem wpAnyL_take {i : Nat} {oi : Oper} {v : Value} {n : Nat} {listed : Array Bool} {a : Act} {w : World} (hi : ops[i]? = some oi)
    (hs : Region.noSelect ops = true) (hf : Region.free md ops listed i = true) (hr : (Region.ready md ops listed).contains i = true)
    (hl : (match ops[last]? with | some o => o.after.any (fun e => Region.binds md e && e.on == i) | none => true) = true)
    (hQ : ∀ c a w, Q (.panic c) (a.put oi.dst v) w → Q (.panic c) a w) (hy : YieldsIf P ops S oi v a) (hS : S w)
    (h : wpAnyL P md ops Q S last n (listed.setIfInBounds i true) (a.put oi.dst v) w) : wpAnyL P md ops Q S last (n + 1) listed a w :=
  wpAnyL_first hi (Region.noSelect_spec hs) hQ (fun o ho => by
    rw [ho] at hl
    obtain ⟨e, he, hb⟩ := Array.any_eq_true'.1 hl
    simp at hb
    exact ⟨e, he, hb.1, hb.2⟩) n listed a w (Region.free_spec hi hf) (by simpa using hr) hy hS h
theorem wpAnyL_one {i : Nat} {n : Nat} {listed : Array Bool} {a : Act} {w : World} (hr : Region.ready md ops listed = [i])
    (h : wpOp P ops Q i (fun b u => (i ≠ last → S u) ∧ wpAnyL P md ops Q S last n (listed.setIfInBounds i true) b u) a w) : wpAnyL P md ops Q S last (n + 1) listed a w :=
  ⟨fun h0 => (by rw [hr] at h0; cases h0), fun j hj => (by rw [hr] at hj; obtain rfl : j = i := (by simpa using hj); exact h)⟩
theorem wpAnyL_done {listed : Array Bool} {a : Act} {w : World} (hr : Region.ready md ops listed = []) (h : Q .normal a w) : ∀ n, wpAnyL P md ops Q S last n listed a w
  | 0 => ⟨hr, h⟩
  | _ + 1 => ⟨fun _ => h, by rw [hr]; simp⟩
theorem wp_region_L {id : Nat} {a : Act} {w : World} (last : Nat) (S : World → Prop) (hm : P.follows .mixedOrders = true)
    (h : wpAnyL P .any ops Q S last ops.size (Array.replicate ops.size false) a w.drew) : (Code.region id ops true).wp P Q a w :=
  wp_region_any hm (wpAny_of_L _ _ _ _ h)
end
end Go.Proofs.YtkmkkmdpjliifaaGreatDoor
namespace Go.Proofs.YtkmkkmdpjliifaaGreatDoor
open Go.ChangeShapes Go.WideShapes Go.ChangeAt Go.RowKit

/- blocks made one behind the other -/
def allocL (w : World) : List Obj → World
  | [] => w
  | o :: os => allocL (w.alloc o) os
theorem allocL_size : ∀ (os : List Obj) (w : World), (allocL w os).heap.size = w.heap.size + os.length
  | [], w => rfl
  | o :: os, w => by rw [allocL, allocL_size os]; simp; omega
theorem allocL_below : ∀ (os : List Obj) (w : World), Below w.heap.size w (allocL w os)
  | [], w => Below.refl _ _
  | o :: os, w => ((Below.refl w.heap.size w).alloc (Nat.le_refl _) o).trans ((allocL_below os (w.alloc o)).mono (by simp))
theorem allocL_heap : ∀ (os : List Obj) (w : World) (i : Nat) (o : Obj), os[i]? = some o → (allocL w os).heap[w.heap.size + i]? = some o
  | [], w, i, o, h => by simp at h
  | o1 :: os, w, 0, o, h => by
    have e : o1 = o := by simpa using h
    subst e
    rw [allocL, (allocL_below os (w.alloc o1)).block _ (by simp)]
    exact heap_alloc_new w o1
  | o1 :: os, w, i + 1, o, h => by
    have := allocL_heap os (w.alloc o1) i o (by simpa using h)
    rw [allocL, show w.heap.size + (i + 1) = (w.alloc o1).heap.size + i by simp; omega]
    exact this
theorem allocL_cell {os : List Obj} {w : World} {i : Nat} {ca : Array Value} {t : TypeId} (h : os[i]? = some (.cells ca t)) (j : Nat) : (allocL w os).cell? ⟨w.heap.size + i, j, none⟩ = ca[j]? := by
  unfold World.cell?
  simp only [allocL_heap os w i _ h]
  rfl
theorem allocL_ls {os : List Obj} {w : World} {i : Nat} {l : List (List UInt8)} (h : os[i]? = some (.cells (svs l).toArray 9)) (hi : i < os.length) : Ls (allocL w os) (allocL w os).heap.size (.slice (some ⟨w.heap.size + i, 0, none⟩) l.length l.length) l := by
  refine ⟨_, _, rfl, Nat.le_refl _, fun _ => ⟨_, _, rfl, by rw [allocL_size]; omega, fun j hj => ?_⟩⟩
  rw [allocL_cell h, Nat.zero_add]
  have := svs_get l j hj
  simpa using this

/- the server of the statements: its keys and clients -/
def ks0 : List Ky := [⟨[107, 48], [107, 101, 121]⟩, ⟨[107, 49], [111, 116, 104, 101, 114]⟩]
def cs0 : List Cl := [⟨[99, 48], [115, 48], [[114], [119], [120], [97, 34, 98], [92], [116, 97, 98, 9, 104, 101, 114, 101]], [[116], [117], [118]], [[98, 111, 98], [97, 110, 110], [101, 118, 101]]⟩,
  ⟨[99, 49], [115, 49], [[114], [119]], [[116], [117]], [[97, 110, 110]]⟩, ⟨[99, 50], [115, 50], [[114], [120]], [[116]], [[98, 111, 98]]⟩, ⟨[99, 51], [115, 51], [], [], []⟩]
theorem new0 : newB ks0 cs0 = true := by decide +kernel
/-- what the statements' server lays down -/
def lay0 (h : Nat) : List Obj := [
  .cells #[.string ⟨#[114]⟩, .string ⟨#[119]⟩, .string ⟨#[120]⟩, .string ⟨#[97, 34, 98]⟩, .string ⟨#[92]⟩, .string ⟨#[116, 97, 98, 9, 104, 101, 114, 101]⟩] 9,
  .cells #[.string ⟨#[116]⟩, .string ⟨#[117]⟩, .string ⟨#[118]⟩] 9,
  .cells #[.string ⟨#[98, 111, 98]⟩, .string ⟨#[97, 110, 110]⟩, .string ⟨#[101, 118, 101]⟩] 9,
  .cells #[.string ⟨#[114]⟩, .string ⟨#[119]⟩] 9,
  .cells #[.string ⟨#[116]⟩, .string ⟨#[117]⟩] 9,
  .cells #[.string ⟨#[97, 110, 110]⟩] 9,
  .cells #[.string ⟨#[114]⟩, .string ⟨#[120]⟩] 9,
  .cells #[.string ⟨#[116]⟩] 9,
  .cells #[.string ⟨#[98, 111, 98]⟩] 9,
  .cells #[.string ⟨#[99, 48]⟩, .string ⟨#[115, 48]⟩, .slice (some ⟨h, 0, none⟩) 6 6, .slice (some ⟨h + 1, 0, none⟩) 3 3, .slice (some ⟨h + 2, 0, none⟩) 3 3,
    .string ⟨#[99, 49]⟩, .string ⟨#[115, 49]⟩, .slice (some ⟨h + 3, 0, none⟩) 2 2, .slice (some ⟨h + 4, 0, none⟩) 2 2, .slice (some ⟨h + 5, 0, none⟩) 1 1,
    .string ⟨#[99, 50]⟩, .string ⟨#[115, 50]⟩, .slice (some ⟨h + 6, 0, none⟩) 2 2, .slice (some ⟨h + 7, 0, none⟩) 1 1, .slice (some ⟨h + 8, 0, none⟩) 1 1,
    .string ⟨#[99, 51]⟩, .string ⟨#[115, 51]⟩, .slice none 0 0, .slice none 0 0, .slice none 0 0] 37,
  .cells #[.string ⟨#[107, 48]⟩, .string ⟨#[107, 101, 121]⟩, .string ⟨#[107, 49]⟩, .string ⟨#[111, 116, 104, 101, 114]⟩] 34]
theorem four {P : Nat → Prop} (h0 : P 0) (h1 : P 1) (h2 : P 2) (h3 : P 3) : ∀ j, j < 4 → P j := by
  intro j hj
  rcases (show j = 0 ∨ j = 1 ∨ j = 2 ∨ j = 3 by omega) with rfl | rfl | rfl | rfl
  · exact h0
  · exact h1
  · exact h2
  · exact h3
theorem lay0_keys (w : World) : Ks (allocL w (lay0 w.heap.size)) (allocL w (lay0 w.heap.size)).heap.size (.slice (some ⟨w.heap.size + 10, 0, none⟩) 2 2) ks0 := by
  refine ⟨_, _, rfl, fun _ => ⟨_, _, rfl, by rw [allocL_size]; show w.heap.size + 10 < w.heap.size + 11; omega, fun i hi => ?_⟩⟩
  have hi2 : i < 2 := hi
  have hc := fun j => allocL_cell (os := lay0 w.heap.size) (w := w) (i := 10) rfl j
  rcases (show i = 0 ∨ i = 1 by omega) with rfl | rfl
  · exact ⟨(hc _).trans rfl, (hc _).trans rfl⟩
  · exact ⟨(hc _).trans rfl, (hc _).trans rfl⟩
theorem lsNil (w : World) (B : Nat) : Ls w B (.slice none 0 0) [] := ⟨none, 0, rfl, Nat.le_refl _, fun h => absurd h (Nat.not_lt_zero _)⟩
theorem lay0_clients (w : World) : Cs (allocL w (lay0 w.heap.size)) (allocL w (lay0 w.heap.size)).heap.size (.slice (some ⟨w.heap.size + 9, 0, none⟩) 4 4) cs0 := by
  have hz := allocL_size (lay0 w.heap.size) w
  refine ⟨_, _, rfl, fun _ => ⟨_, _, rfl, by rw [hz]; show w.heap.size + 9 < w.heap.size + 11; omega, ?_⟩⟩
  have hc := fun j => allocL_cell (os := lay0 w.heap.size) (w := w) (i := 9) rfl j
  refine four ?_ ?_ ?_ ?_
  · exact ⟨(hc _).trans rfl, (hc _).trans rfl, ⟨_, _, (hc _).trans rfl, allocL_ls (i := 0) rfl (by simp [lay0])⟩, ⟨_, _, (hc _).trans rfl, allocL_ls (i := 1) rfl (by simp [lay0])⟩, ⟨_, _, (hc _).trans rfl, allocL_ls (i := 2) rfl (by simp [lay0])⟩⟩
  · exact ⟨(hc _).trans rfl, (hc _).trans rfl, ⟨_, _, (hc _).trans rfl, allocL_ls (i := 3) rfl (by simp [lay0])⟩, ⟨_, _, (hc _).trans rfl, allocL_ls (i := 4) rfl (by simp [lay0])⟩, ⟨_, _, (hc _).trans rfl, allocL_ls (i := 5) rfl (by simp [lay0])⟩⟩
  · exact ⟨(hc _).trans rfl, (hc _).trans rfl, ⟨_, _, (hc _).trans rfl, allocL_ls (i := 6) rfl (by simp [lay0])⟩, ⟨_, _, (hc _).trans rfl, allocL_ls (i := 7) rfl (by simp [lay0])⟩, ⟨_, _, (hc _).trans rfl, allocL_ls (i := 8) rfl (by simp [lay0])⟩⟩
  · exact ⟨(hc _).trans rfl, (hc _).trans rfl, ⟨_, _, (hc _).trans rfl, lsNil _ _⟩, ⟨_, _, (hc _).trans rfl, lsNil _ _⟩, ⟨_, _, (hc _).trans rfl, lsNil _ _⟩⟩

theorem kfits0 : KFits ks0 := fun i hi => by
  have : i < 2 := hi
  rcases (show i = 0 ∨ i = 1 by omega) with rfl | rfl <;> exact ⟨by decide, by decide⟩
/-- lists of a few short names -/
theorem few_fits {l : List (List UInt8)} (h : l.all (fun x => decide (x.length ≤ 16)) = true) : Fits l := fun i hi => by
  rw [List.all_eq_true] at h
  have hm : l.getD i [] ∈ l := by rw [List.getD_eq_getElem?_getD, List.getElem?_eq_getElem hi]; exact List.getElem_mem hi
  have h2 := of_decide_eq_true (h _ hm)
  omega
theorem cfits0 : CFits cs0 := by
  have h : ∀ j, j < 4 → Small (cs0.getD j default) ∧ ClFits (cs0.getD j default) := by
    refine four ?_ ?_ ?_ ?_
    all_goals exact ⟨⟨by decide, by decide, by decide⟩, by decide, by decide, few_fits (by decide), few_fits (by decide), few_fits (by decide)⟩
  exact fun i hi => h i hi

set_option maxRecDepth 20000 in
set_option maxHeartbeats 2000000 in
theorem server_any (w : World) (hT : UT w) :
    Calls Tryz.prog 57 #[] w fun e w' => Below w.heap.size w w' ∧ ∃ s R O vk vs Qs, e = .returned (.pointer (some ⟨s, 0, none⟩)) ∧ w.heap.size ≤ s ∧ s + 1 = w'.heap.size ∧ Sb w' s R O vk vs ks0 cs0 Qs ∧ Row w' s 132 4 (seF 0 R O (.slice none 0 0)) := by
  have hb := allocL_below (lay0 w.heap.size) w
  have hz := allocL_size (lay0 w.heap.size) w
  have hN := NewS_any _ _ ks0 cs0 (allocL w (lay0 w.heap.size)) (allocL w (lay0 w.heap.size)).heap.size (Nat.le_refl _) (by decide) kfits0 (lay0_keys w) cfits0 (lay0_clients w) (hT.belowS hb)
  have hN' : Calls Tryz.prog 41 #[.slice (some ⟨w.heap.size + 10, 0, none⟩) 2 2, .slice (some ⟨w.heap.size + 9, 0, none⟩) 4 4] (allocL w (lay0 w.heap.size)) fun e w' => Below w.heap.size w w' ∧ ∃ s R O vk vs Qs, e = .returned (.tuple #[.pointer (some ⟨s, 0, none⟩), .int .i64 0]) ∧ w.heap.size ≤ s ∧ s + 1 = w'.heap.size ∧ Sb w' s R O vk vs ks0 cs0 Qs ∧ Row w' s 132 4 (seF 0 R O (.slice none 0 0)) := hN.mono (fun e w' ⟨h1, h2⟩ => by
    refine ⟨hb.trans (h1.mono (by omega)), ?_⟩
    rcases h2 with ⟨h3, _⟩ | ⟨_, s, R, O, vk, vs, Qs, h4, h5, h6⟩
    · rw [new0] at h3; cases h3
    · exact ⟨s, R, O, vk, vs, Qs, h4, by omega, h6⟩)
  have HN := hide hN'
  clear hT hb hz hN hN'
  go_enter Tryz.func57, Tryz.ntmps57
  go_wp2_with fail
  refine (unhide HN).mono ?_
  rintro e w1 ⟨hb1, s, R, O, vk, vs, Qs, rfl, h5, h6⟩
  have HF := hide (And.intro hb1 (And.intro h5 h6))
  clear HN hb1 h5 h6
  go_wp2_with fail
  go_ret
  exact ⟨(unhide HF).1, s, R, O, vk, vs, Qs, rfl, (unhide HF).2⟩
end Go.Proofs.YtkmkkmdpjliifaaGreatDoor
