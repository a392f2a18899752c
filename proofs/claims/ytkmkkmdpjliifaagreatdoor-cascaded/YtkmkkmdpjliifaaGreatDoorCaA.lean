import Derived.Test.YtkmkkmdpjliifaaGreatDoorTiA
namespace Go.Proofs.YtkmkkmdpjliifaaGreatDoor
open Go.ChangeShapes Go.WideShapes Go.ChangeAt Go.RowKit

theorem revG_of {α : Type} {G : List Gt} {n : Nat} (hn : n < G.length) (f : Gt → α) (hf : ∀ g, f { g with rev := true } = f g) (k : Nat) : f ((revG G n).getD k default) = f (G.getD k default) := by
  by_cases e : k = n
  · subst e; rw [revG_at hn, hf]
  · rw [revG_ne e]
theorem revG_tok {G : List Gt} {n : Nat} (hn : n < G.length) (i : Nat) : tokG (revG G n) i = tokG G i := by
  unfold tokG
  rw [revG_of hn (fun g => g.c) (fun _ => rfl) i]
/-- a token was taken back -/
theorem Tr.rev {w w' : World} {gp s R O now n : Nat} {vk vs vg : Value} {Qs : List Nat} {G : List Gt} {vt vc vp : Value} {wr : Bool} {T : List (List UInt8)} {C : List (Cm × Pl)} {Pa : List Int} (h : Tr w gp s R O now vk vs vg Qs G vt vc vp wr T C Pa) (hn : n < G.length) (hS : Sv w' s R O now vk vs vg ks0 cs0 Qs (revG G n)) (hb : Below s w w') (hk : ∀ k, k < w.heap.size → k ≠ (G.getD n default).b → w'.heap[k]? = w.heap[k]?) :
    Tr w' gp s R O now vk vs vg Qs (revG G n) vt vc vp wr T C Pa := by
  have hF : SFar s vg vg G (revG G n) w w' := fun k hk' hf => ⟨hk k hk' (fun e => hf.g n hn e.symm), hf.s, hf.q, fun i hi e => hf.g i (by rw [revG_len] at hi; exact hi) (by rw [revG_b hn] at e; exact e)⟩
  refine h.turn hS hb.size hF (fun i hi => ?_)
  rw [revG_len] at hi
  rw [revG_of hn (fun g => g.c) (fun _ => rfl) i, revG_of hn (fun g => g.pl) (fun _ => rfl) i]
  exact (h.gl i hi).keep (fun k hk2 => ⟨(hF k hk2.1 hk2.2.fs).1, Nat.lt_of_lt_of_le hk2.1 hb.size, (hF k hk2.1 hk2.2.fs).2, hk2.2.g, hk2.2.t, hk2.2.c, hk2.2.p⟩)
/-- the token n, or what came of it -/
def goneG (G : List Gt) (n : Nat) (o : Option Nat) : Bool := !aliveG (revG G n) 0 o
theorem goneG_none (G : List Gt) (n : Nat) : goneG G n none = false := by unfold goneG; rw [alive_none]; rfl
theorem GOk.gone {G : List Gt} (h : GOk G) {n : Nat} (hn : n < G.length) {i : Nat} (hi : i < G.length) : goneG G n (some i) = (decide (i = n) || goneG G n (G.getD i default).p) := by
  have hp : ∀ i, i < (revG G n).length → ∀ k, ((revG G n).getD i default).p = some k → k < i := fun i hi k hk => by
    rw [revG_len] at hi
    rw [revG_of hn (fun g => g.p) (fun _ => rfl) i] at hk
    exact h.pr i hi k hk
  unfold goneG
  rw [aliveG_step hp (by rw [revG_len]; exact hi), revG_of hn (fun g => g.p) (fun _ => rfl) i, revG_of hn (fun g => g.c) (fun _ => rfl) i, decide_eq_true (h.exp i hi)]
  by_cases e : i = n
  · subst e
    rw [revG_at hn, decide_eq_true rfl]
    rfl
  · rw [revG_ne e, h.rev i hi, decide_eq_false e]
    simp
/-- where one came of, as a number; how far it is to the end of the line -/
def oI : Option Nat → Int
  | none => -1
  | some k => (k : Nat)
def oQ : Option Nat → Nat
  | none => 0
  | some k => k + 1
theorem parI_o (g : Gt) : parI g = oI g.p := by
  unfold parI oI
  cases g.p <;> rfl
section
variable {w w' : World} {s R O now n : Nat} {vk vs vg : Value} {Qs : List Nat} {G : List Gt}
theorem revoke_tr (hok : GOk G) (hS : Sv w s R O 0 vk vs vg ks0 cs0 Qs G) (hT : Tb s w) (hm : MX w) (h4 : 4 < s) (hn : n < G.length) :
    Calls Tryz.prog 30 #[.pointer (some ⟨s, 0, none⟩), .agg #[.string ⟨#[99, 48]⟩, .string ⟨#[115, 48]⟩], .string ⟨(tokG G n).toArray⟩] w fun e w' => e = .returned (.int .i64 0) ∧ Sv w' s R O 0 vk vs vg ks0 cs0 Qs (revG G n) ∧ Below s w w' ∧ ∀ k, k < w.heap.size → k ≠ (G.getD n default).b → w'.heap[k]? = w.heap[k]? := by
  have h := Revoke_any [99, 48] [115, 48] (tokG G n) w s R O 0 vk vs vg ks0 cs0 Qs G hS hT hm h4 (tokG_len hS hn)
  have e : revS ks0 cs0 G 0 [99, 48] [115, 48] (tokG G n) = (some n, 0) := by
    unfold revS
    rw [kn_login0]
    dsimp only
    rw [hok.take hS hn]
    dsimp only
    rw [if_pos (hok.line (n + 1) n (Nat.lt_succ_self _) hn)]
  rw [e] at h
  refine h.mono ?_
  rintro e w' ⟨h1, ⟨h2, _⟩ | ⟨i, h2, h3⟩⟩
  · cases h2
  · obtain rfl : n = i := Option.some.inj h2
    exact ⟨h1, h3.2⟩
theorem rev_gone {i : Nat} {tx : List UInt8} (hS : Sv w s R O now vk vs vg ks0 cs0 Qs G) (hT : Tb s w) (hm : MX w) (h4 : 4 < s) (hi : i < G.length) (hg : aliveG G now (some i) = false) (htx : tx = tokG G i) :
    Calls Tryz.prog 30 #[.pointer (some ⟨s, 0, none⟩), .agg #[.string ⟨#[99, 48]⟩, .string ⟨#[115, 48]⟩], .string ⟨tx.toArray⟩] w fun e w' => e = .returned (.int .i64 6) ∧ Below w.heap.size w w' := by
  subst htx
  have h := Revoke_any [99, 48] [115, 48] (tokG G i) w s R O now vk vs vg ks0 cs0 Qs G hS hT hm h4 (tokG_len hS hi)
  have e : revS ks0 cs0 G now [99, 48] [115, 48] (tokG G i) = (none, 6) := by
    unfold revS
    rw [kn_login0]
    dsimp only
    rw [take_now hS now hi, hg, if_neg (by decide)]
  rw [e] at h
  refine h.mono ?_
  rintro e w' ⟨h1, ⟨_, h2⟩ | ⟨i, h2, h3⟩⟩
  · exact ⟨h1, h2⟩
  · cases h2
theorem nilLs (w : World) (B : Nat) : Ls w B (.slice none 0 0) [] := ⟨none, 0, rfl, Nat.le_refl _, fun h => absurd h (Nat.not_lt_zero _)⟩
theorem ex_gone {i : Nat} {tx : List UInt8} (hS : Sv w s R O now vk vs vg ks0 cs0 Qs G) (hT : Tb s w) (hm : MX w) (h4 : 4 < s) (hnow : now ≤ 999999999999) (hi : i < G.length) (hg : aliveG G now (some i) = false) (htx : tx = tokG G i) :
    Calls Tryz.prog 33 #[.pointer (some ⟨s, 0, none⟩), .agg #[.string ⟨#[99, 48]⟩, .string ⟨#[115, 48]⟩], .string ⟨tx.toArray⟩, .string ⟨#[]⟩, .slice none 0 0, .slice none 0 0, .int .i64 5] w fun e w' => e = .returned (.tuple #[.string ⟨#[]⟩, .int .i64 6]) ∧ Below w.heap.size w w' := by
  subst htx
  have h := Exchange_any [99, 48] [115, 48] (tokG G i) [] (.slice none 0 0) (.slice none 0 0) [] [] 5 w s R O now vk vs vg ks0 cs0 Qs G hS hT hm h4 hnow (tokG_len hS hi) (by decide) (by decide) (by decide) (fun i hi => absurd hi (Nat.not_lt_zero _)) (fun i hi => absurd hi (Nat.not_lt_zero _)) (nilLs _ _) (nilLs _ _)
  have e : exchE ks0 cs0 G now [99, 48] [115, 48] (tokG G i) [] [] [] 5 = 6 := by
    unfold exchE
    rw [kn_login0]
    dsimp only
    rw [take_now hS now hi, hg, if_neg (by decide)]
  rw [e] at h
  refine h.mono ?_
  rintro e w' (⟨_, h1, h2⟩ | ⟨h1, _⟩)
  · exact ⟨h1, h2⟩
  · cases h1
end
end Go.Proofs.YtkmkkmdpjliifaaGreatDoor
