import Derived.Test.YtkmkkmdpjliifaaGreatDoorMiCF
import Derived.Test.YtkmkkmdpjliifaaGreatDoorTrB
import Derived.Test.YtkmkkmdpjliifaaGreatDoorExG
import Derived.Test.YtkmkkmdpjliifaaGreatDoorTrA
import Derived.Test.YtkmkkmdpjliifaaGreatDoorSvY
namespace Go.Proofs.YtkmkkmdpjliifaaGreatDoor

/-- another third part -/
theorem open_third {ks : List Ky} (h : keysB ks = true) {i : Nat} (hi : i < ks.length) (T x : List UInt8) (hx : x ≠ packL (macL K0 H0 (ks.getD i default).secret (signS (ks.getD i default) T))) : openE ks (signS (ks.getD i default) T ++ [46] ++ x) ≠ 0 := by
  obtain ⟨hp, hk⟩ := kyOk_parts h hi
  generalize hky : ks.getD i default = k at *
  by_cases hd : 46 ∈ x
  · have hl : (partsL (signS k T ++ [46] ++ x)).length ≠ 3 := by
      unfold signS
      exact partsL_more (pack_nodot _) (pack_nodot _) hd
    unfold openE
    rw [unpB_no hl, if_pos rfl]
    decide
  · have ht : partsL (signS k T ++ [46] ++ x) = [packL (headL ++ k.name ++ [34, 125]), packL T, x] := by
      unfold signS
      exact partsL_three (pack_nodot _) (pack_nodot _) hd
    have hl : (signS k T ++ [46] ++ x).take (lastDot (signS k T ++ [46] ++ x)) = signS k T := by
      rw [lastDot_at hd, List.append_assoc, List.take_append_of_le_length (Nat.le_refl _), List.take_length]
    unfold openE
    by_cases hu : unpB (signS k T ++ [46] ++ x) = false
    · rw [hu, if_pos rfl]; decide
    · rw [if_neg hu, ht, hl]
      show (if knameB (uO (packL (headL ++ k.name ++ [34, 125]))) = false then 2 else match keyAt ks (kname (uO (packL (headL ++ k.name ++ [34, 125])))) with | none => 3 | some i => if (uO x == macL K0 H0 (ks.getD i default).secret (signS k T)) = true then 0 else 4 : Int) ≠ 0
      rw [uO_pack, knameB_head hp, if_neg (by decide), kname_head, hk]
      show (if (uO x == macL K0 H0 (ks.getD i default).secret (signS k T)) = true then 0 else 4 : Int) ≠ 0
      rw [hky, if_neg ?_]
      · decide
      · intro e
        have e' : uO x = macL K0 H0 k.secret (signS k T) := by simpa using e
        have hue : uE x = 0 := by
          have h3 : unpB (signS k T ++ [46] ++ x) = true := by simpa using hu
          apply Classical.byContradiction
          intro hn
          have := unpB_bad (t := signS k T ++ [46] ++ x) (j := 2) (by decide) (by rw [ht]; exact hn)
          rw [this] at h3; cases h3
        exact hx (by rw [← e']; exact (pack_uO hue).symm)
theorem take_no {ks : List Ky} {G : List Gt} {now : Nat} {t : List UInt8} (h : openE ks t ≠ 0) : takeS ks G now t = (none, openE ks t) := by
  unfold takeS
  rw [if_neg h]
/-- a key that there is not -/
def ky2 : Ky := ⟨[107, 50], [107, 101, 121]⟩
theorem open_nokey {ks : List Ky} {k : Ky} (hp : plainB k.name = true) (hk : keyAt ks k.name = none) (T : List UInt8) : openE ks (tokS k T) = 3 := by
  have ht := tok_parts k T
  have hu : unpB (tokS k T) = true := unpB_parts ht
  generalize tokS k T = t at *
  generalize packL (macL K0 H0 k.secret (signS k T)) = m3 at *
  unfold openE
  generalize t.take (lastDot t) = sg at *
  rw [ht]
  show (if unpB t = false then 2 else if knameB (uO (packL (headL ++ k.name ++ [34, 125]))) = false then 2 else match keyAt ks (kname (uO (packL (headL ++ k.name ++ [34, 125])))) with | none => 3 | some i => if (uO m3 == macL K0 H0 (ks.getD i default).secret sg) = true then 0 else 4 : Int) = 3
  rw [hu, if_neg (by decide), uO_pack, knameB_head hp, if_neg (by decide), kname_head, hk]
theorem open_k2 (T : List UInt8) : openE ks0 (tokS ky2 T) = 3 := open_nokey (by decide +kernel) (by decide +kernel) T
theorem findG_none {G : List Gt} {c : Cm} (h : ∀ i, i < G.length → (G.getD i default).c ≠ c) : findG G c = none := by
  unfold findG
  rw [if_neg]
  intro e
  simp only [Bool.and_eq_true, decide_eq_true_eq] at e
  exact h (c.id - 1) (by omega) (Cm.z_inj ((sameZ_iff _ _).1 e.2))
theorem ks0_len : ks0.length = 2 := by decide
/-- signed with a key that there is: claims that were not given -/
theorem take_other {k : Nat} (hk : k < 2) {T : List UInt8} {c : Cm} (hr : readS T = some c) {G : List Gt} (hf : findG G c = none) {now : Nat} : takeS ks0 G now (tokS (ks0.getD k default) T) = (none, 6) := by
  obtain ⟨h1, h2⟩ := open_tok kn_keys (i := k) (by rw [ks0_len]; exact hk) T
  unfold takeS
  rw [h1, if_pos rfl, h2, hr]
  simp only [hf]
/-- claims that were printed, with blanks around -/
theorem obj_pad (c : Cm) (h1 : c.id ≤ 999999999999) (h2 : vN c.sub = true) (h3 : ∀ y ∈ c.scp, vN y = true) (h4 : ∀ y ∈ c.aud, vN y = true) (h5 : ∀ y ∈ c.act, vN y = true) (h6 : c.exp ≤ 999999999999) : objS (32 :: (plainS c ++ [10])) = some c := by
  have e : plainS c ++ [10] = 123 :: (quotS jtiL ++ 58 :: (Lib.decDigits c.id ++ 44 :: (quotS subL ++ 58 :: (quotS c.sub ++ 44 :: (quotS scpL ++ 58 :: (listP c.scp ++ 44 :: (quotS audL ++ 58 :: (listP c.aud ++ 44 :: (quotS actL ++ 58 :: (listP c.act ++ 44 :: (quotS expL ++ 58 :: (Lib.decDigits c.exp ++ [125, 10])))))))))))) := by
    have q1 : quotS jtiL = [34, 106, 116, 105, 34] := by decide
    have q2 : quotS subL = [34, 115, 117, 98, 34] := by decide
    have q3 : quotS scpL = [34, 115, 99, 112, 34] := by decide
    have q4 : quotS audL = [34, 97, 117, 100, 34] := by decide
    have q5 : quotS actL = [34, 97, 99, 116, 34] := by decide
    have q6 : quotS expL = [34, 101, 120, 112, 34] := by decide
    rw [q1, q2, q3, q4, q5, q6]
    simp [plainS]
  rw [e]
  have hs : ∀ l, objS (32 :: l) = objS l := fun l => rfl
  rw [hs]
  unfold objS
  rw [sees_hit 123 _ (by decide)]
  rw [Option.bind_some]
  rw [fld_step jtiL 0 5 _ cm0 (cm0.setN 0 c.id) _ _ (by decide) (by decide) rfl (by
    unfold valS
    rw [if_pos (Or.inl rfl), num_dec c.id _ h1 (dk_44 _)]
    rfl)]
  rw [more_step subL 1 4 _ _ ((cm0.setN 0 c.id).setT c.sub) _ _ (by decide) (by decide) (by simp [upd]) (by
    unfold valS
    rw [if_neg (by decide), if_pos rfl, text_quot c.sub _ h2]
    rfl)]
  rw [more_step scpL 2 3 _ _ (((cm0.setN 0 c.id).setT c.sub).setL 2 c.scp) _ _ (by decide) (by decide) (by simp [upd]) (by
    unfold valS
    rw [if_neg (by decide), if_neg (by decide), list_print c.scp _ h3]
    rfl)]
  rw [more_step audL 3 2 _ _ ((((cm0.setN 0 c.id).setT c.sub).setL 2 c.scp).setL 3 c.aud) _ _ (by decide) (by decide) (by simp [upd]) (by
    unfold valS
    rw [if_neg (by decide), if_neg (by decide), list_print c.aud _ h4]
    rfl)]
  rw [more_step actL 4 1 _ _ (((((cm0.setN 0 c.id).setT c.sub).setL 2 c.scp).setL 3 c.aud).setL 4 c.act) _ _ (by decide) (by decide) (by simp [upd]) (by
    unfold valS
    rw [if_neg (by decide), if_neg (by decide), list_print c.act _ h5]
    rfl)]
  rw [more_step expL 5 0 _ _ ((((((cm0.setN 0 c.id).setT c.sub).setL 2 c.scp).setL 3 c.aud).setL 4 c.act).setN 5 c.exp) _ [125, 10] (by decide) (by decide) (by simp [upd]) (by
    unfold valS
    rw [if_pos (Or.inr rfl), num_dec c.exp _ h6 (dk_125 _)]
    rfl)]
  rw [moreS, endS, sees_hit 125 _ (by decide)]
  rfl
theorem read_pad {c : Cm} (h : rightB c.z = true) : readS (32 :: (plainS c ++ [10])) = some c := by
  obtain ⟨h1, h2, h3, h4, h5, h6⟩ := right_parts h
  unfold readS
  rw [obj_pad c h1 h2 h3 h4 h5 h6, Option.bind_some, if_pos h]
theorem take_pad {k : Nat} (hk : k < 2) {G : List Gt} {now i : Nat} (hi : i < G.length) (hid : (G.getD i default).c.id = i + 1) (hr : rightB (G.getD i default).c.z = true) :
    takeS ks0 G now (tokS (ks0.getD k default) (32 :: (plainS (G.getD i default).c ++ [10]))) = if aliveG G now (some i) = true then (some i, 0) else (none, 6) := by
  obtain ⟨h1, h2⟩ := open_tok kn_keys (i := k) (by rw [ks0_len]; exact hk) (32 :: (plainS (G.getD i default).c ++ [10]))
  have hf : findG G (G.getD i default).c = some i := by
    unfold findG
    rw [hid, show i + 1 - 1 = i by omega, if_pos]
    simp [(sameZ_iff _ _).2 rfl]
    omega
  unfold takeS
  rw [h1, if_pos rfl, h2, read_pad hr]
  simp only [hf]
/-- a list with one name more, or one less -/
def otherL (l : List (List UInt8)) : List (List UInt8) := if l.length = 6 then l.tail else l ++ [zoe]
theorem otherL_list {l : List (List UInt8)} (h : listB l = true) (hz : zoe ∉ l) : listB (otherL l) = true := by
  rw [listB_iff] at h ⊢
  obtain ⟨h1, h2, h3⟩ := h
  unfold otherL
  split
  · exact ⟨by rw [List.length_tail]; omega, fun x hx => h2 x (List.mem_of_mem_tail hx), h3.sublist (List.tail_sublist l)⟩
  · refine ⟨by simp; omega, fun x hx => ?_, ?_⟩
    · rcases List.mem_append.1 hx with hx | hx
      · exact h2 x hx
      · rw [List.mem_singleton.1 hx]; decide +kernel
    · rw [List.nodup_append]
      refine ⟨h3, by simp, fun a ha b hb e => ?_⟩
      rw [List.mem_singleton.1 hb] at e
      exact hz (e ▸ ha)
theorem otherL_ne (l : List (List UInt8)) : otherL l ≠ l := by
  unfold otherL
  intro e
  have := congrArg List.length e
  split at this
  · rw [List.length_tail] at this; omega
  · simp at this
/-- claims of which one is another one -/
def bentC (c : Cm) (j : Nat) : Cm :=
  if j = 0 then { c with scp := otherL c.scp } else if j = 1 then { c with aud := otherL c.aud } else if j = 2 then { c with act := otherL c.act } else if j = 3 then { c with exp := c.exp + 1 } else { c with sub := zoe }
theorem bentC_id (c : Cm) (j : Nat) : (bentC c j).id = c.id := by
  unfold bentC
  split
  · rfl
  · split
    · rfl
    · split
      · rfl
      · split <;> rfl
theorem bentC_ne {c : Cm} (h : NZ c) (j : Nat) : bentC c j ≠ c := by
  unfold bentC
  intro e
  split at e
  · exact otherL_ne _ (congrArg Cm.scp e)
  · split at e
    · exact otherL_ne _ (congrArg Cm.aud e)
    · split at e
      · exact otherL_ne _ (congrArg Cm.act e)
      · split at e
        · have := congrArg Cm.exp e
          simp at this
        · exact h.sub (congrArg Cm.sub e).symm
theorem right_iff (c : Cm) : rightB c.z = true ↔ nameN c.sub = true ∧ listB c.scp = true ∧ listB c.aud = true ∧ listB c.act = true ∧ c.id ≤ 999999999999 ∧ c.exp ≤ 999999999999 := by
  unfold rightB
  simp only [Bool.and_eq_true, decide_eq_true_eq]
  have e1 : c.z.id = (c.id : Int) := rfl
  have e2 : c.z.exp = (c.exp : Int) := rfl
  constructor
  · rintro ⟨⟨⟨⟨⟨⟨⟨h1, h2⟩, h3⟩, h4⟩, h5⟩, h6⟩, h7⟩, h8⟩
    exact ⟨h1, h2, h3, h4, by omega, by omega⟩
  · rintro ⟨h1, h2, h3, h4, h5, h6⟩
    exact ⟨⟨⟨⟨⟨⟨⟨h1, h2⟩, h3⟩, h4⟩, by omega⟩, by omega⟩, by omega⟩, by omega⟩
theorem bentC_right {c : Cm} (hr : rightB c.z = true) (h : NZ c) (j : Nat) : rightB (bentC c j).z = true := by
  have hn := h.exp
  rw [right_iff] at hr ⊢
  obtain ⟨h1, h2, h3, h4, h5, h6⟩ := hr
  rw [bentC_id]
  unfold bentC
  split
  · exact ⟨h1, otherL_list h2 h.scp, h3, h4, h5, h6⟩
  · split
    · exact ⟨h1, h2, otherL_list h3 h.aud, h4, h5, h6⟩
    · split
      · exact ⟨h1, h2, h3, otherL_list h4 h.act, h5, h6⟩
      · split
        · exact ⟨h1, h2, h3, h4, h5, by show c.exp + 1 ≤ 999999999999; omega⟩
        · exact ⟨by show nameN zoe = true; decide +kernel, h2, h3, h4, h5, h6⟩
/-- bent claims were never given -/
theorem find_bent {G : List Gt} {w : World} {s R O now : Nat} {vk vs vg : Value} {ks : List Ky} {cs : List Cl} {Qs : List Nat} (hS : Sv w s R O now vk vs vg ks cs Qs G) (hok : GOk G) {n : Nat} (hn : n < G.length) (j : Nat) : findG G (bentC (G.getD n default).c j) = none := by
  refine findG_none (fun i hi e => ?_)
  have e1 := congrArg Cm.id e
  rw [bentC_id, hS.id i hi, hS.id n hn] at e1
  obtain rfl : i = n := by omega
  exact bentC_ne (hok.nz i hi) j e.symm
/-- raw claims without targets were never given -/
theorem find_raw {G : List Gt} (hok : GOk G) {c : Cm} (h : c.aud = []) : findG G c = none := by
  refine findG_none (fun i hi e => ?_)
  have := hok.aud i hi
  rw [e, h] at this
  simp at this
end Go.Proofs.YtkmkkmdpjliifaaGreatDoor
namespace Go.Proofs.YtkmkkmdpjliifaaGreatDoor
open Go.ChangeShapes Go.WideShapes Go.ChangeAt Go.RowKit

theorem ls_tail {w : World} {B : Nat} {a : Option Addr} {c : Nat} {x : List UInt8} {l : List (List UInt8)} (h : Ls w B (.slice a (x :: l).length c) (x :: l)) {A : Option Addr} (hA : 1 < c → ∀ g o, a = some ⟨g, o, none⟩ → A = some ⟨g, o + 1, none⟩) : Ls w B (.slice A l.length (c - 1)) l := by
  obtain ⟨a', c', e, hle, h⟩ := h
  injection e with e1 e2 e3
  subst e1
  subst e3
  simp only [List.length_cons] at hle
  refine ⟨A, c - 1, rfl, by omega, fun hp => ?_⟩
  obtain ⟨g, o, rfl, hg, hc⟩ := h (by simp)
  refine ⟨g, o + 1, hA (by omega) g o rfl, hg, fun j hj => ?_⟩
  have := hc (j + 1) (by simp; omega)
  rw [show o + 1 + j = o + (j + 1) by omega, this]
  rfl
set_option maxRecDepth 20000 in
set_option maxHeartbeats 1000000 in
theorem other_any (v : Value) (l : List (List UInt8)) (w : World) (B : Nat) (hl : l.length ≤ 6) (hv : Ls w B v l) :
    Calls Tryz.prog 75 #[v] w fun e w' => ∃ v', e = .returned v' ∧ OwnS w' w.heap.size v' (otherL l) ∧ Below w.heap.size w w' := by
  have HV := hide hv
  obtain ⟨a, c, rfl, hle, hx⟩ := hv
  by_cases h6 : l.length = 6
  · match l, h6 with
    | x :: l, h6 =>
    have ho : otherL (x :: l) = l := by unfold otherL; rw [if_pos h6]; rfl
    have h5 : l.length = 5 := by simpa using h6
    obtain ⟨g, o, rfl, hg, _⟩ := hx (by rw [h6]; decide)
    rw [h6] at hle
    have hT := ls_tail (unhide HV) (A := some ⟨g, o + 1, none⟩) (fun _ g' o' e => by
      injection e with e
      injection e with e1 e2
      rw [e1, e2])
    rw [h5] at hT
    obtain ⟨v', w', hrun, hO', hg'⟩ := append_onto (w := w) (v0 := .slice none 0 0) (b0 := w.heap.size) (l0 := []) (Nat.le_refl _) (OwnS.nil _ _) (by decide) (by rw [h5]; decide) hT 35
    have hb' : Below w.heap.size w w' := (Below.refl w.heap.size w).grown hg' (Nat.le_refl _) (fun k hk => by cases hk)
    have HF := hide (And.intro hO' hb')
    have hc1 : ¬ c = 1 := by omega
    have hc6 : (6 : Int) ≤ (c : Int) := by omega
    rw [ho, h6]
    clear hO' hb' hg' ho h6 hT HV hx
    go_enter Tryz.func75, Tryz.ntmps75
    go_wp2_with (at_builtin; refine appLaw rfl _ _ rfl rfl rfl hrun ?_)
    go_ret
    exact ⟨_, rfl, by simpa using (unhide HF).1, (unhide HF).2⟩
  · have ho : otherL l = l ++ [zoe] := by unfold otherL; rw [if_neg h6]
    have hI : ((l.length : Int) == 6) = false := beq_eq_false_iff_ne.2 (by omega)
    have hI2 : decide ((l.length : Int) = 6) = false := decide_eq_false (by omega)
    obtain ⟨v1, w1, hrun1, hO1, hg1⟩ := append_onto (w := w) (v0 := .slice none 0 0) (b0 := w.heap.size) (l0 := []) (Nat.le_refl _) (OwnS.nil _ _) (by decide) (by omega) (unhide HV) 35
    have hb1 : Below w.heap.size w w1 := (Below.refl w.heap.size w).grown hg1 (Nat.le_refl _) (fun k hk => by cases hk)
    rw [List.nil_append] at hO1
    have hs1 := hb1.size
    have hsx : (w1.alloc (.cells #[.string ⟨#[122, 111, 101]⟩] 9)).heap.size = w1.heap.size + 1 := by simp
    have hax : Below w1.heap.size w1 (w1.alloc (.cells #[.string ⟨#[122, 111, 101]⟩] 9)) := (Below.refl _ _).alloc (Nat.le_refl _) _
    obtain ⟨v', w', hrun, hO', hg'⟩ := append_onto (w := w1.alloc (.cells #[.string ⟨#[122, 111, 101]⟩] 9)) (v := .slice (some ⟨w1.heap.size, 0, none⟩) 1 1) (l := [zoe]) (b0 := w.heap.size) (by omega) (hO1.below hax) (by omega) (by simp) (allocL_ls (os := [.cells #[.string ⟨#[122, 111, 101]⟩] 9]) (w := w1) (i := 0) (l := [zoe]) rfl (by simp)) 35
    have hb' : Below w.heap.size w w' := (hb1.trans (hax.mono hs1)).grown hg' (by omega) (fun k hk => (hO1.lt k hk).1)
    have HF := hide (And.intro hO' hb')
    rw [ho]
    clear hO' hb' hg' hO1 hb1 hax hg1 ho h6 hx
    go_enter Tryz.func75, Tryz.ntmps75
    go_wp2_with (at_builtin; first | refine appLaw rfl _ _ rfl rfl rfl hrun1 ?_ | refine appLaw rfl _ _ rfl rfl rfl hrun ?_)
    go_ret
    exact ⟨_, rfl, (unhide HF).1, (unhide HF).2⟩
/-- claims as Go has them, bent -/
def bentZ (z : Cz) (j : Nat) : Cz :=
  if j = 0 then { z with scp := otherL z.scp } else if j = 1 then { z with aud := otherL z.aud } else if j = 2 then { z with act := otherL z.act } else if j = 3 then { z with exp := z.exp + 1 } else { z with sub := zoe }
theorem bentC_z (c : Cm) (j : Nat) : (bentC c j).z = bentZ c.z j := by
  unfold bentC bentZ
  split
  · rfl
  · split
    · rfl
    · split
      · rfl
      · split
        · simp [Cm.z]
        · rfl
theorem ownLs {w w' : World} {B : Nat} {v : Value} {l : List (List UInt8)} (h : OwnS w B v l) {g : Nat} (hg : g < B) (hb : But g w w') : Ls w' w'.heap.size v l :=
  (h.gr (Gr.ofBut hb) hg).ls
theorem lsBut {w w' : World} {B : Nat} {v : Value} {l : List (List UInt8)} (h : Ls w B v l) {g : Nat} (hg : B ≤ g) (hb : But g w w') : Ls w' B v l :=
  h.below ⟨hb.os, hb.tape, hb.output, Nat.le_of_eq hb.size.symm, fun k hk => hb.block k (by omega)⟩
set_option maxRecDepth 20000 in
set_option maxHeartbeats 2000000 in
theorem bent_any (z : Cz) (p : Pl) (id : Int) (w : World) (B : Nat) (hB : B ≤ w.heap.size) (hid : -9223372036854775808 ≤ id ∧ id ≤ 9223372036854775807) (hl2 : z.scp.length ≤ 6) (hl3 : z.aud.length ≤ 6) (hl4 : z.act.length ≤ 6) (hx : 0 ≤ z.exp ∧ z.exp ≤ 1000) (hL : CzL w B z p) :
    Calls Tryz.prog 34 #[.agg #[.int .i64 z.id, .string ⟨z.sub.toArray⟩, .slice p.a2 z.scp.length p.c2, .slice p.a3 z.aud.length p.c3, .slice p.a4 z.act.length p.c4, .int .i64 z.exp], .int .i64 id] w fun e w' => ∃ p', e = .returned (.agg (czA (bentZ z (pickN id 5)) p')) ∧ CzL w' w'.heap.size (bentZ z (pickN id 5)) p' ∧ Below w.heap.size w w' := by
  obtain ⟨hn1, hn2⟩ := pickN_lt id 5 (by decide)
  have HPk : Hid (∀ u : World, Calls Tryz.prog 26 #[.int .i64 id, .int .i64 5] u fun e w' => e = .returned (.int .i64 (pickN id 5 : Nat)) ∧ u = w') := fun u => by
    have h := pickK_any id 5 u hid (by decide)
    rw [show pickZ id 5 = ((pickN id 5 : Nat) : Int) from hn2] at h
    exact h.mono (fun e w' ⟨h1, h2⟩ => ⟨h1, h2.symm⟩)
  generalize pickN id 5 = j at *
  obtain ⟨wb, hwb⟩ : ∃ wb, wb = (w.alloc (.cells #[.int .i64 z.id, .string ⟨z.sub.toArray⟩, .slice p.a2 z.scp.length p.c2, .slice p.a3 z.aud.length p.c3, .slice p.a4 z.act.length p.c4, .int .i64 z.exp] 60)).alloc (.cells #[.int .i64 0, .string ⟨#[]⟩, .slice none 0 0, .slice none 0 0, .slice none 0 0, .int .i64 0] 60) := ⟨_, rfl⟩
  have hbb : Below w.heap.size w wb := by rw [hwb]; exact ((Below.refl _ _).alloc (Nat.le_refl _) _).alloc (by simp) _
  have hsb : wb.heap.size = w.heap.size + 2 := by rw [hwb]; simp
  have hR1 : Row wb w.heap.size 60 6 (czF z p) := by rw [hwb]; exact (Row.new w 60 _ _ 6 rfl (six rfl rfl rfl rfl rfl rfl)).alloc _
  have hR2 : Row wb (w.heap.size + 1) 60 6 (czF cz0 pl0) := by
    rw [hwb, show w.heap.size + 1 = (w.alloc (.cells #[.int .i64 z.id, .string ⟨z.sub.toArray⟩, .slice p.a2 z.scp.length p.c2, .slice p.a3 z.aud.length p.c3, .slice p.a4 z.act.length p.c4, .int .i64 z.exp] 60)).heap.size by simp]
    exact Row.new _ 60 _ _ 6 rfl (six rfl rfl rfl rfl rfl rfl)
  have hLb := hL.below (hbb.mono hB)
  have HWB := hide hwb
  have HR1 := hide hR1
  have HR2 := hide hR2
  have HLb := hide hLb
  have HBB := hide hbb
  have HX := hide hx
  have hw : wrap64 (z.exp + 1) = z.exp + 1 := w64 _ (by omega) (by omega)
  have HO2 := hide (other_any _ z.scp wb wb.heap.size hl2 (hLb.k2.up (by omega)))
  have HO3 := hide (other_any _ z.aud wb wb.heap.size hl3 (hLb.k3.up (by omega)))
  have HO4 := hide (other_any _ z.act wb wb.heap.size hl4 (hLb.k4.up (by omega)))
  clear hwb hR1 hR2 hLb hbb hx hL hid hn2
  have n12 : w.heap.size ≠ w.heap.size + 1 := by omega
  have n21 : w.heap.size + 1 ≠ w.heap.size := by omega
  rcases (show j = 0 ∨ j = 1 ∨ j = 2 ∨ j = 3 ∨ j = 4 by omega) with rfl | rfl | rfl | rfl | rfl
  · go_enter Tryz.func34, Tryz.ntmps34
    go_wp2_with fail
    rw [← unhide HWB]
    refine (unhide HPk wb).mono ?_
    rintro e w' ⟨rfl, rfl⟩
    have hR1 := unhide HR1
    have y2 : wb.cell? ⟨w.heap.size, 2, none⟩ = some (.slice p.a2 z.scp.length p.c2) := hR1.cell (by decide)
    clear hR1
    try dsimp only
    go_wp2_with fail
    refine (unhide HO2).mono ?_
    rintro e w2 ⟨v', rfl, hO, hb⟩
    obtain ⟨a', c', rfl⟩ := hO.form
    clear y2
    have hR1 := (unhide HR1).below hb (by omega)
    have hR2 := (unhide HR2).below hb (by omega)
    have HL2 := hide ((unhide HLb).below (hb.mono (by omega)))
    have HB2 := hide ((unhide HBB).trans (hb.mono (by omega)))
    have hs2 := hb.size
    have HO := hide hO
    have y0 : w2.cell? ⟨w.heap.size, 0, none⟩ = some (.int .i64 z.id) := hR1.cell (by decide)
    have z0 := hR1.frozen 0
    have s0 : w2.cell? ⟨w.heap.size + 1, 0, none⟩ = some (.int .i64 0) := hR2.cell (by decide)
    have t0 := hR2.frozen 0
    have y1 : w2.cell? ⟨w.heap.size, 1, none⟩ = some (.string ⟨z.sub.toArray⟩) := hR1.cell (by decide)
    have z1 := hR1.frozen 1
    have s1 : w2.cell? ⟨w.heap.size + 1, 1, none⟩ = some (.string ⟨#[]⟩) := hR2.cell (by decide)
    have t1 := hR2.frozen 1
    have y2 : w2.cell? ⟨w.heap.size, 2, none⟩ = some (.slice p.a2 z.scp.length p.c2) := hR1.cell (by decide)
    have z2 := hR1.frozen 2
    have s2 : w2.cell? ⟨w.heap.size + 1, 2, none⟩ = some (.slice none 0 0) := hR2.cell (by decide)
    have t2 := hR2.frozen 2
    have y3 : w2.cell? ⟨w.heap.size, 3, none⟩ = some (.slice p.a3 z.aud.length p.c3) := hR1.cell (by decide)
    have z3 := hR1.frozen 3
    have s3 : w2.cell? ⟨w.heap.size + 1, 3, none⟩ = some (.slice none 0 0) := hR2.cell (by decide)
    have t3 := hR2.frozen 3
    have y4 : w2.cell? ⟨w.heap.size, 4, none⟩ = some (.slice p.a4 z.act.length p.c4) := hR1.cell (by decide)
    have z4 := hR1.frozen 4
    have s4 : w2.cell? ⟨w.heap.size + 1, 4, none⟩ = some (.slice none 0 0) := hR2.cell (by decide)
    have t4 := hR2.frozen 4
    have y5 : w2.cell? ⟨w.heap.size, 5, none⟩ = some (.int .i64 z.exp) := hR1.cell (by decide)
    have z5 := hR1.frozen 5
    have s5 : w2.cell? ⟨w.heap.size + 1, 5, none⟩ = some (.int .i64 0) := hR2.cell (by decide)
    have t5 := hR2.frozen 5
    have HR1b := hide hR1
    have HR2b := hide hR2
    clear hR1 hR2 hO hb
    try dsimp only
    go_wp2_with fail
    have hA : But w.heap.size w2 (w2.setCell ⟨w.heap.size, 2, none⟩ (.slice a' (otherL z.scp).length c')) := (But.refl _ _).setCell 2 _
    have hrow := st6_row ((unhide HR2b).keep (hA.block (w.heap.size + 1) (by omega))) (bentZ z 0) ⟨a', c', p.a3, p.c3, p.a4, p.c4⟩
    refine ret_czo (c := bentZ z 0) (p := ⟨a', c', p.a3, p.c3, p.a4, p.c4⟩) (g := w.heap.size + 1) Tryz.results34 hrow rfl rfl ?_
    have hC := st6_but (w2.setCell ⟨w.heap.size, 2, none⟩ (.slice a' (otherL z.scp).length c')) (w.heap.size + 1) (bentZ z 0) ⟨a', c', p.a3, p.c3, p.a4, p.c4⟩
    refine ⟨⟨a', c', p.a3, p.c3, p.a4, p.c4⟩, rfl, ⟨?_, ?_, ?_⟩, ((unhide HB2).trans (hA.below (Nat.le_refl _))).trans (hC.below (by omega))⟩
    · exact ownLs ((unhide HO).gr (Gr.ofBut hA) (by omega)) (by omega) hC
    · exact (lsBut (lsBut (unhide HL2).k3 hB hA) (by omega) hC).up (Nat.le_trans (show B ≤ w2.heap.size by omega) (Nat.le_of_eq (hC.size.trans hA.size).symm))
    · exact (lsBut (lsBut (unhide HL2).k4 hB hA) (by omega) hC).up (Nat.le_trans (show B ≤ w2.heap.size by omega) (Nat.le_of_eq (hC.size.trans hA.size).symm))
  · go_enter Tryz.func34, Tryz.ntmps34
    go_wp2_with fail
    rw [← unhide HWB]
    refine (unhide HPk wb).mono ?_
    rintro e w' ⟨rfl, rfl⟩
    have hR1 := unhide HR1
    have y3 : wb.cell? ⟨w.heap.size, 3, none⟩ = some (.slice p.a3 z.aud.length p.c3) := hR1.cell (by decide)
    clear hR1
    try dsimp only
    go_wp2_with fail
    refine (unhide HO3).mono ?_
    rintro e w2 ⟨v', rfl, hO, hb⟩
    obtain ⟨a', c', rfl⟩ := hO.form
    clear y3
    have hR1 := (unhide HR1).below hb (by omega)
    have hR2 := (unhide HR2).below hb (by omega)
    have HL2 := hide ((unhide HLb).below (hb.mono (by omega)))
    have HB2 := hide ((unhide HBB).trans (hb.mono (by omega)))
    have hs2 := hb.size
    have HO := hide hO
    have y0 : w2.cell? ⟨w.heap.size, 0, none⟩ = some (.int .i64 z.id) := hR1.cell (by decide)
    have z0 := hR1.frozen 0
    have s0 : w2.cell? ⟨w.heap.size + 1, 0, none⟩ = some (.int .i64 0) := hR2.cell (by decide)
    have t0 := hR2.frozen 0
    have y1 : w2.cell? ⟨w.heap.size, 1, none⟩ = some (.string ⟨z.sub.toArray⟩) := hR1.cell (by decide)
    have z1 := hR1.frozen 1
    have s1 : w2.cell? ⟨w.heap.size + 1, 1, none⟩ = some (.string ⟨#[]⟩) := hR2.cell (by decide)
    have t1 := hR2.frozen 1
    have y2 : w2.cell? ⟨w.heap.size, 2, none⟩ = some (.slice p.a2 z.scp.length p.c2) := hR1.cell (by decide)
    have z2 := hR1.frozen 2
    have s2 : w2.cell? ⟨w.heap.size + 1, 2, none⟩ = some (.slice none 0 0) := hR2.cell (by decide)
    have t2 := hR2.frozen 2
    have y3 : w2.cell? ⟨w.heap.size, 3, none⟩ = some (.slice p.a3 z.aud.length p.c3) := hR1.cell (by decide)
    have z3 := hR1.frozen 3
    have s3 : w2.cell? ⟨w.heap.size + 1, 3, none⟩ = some (.slice none 0 0) := hR2.cell (by decide)
    have t3 := hR2.frozen 3
    have y4 : w2.cell? ⟨w.heap.size, 4, none⟩ = some (.slice p.a4 z.act.length p.c4) := hR1.cell (by decide)
    have z4 := hR1.frozen 4
    have s4 : w2.cell? ⟨w.heap.size + 1, 4, none⟩ = some (.slice none 0 0) := hR2.cell (by decide)
    have t4 := hR2.frozen 4
    have y5 : w2.cell? ⟨w.heap.size, 5, none⟩ = some (.int .i64 z.exp) := hR1.cell (by decide)
    have z5 := hR1.frozen 5
    have s5 : w2.cell? ⟨w.heap.size + 1, 5, none⟩ = some (.int .i64 0) := hR2.cell (by decide)
    have t5 := hR2.frozen 5
    have HR1b := hide hR1
    have HR2b := hide hR2
    clear hR1 hR2 hO hb
    try dsimp only
    go_wp2_with fail
    have hA : But w.heap.size w2 (w2.setCell ⟨w.heap.size, 3, none⟩ (.slice a' (otherL z.aud).length c')) := (But.refl _ _).setCell 3 _
    have hrow := st6_row ((unhide HR2b).keep (hA.block (w.heap.size + 1) (by omega))) (bentZ z 1) ⟨p.a2, p.c2, a', c', p.a4, p.c4⟩
    refine ret_czo (c := bentZ z 1) (p := ⟨p.a2, p.c2, a', c', p.a4, p.c4⟩) (g := w.heap.size + 1) Tryz.results34 hrow rfl rfl ?_
    have hC := st6_but (w2.setCell ⟨w.heap.size, 3, none⟩ (.slice a' (otherL z.aud).length c')) (w.heap.size + 1) (bentZ z 1) ⟨p.a2, p.c2, a', c', p.a4, p.c4⟩
    refine ⟨⟨p.a2, p.c2, a', c', p.a4, p.c4⟩, rfl, ⟨?_, ?_, ?_⟩, ((unhide HB2).trans (hA.below (Nat.le_refl _))).trans (hC.below (by omega))⟩
    · exact (lsBut (lsBut (unhide HL2).k2 hB hA) (by omega) hC).up (Nat.le_trans (show B ≤ w2.heap.size by omega) (Nat.le_of_eq (hC.size.trans hA.size).symm))
    · exact ownLs ((unhide HO).gr (Gr.ofBut hA) (by omega)) (by omega) hC
    · exact (lsBut (lsBut (unhide HL2).k4 hB hA) (by omega) hC).up (Nat.le_trans (show B ≤ w2.heap.size by omega) (Nat.le_of_eq (hC.size.trans hA.size).symm))
  · go_enter Tryz.func34, Tryz.ntmps34
    go_wp2_with fail
    rw [← unhide HWB]
    refine (unhide HPk wb).mono ?_
    rintro e w' ⟨rfl, rfl⟩
    have hR1 := unhide HR1
    have y4 : wb.cell? ⟨w.heap.size, 4, none⟩ = some (.slice p.a4 z.act.length p.c4) := hR1.cell (by decide)
    clear hR1
    try dsimp only
    go_wp2_with fail
    refine (unhide HO4).mono ?_
    rintro e w2 ⟨v', rfl, hO, hb⟩
    obtain ⟨a', c', rfl⟩ := hO.form
    clear y4
    have hR1 := (unhide HR1).below hb (by omega)
    have hR2 := (unhide HR2).below hb (by omega)
    have HL2 := hide ((unhide HLb).below (hb.mono (by omega)))
    have HB2 := hide ((unhide HBB).trans (hb.mono (by omega)))
    have hs2 := hb.size
    have HO := hide hO
    have y0 : w2.cell? ⟨w.heap.size, 0, none⟩ = some (.int .i64 z.id) := hR1.cell (by decide)
    have z0 := hR1.frozen 0
    have s0 : w2.cell? ⟨w.heap.size + 1, 0, none⟩ = some (.int .i64 0) := hR2.cell (by decide)
    have t0 := hR2.frozen 0
    have y1 : w2.cell? ⟨w.heap.size, 1, none⟩ = some (.string ⟨z.sub.toArray⟩) := hR1.cell (by decide)
    have z1 := hR1.frozen 1
    have s1 : w2.cell? ⟨w.heap.size + 1, 1, none⟩ = some (.string ⟨#[]⟩) := hR2.cell (by decide)
    have t1 := hR2.frozen 1
    have y2 : w2.cell? ⟨w.heap.size, 2, none⟩ = some (.slice p.a2 z.scp.length p.c2) := hR1.cell (by decide)
    have z2 := hR1.frozen 2
    have s2 : w2.cell? ⟨w.heap.size + 1, 2, none⟩ = some (.slice none 0 0) := hR2.cell (by decide)
    have t2 := hR2.frozen 2
    have y3 : w2.cell? ⟨w.heap.size, 3, none⟩ = some (.slice p.a3 z.aud.length p.c3) := hR1.cell (by decide)
    have z3 := hR1.frozen 3
    have s3 : w2.cell? ⟨w.heap.size + 1, 3, none⟩ = some (.slice none 0 0) := hR2.cell (by decide)
    have t3 := hR2.frozen 3
    have y4 : w2.cell? ⟨w.heap.size, 4, none⟩ = some (.slice p.a4 z.act.length p.c4) := hR1.cell (by decide)
    have z4 := hR1.frozen 4
    have s4 : w2.cell? ⟨w.heap.size + 1, 4, none⟩ = some (.slice none 0 0) := hR2.cell (by decide)
    have t4 := hR2.frozen 4
    have y5 : w2.cell? ⟨w.heap.size, 5, none⟩ = some (.int .i64 z.exp) := hR1.cell (by decide)
    have z5 := hR1.frozen 5
    have s5 : w2.cell? ⟨w.heap.size + 1, 5, none⟩ = some (.int .i64 0) := hR2.cell (by decide)
    have t5 := hR2.frozen 5
    have HR1b := hide hR1
    have HR2b := hide hR2
    clear hR1 hR2 hO hb
    try dsimp only
    go_wp2_with fail
    have hA : But w.heap.size w2 (w2.setCell ⟨w.heap.size, 4, none⟩ (.slice a' (otherL z.act).length c')) := (But.refl _ _).setCell 4 _
    have hrow := st6_row ((unhide HR2b).keep (hA.block (w.heap.size + 1) (by omega))) (bentZ z 2) ⟨p.a2, p.c2, p.a3, p.c3, a', c'⟩
    refine ret_czo (c := bentZ z 2) (p := ⟨p.a2, p.c2, p.a3, p.c3, a', c'⟩) (g := w.heap.size + 1) Tryz.results34 hrow rfl rfl ?_
    have hC := st6_but (w2.setCell ⟨w.heap.size, 4, none⟩ (.slice a' (otherL z.act).length c')) (w.heap.size + 1) (bentZ z 2) ⟨p.a2, p.c2, p.a3, p.c3, a', c'⟩
    refine ⟨⟨p.a2, p.c2, p.a3, p.c3, a', c'⟩, rfl, ⟨?_, ?_, ?_⟩, ((unhide HB2).trans (hA.below (Nat.le_refl _))).trans (hC.below (by omega))⟩
    · exact (lsBut (lsBut (unhide HL2).k2 hB hA) (by omega) hC).up (Nat.le_trans (show B ≤ w2.heap.size by omega) (Nat.le_of_eq (hC.size.trans hA.size).symm))
    · exact (lsBut (lsBut (unhide HL2).k3 hB hA) (by omega) hC).up (Nat.le_trans (show B ≤ w2.heap.size by omega) (Nat.le_of_eq (hC.size.trans hA.size).symm))
    · exact ownLs ((unhide HO).gr (Gr.ofBut hA) (by omega)) (by omega) hC
  · go_enter Tryz.func34, Tryz.ntmps34
    go_wp2_with fail
    rw [← unhide HWB]
    refine (unhide HPk wb).mono ?_
    rintro e w' ⟨rfl, rfl⟩
    have hR1 := unhide HR1
    have hR2 := unhide HR2
    have y0 : wb.cell? ⟨w.heap.size, 0, none⟩ = some (.int .i64 z.id) := hR1.cell (by decide)
    have z0 := hR1.frozen 0
    have s0 : wb.cell? ⟨w.heap.size + 1, 0, none⟩ = some (.int .i64 0) := hR2.cell (by decide)
    have t0 := hR2.frozen 0
    have y1 : wb.cell? ⟨w.heap.size, 1, none⟩ = some (.string ⟨z.sub.toArray⟩) := hR1.cell (by decide)
    have z1 := hR1.frozen 1
    have s1 : wb.cell? ⟨w.heap.size + 1, 1, none⟩ = some (.string ⟨#[]⟩) := hR2.cell (by decide)
    have t1 := hR2.frozen 1
    have y2 : wb.cell? ⟨w.heap.size, 2, none⟩ = some (.slice p.a2 z.scp.length p.c2) := hR1.cell (by decide)
    have z2 := hR1.frozen 2
    have s2 : wb.cell? ⟨w.heap.size + 1, 2, none⟩ = some (.slice none 0 0) := hR2.cell (by decide)
    have t2 := hR2.frozen 2
    have y3 : wb.cell? ⟨w.heap.size, 3, none⟩ = some (.slice p.a3 z.aud.length p.c3) := hR1.cell (by decide)
    have z3 := hR1.frozen 3
    have s3 : wb.cell? ⟨w.heap.size + 1, 3, none⟩ = some (.slice none 0 0) := hR2.cell (by decide)
    have t3 := hR2.frozen 3
    have y4 : wb.cell? ⟨w.heap.size, 4, none⟩ = some (.slice p.a4 z.act.length p.c4) := hR1.cell (by decide)
    have z4 := hR1.frozen 4
    have s4 : wb.cell? ⟨w.heap.size + 1, 4, none⟩ = some (.slice none 0 0) := hR2.cell (by decide)
    have t4 := hR2.frozen 4
    have y5 : wb.cell? ⟨w.heap.size, 5, none⟩ = some (.int .i64 z.exp) := hR1.cell (by decide)
    have z5 := hR1.frozen 5
    have s5 : wb.cell? ⟨w.heap.size + 1, 5, none⟩ = some (.int .i64 0) := hR2.cell (by decide)
    have t5 := hR2.frozen 5
    have HR2b := hide hR2
    clear hR1 hR2
    try dsimp only
    go_wp2_with fail
    have hA : But w.heap.size wb (wb.setCell ⟨w.heap.size, 5, none⟩ (.int .i64 (z.exp + 1))) := (But.refl _ _).setCell 5 _
    have hrow := st6_row ((unhide HR2b).keep (hA.block (w.heap.size + 1) (by omega))) (bentZ z 3) p
    refine ret_czo (c := bentZ z 3) (p := p) (g := w.heap.size + 1) Tryz.results34 hrow rfl rfl ?_
    have hC := st6_but (wb.setCell ⟨w.heap.size, 5, none⟩ (.int .i64 (z.exp + 1))) (w.heap.size + 1) (bentZ z 3) p
    refine ⟨p, rfl, ⟨?_, ?_, ?_⟩, ((unhide HBB).trans (hA.below (Nat.le_refl _))).trans (hC.below (by omega))⟩
    · exact (lsBut (lsBut (unhide HLb).k2 hB hA) (by omega) hC).up (Nat.le_trans (show B ≤ wb.heap.size by omega) (Nat.le_of_eq (hC.size.trans hA.size).symm))
    · exact (lsBut (lsBut (unhide HLb).k3 hB hA) (by omega) hC).up (Nat.le_trans (show B ≤ wb.heap.size by omega) (Nat.le_of_eq (hC.size.trans hA.size).symm))
    · exact (lsBut (lsBut (unhide HLb).k4 hB hA) (by omega) hC).up (Nat.le_trans (show B ≤ wb.heap.size by omega) (Nat.le_of_eq (hC.size.trans hA.size).symm))
  · go_enter Tryz.func34, Tryz.ntmps34
    go_wp2_with fail
    rw [← unhide HWB]
    refine (unhide HPk wb).mono ?_
    rintro e w' ⟨rfl, rfl⟩
    have hR1 := unhide HR1
    have hR2 := unhide HR2
    have y0 : wb.cell? ⟨w.heap.size, 0, none⟩ = some (.int .i64 z.id) := hR1.cell (by decide)
    have z0 := hR1.frozen 0
    have s0 : wb.cell? ⟨w.heap.size + 1, 0, none⟩ = some (.int .i64 0) := hR2.cell (by decide)
    have t0 := hR2.frozen 0
    have y1 : wb.cell? ⟨w.heap.size, 1, none⟩ = some (.string ⟨z.sub.toArray⟩) := hR1.cell (by decide)
    have z1 := hR1.frozen 1
    have s1 : wb.cell? ⟨w.heap.size + 1, 1, none⟩ = some (.string ⟨#[]⟩) := hR2.cell (by decide)
    have t1 := hR2.frozen 1
    have y2 : wb.cell? ⟨w.heap.size, 2, none⟩ = some (.slice p.a2 z.scp.length p.c2) := hR1.cell (by decide)
    have z2 := hR1.frozen 2
    have s2 : wb.cell? ⟨w.heap.size + 1, 2, none⟩ = some (.slice none 0 0) := hR2.cell (by decide)
    have t2 := hR2.frozen 2
    have y3 : wb.cell? ⟨w.heap.size, 3, none⟩ = some (.slice p.a3 z.aud.length p.c3) := hR1.cell (by decide)
    have z3 := hR1.frozen 3
    have s3 : wb.cell? ⟨w.heap.size + 1, 3, none⟩ = some (.slice none 0 0) := hR2.cell (by decide)
    have t3 := hR2.frozen 3
    have y4 : wb.cell? ⟨w.heap.size, 4, none⟩ = some (.slice p.a4 z.act.length p.c4) := hR1.cell (by decide)
    have z4 := hR1.frozen 4
    have s4 : wb.cell? ⟨w.heap.size + 1, 4, none⟩ = some (.slice none 0 0) := hR2.cell (by decide)
    have t4 := hR2.frozen 4
    have y5 : wb.cell? ⟨w.heap.size, 5, none⟩ = some (.int .i64 z.exp) := hR1.cell (by decide)
    have z5 := hR1.frozen 5
    have s5 : wb.cell? ⟨w.heap.size + 1, 5, none⟩ = some (.int .i64 0) := hR2.cell (by decide)
    have t5 := hR2.frozen 5
    have HR2b := hide hR2
    clear hR1 hR2
    try dsimp only
    go_wp2_with fail
    have hA : But w.heap.size wb (wb.setCell ⟨w.heap.size, 1, none⟩ (.string ⟨#[122, 111, 101]⟩)) := (But.refl _ _).setCell 1 _
    have hrow := st6_row ((unhide HR2b).keep (hA.block (w.heap.size + 1) (by omega))) (bentZ z 4) p
    refine ret_czo (c := bentZ z 4) (p := p) (g := w.heap.size + 1) Tryz.results34 hrow rfl rfl ?_
    have hC := st6_but (wb.setCell ⟨w.heap.size, 1, none⟩ (.string ⟨#[122, 111, 101]⟩)) (w.heap.size + 1) (bentZ z 4) p
    refine ⟨p, rfl, ⟨?_, ?_, ?_⟩, ((unhide HBB).trans (hA.below (Nat.le_refl _))).trans (hC.below (by omega))⟩
    · exact (lsBut (lsBut (unhide HLb).k2 hB hA) (by omega) hC).up (Nat.le_trans (show B ≤ wb.heap.size by omega) (Nat.le_of_eq (hC.size.trans hA.size).symm))
    · exact (lsBut (lsBut (unhide HLb).k3 hB hA) (by omega) hC).up (Nat.le_trans (show B ≤ wb.heap.size by omega) (Nat.le_of_eq (hC.size.trans hA.size).symm))
    · exact (lsBut (lsBut (unhide HLb).k4 hB hA) (by omega) hC).up (Nat.le_trans (show B ≤ wb.heap.size by omega) (Nat.le_of_eq (hC.size.trans hA.size).symm))
end Go.Proofs.YtkmkkmdpjliifaaGreatDoor
namespace Go.Proofs.YtkmkkmdpjliifaaGreatDoor
open Go.ChangeShapes Go.WideShapes Go.ChangeAt Go.RowKit

/-- the keys that are signed with -/
def kyN : List Ky := [⟨[107, 48], [107, 101, 121]⟩, ⟨[107, 49], [111, 116, 104, 101, 114]⟩, ⟨[107, 50], [107, 101, 121]⟩]
theorem kyN_of {k : Nat} (hk : k < 2) : kyN.getD k default = ks0.getD k default := by
  rcases (show k = 0 ∨ k = 1 by omega) with rfl | rfl <;> rfl
theorem kyN_2 : kyN.getD 2 default = ky2 := rfl
theorem kyN_len {k : Nat} (hk : k < 3) : (kyN.getD k default).name.length ≤ 16 ∧ (kyN.getD k default).secret.length ≤ 64 := by
  rcases (show k = 0 ∨ k = 1 ∨ k = 2 by omega) with rfl | rfl | rfl <;> decide
set_option maxRecDepth 20000 in
set_option maxHeartbeats 2000000 in
theorem signed_any (k : Nat) (hk : k < 3) (T : List UInt8) (hT : T.length ≤ 65536) (w : World) (h2 : 2 < w.heap.size) (hK : KT w) :
    Calls Tryz.prog 35 #[.int .i64 (k : Nat), .string ⟨T.toArray⟩] w fun e w' => e = .returned (.string ⟨(tokS (kyN.getD k default) T).toArray⟩) ∧ Below w.heap.size w w' := by
  obtain ⟨hn16, hs64⟩ := kyN_len hk
  have hkI : (k : Int) < 3 := by omega
  obtain ⟨wA, hwA⟩ : ∃ wA, wA = (w.alloc (.cells #[.string ⟨#[107, 48]⟩, .string ⟨#[107, 49]⟩, .string ⟨#[107, 50]⟩] 9)).alloc (.cells #[.string ⟨#[107, 101, 121]⟩, .string ⟨#[111, 116, 104, 101, 114]⟩, .string ⟨#[107, 101, 121]⟩] 9) := ⟨_, rfl⟩
  have hbA : Below w.heap.size w wA := by rw [hwA]; exact ((Below.refl _ _).alloc (Nat.le_refl _) _).alloc (by simp) _
  have hsA : wA.heap.size = w.heap.size + 2 := by rw [hwA]; simp
  have f0 : wA.cell? ⟨w.heap.size, k, none⟩ = some (.string ⟨(kyN.getD k default).name.toArray⟩) := by
    rw [hwA]
    rcases (show k = 0 ∨ k = 1 ∨ k = 2 by omega) with rfl | rfl | rfl <;> simp <;> rfl
  have f1 : wA.cell? ⟨w.heap.size + 1, k, none⟩ = some (.string ⟨(kyN.getD k default).secret.toArray⟩) := by
    rw [hwA, show w.heap.size + 1 = (w.alloc (.cells #[.string ⟨#[107, 48]⟩, .string ⟨#[107, 49]⟩, .string ⟨#[107, 50]⟩] 9)).heap.size by simp]
    rcases (show k = 0 ∨ k = 1 ∨ k = 2 by omega) with rfl | rfl | rfl <;> simp <;> rfl
  have HF1 := hide f1
  have HWA := hide hwA
  generalize kyN.getD k default = ky at *
  have HB := hide (And.intro hn16 (And.intro hs64 hT))
  clear hn16 hs64 hT f1 hwA
  generalize hky : ky.name = kn at *
  generalize hkz : ky.secret = kz at *
  have HKY := hide (And.intro hky hkz)
  clear hky hkz hk
  obtain ⟨h1, hh1⟩ : ∃ h1, [123, 34, 97, 108, 103, 34, 58, 34, 72, 83, 50, 53, 54, 34, 44, 34, 107, 105, 100, 34, 58, 34] ++ kn = h1 := ⟨_, rfl⟩
  obtain ⟨hd, hhd⟩ : ∃ hd, h1 ++ [34, 125] = hd := ⟨_, rfl⟩
  have hl1 : h1.length ≤ 38 := by rw [← hh1]; have := (unhide HB).1; simp; omega
  have hld : hd.length ≤ 40 := by rw [← hhd]; simp; omega
  have c1 := cat_str [123, 34, 97, 108, 103, 34, 58, 34, 72, 83, 50, 53, 54, 34, 44, 34, 107, 105, 100, 34, 58, 34] kn h1 hh1 (by omega)
  have c2 := cat_str h1 [34, 125] hd hhd (by omega)
  have HHD : Hid (headL ++ kn ++ [34, 125] = hd) := by unfold Hid headL; rw [hh1, hhd]
  have HLD := hide hld
  clear hh1 hhd hl1 hld
  rw [unhide HWA] at f0
  go_enter Tryz.func35, Tryz.ntmps35
  go_wp2_with fail
  rw [← unhide HWA]
  refine (Pack_any hd wA (by have := unhide HLD; omega)).mono ?_
  rintro e wB ⟨rfl, hbB⟩
  have hsB := hbB.size
  have hbwB := hbA.trans (hbB.mono (by omega))
  have HF1b : Hid (wB.cell? ⟨w.heap.size + 1, k, none⟩ = some (.string ⟨kz.toArray⟩)) := (hbB.cell (p := ⟨w.heap.size + 1, k, none⟩) (show w.heap.size + 1 < wA.heap.size by omega)).trans (unhide HF1)
  obtain ⟨pd, hpd⟩ : ∃ pd, packL hd = pd := ⟨_, rfl⟩
  have hlp : pd.length ≤ 64 := by rw [← hpd, packL_length]; have := unhide HLD; omega
  obtain ⟨pe, hpe⟩ : ∃ pe, pd ++ [46] = pe := ⟨_, rfl⟩
  have hle : pe.length ≤ 65 := by rw [← hpe]; simp; omega
  have c3 := cat_str pd [46] pe hpe (by omega)
  rw [hpd]
  have HPD := hide hpd
  have HPE := hide hpe
  have HLE := hide hle
  clear f0 c1 c2 hbB hbA hpd hlp hpe hle
  try dsimp only
  go_wp2_with fail
  refine (Pack_any T wB (by have := (unhide HB).2.2; omega)).mono ?_
  rintro e wC ⟨rfl, hbC⟩
  have hsC := hbC.size
  have hbwC := hbwB.trans (hbC.mono (by omega))
  obtain ⟨pt, hpt⟩ : ∃ pt, packL T = pt := ⟨_, rfl⟩
  have hlt : pt.length ≤ 90000 := by rw [← hpt, packL_length]; have := (unhide HB).2.2; omega
  obtain ⟨sg, hsg⟩ : ∃ sg, pe ++ pt = sg := ⟨_, rfl⟩
  have hls : sg.length ≤ 91000 := by rw [← hsg, List.length_append]; have := unhide HLE; omega
  have c4 := cat_str pe pt sg hsg (by omega)
  have f1 : wC.cell? ⟨w.heap.size + 1, k, none⟩ = some (.string ⟨kz.toArray⟩) := (hbC.cell (p := ⟨w.heap.size + 1, k, none⟩) (show w.heap.size + 1 < wB.heap.size by omega)).trans (unhide HF1b)
  rw [hpt]
  have HPT := hide hpt
  have HSG := hide hsg
  have HLS := hide hls
  have hKC : KT wC := hK.below h2 hbwC
  have HKC := hide hKC
  clear hbC hbwB hpt hlt hsg hls hK hKC
  try dsimp only
  go_wp2_with fail
  refine (Mac_any kz sg wC (by have := (unhide HB).2.1; omega) (by have := unhide HLS; omega) (by omega) (unhide HKC)).mono ?_
  rintro e wD ⟨rfl, hbD⟩
  have hsD := hbD.size
  have hbwD := hbwC.trans (hbD.mono (by omega))
  generalize hF : shaF K0 H0 (tk (keyL K0 H0 kz) 92 ++ shaL K0 H0 (tk (keyL K0 H0 kz) 54 ++ sg)) = F
  have HF : Hid (macL K0 H0 kz sg = bs 32 F) := by unfold Hid macL; rw [show ∀ x, shaL K0 H0 x = bs 32 (shaF K0 H0 x) from fun _ => rfl, ← hF]
  clear hF f1 hbD hbwC
  obtain ⟨sd, hsd⟩ : ∃ sd, sg ++ [46] = sd := ⟨_, rfl⟩
  have hlsd : sd.length ≤ 91001 := by rw [← hsd]; simp; have := unhide HLS; omega
  have c5 := cat_str sg [46] sd hsd (by omega)
  have HSD := hide hsd
  have HLSD := hide hlsd
  clear hsd hlsd
  try dsimp only
  go_wp2_with (refine stRow rfl 105 _ _ rfl rfl rfl (Row.new wD 105 (Array.replicate 32 (.int .u8 0)) (fun _ => .int .u8 0) 32 (by simp) (fun j hj => by simp [hj])) sz105 (fun _ _ => rfl) ?_; intro wE hM hg3; have hcv := conv8 (w := wE) wD.heap.size 0 32 32 F (fun i hi => by rw [Nat.zero_add]; exact hM.cell hi))
  have hsE := hg3.size
  simp at hsE
  have hbwE : Below w.heap.size w wE := (hbwD.alloc (by omega) _).grown hg3 (by simp; omega) (fun k hk => by cases hk; omega)
  clear hM hg3 hcv hbwD
  refine (Pack_any (bs 32 F) wE (by rw [bs_length]; omega)).mono ?_
  rintro e wG ⟨rfl, hbG⟩
  have hbwG := hbwE.trans (hbG.mono (by omega))
  obtain ⟨pm, hpm⟩ : ∃ pm, packL (bs 32 F) = pm := ⟨_, rfl⟩
  have hlpm : pm.length ≤ 43 := by rw [← hpm, packL_length, bs_length]; omega
  obtain ⟨tk1, htk⟩ : ∃ tk1, sd ++ pm = tk1 := ⟨_, rfl⟩
  have c6 := cat_str sd pm tk1 htk (by rw [← htk, List.length_append]; have := unhide HLSD; omega)
  rw [hpm]
  have HFin : Hid (tokS ky T = tk1) := by
    unfold Hid tokS signS
    obtain ⟨e1, e2⟩ := unhide HKY
    rw [e1, e2, unhide HHD, unhide HPD, unhide HPT, unhide HPE, unhide HSG, unhide HSD, unhide HF, hpm, htk]
  clear c5 c3 c4 hbwE hbG hpm hlpm htk
  try dsimp only
  go_wp2_with fail
  go_ret
  exact ⟨by rw [unhide HFin]; rfl, hbwG⟩
end Go.Proofs.YtkmkkmdpjliifaaGreatDoor
namespace Go.Proofs.YtkmkkmdpjliifaaGreatDoor
open Go.ChangeShapes Go.WideShapes Go.ChangeAt Go.RowKit

/-- a text whose parts are not too long -/
structure LongT (t : List UInt8) : Prop where
  len : t.length ≤ 2097152
  part : ∀ j, j < (partsL t).length → ((partsL t).getD j []).length ≤ 1048576
theorem splitL_any (t : List UInt8) (w : World) (ht : t.length ≤ 2097152) (hm : MX w) :
    Calls Tryz.prog 208 #[.string ⟨t.toArray⟩, .string ⟨#[46]⟩] w fun e w' => e = .returned (.slice (some ⟨w.heap.size, 0, none⟩) (partsL t).length (partsL t).length) ∧ Ls w' w'.heap.size (.slice (some ⟨w.heap.size, 0, none⟩) (partsL t).length (partsL t).length) (partsL t) ∧ Below w.heap.size w w' := by
  obtain ⟨m, hm⟩ := hm
  refine (Tryz.splitS ⟨t.toArray⟩ ⟨#[46]⟩ m w (by simp [ByteArray.size]; omega) hm (by decide)).mono ?_
  rintro e w' ⟨rfl, rfl⟩
  refine ⟨by rw [partsL_len], ⟨_, _, rfl, Nat.le_refl _, fun _ => ⟨w.heap.size, 0, rfl, by simp, fun j hj => ?_⟩⟩, (Below.refl _ _).alloc (Nat.le_refl _) _⟩
  rw [Nat.zero_add]
  unfold partsL at hj ⊢
  rw [List.length_map] at hj
  simp [sv, List.getD, hj]
set_option maxRecDepth 20000 in
set_option maxHeartbeats 2000000 in
theorem unpackPartsL_any (t : List UInt8) (w : World) (ht : LongT t) (hm : MX w) (h4 : 4 < w.heap.size) :
    Calls Tryz.prog 179 #[.string ⟨t.toArray⟩] w fun e w' => UnpR t e ∧ Below w.heap.size w w' := by
  obtain ⟨wa, hwa⟩ : ∃ wa, wa = w.alloc (.cells #[.string ⟨#[]⟩, .string ⟨#[]⟩, .string ⟨#[]⟩] 238) := ⟨_, rfl⟩
  have hsa : wa.heap.size = w.heap.size + 1 := by rw [hwa]; simp
  obtain ⟨wb, hwb⟩ : ∃ wb, wb = wa.alloc (.cells #[.string ⟨#[]⟩, .string ⟨#[]⟩, .string ⟨#[]⟩] 238) := ⟨_, rfl⟩
  have hsb : wb.heap.size = w.heap.size + 1 + 1 := by rw [hwb, ← hsa]; simp
  have hbb : Below w.heap.size w wb := by rw [hwb, hwa]; exact ((Below.refl _ _).alloc (Nat.le_refl _) _).alloc (by simp) _
  have hRr : Row wb w.heap.size 238 3 (upF t 0) := by rw [hwb, hwa]; exact (Row.new w 238 _ _ 3 rfl (three3 rfl rfl rfl)).alloc _
  have hRq : Row wb (w.heap.size + 1) 238 3 (upF t 0) := by rw [hwb, ← hsa]; exact Row.new wa 238 _ _ 3 rfl (three3 rfl rfl rfl)
  have HSp := hide (splitL_any t wb ht.len (hm.below h4 hbb))
  have HWB : Hid (wb = (w.alloc (.cells #[.string ⟨#[]⟩, .string ⟨#[]⟩, .string ⟨#[]⟩] 238)).alloc (.cells #[.string ⟨#[]⟩, .string ⟨#[]⟩, .string ⟨#[]⟩] 238)) := by rw [← hwa]; exact hwb
  have HRr := hide hRr
  have HRq := hide hRq
  have HBB := hide hbb
  have HT := hide ht
  clear hwa hwb hbb hRr hRq hm ht
  go_enter Tryz.func179, Tryz.ntmps179
  go_wp2_with fail
  rw [← unhide HWB]
  clear HWB
  refine (unhide HSp).mono ?_
  rintro e w1 ⟨rfl, hL1, hb1⟩
  have hs1 := hb1.size
  have hR1 := (unhide HRr).below hb1 (by omega)
  have hQ1 := (unhide HRq).below hb1 (by omega)
  have hB1 := (unhide HBB).trans (hb1.mono (by omega))
  have HLe := hide (fun j (hj : j < (partsL t).length) => partsL_le t j hj)
  have HN := hide (fun h => unpB_no (t := t) h)
  have HU := hide (fun j hj h => unpB_bad (t := t) (j := j) hj h)
  have HY := hide (fun h ha => unpB_yes (t := t) h ha)
  clear HSp HRr HRq HBB
  have a0 : w1.cell? ⟨w.heap.size, 0, none⟩ = some (.string ⟨#[]⟩) := hR1.cell (by decide)
  have z0 := hR1.frozen 0
  have a1 : w1.cell? ⟨w.heap.size, 1, none⟩ = some (.string ⟨#[]⟩) := hR1.cell (by decide)
  have z1 := hR1.frozen 1
  have a2 : w1.cell? ⟨w.heap.size, 2, none⟩ = some (.string ⟨#[]⟩) := hR1.cell (by decide)
  have z2 := hR1.frozen 2
  have b0 : w1.cell? ⟨w.heap.size + 1, 0, none⟩ = some (.string ⟨#[]⟩) := hQ1.cell (by decide)
  have b1 : w1.cell? ⟨w.heap.size + 1, 1, none⟩ = some (.string ⟨#[]⟩) := hQ1.cell (by decide)
  have b2 : w1.cell? ⟨w.heap.size + 1, 2, none⟩ = some (.string ⟨#[]⟩) := hQ1.cell (by decide)
  by_cases h3 : (partsL t).length = 3
  · have h3I : ((partsL t).length : Int) = 3 := by omega
    have HR1 := hide hR1
    have HQ1 := hide hQ1
    have HB1 := hide hB1
    obtain ⟨hg1, hL1'⟩ := hL1.cells (by omega)
    rw [hsb] at hg1 hL1'
    have HL1 := hide hL1'
    clear hL1'
    clear hL1 hb1 hR1 hQ1 hB1 HN a0 a1 a2 b0 b1 b2 z0 z1 z2
    go_wp2_with fail
    go_loopg [15] 3 (fun r i wr => ∃ k : Nat, k + r = 3 ∧ i = .int .i64 (k : Nat) ∧ Row wr (w.heap.size + 1) 238 3 (upF t k) ∧ Row wr w.heap.size 238 3 (upF t 0) ∧ (∀ j, j < k → uE ((partsL t).getD j []) = 0) ∧ (∀ j, j < (partsL t).length → wr.cell? ⟨w.heap.size + 1 + 1, j, none⟩ = some (.string ⟨((partsL t).getD j []).toArray⟩)) ∧ w1.heap.size ≤ wr.heap.size ∧ Below w.heap.size w wr)
    case atStart => exact ⟨0, Nat.zero_add _, rfl, unhide HQ1, unhide HR1, fun j hj => absurd hj (Nat.not_lt_zero _), unhide HL1, Nat.le_refl _, unhide HB1⟩
    case round =>
      clear HR1 HQ1 HB1 HL1
      obtain ⟨k, hk, rfl, hQ, hR, hall, hL, hsr, hB⟩ := hrel
      by_cases hlt : k < 3
      · have hkI : (k : Int) < 3 := by omega
        have hw : wrap64 ((k : Int) + 1) = (k : Int) + 1 := w64 _ (by omega) (by omega)
        have hkl : (k : Int) < ((partsL t).length : Int) := by omega
        have hck := hL k (by omega)
        have HUn := hide (unpackP_any ((partsL t).getD k []) wr ((unhide HT).part k (by omega)))
        generalize hpk : (partsL t).getD k [] = pk at hck HUn
        have HPK := hide hpk
        have HQ := hide hQ
        have HR := hide hR
        have HALL := hide hall
        have HL := hide hL
        have HB := hide hB
        clear hpk hQ hR hall hL hB
        go_wp2_with fail
        refine (unhide HUn).mono ?_
        rintro e w2 ⟨rfl, hb2⟩
        have hs2 := hb2.size
        have hQ2 := (unhide HQ).below hb2 (by omega)
        have hR2 := (unhide HR).below hb2 (by omega)
        have HB2 := hide ((unhide HB).trans (hb2.mono (by omega)))
        have hL2 : ∀ j, j < (partsL t).length → w2.cell? ⟨w.heap.size + 1 + 1, j, none⟩ = some (.string ⟨((partsL t).getD j []).toArray⟩) := fun j hj => (hb2.cell (p := ⟨w.heap.size + 1 + 1, j, none⟩) (show w.heap.size + 1 + 1 < wr.heap.size by omega)).trans (unhide HL j hj)
        have HL2 := hide hL2
        clear hL2
        clear HUn hb2 hck
        by_cases hz : uE pk = 0
        · rw [hz]
          have qk := hQ2.cell hlt
          have zk := hQ2.frozen k
          have HQ2 := hide hQ2
          have HR2 := hide hR2
          have HZ := hide hz
          clear hQ2 hR2 hz
          obtain ⟨x0, hx0⟩ := upF_str t k k
          rw [hx0] at qk
          generalize huo : uO pk = uo
          have HUO := hide huo
          clear huo hx0
          go_wp2_with fail
          go_roundg (gk - 1)
          case measure => omega
          case rel =>
            refine ⟨k + 1, by omega, by first | exact num1 hw | rfl, ((unhide HQ2).set k _).congr (fun j hj => ?_), Row.but (unhide HR2) ((But.refl (w.heap.size + 1) w2).setCell k _) (by omega), fun j hj => ?_, fun j hj => ?_, by simp [World.setCell]; omega, (unhide HB2).setCell (Nat.le_succ _) _⟩
            · unfold upF
              by_cases e : j = k
              · subst e
                rw [if_pos rfl, if_pos (by omega), unhide HPK, unhide HUO]
              · rw [if_neg e]
                have e2 : (j < k + 1) ↔ j < k := by omega
                simp only [e2]
            · by_cases e : j = k
              · subst e; rw [unhide HPK]; exact unhide HZ
              · exact unhide HALL j (by omega)
            · rw [World.cell?_setCell_other _ _ _ _ (fun hh => by injection hh with h1 _ _; omega)]
              exact unhide HL2 j hj
        · have HBad := hide (unhide HU k hlt (by rw [unhide HPK]; exact hz))
          obtain ⟨x0, hx0⟩ := upF_str t k 0
          obtain ⟨x1, hx1⟩ := upF_str t k 1
          obtain ⟨x2, hx2⟩ := upF_str t k 2
          have q0 := hQ2.cell (j := 0) (by decide)
          have q1 := hQ2.cell (j := 1) (by decide)
          have q2 := hQ2.cell (j := 2) (by decide)
          rw [hx0] at q0
          rw [hx1] at q1
          rw [hx2] at q2
          have a0 : w2.cell? ⟨w.heap.size, 0, none⟩ = some (.string ⟨#[]⟩) := hR2.cell (by decide)
          have z0 := hR2.frozen 0
          have a1 : w2.cell? ⟨w.heap.size, 1, none⟩ = some (.string ⟨#[]⟩) := hR2.cell (by decide)
          have z1 := hR2.frozen 1
          have a2 : w2.cell? ⟨w.heap.size, 2, none⟩ = some (.string ⟨#[]⟩) := hR2.cell (by decide)
          have z2 := hR2.frozen 2
          have HR2 := hide hR2
          clear hQ2 hR2 hx0 hx1 hx2
          generalize uE pk = ue at *
          generalize uO pk = uo at *
          go_wp2_with fail
          refine ret_238 Tryz.results179 (g := w.heap.size) (f := fun j => if j = 0 then .string x0 else if j = 1 then .string x1 else .string x2) ?_ rfl rfl ?_
          · exact sw3_row (unhide HR2) (fun j => if j = 0 then .string x0 else if j = 1 then .string x1 else .string x2)
          · exact ⟨Or.inr ⟨unhide HBad, x0, x1, x2, rfl⟩, (unhide HB2).trans ((sw3_but w2 w.heap.size (fun j => if j = 0 then .string x0 else if j = 1 then .string x1 else .string x2)).below (Nat.le_refl _))⟩
      · obtain rfl : k = 3 := by omega
        have HYes := hide (unhide HY h3 hall)
        obtain ⟨y0, hy0⟩ : ∃ y, uO ((partsL t).getD 0 []) = y := ⟨_, rfl⟩
        obtain ⟨y1, hy1⟩ : ∃ y, uO ((partsL t).getD 1 []) = y := ⟨_, rfl⟩
        obtain ⟨y2, hy2⟩ : ∃ y, uO ((partsL t).getD 2 []) = y := ⟨_, rfl⟩
        have q0 : wr.cell? ⟨w.heap.size + 1, 0, none⟩ = some (.string ⟨y0.toArray⟩) := by rw [← hy0]; exact hQ.cell (j := 0) (by decide)
        have q1 : wr.cell? ⟨w.heap.size + 1, 1, none⟩ = some (.string ⟨y1.toArray⟩) := by rw [← hy1]; exact hQ.cell (j := 1) (by decide)
        have q2 : wr.cell? ⟨w.heap.size + 1, 2, none⟩ = some (.string ⟨y2.toArray⟩) := by rw [← hy2]; exact hQ.cell (j := 2) (by decide)
        have HY0 := hide (And.intro hy0 (And.intro hy1 hy2))
        clear hy0 hy1 hy2
        have a0 : wr.cell? ⟨w.heap.size, 0, none⟩ = some (.string ⟨#[]⟩) := hR.cell (by decide)
        have z0 := hR.frozen 0
        have a1 : wr.cell? ⟨w.heap.size, 1, none⟩ = some (.string ⟨#[]⟩) := hR.cell (by decide)
        have z1 := hR.frozen 1
        have a2 : wr.cell? ⟨w.heap.size, 2, none⟩ = some (.string ⟨#[]⟩) := hR.cell (by decide)
        have z2 := hR.frozen 2
        have HR := hide hR
        have HB := hide hB
        clear hQ hR hall hL hB
        go_wp2_with fail
        refine ret_238 Tryz.results179 (g := w.heap.size) (f := (fun j => if j = 0 then .string ⟨y0.toArray⟩ else if j = 1 then .string ⟨y1.toArray⟩ else .string ⟨y2.toArray⟩)) ?_ rfl rfl ?_
        · exact sw3_row (unhide HR) (fun j => if j = 0 then .string ⟨y0.toArray⟩ else if j = 1 then .string ⟨y1.toArray⟩ else .string ⟨y2.toArray⟩)
        · refine ⟨Or.inl ⟨unhide HYes, ?_⟩, (unhide HB).trans ((sw3_but wr w.heap.size (fun j => if j = 0 then .string ⟨y0.toArray⟩ else if j = 1 then .string ⟨y1.toArray⟩ else .string ⟨y2.toArray⟩)).below (Nat.le_refl _))⟩
          obtain ⟨e0, e1, e2⟩ := unhide HY0
          rw [e0, e1, e2]
          rfl
  · have h3I : ¬ ((partsL t).length : Int) = 3 := by omega
    have HNo := hide (unhide HN h3)
    have HR1 := hide hR1
    have HB1 := hide hB1
    clear hL1 hb1 hR1 hQ1 hB1 HN HU HY h3
    go_wp2_with fail
    refine ret_238 Tryz.results179 (g := w.heap.size) (f := upF t 0) ?_ rfl rfl ?_
    · exact sw3_row (unhide HR1) (upF t 0)
    · exact ⟨Or.inr ⟨unhide HNo, ⟨#[]⟩, ⟨#[]⟩, ⟨#[]⟩, rfl⟩, (unhide HB1).trans ((sw3_but w1 w.heap.size (upF t 0)).below (Nat.le_refl _))⟩
theorem lastIndexL_any (t : List UInt8) (w : World) (ht : t.length ≤ 2097152) (h3 : Lib.lastIndexByte ⟨t.toArray⟩ 46 = (lastDot t : Nat)) :
    Calls Tryz.prog 181 #[.string ⟨t.toArray⟩, .string ⟨#[46]⟩] w fun e w' => e = .returned (.int .i64 (lastDot t : Nat)) ∧ w' = w := by
  have h := Tryz.lastIndexOne ⟨t.toArray⟩ ⟨#[46]⟩ (by rfl) (by simp [ByteArray.size]; omega) w
  refine h.mono ?_
  rintro e w' ⟨rfl, rfl⟩
  refine ⟨?_, rfl⟩
  rw [← h3]
  rfl
set_option maxRecDepth 20000 in
set_option maxHeartbeats 4000000 in
theorem OpenL_any (t : List UInt8) (w : World) (s R O : Nat) (vk vs : Value) (ks : List Ky) (cs : List Cl) (Qs : List Nat) (hs : s ≤ w.heap.size) (h4 : 4 < s) (h : Sb w s R O vk vs ks cs Qs) (hK : KT w) (hm : MX w) (ht : LongT t) :
    Calls Tryz.prog 142 #[.pointer (some ⟨R, 0, none⟩), .string ⟨t.toArray⟩] w fun e w' => (openE ks t ≠ 0 ∧ e = .returned (.tuple #[.string ⟨#[]⟩, .int .i64 (openE ks t)]) ∨ openE ks t = 0 ∧ e = .returned (.tuple #[.string ⟨(openT t).toArray⟩, .int .i64 0])) ∧ Below w.heap.size w w' := by
  have HUn := hide (unpackPartsL_any t w ht hm (by omega))
  have HS := hide h
  have HK := hide hK
  have HT := hide ht
  have HH := hide (And.intro hs h4)
  clear h hK hm ht
  go_enter Tryz.func142, Tryz.ntmps142
  go_wp2_with fail
  refine (unhide HUn).mono ?_
  rintro e w1 ⟨hr1, hb1⟩
  clear HUn
  rcases hr1 with ⟨hu, rfl⟩ | ⟨hu, x, y, z, rfl⟩
  · have h3 : (partsL t).length = 3 := by
      unfold unpB at hu
      simp at hu
      exact hu.1
    obtain ⟨pa, hpa⟩ : ∃ pa, uO ((partsL t).getD 0 []) = pa := ⟨_, rfl⟩
    obtain ⟨pb, hpb⟩ : ∃ pb, uO ((partsL t).getD 1 []) = pb := ⟨_, rfl⟩
    obtain ⟨pc, hpc⟩ : ∃ pc, uO ((partsL t).getD 2 []) = pc := ⟨_, rfl⟩
    have hoe : openE ks t = if knameB pa = false then 2 else match keyAt ks (kname pa) with | none => 3 | some i => if (pc == macL K0 H0 (ks.getD i default).secret (t.take (lastDot t))) = true then 0 else 4 := by
      unfold openE; rw [hu, hpa, hpc]; rfl
    have hot : openT t = pb := hpb
    rw [hpa, hpb, hpc]
    have HOE := hide hoe
    have HOT := hide hot
    have HD := hide (lastDot_is h3)
    have HPL := hide (show pa.length ≤ 9223372036854775807 by
      rw [← hpa]
      have h1 := uO_len ((partsL t).getD 0 [])
      have h2 := partsL_le t 0 (by omega)
      have := (unhide HT).len
      omega)
    clear hoe hot hu h3 hpa hpb hpc
    obtain ⟨wa, hwa⟩ : ∃ wa, wa = w1.alloc (.cells #[.string ⟨pa.toArray⟩, .string ⟨pb.toArray⟩, .string ⟨pc.toArray⟩] 238) := ⟨_, rfl⟩
    have hba : Below w1.heap.size w1 wa := by rw [hwa]; exact (Below.refl _ _).alloc (Nat.le_refl _) _
    have hsa : wa.heap.size = w1.heap.size + 1 := by rw [hwa]; simp
    have hRa : Row wa w1.heap.size 238 3 (fun j => if j = 0 then .string ⟨pa.toArray⟩ else if j = 1 then .string ⟨pb.toArray⟩ else .string ⟨pc.toArray⟩) := by rw [hwa]; exact Row.new w1 238 _ _ 3 rfl (three3 rfl rfl rfl)
    have hs1 := hb1.size
    have hbwa : Below w.heap.size w wa := hb1.trans (hba.mono hs1)
    have c0 : wa.cell? ⟨w1.heap.size, 0, none⟩ = some (.string ⟨pa.toArray⟩) := hRa.cell (j := 0) (by decide)
    have HKn := hide (keyName_any pa wa (unhide HPL))
    have HWA := hide hwa
    have HRa := hide hRa
    have HBA := hide hbwa
    have c0' : (w1.alloc (.cells #[.string ⟨pa.toArray⟩, .string ⟨pb.toArray⟩, .string ⟨pc.toArray⟩] 238)).cell? ⟨w1.heap.size, 0, none⟩ = some (.string ⟨pa.toArray⟩) := by rw [← hwa]; exact c0
    clear hwa hba hRa hbwa c0 hb1
    go_wp2_with fail
    rw [← unhide HWA]
    clear HWA c0'
    refine (unhide HKn).mono ?_
    rintro e w2 ⟨rfl, rfl⟩
    cases hkb : knameB pa with
    | false =>
      have ho : openE ks t = 2 := by rw [unhide HOE, hkb]; rfl
      have HO := hide ho
      clear ho hkb HKn
      go_wp2_with fail
      go_ret2
      exact ⟨Or.inl ⟨by rw [unhide HO]; decide, by rw [unhide HO]; rfl⟩, unhide HBA⟩
    | true =>
    have hSa := (unhide HS).below ((unhide HBA).mono (unhide HH).1)
    have hkl : ks.length ≤ 8 := by
      have := hSa.kb
      unfold keysB at this
      simp at this
      exact this.2
    have HFi := hide (find_any vk ks (kname pa) R w2 s (by have := (unhide HH).1; omega) (by omega) hSa.keys (hSa.ring.cell (j := 0) (by decide)) (by have := hSa.rs; have := (unhide HH).1; omega))
    have HOE2 : Hid (openE ks t = match keyAt ks (kname pa) with | none => 3 | some i => if (pc == macL K0 H0 (ks.getD i default).secret (t.take (lastDot t))) = true then 0 else 4) := by unfold Hid; rw [unhide HOE, hkb]; rfl
    have HSa := hide hSa
    have HKL := hide hkl
    clear hSa hkl hkb HKn HOE
    generalize hkn : kname pa = kn at *
    go_wp2_with fail
    refine (unhide HFi).mono ?_
    rintro e w3 ⟨⟨r, rfl, hf⟩, hb3⟩
    have hs3 := hb3.size
    have HB3 := hide ((unhide HBA).trans (hb3.mono (by omega)))
    rcases keyAt_found hf with ⟨rfl, hka⟩ | ⟨k, rfl, hkl, hka⟩
    · have ho : openE ks t = 3 := by rw [unhide HOE2, hka]
      have HO := hide ho
      clear ho hka hf hb3 HFi
      go_wp2_with fail
      go_ret2
      exact ⟨Or.inl ⟨by rw [unhide HO]; decide, by rw [unhide HO]; rfl⟩, unhide HB3⟩
    · have hS3 := (unhide HSa).below (hb3.mono (by have := (unhide HH).1; omega))
      obtain ⟨av, cv, hvk, hkx⟩ := hS3.keys
      obtain ⟨g, o, rfl, hg, hky⟩ := hkx (by omega)
      subst hvk
      obtain ⟨_, k1⟩ := hky k hkl
      rw [sv_def] at k1
      have r0 : w3.cell? ⟨R, 0, none⟩ = some (.slice (some ⟨g, o, none⟩) ks.length cv) := hS3.ring.cell (j := 0) (by decide)
      have hR3 := (unhide HRa).below hb3 (by omega)
      have p1 : w3.cell? ⟨w1.heap.size, 1, none⟩ = some (.string ⟨pb.toArray⟩) := hR3.cell (j := 1) (by decide)
      have p2 : w3.cell? ⟨w1.heap.size, 2, none⟩ = some (.string ⟨pc.toArray⟩) := hR3.cell (j := 2) (by decide)
      obtain ⟨hld, hlt⟩ := unhide HD
      have HLI := hide (lastIndexL_any t w3 (unhide HT).len hld)
      have hup := fun u => upto_any t (lastDot t) (by omega) u _ rfl
      obtain ⟨sg, hsg⟩ : ∃ sg, t.take (lastDot t) = sg := ⟨_, rfl⟩
      have hsgl : sg.length ≤ 2097152 := by rw [← hsg, List.length_take]; have := (unhide HT).len; omega
      rw [hsg] at hup
      have hsec := (keysB_at hS3.kb k hkl).2
      obtain ⟨kz, hkz⟩ : ∃ kz, (ks.getD k default).secret = kz := ⟨_, rfl⟩
      rw [hkz] at k1 hsec
      have hoe : openE ks t = if (pc == macL K0 H0 kz sg) = true then 0 else 4 := by rw [unhide HOE2, hka]; show (if (pc == macL K0 H0 (ks.getD k default).secret (t.take (lastDot t))) = true then (0 : Int) else 4) = _; rw [hkz, hsg]
      have hK3 : KT w3.drew := (unhide HK).below (by have := (unhide HH).1; have := (unhide HH).2; omega) ((unhide HB3).drew)
      obtain ⟨F, hF⟩ : ∃ F, shaF K0 H0 (tk (keyL K0 H0 kz) 92 ++ shaL K0 H0 (tk (keyL K0 H0 kz) 54 ++ sg)) = F := ⟨_, rfl⟩
      have hF256 : ∀ j, F j < 256 := fun j => by rw [← hF]; exact shaF_lt _ _ _ j
      have hmacF : macL K0 H0 kz sg = bs 32 F := by unfold macL; rw [show ∀ x, shaL K0 H0 x = bs 32 (shaF K0 H0 x) from fun _ => rfl, hF]
      have HMac := mac_any kz sg w3.drew (by omega) (by omega) (show 2 < w3.heap.size by have := (unhide HH).1; have := (unhide HH).2; omega) hK3
      rw [hF] at HMac
      have HMc := hide HMac
      have HIs := hide (fun u => isMac_any pc F hF256 u)
      have hkI : (k : Int) < (ks.length : Int) := by omega
      have hk0 : ¬ (k : Int) < 0 := by omega
      rw [hmacF] at hoe
      have HOE3 := hide hoe
      have hRl : R < w3.heap.size := by have := hS3.rs; have := (unhide HH).1; omega
      have hgl : g < w3.heap.size := by have := (unhide HH).1; omega
      clear hF hmacF HMac hoe hF256 hK3 hsgl hsec hkz hsg hld hlt hR3 hS3 hky hkx hka hf hb3 HFi HOE2
      generalize ((lastDot t : Nat) : Int) = ld at *
      generalize hbq : (pc == bs 32 F) = bq at *
      go_wp2_with (go_at_call 181; refine (unhide HLI).mono ?_; rintro e w4 ⟨rfl, rfl⟩)
      have hwl : w1.heap.size < w4.heap.size := by omega
      go_region_held3 (fun w' => w'.cell? ⟨w1.heap.size, 2, none⟩ = some (.string ⟨pc.toArray⟩) ∧ w'.cell? ⟨R, 0, none⟩ = some (.slice (some ⟨g, o, none⟩) ks.length cv) ∧ w'.cell? ⟨g, o + k * 2 + 1, none⟩ = some (.string ⟨kz.toArray⟩)) (go_keep)
        (first
          | (go_at_call 92; refine (unhide HMc).mono ?_; rintro e w5 ⟨rfl, hb5⟩; have t0 := (hb5.cell (p := ⟨w1.heap.size, 2, none⟩) (show w1.heap.size < w4.heap.size by omega)).trans p2; have t1 := (hb5.cell (p := ⟨R, 0, none⟩) (show R < w4.heap.size by omega)).trans r0; have t2 := (hb5.cell (p := ⟨g, o + k * 2 + 1, none⟩) (show g < w4.heap.size by omega)).trans k1; have t3 := (hb5.cell (p := ⟨w1.heap.size, 1, none⟩) (show w1.heap.size < w4.heap.size by omega)).trans p1; have hs5 : w4.heap.size ≤ w5.heap.size := hb5.size; have HB5 := hide ((unhide HB3).drew.trans (hb5.mono (show w.heap.size ≤ w4.heap.size by omega))); clear hb5)
          | (go_at_call 182; refine (unhide HIs _).mono ?_; rintro e w6 ⟨rfl, hb6⟩; have s0 := (hb6.cell (p := ⟨w1.heap.size, 2, none⟩) (show w1.heap.size < w5.heap.size by omega)).trans t0; have s1 := (hb6.cell (p := ⟨R, 0, none⟩) (show R < w5.heap.size by omega)).trans t1; have s2 := (hb6.cell (p := ⟨g, o + k * 2 + 1, none⟩) (show g < w5.heap.size by omega)).trans t2; have s3 := (hb6.cell (p := ⟨w1.heap.size, 1, none⟩) (show w1.heap.size < w5.heap.size by omega)).trans t3; have HB6 := hide ((unhide HB5).trans (hb6.mono (show w.heap.size ≤ w5.heap.size by omega))); clear hb6))
      cases bq with
      | true =>
        have ho : openE ks t = 0 := unhide HOE3
        have HO := hide ho
        clear ho
        go_wp2_with fail
        go_ret2
        exact ⟨Or.inr ⟨unhide HO, by rw [unhide HOT]; rfl⟩, unhide HB6⟩
      | false =>
        have ho : openE ks t = 4 := unhide HOE3
        have HO := hide ho
        clear ho
        go_wp2_with fail
        go_ret2
        exact ⟨Or.inl ⟨by rw [unhide HO]; decide, by rw [unhide HO]; rfl⟩, unhide HB6⟩
  · have ho : openE ks t = 2 := by unfold openE; rw [if_pos hu]
    have HO := hide ho
    clear ho hu
    have hs1 := hb1.size
    go_wp2_with fail
    go_ret2
    exact ⟨Or.inl ⟨by rw [unhide HO]; decide, by rw [unhide HO]; rfl⟩, hb1.alloc hs1 _⟩
end Go.Proofs.YtkmkkmdpjliifaaGreatDoor
namespace Go.Proofs.YtkmkkmdpjliifaaGreatDoor
open Go.ChangeShapes Go.WideShapes Go.ChangeAt Go.RowKit

theorem openT_lenL (t : List UInt8) (h : unpB t = true) (hl : LongT t) : (openT t).length ≤ 1048576 := by
  have h3 : (partsL t).length = 3 := by
    unfold unpB at h
    simp at h
    exact h.1
  exact Nat.le_trans (uO_len _) (hl.part 1 (by omega))
set_option maxRecDepth 20000 in
set_option maxHeartbeats 2000000 in
theorem takeTokL_any (t : List UInt8) (w : World) (s R O now : Nat) (vk vs vg : Value) (ks : List Ky) (cs : List Cl) (Qs : List Nat) (G : List Gt) (hS : Sv w s R O now vk vs vg ks cs Qs G) (hT : Tb s w) (hm : MX w) (h4 : 4 < s) (ht : LongT t) :
    Calls Tryz.prog 105 #[.pointer (some ⟨s, 0, none⟩), .string ⟨t.toArray⟩] w fun e w' => e = .returned (.tuple #[.pointer ((takeS ks G now t).1.map fun i => ⟨(G.getD i default).b, 0, none⟩), .int .i64 (takeS ks G now t).2]) ∧ Below w.heap.size w w' := by
  have r1 : w.cell? ⟨s, 1, none⟩ = some (.pointer (some ⟨R, 0, none⟩)) := hS.row.cell (j := 1) (by decide)
  have hsl := hS.lt
  have HOp := hide (OpenL_any t w s R O vk vs ks cs Qs (Nat.le_of_lt hsl) h4 hS.sb hT.kt hm ht)
  have HS := hide hS
  have HT := hide hT
  have HTl := hide ht
  clear hS hT hm h4 ht
  go_enter Tryz.func105, Tryz.ntmps105
  go_wp2_with fail
  refine (unhide HOp).mono ?_
  rintro e w1 ⟨hr1, hb1⟩
  clear HOp r1
  rcases hr1 with ⟨hne, rfl⟩ | ⟨h0, rfl⟩
  · have htk : takeS ks G now t = (none, openE ks t) := by unfold takeS; rw [if_neg hne]
    have HTK := hide htk
    clear htk
    generalize openE ks t = oe at *
    have hoI : ¬ oe = 0 := hne
    go_wp2_with fail
    go_ret2
    exact ⟨by rw [unhide HTK]; rfl, hb1⟩
  · have htk : takeS ks G now t = match readS (openT t) with | none => (none, 2) | some c => match findG G c with | none => (none, 6) | some i => if aliveG G now (some i) = true then (some i, 0) else (none, 6) := by unfold takeS; rw [if_pos h0]; rfl
    have hol := openT_lenL t (openE_unp h0) (unhide HTl)
    have hs1 := hb1.size
    have HRd := hide (Read_any (openT t) w1 hol ((unhide HT).ut.belowS hb1))
    have HB1 := hide hb1
    have HTK := hide htk
    clear htk hol h0 hb1
    generalize openT t = ot at *
    go_wp2_with fail
    refine (unhide HRd).mono ?_
    rintro e w2 ⟨c, p, k, rfl, hL2, hZ, hb2, hO⟩
    clear HRd
    have hs2 := hb2.size
    rcases hO with ⟨rfl, hrd⟩ | ⟨rfl, hrd, rfl, rfl⟩
    · obtain ⟨wb, hwb⟩ : ∃ wb, wb = w2.alloc (.cells #[.int .i64 c.z.id, .string ⟨c.z.sub.toArray⟩, .slice p.a2 c.z.scp.length p.c2, .slice p.a3 c.z.aud.length p.c3, .slice p.a4 c.z.act.length p.c4, .int .i64 c.z.exp] 60) := ⟨_, rfl⟩
      have hbb : Below w2.heap.size w2 wb := by rw [hwb]; exact (Below.refl _ _).alloc (Nat.le_refl _) _
      have hsb : wb.heap.size = w2.heap.size + 1 := by rw [hwb]; simp
      have g0 : wb.cell? ⟨w2.heap.size, 0, none⟩ = some (.int .i64 c.z.id) := by rw [hwb]; simp
      have g1 : wb.cell? ⟨w2.heap.size, 1, none⟩ = some (.string ⟨c.z.sub.toArray⟩) := by rw [hwb]; simp
      have g2 : wb.cell? ⟨w2.heap.size, 2, none⟩ = some (.slice p.a2 c.z.scp.length p.c2) := by rw [hwb]; simp
      have g3 : wb.cell? ⟨w2.heap.size, 3, none⟩ = some (.slice p.a3 c.z.aud.length p.c3) := by rw [hwb]; simp
      have g4 : wb.cell? ⟨w2.heap.size, 4, none⟩ = some (.slice p.a4 c.z.act.length p.c4) := by rw [hwb]; simp
      have g5 : wb.cell? ⟨w2.heap.size, 5, none⟩ = some (.int .i64 c.z.exp) := by rw [hwb]; simp
      have hB2 : Below w.heap.size w w2 := (unhide HB1).trans (hb2.mono hs1)
      have hBb : Below w.heap.size w wb := hB2.trans (hbb.mono (show w.heap.size ≤ w2.heap.size by omega))
      have hSb := (unhide HS).below hBb
      have hcl : CzL wb.drew wb.heap.size c.z p := ((hL2.czl.below hbb).up (show w2.heap.size ≤ wb.heap.size by omega)).below (Below.refl _ wb).drew
      obtain ⟨fp, hfp⟩ : ∃ fp : Option Addr, fp = (findG G c).map fun i => ⟨(G.getD i default).b, 0, none⟩ := ⟨_, rfl⟩
      have hFn := Find_any c p wb.drew s R O now vk vs vg ks cs Qs G (hSb.below (Below.refl _ wb).drew) hcl
      rw [← hfp] at hFn
      have HFn := hide hFn
      have HFP := hide hfp
      have htk : takeS ks G now t = match findG G c with | none => (none, 6) | some i => if aliveG G now (some i) = true then (some i, 0) else (none, 6) := by rw [unhide HTK, hrd]
      have HTK2 := hide htk
      have HWB := hide hwb
      have HBb := hide hBb
      clear htk hwb hBb hSb hcl hB2 hbb hb2 hrd hL2 hZ HTK hFn hfp
      unfold czA at *
      generalize c.z.id = zi at *
      generalize c.z.exp = ze at *
      generalize c.z.sub = zs at *
      generalize c.z.scp.length = z2 at *
      generalize c.z.aud.length = z3 at *
      generalize c.z.act.length = z4 at *
      go_wp2_with fail
      rw [← unhide HWB]
      clear HWB
      go_region_held3 (fun w' => w'.cell? ⟨w2.heap.size, 0, none⟩ = some (.int .i64 zi) ∧ w'.cell? ⟨w2.heap.size, 1, none⟩ = some (.string ⟨zs.toArray⟩) ∧ w'.cell? ⟨w2.heap.size, 2, none⟩ = some (.slice p.a2 z2 p.c2) ∧ w'.cell? ⟨w2.heap.size, 3, none⟩ = some (.slice p.a3 z3 p.c3) ∧ w'.cell? ⟨w2.heap.size, 4, none⟩ = some (.slice p.a4 z4 p.c4) ∧ w'.cell? ⟨w2.heap.size, 5, none⟩ = some (.int .i64 ze)) (go_keep)
        (first | (go_at_call 143; refine (unhide HFn).mono ?_; rintro e w3 ⟨rfl, hb3⟩; have t0 := (hb3.cell (p := ⟨w2.heap.size, 0, none⟩) (show w2.heap.size < wb.heap.size by omega)).trans g0; have t1 := (hb3.cell (p := ⟨w2.heap.size, 1, none⟩) (show w2.heap.size < wb.heap.size by omega)).trans g1; have t2 := (hb3.cell (p := ⟨w2.heap.size, 2, none⟩) (show w2.heap.size < wb.heap.size by omega)).trans g2; have t3 := (hb3.cell (p := ⟨w2.heap.size, 3, none⟩) (show w2.heap.size < wb.heap.size by omega)).trans g3; have t4 := (hb3.cell (p := ⟨w2.heap.size, 4, none⟩) (show w2.heap.size < wb.heap.size by omega)).trans g4; have t5 := (hb3.cell (p := ⟨w2.heap.size, 5, none⟩) (show w2.heap.size < wb.heap.size by omega)).trans g5))
      have hB3 : Below w.heap.size w w3 := (unhide HBb).drew.trans (hb3.mono (show w.heap.size ≤ wb.heap.size by omega))
      have hS3 := (unhide HS).below hB3
      have r0 : w3.cell? ⟨s, 0, none⟩ = some (.int .i64 (now : Nat)) := hS3.row.cell (j := 0) (by decide)
      have hsz3 : s < w3.heap.size := hS3.lt
      have HB3 := hide hB3
      have HS3 := hide hS3
      clear hB3 hS3 hb3 t0 t1 t2 t3 t4 t5 g0 g1 g2 g3 g4 g5 HFn HBb
      cases hfg : findG G c with
      | none =>
        have hfp := unhide HFP
        rw [hfg] at hfp
        simp only [Option.map_none] at hfp
        have htk := unhide HTK2
        rw [hfg] at htk
        have HTK3 := hide htk
        clear htk HTK2 HFP hfg
        subst hfp
        go_wp2_with fail
        go_ret2
        exact ⟨by rw [unhide HTK3]; rfl, unhide HB3⟩
      | some i =>
        have hfp := unhide HFP
        rw [hfg] at hfp
        simp only [Option.map_some] at hfp
        have htk := unhide HTK2
        rw [hfg] at htk
        have HTK3 := hide htk
        have HAl := hide (IsAlive_any i w3 s R O now vk vs vg ks cs Qs G (unhide HS3) (findG_lt hfg))
        clear htk HTK2 HFP hfg
        generalize hgb : (G.getD i default).b = gb at *
        have HGB := hide hgb
        subst hfp
        clear hgb
        generalize hal : aliveG G now (some i) = al at *
        have HAL := hide hal
        clear hal
        go_wp2_with fail
        refine (unhide HAl).mono ?_
        rintro e w4 ⟨rfl, rfl⟩
        cases al with
        | true =>
          go_wp2_with fail
          go_ret2
          refine ⟨?_, unhide HB3⟩
          rw [unhide HTK3, unhide HAL, if_pos rfl, Option.map_some, unhide HGB]
          rfl
        | false =>
          go_wp2_with fail
          go_ret2
          refine ⟨?_, unhide HB3⟩
          rw [unhide HTK3, unhide HAL, if_neg (by decide)]
          rfl
    · have htk : takeS ks G now t = (none, 2) := by rw [unhide HTK, hrd]
      have HTK2 := hide htk
      have HB2 := hide ((unhide HB1).trans (hb2.mono hs1))
      clear htk hb2 hrd hL2 hZ HTK
      unfold czA
      go_wp2_with fail
      go_ret2
      refine ⟨by rw [unhide HTK2]; rfl, ?_⟩
      refine (unhide HB2).trans (((Below.refl _ _).alloc (Nat.le_refl _) _).mono (by omega))
set_option maxRecDepth 20000 in
set_option maxHeartbeats 2000000 in
theorem runL_any (kt kr : Nat) (xt xr : Array Value) (n sec t : List UInt8) (w : World) (s R O now : Nat) (vk vs vg : Value) (ks : List Ky) (cs : List Cl) (Qs : List Nat) (G : List Gt) (Q : Ending → World → Prop) (et : ∀ args w, (callFunc kt args).run Tryz.prog w = .ok (.enter kt args) w) (er : ∀ args w, (callFunc kr args).run Tryz.prog w = .ok (.enter kr args) w) (hQ : ∀ e w', Q e w' → ∃ z, e = .returned (.int .i64 z)) (hS : Sv w s R O now vk vs vg ks cs Qs G) (hT : Tb s w) (hm : MX w) (h4 : 4 < s) (ht : LongT t)
    (q1 : loginK cs n sec = none → ∀ w', Below w.heap.size w w' → Q (.returned (.int .i64 5)) w')
    (q2 : ∀ m, loginK cs n sec = some m → (takeS ks G now t).2 ≠ 0 → ∀ w', Below w.heap.size w w' → Calls Tryz.prog kr (#[.int .i64 (takeS ks G now t).2] ++ xr) w' Q)
    (q3 : ∀ m q i, loginK cs n sec = some m → Qs[m]? = some q → takeS ks G now t = (some i, 0) → i < G.length → aliveG G now (some i) = true → ∀ w', Below w.heap.size w w' → Calls Tryz.prog kt (#[.pointer (some ⟨q, 0, none⟩), .pointer (some ⟨(G.getD i default).b, 0, none⟩)] ++ xt) w' Q) :
    Calls Tryz.prog 67 #[.pointer (some ⟨s, 0, none⟩), .agg #[.string ⟨n.toArray⟩, .string ⟨sec.toArray⟩], .string ⟨t.toArray⟩, .agg #[.func (.func kt) #[] xt, .func (.func kr) #[] xr]] w Q := by
  obtain ⟨w0, hw0⟩ : ∃ w0, w0 = w.alloc (.cells #[.string ⟨n.toArray⟩, .string ⟨sec.toArray⟩] 81) := ⟨_, rfl⟩
  obtain ⟨wa, hwa⟩ : ∃ wa, wa = w0.alloc (.cells #[.func (.func kt) #[] xt, .func (.func kr) #[] xr] 119) := ⟨_, rfl⟩
  have hb0 : Below w.heap.size w w0 := by rw [hw0]; exact (Below.refl _ _).alloc (Nat.le_refl _) _
  have hs0 : w0.heap.size = w.heap.size + 1 := by rw [hw0]; simp
  have hba' : Below w0.heap.size w0 wa := by rw [hwa]; exact (Below.refl _ _).alloc (Nat.le_refl _) _
  have hba : Below w.heap.size w wa := hb0.trans (hba'.mono (by omega))
  have hsa : wa.heap.size = w.heap.size + 2 := by rw [hwa]; simp [hs0]
  have hSa := hS.below hba
  have r2 : wa.cell? ⟨s, 2, none⟩ = some (.pointer (some ⟨O, 0, none⟩)) := hSa.row.cell (j := 2) (by decide)
  have g0 : wa.cell? ⟨w.heap.size, 0, none⟩ = some (.string ⟨n.toArray⟩) := by rw [hba'.cell (by show w.heap.size < w0.heap.size; omega), hw0]; simp
  have g1 : wa.cell? ⟨w.heap.size, 1, none⟩ = some (.string ⟨sec.toArray⟩) := by rw [hba'.cell (by show w.heap.size < w0.heap.size; omega), hw0]; simp
  have e0 : wa.cell? ⟨w.heap.size + 1, 0, none⟩ = some (.func (.func kt) #[] xt) := by rw [hwa, ← hs0]; simp
  have e1 : wa.cell? ⟨w.heap.size + 1, 1, none⟩ = some (.func (.func kr) #[] xr) := by rw [hwa, ← hs0]; simp
  have hsl := hS.lt
  have hLg := Login_any n sec wa.drew s R O vk vs ks cs Qs (show s ≤ wa.heap.size by omega) (hSa.sb.below (Below.refl s wa).drew)
  have HS := hide hS
  have HTk := hide (And.intro hT (And.intro hm (And.intro h4 ht)))
  have HW0 := hide hw0
  have HWA := hide hwa
  have HBA := hide hba
  have HQ2 := hide q2
  have HQ3 := hide q3
  have hsb := hSa.sb
  clear hT hm h4 ht hwa hba hba' hb0 hSa hS hw0 q2 q3
  cases hlk : loginK cs n sec with
  | none =>
    have HQ1 := hide (q1 hlk)
    have hL0 : Calls Tryz.prog 93 #[.pointer (some ⟨O, 0, none⟩), .agg #[.string ⟨n.toArray⟩, .string ⟨sec.toArray⟩]] wa.drew fun e w' => Below wa.drew.heap.size wa.drew w' ∧ e = .returned (.tuple #[.pointer none, .int .i64 5]) := hLg.mono (fun e w' ⟨h1, h2⟩ => ⟨h1, by
      rcases h2 with ⟨_, h3⟩ | ⟨m, q, h3, _⟩
      · exact h3
      · rw [hlk] at h3; cases h3⟩)
    have HLg := hide hL0
    clear hL0 hLg hlk hsb q1 HQ2 HQ3
    go_enter Tryz.func67, Tryz.ntmps67
    go_wp2_with fail
    rw [← unhide HW0, ← unhide HWA]
    clear HW0 HWA
    go_region_held3 (fun w' => w'.cell? ⟨s, 2, none⟩ = some (.pointer (some ⟨O, 0, none⟩)) ∧ w'.cell? ⟨w.heap.size, 0, none⟩ = some (.string ⟨n.toArray⟩) ∧ w'.cell? ⟨w.heap.size, 1, none⟩ = some (.string ⟨sec.toArray⟩)) (go_keep)
      (first | (go_at_call 93; refine (unhide HLg).mono ?_; rintro e w1 ⟨hb1, rfl⟩; have t0 := (hb1.cell (p := ⟨s, 2, none⟩) (show s < wa.heap.size by omega)).trans r2; have t1 := (hb1.cell (p := ⟨w.heap.size, 0, none⟩) (show w.heap.size < wa.heap.size by omega)).trans g0; have t2 := (hb1.cell (p := ⟨w.heap.size, 1, none⟩) (show w.heap.size < wa.heap.size by omega)).trans g1))
    go_wp2_with fail
    exact unhide HQ1 _ ((unhide HBA).drew.trans (hb1.mono (show w.heap.size ≤ wa.heap.size by omega)))
  | some m =>
    have hm := loginK_lt hlk
    obtain ⟨q, hq⟩ : ∃ q, Qs[m]? = some q := ⟨_, List.getElem?_eq_getElem (by rw [hsb.len]; exact hm)⟩
    have hL0 : Calls Tryz.prog 93 #[.pointer (some ⟨O, 0, none⟩), .agg #[.string ⟨n.toArray⟩, .string ⟨sec.toArray⟩]] wa.drew fun e w' => Below wa.drew.heap.size wa.drew w' ∧ e = .returned (.tuple #[.pointer (some ⟨q, 0, none⟩), .int .i64 0]) := hLg.mono (fun e w' ⟨h1, h2⟩ => ⟨h1, by
      rcases h2 with ⟨h3, _⟩ | ⟨m2, q2, h3, h4, h5⟩
      · rw [hlk] at h3; cases h3
      · rw [hlk] at h3; cases h3; rw [hq] at h4; cases h4; exact h5⟩)
    have HLg := hide hL0
    have HM := hide (And.intro hlk hq)
    clear hL0 hLg hlk hsb q1 hm hq
    go_enter Tryz.func67, Tryz.ntmps67
    go_wp2_with fail
    rw [← unhide HW0, ← unhide HWA]
    clear HW0 HWA
    go_region_held3 (fun w' => w'.cell? ⟨s, 2, none⟩ = some (.pointer (some ⟨O, 0, none⟩)) ∧ w'.cell? ⟨w.heap.size, 0, none⟩ = some (.string ⟨n.toArray⟩) ∧ w'.cell? ⟨w.heap.size, 1, none⟩ = some (.string ⟨sec.toArray⟩)) (go_keep)
      (first | (go_at_call 93; refine (unhide HLg).mono ?_; rintro e w1 ⟨hb1, rfl⟩; have t0 := (hb1.cell (p := ⟨s, 2, none⟩) (show s < wa.heap.size by omega)).trans r2; have t1 := (hb1.cell (p := ⟨w.heap.size, 0, none⟩) (show w.heap.size < wa.heap.size by omega)).trans g0; have t2 := (hb1.cell (p := ⟨w.heap.size, 1, none⟩) (show w.heap.size < wa.heap.size by omega)).trans g1))
    have f0 := (hb1.cell (p := ⟨w.heap.size + 1, 0, none⟩) (show w.heap.size + 1 < wa.heap.size by omega)).trans e0
    have f1 := (hb1.cell (p := ⟨w.heap.size + 1, 1, none⟩) (show w.heap.size + 1 < wa.heap.size by omega)).trans e1
    have hs1 : wa.heap.size ≤ w1.heap.size := hb1.size
    have hB1 : Below w.heap.size w w1 := (unhide HBA).drew.trans (hb1.mono (show w.heap.size ≤ wa.heap.size by omega))
    have hk := unhide HTk
    have HTa := hide (takeTokL_any t w1 s R O now vk vs vg ks cs Qs G ((unhide HS).below hB1) (hk.1.below (hB1.mono (Nat.le_of_lt hsl))) (hk.2.1.below (show 4 < w.heap.size by have := hk.2.2.1; omega) hB1) hk.2.2.1 hk.2.2.2)
    have HB1 := hide hB1
    clear t0 t1 t2 r2 g0 g1 e0 e1 HLg HBA hb1 hk hB1
    go_wp2_with fail
    refine (unhide HTa).mono ?_
    rintro e w2 ⟨rfl, hb2⟩
    have f0' := (hb2.cell (p := ⟨w.heap.size + 1, 0, none⟩) (show w.heap.size + 1 < w1.heap.size by omega)).trans f0
    have f1' := (hb2.cell (p := ⟨w.heap.size + 1, 1, none⟩) (show w.heap.size + 1 < w1.heap.size by omega)).trans f1
    have hB2 := (unhide HB1).trans (hb2.mono (show w.heap.size ≤ w1.heap.size by omega))
    have HB2 := hide hB2
    clear f0 f1 HTa hb2 hB2
    by_cases hz : (takeS ks G now t).2 = 0
    · obtain ⟨i, htk, hi, hal⟩ := takeS_ok hz
      have HC := hide (unhide HQ3 m q i (unhide HM).1 (unhide HM).2 htk hi hal w2 (unhide HB2))
      clear hz
      rw [htk]
      dsimp only [Option.map_some]
      clear htk HQ2 HQ3 hi hal
      generalize (G.getD i default).b = gb at *
      go_wp2_with fail
      refine (unhide HC).mono ?_
      rintro e w3 hq
      obtain ⟨z, rfl⟩ := hQ _ _ hq
      have HQQ := hide hq
      clear hq
      go_wp2_with fail
      exact unhide HQQ
    · have HC := hide (unhide HQ2 m (unhide HM).1 hz w2 (unhide HB2))
      rw [takeS_none hz]
      generalize (takeS ks G now t).2 = oe at *
      dsimp only [Option.map_none]
      clear HQ2 HQ3
      go_wp2_with fail
      refine (unhide HC).mono ?_
      rintro e w3 hq
      obtain ⟨z, rfl⟩ := hQ _ _ hq
      have HQQ := hide hq
      clear hq
      go_wp2_with fail
      exact unhide HQQ
set_option maxRecDepth 20000 in
set_option maxHeartbeats 2000000 in
theorem LookL_any (n sec t : List UInt8) (w : World) (s R O now : Nat) (vk vs vg : Value) (ks : List Ky) (cs : List Cl) (Qs : List Nat) (G : List Gt) (hS : Sv w s R O now vk vs vg ks cs Qs G) (hT : Tb s w) (hm : MX w) (h4 : 4 < s) (ht : LongT t) :
    Calls Tryz.prog 32 #[.pointer (some ⟨s, 0, none⟩), .agg #[.string ⟨n.toArray⟩, .string ⟨sec.toArray⟩], .string ⟨t.toArray⟩] w fun e w' => ∃ p', e = .returned (.tuple #[.agg (czA (lookC G (lookS ks cs G now n sec t).1) p'), .bool (lookS ks cs G now n sec t).1.isSome, .int .i64 (lookS ks cs G now n sec t).2]) ∧ CzN w' (New w w') (lookC G (lookS ks cs G now n sec t).1) p' ∧ Below w.heap.size w w' := by
  have hsl := hS.lt
  obtain ⟨w0, hw0⟩ : ∃ w0, w0 = w.alloc (.cells #[.string ⟨n.toArray⟩, .string ⟨sec.toArray⟩] 81) := ⟨_, rfl⟩
  have hb0 : Below w.heap.size w w0 := by rw [hw0]; exact (Below.refl _ _).alloc (Nat.le_refl _) _
  have hs0 : w0.heap.size = w.heap.size + 1 := by rw [hw0]; simp
  have g0 : w0.cell? ⟨w.heap.size, 0, none⟩ = some (.string ⟨n.toArray⟩) := by rw [hw0]; simp
  have g1 : w0.cell? ⟨w.heap.size, 1, none⟩ = some (.string ⟨sec.toArray⟩) := by rw [hw0]; simp
  obtain ⟨w1, hw1⟩ : ∃ w1, w1 = w0.alloc (.cells #[.int .i64 0, .string ⟨#[]⟩, .slice none 0 0, .slice none 0 0, .slice none 0 0, .int .i64 0] 60) := ⟨_, rfl⟩
  have hb1 : Below w0.heap.size w0 w1 := by rw [hw1]; exact (Below.refl _ _).alloc (Nat.le_refl _) _
  have hs1 : w1.heap.size = w.heap.size + 2 := by rw [hw1]; simp [hs0]
  have hR1 : Row w1 (w.heap.size + 1) 60 6 (czF cz0 pl0) := by rw [hw1, ← hs0]; exact Row.new w0 60 _ _ 6 rfl (six rfl rfl rfl rfl rfl rfl)
  obtain ⟨w2, hw2⟩ : ∃ w2, w2 = w1.alloc (.cells #[.int .i64 0, .string ⟨#[]⟩, .slice none 0 0, .slice none 0 0, .slice none 0 0, .int .i64 0] 60) := ⟨_, rfl⟩
  have hb2 : Below w1.heap.size w1 w2 := by rw [hw2]; exact (Below.refl _ _).alloc (Nat.le_refl _) _
  have hs2 : w2.heap.size = w.heap.size + 3 := by rw [hw2]; simp [hs1]
  have hR2 : Row w2 (w.heap.size + 2) 60 6 (czF cz0 pl0) := by rw [hw2, ← hs1]; exact Row.new w1 60 _ _ 6 rfl (six rfl rfl rfl rfl rfl rfl)
  obtain ⟨w3, hw3⟩ : ∃ w3, w3 = w2.alloc (.cells #[.bool false] 4) := ⟨_, rfl⟩
  have hb3 : Below w2.heap.size w2 w3 := by rw [hw3]; exact (Below.refl _ _).alloc (Nat.le_refl _) _
  have hs3 : w3.heap.size = w.heap.size + 4 := by rw [hw3]; simp [hs2]
  have hR3 : Row w3 (w.heap.size + 3) 4 1 (fun _ => .bool false) := by rw [hw3, ← hs2]; exact Row.new w2 4 _ _ 1 rfl (fun j hj => oneS rfl j hj)
  have hB3 : Below w.heap.size w w3 := ((hb0.trans (hb1.mono (by omega))).trans (hb2.mono (by omega))).trans (hb3.mono (by omega))
  have k1 : Row w3 (w.heap.size + 1) 60 6 (czF cz0 pl0) := (hR1.below hb2 (by omega)).below hb3 (by omega)
  have k2 : Row w3 (w.heap.size + 2) 60 6 (czF cz0 pl0) := hR2.below hb3 (by omega)
  have c0 : w3.cell? ⟨w.heap.size, 0, none⟩ = some (.string ⟨n.toArray⟩) := by rw [hb3.cell (by show w.heap.size < w2.heap.size; omega), hb2.cell (by show w.heap.size < w1.heap.size; omega), hb1.cell (by show w.heap.size < w0.heap.size; omega)]; exact g0
  have c1 : w3.cell? ⟨w.heap.size, 1, none⟩ = some (.string ⟨sec.toArray⟩) := by rw [hb3.cell (by show w.heap.size < w2.heap.size; omega), hb2.cell (by show w.heap.size < w1.heap.size; omega), hb1.cell (by show w.heap.size < w0.heap.size; omega)]; exact g1
  have hS3 := hS.below hB3
  obtain ⟨L, hL⟩ : ∃ L, L = lookS ks cs G now n sec t := ⟨_, rfl⟩
  have hRun := runL_any 70 72 #[.pointer (some ⟨w.heap.size + 2, 0, none⟩), .pointer (some ⟨w.heap.size + 3, 0, none⟩)] #[] n sec t w3 s R O now vk vs vg ks cs Qs G
    (fun e w' => ∃ p', e = .returned (.int .i64 L.2) ∧ Row w' (w.heap.size + 1) 60 6 (czF cz0 pl0) ∧ Row w' (w.heap.size + 2) 60 6 (czF (lookC G L.1) p') ∧ Row w' (w.heap.size + 3) 4 1 (fun _ => .bool L.1.isSome) ∧ CzN w' (New w3 w') (lookC G L.1) p' ∧ Below w.heap.size w w')
    Tryz.call70 Tryz.call72 (fun e w' ⟨p', h, _⟩ => ⟨_, h⟩) hS3 (hT.below (hB3.mono (Nat.le_of_lt hsl))) (hm.below (show 4 < w.heap.size by omega) hB3) h4 ht
    (fun hl w' hb => by
      have e : L = (none, 5) := by rw [hL]; unfold lookS; rw [hl]
      rw [e]
      exact ⟨pl0, rfl, k1.below hb (by omega), k2.below hb (by omega), hR3.below hb (by omega), CzN.none _ _, hB3.trans (hb.mono (by omega))⟩)
    (fun m hl hz w' hb => by
      have e : L = (none, 0) := by rw [hL]; unfold lookS; rw [hl]; dsimp only; rw [takeS_none hz]
      rw [e]
      have h1 := k1.below hb (by omega)
      have h2 := k2.below hb (by omega)
      have h3 := hR3.below hb (by omega)
      generalize (takeS ks G now t).2 = oe
      have HB := hide (And.intro h1 (And.intro h2 (And.intro h3 (hB3.trans (hb.mono (by omega))))))
      clear h1 h2 h3 k1 k2 hR3 c0 c1 g0 g1 hR1 hR2 e hw0 hw1 hw2 hw3
      go_enter Tryz.func72, Tryz.ntmps72
      go_wp2_with fail
      go_ret
      have hh := unhide HB
      exact ⟨pl0, rfl, hh.1, hh.2.1, hh.2.2.1, CzN.none _ _, hh.2.2.2⟩)
    (fun m q i hl hq htk hi hal w' hb => by
      have e : L = (some i, 0) := by rw [hL]; unfold lookS; rw [hl]; dsimp only; rw [htk]
      rw [e]
      refine (lookT_any i (.pointer (some ⟨q, 0, none⟩)) (w.heap.size + 2) (w.heap.size + 3) (czF cz0 pl0) w' s R O now vk vs vg ks cs Qs G (hS3.below hb) hi (k2.below hb (by omega)) (hR3.below hb (by omega)) (by omega)).mono ?_
      rintro e w'' ⟨p', w4, rfl, hN, hb4, rfl⟩
      have hs' := hb.size
      have hs4 := hb4.size
      have h1 := (k1.below hb (by omega)).below hb4 (by omega)
      have h2 := (k2.below hb (by omega)).below hb4 (by omega)
      have h3 := (hR3.below hb (by omega)).below hb4 (by omega)
      have b6 := st6_but w4 (w.heap.size + 2) (G.getD i default).c.z p'
      generalize hw5 : st6 w4 (w.heap.size + 2) (G.getD i default).c.z p' = w5 at *
      have r2 : Row w5 (w.heap.size + 2) 60 6 (czF (G.getD i default).c.z p') := by rw [← hw5]; exact st6_row h2 _ _
      have b7 : But (w.heap.size + 3) w5 (w5.setCell ⟨w.heap.size + 3, 0, none⟩ (.bool true)) := (But.refl _ _).setCell 0 _
      have hs5 : w5.heap.size = w4.heap.size := b6.size
      refine ⟨p', rfl, (h1.but b6 (by omega)).but b7 (by omega), r2.but b7 (by omega), ((h3.but b6 (by omega)).set 0 _).congr (oneR rfl), ?_, ?_⟩
      · refine hN.keep (fun k hk => ⟨?_, ?_⟩)
        · obtain ⟨hk1, hk2⟩ := hk
          rw [b7.block k (by omega), b6.block k (by omega)]
        · obtain ⟨hk1, hk2⟩ := hk
          refine ⟨by omega, ?_⟩
          rw [b7.size]
          omega
      · exact ((hB3.trans (hb.mono (by omega))).trans (hb4.mono (by omega))).trans ((b6.below (by omega)).trans (b7.below (by omega))))
  have HRun := hide hRun
  have HW0 := hide hw0
  have HW1 := hide hw1
  have HW2 := hide hw2
  have HW3 := hide hw3
  rw [← hL]
  clear hRun hS hT hm h4 ht hS3 k1 k2 hR1 hR2 hR3 hb0 hb1 hb2 hb3 hB3 hw0 hw1 hw2 hw3 g0 g1 hL hsl
  go_enter Tryz.func32, Tryz.ntmps32
  go_wp2_with fail
  rw [← unhide HW0, ← unhide HW1, ← unhide HW2, ← unhide HW3]
  rw [show w.heap.size + 1 + 1 = w.heap.size + 2 from rfl, show w.heap.size + 2 + 1 = w.heap.size + 3 from rfl]
  refine (unhide HRun).mono ?_
  rintro e w4 ⟨p', rfl, k1, k2, k3, hN, hB⟩
  have HK1 := hide k1
  have HN : Hid (CzN w4 (New w3 w4) (lookC G L.fst) p' ∧ Below w.heap.size w w4) := hide ⟨hN, hB⟩
  clear HRun HW0 HW1 HW2 HW3 hN hB c0 c1
  generalize hbb1 : w.heap.size + 1 = b1 at *
  generalize hbb2 : w.heap.size + 2 = b2 at *
  generalize hbb3 : w.heap.size + 3 = b3 at *
  have n12 : b1 ≠ b2 := by omega
  have n13 : b1 ≠ b3 := by omega
  have n21 : b2 ≠ b1 := by omega
  have n31 : b3 ≠ b1 := by omega
  have HBB := hide (And.intro hbb1 (And.intro hbb2 (And.intro hbb3 hs3)))
  clear hbb1 hbb2 hbb3 hs0 hs1 hs2 hs3
  generalize hc : lookC G L.fst = c at *
  have HC := hide hc
  clear hc
  have s0 : w4.cell? ⟨b1, 0, none⟩ = some (.int .i64 0) := k1.cell (by decide)
  have s1 : w4.cell? ⟨b1, 1, none⟩ = some (.string ⟨#[]⟩) := k1.cell (by decide)
  have s2 : w4.cell? ⟨b1, 2, none⟩ = some (.slice none 0 0) := k1.cell (by decide)
  have s3 : w4.cell? ⟨b1, 3, none⟩ = some (.slice none 0 0) := k1.cell (by decide)
  have s4 : w4.cell? ⟨b1, 4, none⟩ = some (.slice none 0 0) := k1.cell (by decide)
  have s5 : w4.cell? ⟨b1, 5, none⟩ = some (.int .i64 0) := k1.cell (by decide)
  have z0 := k1.frozen 0
  have z1 := k1.frozen 1
  have z2 := k1.frozen 2
  have z3 := k1.frozen 3
  have z4 := k1.frozen 4
  have z5 := k1.frozen 5
  have t0 : w4.cell? ⟨b2, 0, none⟩ = some (.int .i64 c.id) := k2.cell (by decide)
  have t1 : w4.cell? ⟨b2, 1, none⟩ = some (.string ⟨c.sub.toArray⟩) := k2.cell (by decide)
  have t2 : w4.cell? ⟨b2, 2, none⟩ = some (.slice p'.a2 c.scp.length p'.c2) := k2.cell (by decide)
  have t3 : w4.cell? ⟨b2, 3, none⟩ = some (.slice p'.a3 c.aud.length p'.c3) := k2.cell (by decide)
  have t4 : w4.cell? ⟨b2, 4, none⟩ = some (.slice p'.a4 c.act.length p'.c4) := k2.cell (by decide)
  have t5 : w4.cell? ⟨b2, 5, none⟩ = some (.int .i64 c.exp) := k2.cell (by decide)
  have u0 : w4.cell? ⟨b3, 0, none⟩ = some (.bool L.1.isSome) := k3.cell (by decide)
  clear k1 k2 k3
  go_wp2_with fail
  have hrow : Row (st6 w4 b1 c p').drew b1 60 6 (czF c p') := (st6_row (unhide HK1) c p').below (Below.refl _ _).drew (st6_row (unhide HK1) c p').lt
  have hfin : CzN (st6 w4 b1 c p').drew (New w (st6 w4 b1 c p').drew) c p' ∧ Below w.heap.size w (st6 w4 b1 c p').drew := by
    obtain ⟨h1, h2, hh3, h3⟩ := unhide HBB
    have b6 := (st6_but w4 b1 c p').drew
    generalize (st6 w4 b1 c p').drew = w5 at b6 ⊢
    exact ⟨(unhide HN).1.keep (fun k hk => ⟨b6.block k (by have := hk.1; omega), by have := hk.1; omega, Nat.lt_of_lt_of_eq hk.2 b6.size.symm⟩), (unhide HN).2.trans (b6.below (by omega))⟩
  have HR := hide hrow
  have HF := hide hfin
  clear hrow hfin HN HBB HK1
  go_region
  go_wp2_with fail
  refine ret_look Tryz.results32 (unhide HR) rfl rfl ?_
  exact ⟨p', by rw [unhide HC]; rfl, by rw [unhide HC]; exact (unhide HF).1, (unhide HF).2⟩
end Go.Proofs.YtkmkkmdpjliifaaGreatDoor
