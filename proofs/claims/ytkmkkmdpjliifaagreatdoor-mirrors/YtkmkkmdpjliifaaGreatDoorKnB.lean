import Derived.Test.YtkmkkmdpjliifaaGreatDoorPlB
import Derived.Test.YtkmkkmdpjliifaaGreatDoorExG
import Derived.Test.YtkmkkmdpjliifaaGreatDoorNxE
import Derived.Deep.Strs
import Derived.Deep.SlicePairs
import Derived.SizedLaws
import Derived.ProofKit
import Derived.OpenShut
namespace Go.Proofs.YtkmkkmdpjliifaaGreatDoor
open Go.ChangeShapes Go.WideShapes Go.ChangeAt Go.RowKit

/-- the tables, all of them below block B -/
structure TT (B : Nat) (w : World) : Prop where
  ut : UT w
  pt : PT B w
  kt : KT w
  mx : MX w
  b4 : 4 < B
theorem TT.below {B : Nat} {w w' : World} (h : TT B w) (hb : Below B w w') : TT B w' := ⟨h.ut.below (by have := h.b4; omega) hb, h.pt.on hb, h.kt.below (by have := h.b4; omega) hb, h.mx.below h.b4 hb, h.b4⟩
theorem TT.tb {B s : Nat} {w : World} (h : TT B w) (hs : B ≤ s) : Tb s w := ⟨h.ut, PT.up h.pt hs, h.kt, by have := h.b4; omega⟩
theorem Sb.sv {w : World} {s R O : Nat} {vk vs : Value} {ks : List Ky} {cs : List Cl} {Qs : List Nat} (h : Sb w s R O vk vs ks cs Qs) (hr : Row w s 132 4 (seF 0 R O (.slice none 0 0))) : Sv w s R O 0 vk vs (.slice none 0 0) ks cs Qs [] :=
  ⟨h, hr, World.ownsRow_nil _ _ _ _, fun _ hi => absurd hi (Nat.not_lt_zero _), fun _ hi => absurd hi (Nat.not_lt_zero _), fun _ hi => absurd hi (Nat.not_lt_zero _), fun _ hi => absurd hi (Nat.not_lt_zero _), fun _ hi => absurd hi (Nat.not_lt_zero _), fun _ hi => absurd hi (Nat.not_lt_zero _), fun _ hi => absurd hi (Nat.not_lt_zero _), fun _ _ hi => absurd hi (Nat.not_lt_zero _), fun _ hi => absurd hi (Nat.not_lt_zero _), Nat.zero_le _⟩

theorem tok_len {k : Ky} {T : List UInt8} (hk : k.name.length ≤ 16) (hT : T.length ≤ 4096) : (tokS k T).length ≤ 10000 := by
  unfold tokS signS
  simp only [List.length_append, List.length_singleton, packL_mOf, macL_length]
  unfold mOf headL
  simp only [List.length_cons, List.length_nil]
  omega
theorem tok_len0 {c : Cm} (h : rightB c.z = true) : (tokS (ks0.getD 0 default) (plainS c)).length ≤ 1048576 := by
  have h1 : (ks0.getD 0 default).name.length ≤ 16 := by decide
  have h2 := tok_len h1 (plainS_length h)
  omega
def knG1 (b : Nat) (pl : Pl) : List Gt := [⟨b, 0, none, false, knC1, pl⟩]
def knG2 (b : Nat) (pl : Pl) (b2 : Nat) (pl2 : Pl) : List Gt := [⟨b, 0, none, false, knC1, pl⟩, ⟨b2, 0, some 0, false, knC2, pl2⟩]
theorem kn_take1 (b : Nat) (pl : Pl) : takeS ks0 (knG1 b pl) 0 (tokS (ks0.getD 0 default) (plainS knC1)) = (some 0, 0) := by
  have h := take_tok (now := 0) kn_keys (k := 0) (by decide) (G := knG1 b pl) (i := 0) (by show 0 < 1; decide) rfl kn_r1
  have ha : aliveG (knG1 b pl) 0 (some 0) = true := by rfl
  rw [ha, if_pos rfl] at h
  exact h
theorem kn_take2 (b : Nat) (pl : Pl) (b2 : Nat) (pl2 : Pl) : takeS ks0 (knG2 b pl b2 pl2) 0 (tokS (ks0.getD 0 default) (plainS knC2)) = (some 1, 0) := by
  have h := take_tok (now := 0) kn_keys (k := 0) (by decide) (G := knG2 b pl b2 pl2) (i := 1) (by show 1 < 2; decide) rfl kn_r2
  have ha : aliveG (knG2 b pl b2 pl2) 0 (some 1) = true := by rfl
  rw [ha, if_pos rfl] at h
  exact h
theorem kn_act (b : Nat) (pl : Pl) : actS ks0 cs0 (knG1 b pl) 0 0 0 [] = ([], 0) := by
  unfold actS
  rw [if_pos rfl]
  rfl
theorem kn_ex (b : Nat) (pl : Pl) : exE ks0 cs0 (knG1 b pl) 0 0 0 [] [[114]] [] 100 = 0 := by
  unfold exE
  rw [kn_act]
  have h1 : narrowS ((knG1 b pl).getD 0 default).c.z (cs0.getD 0 default) [[114]] [] = ({ knC1.z with scp := [[114]], aud := [[116]] }, 0) := kn_narrow
  rw [h1]
  rfl
theorem exch_of {ks : List Ky} {cs : List Cl} {G : List Gt} {now m i : Nat} {n sec t actor : List UInt8} {t1 t2 : List (List UInt8)} {life : Int} (hl : loginK cs n sec = some m) (ht : takeS ks G now t = (some i, 0)) : exchE ks cs G now n sec t actor t1 t2 life = exE ks cs G now m i actor t1 t2 life := by
  unfold exchE
  rw [hl]
  dsimp only
  rw [ht]
theorem look_of {ks : List Ky} {cs : List Cl} {G : List Gt} {now m : Nat} {n sec t : List UInt8} {o : Option Nat} {e : Int} (hl : loginK cs n sec = some m) (ht : takeS ks G now t = (o, e)) : lookS ks cs G now n sec t = (o, 0) := by
  unfold lookS
  rw [hl]
  dsimp only
  rw [ht]
theorem kn_exch (b : Nat) (pl : Pl) : exchE ks0 cs0 (knG1 b pl) 0 [99, 48] [115, 48] (tokS (ks0.getD 0 default) (plainS knC1)) [] [[114]] [] 100 = 0 := (exch_of kn_login0 (kn_take1 b pl)).trans (kn_ex b pl)
theorem kn_exC (b : Nat) (pl : Pl) : ({ exC ks0 cs0 (knG1 b pl) 0 0 0 [] [[114]] [] 100 with id := (knG1 b pl).length + 1 } : Cm) = knC2 := by
  unfold exC
  rw [kn_act]
  have h3 : chooseL ((knG1 b pl).getD 0 default).c.scp [[114]] (cs0.getD 0 default).sc = [[114]] := by
    show chooseL knC1.scp [[114]] (cs0.getD 0 default).sc = [[114]]
    decide +kernel
  have h4 : chooseL ((knG1 b pl).getD 0 default).c.aud [] (cs0.getD 0 default).tg = [[116]] := by
    show chooseL knC1.aud [] (cs0.getD 0 default).tg = [[116]]
    decide +kernel
  rw [h3, h4]
  rfl
theorem kn_look (b : Nat) (pl : Pl) (b2 : Nat) (pl2 : Pl) : lookS ks0 cs0 (knG2 b pl b2 pl2) 0 [99, 51] [115, 51] (tokS (ks0.getD 0 default) (plainS knC2)) = (some 1, 0) := look_of kn_login3 (kn_take2 b pl b2 pl2)

set_option maxRecDepth 20000 in
set_option maxHeartbeats 4000000 in
theorem known_any (w : World) (hT : TT w.heap.size w) :
    Calls Tryz.prog 15 #[] w fun e w' => e = .returned (.bool true) ∧ Below w.heap.size w w' := by
  have HT := hide hT
  clear hT
  go_enter Tryz.func15, Tryz.ntmps15
  go_wp2_with fail
  refine (Pack_any [0, 255] w (by decide)).mono ?_
  rintro e w1 ⟨rfl, hb1⟩
  rw [kn_pack]
  have hs1 := hb1.size
  go_wp2_with fail
  refine (Unpack_any [65, 80, 57] w1 (by decide)).mono ?_
  rintro e w2 ⟨rfl, hb2⟩
  rw [kn_unpE, kn_unpO]
  have hs2 := hb2.size
  have hB2 := hb1.trans (hb2.mono hs1)
  clear hb1 hb2
  obtain ⟨wa, hwa⟩ : ∃ wa, wa = w2.alloc (.cells #[.string ⟨#[114]⟩, .string ⟨#[119]⟩] 9) := ⟨_, rfl⟩
  have hba : Below w2.heap.size w2 wa := by rw [hwa]; exact (Below.refl _ _).alloc (Nat.le_refl _) _
  have hsa : wa.heap.size = w2.heap.size + 1 := by rw [hwa]; simp
  have hLsa : Ls wa wa.heap.size (.slice (some ⟨w2.heap.size, 0, none⟩) 2 2) [[114], [119]] := by
    rw [hwa]; exact allocL_ls (os := [.cells #[.string ⟨#[114]⟩, .string ⟨#[119]⟩] 9]) (i := 0) (l := [[114], [119]]) rfl (by decide)
  have hBa := hB2.trans (hba.mono (by omega))
  have hPr := PrintM_any knM.z ⟨some ⟨w2.heap.size, 0, none⟩, 2, none, 0, none, 0⟩ wa wa.heap.size (Nat.le_refl _) (right_czs kn_right) ⟨hLsa, Ls.nil0 _ _, Ls.nil0 _ _⟩ ((unhide HT).below hBa).ut (PT.up ((unhide HT).below hBa).pt (by omega))
  have HPr := hide hPr
  have HWA := hide hwa
  have HBa := hide hBa
  clear hPr hwa hba hBa hLsa hB2
  go_wp2_with fail
  rw [← unhide HWA]
  refine (unhide HPr).mono ?_
  rintro e w3 ⟨hp3, hb3⟩
  obtain rfl := hp3.right kn_right
  rw [kn_plain]
  have hs3 := hb3.size
  have hB3 := (unhide HBa).trans (hb3.mono (by omega))
  have HB3 := hide hB3
  clear HPr HWA HBa hp3 hb3
  go_wp2_with fail
  refine (Mac_any keyT foxT w3 (by decide) (by decide) (by have := (unhide HT).b4; omega) ((unhide HT).below hB3).kt).mono ?_
  rintro e w4 ⟨rfl, hb4⟩
  have hs4 := hb4.size
  have HB4 := hide (hB3.trans (hb4.mono (by omega)))
  clear hb4 hB3 HB3
  rw [show tk (keyL K0 H0 keyT) 92 ++ shaL K0 H0 (tk (keyL K0 H0 keyT) 54 ++ foxT) = macX from rfl]
  obtain ⟨F0, F1, F2, F3⟩ := kn_mac
  generalize shaF K0 H0 macX = F at *
  obtain ⟨wm, hwm⟩ : ∃ wm, wm = w4.alloc (.cells (Array.replicate 32 (.int .u8 0)) 105) := ⟨_, rfl⟩
  have hm0 : Row wm w4.heap.size 105 32 (fun _ => .int .u8 0) := by rw [hwm]; exact Row.new w4 105 (Array.replicate 32 (.int .u8 0)) (fun _ => .int .u8 0) 32 (by simp) (fun j hj => by simp [hj])
  have hbm : Below w4.heap.size w4 wm := by rw [hwm]; exact (Below.refl _ _).alloc (Nat.le_refl _) _
  have hsm : wm.heap.size = w4.heap.size + 1 := by rw [hwm]; simp
  rw [z32] at hwm
  go_wp2_with (rw [← hwm]; refine stRow rfl 105 _ _ rfl rfl rfl hm0 sz105 (fun _ _ => rfl) ?_; intro w5 hM hg5)
  have hb5 : Below w4.heap.size w4 w5 := hbm.grown hg5 (by omega) (fun k hk => by cases hk; exact Nat.le_refl _)
  have hs5 := hb5.size
  have hgm := hM.lt
  have HM := hide hM
  have hB5 := (unhide HB4).trans (hb5.mono (by omega))
  have HF := hide (And.intro F0 (And.intro F1 (And.intro F2 F3)))
  have HSv := hide (server_any w5 ((unhide HT).below hB5).ut)
  have HB5 := hide hB5
  clear hb5 hbm hm0 hwm hg5 hM hB5 HB4 F0 F1 F2 F3
  refine (unhide HSv).mono ?_
  rintro e w6 ⟨hb6, s, R, O, vk, vs, Qs, rfl, hle, hsz, hSb, hRs⟩
  have hS6 := hSb.sv hRs
  have hB6 := (unhide HB5).trans (hb6.mono (by omega))
  have HM6 := hide ((unhide HM).below hb6 hgm)
  have HS6 := hide hS6
  have HB6 := hide hB6
  have hs6 := hb6.size
  clear hSb hRs hS6 hB6 hb6 HSv HM HB5
  go_wp2_with fail
  refine (login_any 0 (by decide) w6).mono ?_
  rintro e w7 ⟨rfl, hb7⟩
  have hs7 := hb7.size
  rw [show UInt8.ofNat (48 + 0) = 48 from rfl]
  have hB7 := (unhide HB6).trans (hb7.mono (by omega))
  obtain ⟨w8, hw8⟩ : ∃ w8, w8 = allocL w7 [.cells #[.string ⟨#[114]⟩, .string ⟨#[119]⟩] 9, .cells #[.string ⟨#[116]⟩] 9] := ⟨_, rfl⟩
  have hb78 : Below w7.heap.size w7 w8 := by rw [hw8]; exact allocL_below _ _
  have hs8 : w8.heap.size = w7.heap.size + 2 := by rw [hw8, allocL_size]; rfl
  have hB8 := hB7.trans (hb78.mono (by omega))
  have hb68 := hb7.trans (hb78.mono hs7)
  have HCo := hide (Consent_any [99, 48] [115, 48] [97, 110, 110] (.slice (some ⟨w7.heap.size, 0, none⟩) 2 2) (.slice (some ⟨w7.heap.size + 1, 0, none⟩) 1 1) [[114], [119]] [[116]] 10 w8 s R O 0 vk vs (.slice none 0 0) ks0 cs0 Qs [] ((unhide HS6).below hb68) (((unhide HT).below hB8).tb (by omega)) (by decide) (by decide) (by decide) (by decide) (few_fits (by decide)) (few_fits (by decide)) (by rw [hw8]; exact allocL_ls (i := 0) (l := [[114], [119]]) rfl (by decide)) (by rw [hw8]; exact allocL_ls (i := 1) (l := [[116]]) rfl (by decide)))
  have HW8 : Hid (w8 = (w7.alloc (.cells #[.string ⟨#[114]⟩, .string ⟨#[119]⟩] 9)).alloc (.cells #[.string ⟨#[116]⟩] 9)) := hw8
  have HM8 := hide ((unhide HM6).below hb68 (by omega))
  have HB8 := hide hB8
  clear hw8 hb78 hB7 hB8 hb68 hb7 HS6 HB6 HM6
  go_wp2_with fail
  rw [← unhide HW8]
  refine (unhide HCo).mono ?_
  rintro e w9 (⟨h1, _⟩ | ⟨_, m, hm, rfl, hg⟩)
  · exact absurd kn_cons h1
  rw [kn_login0] at hm
  obtain rfl := Option.some.inj hm
  obtain ⟨vg1, b1, pl1, hS9, hb9, hf9, _⟩ := hg
  have hS9' : Sv w9 s R O 0 vk vs vg1 ks0 cs0 Qs (knG1 b1 pl1) := hS9
  rw [show ({ firstC [97, 110, 110] [[114], [119]] [[116]] (0 + (10 : Int).toNat) with id := ([] : List Gt).length + 1 } : Cm) = knC1 from rfl]
  have hws : w.heap.size ≤ s := by omega
  have hs9 := hb9.size
  have hB9 := (unhide HB8).trans (hb9.mono hws)
  have HS9 := hide hS9'
  have HB9 := hide hB9
  have HM9 := hide ((unhide HM8).below hb9 (by omega))
  have HX1 := hide (kn_exch b1 pl1)
  have HL1 := hide (tok_len0 kn_r1)
  generalize tokS (ks0.getD 0 default) (plainS knC1) = tok1 at *
  clear hS9 hS9' hb9 hf9 hB9 HCo HW8 HB8 HM8 hm
  go_wp2_with fail
  refine (login_any 0 (by decide) w9).mono ?_
  rintro e wA ⟨rfl, hbA⟩
  have hsA := hbA.size
  rw [show UInt8.ofNat (48 + 0) = 48 from rfl]
  obtain ⟨wB, hwB⟩ : ∃ wB, wB = allocL wA [.cells #[.string ⟨#[114]⟩] 9] := ⟨_, rfl⟩
  have hbB : Below wA.heap.size wA wB := by rw [hwB]; exact allocL_below _ _
  have hsB : wB.heap.size = wA.heap.size + 1 := by rw [hwB, allocL_size]; rfl
  have hb9B := hbA.trans (hbB.mono hsA)
  have hBB := (unhide HB9).trans (hb9B.mono (by omega))
  have HEx := hide (Exchange_any [99, 48] [115, 48] tok1 [] (.slice (some ⟨wA.heap.size, 0, none⟩) 1 1) (.slice none 0 0) [[114]] [] 100 wB s R O 0 vk vs vg1 ks0 cs0 Qs (knG1 b1 pl1) ((unhide HS9).below hb9B) (((unhide HT).below hBB).tb hws) ((unhide HT).below hBB).mx (by have := (unhide HT).b4; omega) (by decide) (unhide HL1) (by decide) (by decide) (by decide) (few_fits (by decide)) (few_fits (by decide)) (by rw [hwB]; exact allocL_ls (i := 0) (l := [[114]]) rfl (by decide)) (Ls.nil0 _ _))
  have HWB : Hid (wB = wA.alloc (.cells #[.string ⟨#[114]⟩] 9)) := hwB
  have HMB := hide ((unhide HM9).below hb9B (by omega))
  have HBB := hide hBB
  clear hwB hbB hbA hb9B hBB HS9 HB9 HM9 HL1
  go_wp2_with fail
  rw [← unhide HWB]
  refine (unhide HEx).mono ?_
  rintro e wC (⟨h1, _⟩ | ⟨_, m, i, hm, ht, hi, rfl, hg⟩)
  · exact absurd (unhide HX1) h1
  rw [kn_login0] at hm
  obtain rfl := Option.some.inj hm
  have hi0 : i = 0 := by have : i < 1 := hi; omega
  subst hi0
  rw [kn_exC]
  obtain ⟨vg2, b2, pl2, hSC, hbC, hfC, _⟩ := hg
  rw [kn_exC] at hSC
  have hSC' : Sv wC s R O 0 vk vs vg2 ks0 cs0 Qs (knG2 b1 pl1 b2 pl2) := hSC
  have hsC := hbC.size
  have hBC := (unhide HBB).trans (hbC.mono hws)
  have HSC := hide hSC'
  have HBC := hide hBC
  have HMC := hide ((unhide HMB).below hbC (by omega))
  have HX2 := hide (kn_look b1 pl1 b2 pl2)
  have HL2 := hide (tok_len0 kn_r2)
  generalize tokS (ks0.getD 0 default) (plainS knC2) = tok2 at *
  clear hSC hSC' hbC hfC hBC HEx HWB HBB HMB hm ht hi HX1
  go_wp2_with fail
  refine (login_any 3 (by decide) wC).mono ?_
  rintro e wD ⟨rfl, hbD⟩
  have hsD := hbD.size
  rw [show UInt8.ofNat (48 + 3) = 51 from rfl]
  have hBD := (unhide HBC).trans (hbD.mono (by omega))
  have hLk := Look_any [99, 51] [115, 51] tok2 wD s R O 0 vk vs vg2 ks0 cs0 Qs (knG2 b1 pl1 b2 pl2) ((unhide HSC).below hbD) (((unhide HT).below hBD).tb hws) ((unhide HT).below hBD).mx (by have := (unhide HT).b4; omega) (unhide HL2)
  rw [unhide HX2] at hLk
  have hLk' : Calls Tryz.prog 32 #[.pointer (some ⟨s, 0, none⟩), .agg #[.string ⟨#[99, 51]⟩, .string ⟨#[115, 51]⟩], .string ⟨tok2.toArray⟩] wD fun e w' => ∃ p', e = .returned (.tuple #[.agg #[.int .i64 2, .string ⟨#[97, 110, 110]⟩, .slice p'.a2 1 p'.c2, .slice p'.a3 1 p'.c3, .slice p'.a4 0 p'.c4, .int .i64 10], .bool true, .int .i64 0]) ∧ CzN w' (New wD w') knC2.z p' ∧ Below wD.heap.size wD w' := hLk
  have HLk := hide hLk'
  have HMD := hide ((unhide HMC).below hbD (by omega))
  have HBD := hide hBD
  clear hLk hLk' hbD hBD HBC HMC HX2 HL2 HSC
  go_wp2_with fail
  refine (unhide HLk).mono ?_
  rintro e wE ⟨pE, rfl, hNE, hbE⟩
  have hsE := hbE.size
  have HBE := hide ((unhide HBD).trans (hbE.mono (by omega)))
  have HME := hide ((unhide HMD).below hbE (by omega))
  have HNE := hide hNE
  clear hNE hbE HBD HMD HLk
  obtain ⟨wF, hwF⟩ : ∃ wF, wF = allocL wE [.cells #[.int .i64 2, .string ⟨#[97, 110, 110]⟩, .slice pE.a2 1 pE.c2, .slice pE.a3 1 pE.c3, .slice pE.a4 0 pE.c4, .int .i64 10] 60, .cells #[.string ⟨#[114]⟩] 9, .cells #[.string ⟨#[116]⟩] 9, .cells #[.int .i64 2, .string ⟨#[97, 110, 110]⟩, .slice (some ⟨wE.heap.size + 1, 0, none⟩) 1 1, .slice (some ⟨wE.heap.size + 1 + 1, 0, none⟩) 1 1, .slice none 0 0, .int .i64 10] 60] := ⟨_, rfl⟩
  have hbF : Below wE.heap.size wE wF := by rw [hwF]; exact allocL_below _ _
  have hsF : wF.heap.size = wE.heap.size + 4 := by rw [hwF, allocL_size]; rfl
  have hLs2 : Ls wF wF.heap.size (.slice (some ⟨wE.heap.size + 1, 0, none⟩) 1 1) [[114]] := by rw [hwF]; exact allocL_ls (i := 1) (l := [[114]]) rfl (by simp)
  have hLs3 : Ls wF wF.heap.size (.slice (some ⟨wE.heap.size + 1 + 1, 0, none⟩) 1 1) [[116]] := by rw [hwF]; exact allocL_ls (i := 2) (l := [[116]]) rfl (by simp)
  have hAl := alike_any knC2.z knC2.z pE ⟨some ⟨wE.heap.size + 1, 0, none⟩, 1, some ⟨wE.heap.size + 1 + 1, 0, none⟩, 1, none, 0⟩ wF wF.heap.size (Nat.le_refl _) (right_czs kn_r2) ((((unhide HNE).l (B := wE.heap.size) (fun k hk => hk.2)).below hbF).up (by omega)) ⟨hLs2, hLs3, Ls.nil0 _ _⟩
  rw [(sameZ_iff _ _).2 rfl] at hAl
  have HAl := hide hAl
  have HWF : Hid (wF = (((wE.alloc (.cells #[.int .i64 2, .string ⟨#[97, 110, 110]⟩, .slice pE.a2 1 pE.c2, .slice pE.a3 1 pE.c3, .slice pE.a4 0 pE.c4, .int .i64 10] 60)).alloc (.cells #[.string ⟨#[114]⟩] 9)).alloc (.cells #[.string ⟨#[116]⟩] 9)).alloc (.cells #[.int .i64 2, .string ⟨#[97, 110, 110]⟩, .slice (some ⟨wE.heap.size + 1, 0, none⟩) 1 1, .slice (some ⟨wE.heap.size + 1 + 1, 0, none⟩) 1 1, .slice none 0 0, .int .i64 10] 60)) := hwF
  have HMF := hide ((unhide HME).below hbF (by omega))
  have HBF := hide ((unhide HBE).trans (hbF.mono (by omega)))
  clear hwF hbF hLs2 hLs3 hAl HME HBE HNE
  go_wp2_with fail
  rw [← unhide HWF]
  refine (unhide HAl).mono ?_
  rintro e wG ⟨rfl, hbG⟩
  have hMG := (unhide HMF).below hbG (by omega)
  obtain ⟨F0, F1, F2, F3⟩ := unhide HF
  have m0 : wG.cell? ⟨w4.heap.size, 0, none⟩ = some (.int .u8 247) := by have h := hMG.cell (j := 0) (by decide); unfold bf at h; rw [F0] at h; exact h
  have m1 : wG.cell? ⟨w4.heap.size, 1, none⟩ = some (.int .u8 188) := by have h := hMG.cell (j := 1) (by decide); unfold bf at h; rw [F1] at h; exact h
  have m2 : wG.cell? ⟨w4.heap.size, 2, none⟩ = some (.int .u8 131) := by have h := hMG.cell (j := 2) (by decide); unfold bf at h; rw [F2] at h; exact h
  have m3 : wG.cell? ⟨w4.heap.size, 3, none⟩ = some (.int .u8 244) := by have h := hMG.cell (j := 3) (by decide); unfold bf at h; rw [F3] at h; exact h
  have HBG := hide ((unhide HBF).trans (hbG.mono (by omega)))
  clear hbG hMG F0 F1 F2 F3 HF HMF HBF HAl HWF
  go_wp2_with fail
  go_ret
  exact ⟨rfl, unhide HBG⟩
end Go.Proofs.YtkmkkmdpjliifaaGreatDoor
namespace Go.Proofs.YtkmkkmdpjliifaaGreatDoor
open Go.ChangeShapes Go.WideShapes Go.ChangeAt Go.RowKit

end Go.Proofs.YtkmkkmdpjliifaaGreatDoor
namespace Go.Proofs.YtkmkkmdpjliifaaGreatDoor
open Go.ChangeShapes Go.WideShapes Go.ChangeAt Go.RowKit Go.Deep

theorem getD_range {α : Type} (n : Nat) (f : Nat → α) (d : α) (i : Nat) (h : i < n) : ((List.range n).map f).getD i d = f i := by simp [List.getD, h]

section
variable {H : Type} {enc : TypeId × Value → H} {W : World}
end
end Go.Proofs.YtkmkkmdpjliifaaGreatDoor
