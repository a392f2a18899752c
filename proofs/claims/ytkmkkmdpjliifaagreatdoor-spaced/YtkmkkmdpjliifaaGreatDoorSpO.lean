import Derived.Test.YtkmkkmdpjliifaaGreatDoorSpN
namespace Go.Proofs.YtkmkkmdpjliifaaGreatDoor
open Go.ChangeShapes Go.WideShapes Go.ChangeAt Go.RowKit

set_option maxRecDepth 20000 in
set_option maxHeartbeats 4000000 in
theorem Spaced_any (id subject : Int) (v2 v3 v4 : Value) (l2 l3 l4 : List Int) (expiry order r wrong : Int) (w : World) (hT : TT w.heap.size w) (hi : -9223372036854775808 ≤ id ∧ id ≤ 9223372036854775807) (hsj : -9223372036854775808 ≤ subject ∧ subject ≤ 9223372036854775807) (he : -9223372036854775808 ≤ expiry ∧ expiry ≤ 9223372036854775807)
    (hor : -9223372036854775808 ≤ order ∧ order ≤ 9223372036854775807) (hr : -9223372036854775808 ≤ r ∧ r ≤ 9223372036854775807) (hwr : -9223372036854775808 ≤ wrong ∧ wrong ≤ 9223372036854775807)
    (n2 : l2.length ≤ 17592186044416) (n3 : l3.length ≤ 17592186044416) (n4 : l4.length ≤ 17592186044416) (k2 : LsI w w.heap.size v2 l2) (k3 : LsI w w.heap.size v3 l3) (k4 : LsI w w.heap.size v4 l4) :
    Calls Tryz.prog 5 #[.int .i64 id, .int .i64 subject, v2, v3, v4, .int .i64 expiry, .int .i64 order, .int .i64 r, .int .i64 wrong] w fun e w' => e = .returned (.bool true) ∧ Below w.heap.size w w' := by
  have HT := hide hT
  have HCl := hide (fun (u : World) (hu : Below w.heap.size w u) => claimsK_any id subject v2 v3 v4 l2 l3 l4 expiry u w.heap.size hu.size hi hsj he n2 n3 n4 (k2.below hu) (k3.below hu) (k4.below hu))
  obtain ⟨a2, c2, rfl, x2⟩ := k2
  obtain ⟨a3, c3, rfl, x3⟩ := k3
  obtain ⟨a4, c4, rfl, x4⟩ := k4
  have hrt := rawC_right id subject l2 l3 l4 expiry
  have HE := hide (fun (g : Nat) (p1 : Pl) (u : World) (hu : Below w.heap.size w u) (hR : Row u g 60 6 (czF (rawC id subject l2 l3 l4 expiry).z p1)) (hL : CzL u g (rawC id subject l2 l3 l4 expiry).z p1) => sp_3 r order wrong g (rawC id subject l2 l3 l4 expiry) p1 (w0 := w) (w := u) (hT := hT) (hb := hu) (hr := hr) (ho := hor) (hwr := hwr) (hrt := hrt) (hR := hR) (hL := hL))
  clear hT x2 x3 x4 n2 n3 n4 hi hsj he hr hor hwr hrt
  generalize rawC id subject l2 l3 l4 expiry = cr at *
  go_enter Tryz.func5, Tryz.ntmps5
  apply wp_seq_k
  intro K0 hK0
  have HK0 := hide hK0
  clear hK0
  go_wp2_with fail
  refine unhide HK0 _ _ ?_
  clear HK0
  apply wp_seq_k
  intro K1 hK1
  have HK1 := hide hK1
  clear hK1
  go_wp2_with fail
  refine (known_any w (unhide HT)).mono ?_
  rintro e w1 ⟨rfl, hb1⟩
  have HBW := hide hb1
  clear hb1
  try dsimp only
  go_wp2_with fail
  refine unhide HK1 _ _ ?_
  clear HK1
  apply wp_seq_k
  intro K2 hK2
  have HK2 := hide hK2
  clear hK2
  go_wp2_with fail
  refine (unhide HCl w1 (unhide HBW)).mono ?_
  rintro e x1 ⟨p1, rfl, hN1, hc1⟩
  have hsx1 := hc1.size
  have hsW := (unhide HBW).size
  have hB1 := (unhide HBW).trans (hc1.mono hsW)
  obtain ⟨x2, hx2⟩ : ∃ x2, x2 = x1.alloc (.cells #[.int .i64 cr.z.id, .string ⟨cr.z.sub.toArray⟩, .slice p1.a2 cr.z.scp.length p1.c2, .slice p1.a3 cr.z.aud.length p1.c3, .slice p1.a4 cr.z.act.length p1.c4, .int .i64 cr.z.exp] 60) := ⟨_, rfl⟩
  have hb12 : Below x1.heap.size x1 x2 := by rw [hx2]; exact (Below.refl _ _).alloc (Nat.le_refl _) _
  have hR2 : Row x2 x1.heap.size 60 6 (czF cr.z p1) := by rw [hx2]; exact Row.new x1 60 _ _ 6 rfl (six rfl rfl rfl rfl rfl rfl)
  have hL1 : CzL x1 x1.heap.size cr.z p1 := hN1.l (fun k hk => hk.2)
  have HE2 := hide (unhide HE x1.heap.size p1 x2 (hB1.trans (hb12.mono (by omega))) hR2 (hL1.below hb12))
  have HX2 := hide hx2
  clear hx2 hR2 hL1 hN1 hc1 hb12 hB1 HCl hsx1 hsW HE
  unfold czA
  try dsimp only
  go_wp2_with fail
  rw [← unhide HX2]
  refine unhide HK2 _ _ ?_
  apply unhide HE2
end Go.Proofs.YtkmkkmdpjliifaaGreatDoor
