import Derived.Test.YtkmkkmdpjliifaaDoorTxZ
import Derived.Test.YtkmkkmdpjliifaaDoorUxG
namespace Go.Proofs.YtkmkkmdpjliifaaDoor
open Go.ChangeShapes Go.WideShapes Go.ChangeAt Go.RowKit

theorem Pack_any (l : List UInt8) (w : World) (hl : l.length ≤ 1048576) :
    Calls Tryd.prog 9 #[.string ⟨l.toArray⟩] w fun e w' => e = .returned (.string ⟨(packL l).toArray⟩) ∧ Below w.heap.size w w' := by
  go_enter Tryd.func9, Tryd.ntmps9
  go_wp2_with fail
  refine (packP_any l _ hl).mono ?_
  rintro e w1 ⟨rfl, hb1⟩
  go_wp2
  go_ret
  exact ⟨rfl, hb1⟩
theorem Unpack_any (s : List UInt8) (w : World) (hl : s.length ≤ 1048576) :
    Calls Tryd.prog 11 #[.string ⟨s.toArray⟩] w fun e w' => e = .returned (.tuple #[.string ⟨(uO s).toArray⟩, .int .i64 (uE s)]) ∧ Below w.heap.size w w' := by
  go_enter Tryd.func11, Tryd.ntmps11
  go_wp2_with fail
  refine (unpackP_any s _ hl).mono ?_
  rintro e w1 ⟨rfl, hb1⟩
  go_wp2
  go_ret2
  exact ⟨rfl, hb1⟩

set_option maxRecDepth 20000 in
set_option maxHeartbeats 1000000 in
theorem Texts_any (key text packed : List UInt8) (w : World) (hk : key.length ≤ 1048576) (ht : text.length ≤ 1048576) (hp : packed.length ≤ 1048576) (h0 : 0 < w.heap.size) (hK : Rd w 0 0 64 (fun j => .int .u32 (wi (K0 j)))) :
    Calls Tryd.prog 3 #[.string ⟨key.toArray⟩, .string ⟨text.toArray⟩, .string ⟨packed.toArray⟩] w fun e w' => e = .returned (.bool true) ∧ Below w.heap.size w w' := by
  have HT : Hid (key.length ≤ 1048576 ∧ text.length ≤ 1048576 ∧ packed.length ≤ 1048576) := ⟨hk, ht, hp⟩
  clear hk ht hp
  go_enter Tryd.func3, Tryd.ntmps3
  go_wp2_with fail
  refine (made_any _).mono ?_
  rintro e w1 ⟨gH, gK, cH, cK, rfl, hgH, hgK, hCH, hCK, hb1⟩
  have hs1 := hb1.size
  go_wp2_with fail
  refine (Mac_any key text _ (by have := HT.out; omega) (by have := HT.out; omega) (by simp) ((hK.below hb1 h0).alloc (by omega) _)).mono ?_
  rintro e w2 ⟨rfl, hb2⟩
  obtain ⟨wa, hwa⟩ : ∃ wa, wa = w1.alloc (.cells #[.slice (some ⟨gH, 0, none⟩) 8 cH, .slice (some ⟨gK, 0, none⟩) 64 cK] 24) := ⟨_, rfl⟩
  rw [← hwa] at hb2
  have hCHa : Cel wa gH 0 8 (fun j => .int .i64 (wi (H0 j))) := by rw [hwa]; exact hCH.alloc hgH _
  have hCKa : Cel wa gK 0 64 (fun j => .int .i64 (wi (K0 j))) := by rw [hwa]; exact hCK.alloc hgK _
  have hsa : wa.heap.size = w1.heap.size + 1 := by rw [hwa]; simp
  have hx0a : wa.cell? ⟨w1.heap.size, 0, none⟩ = some (.slice (some ⟨gH, 0, none⟩) 8 cH) := by rw [hwa]; simp
  have hx1a : wa.cell? ⟨w1.heap.size, 1, none⟩ = some (.slice (some ⟨gK, 0, none⟩) 64 cK) := by rw [hwa]; simp
  have hBa : Below w.heap.size w wa := by rw [hwa]; exact hb1.alloc hs1 _
  clear hwa hCH hCK hb1
  have hs2 := hb2.size
  have hCH2 := hCHa.below hb2 (by omega)
  have hCK2 := hCKa.below hb2 (by omega)
  have hx02 := (hb2.cell (p := ⟨w1.heap.size, 0, none⟩) (by show w1.heap.size < wa.heap.size; omega)).trans hx0a
  have hx12 := (hb2.cell (p := ⟨w1.heap.size, 1, none⟩) (by show w1.heap.size < wa.heap.size; omega)).trans hx1a
  have hB2 := hBa.trans (hb2.mono (by omega))
  clear hCHa hCKa hx0a hx1a hBa hb2
  generalize hF : shaF K0 H0 (tk (keyL K0 H0 key) 92 ++ shaL K0 H0 (tk (keyL K0 H0 key) 54 ++ text)) = F
  have HF := hide hF
  clear hF
  go_wp2_with (refine stRow rfl 26 _ _ rfl rfl rfl (Row.new w2 26 (Array.replicate 32 (.int .u8 0)) (fun _ => .int .u8 0) 32 (by simp) (fun j hj => by simp [hj])) sz26 (fun _ _ => rfl) ?_; intro w3 hM hg3; have hx03 := hg3.cell ((((Below.refl w2.heap.size w2).alloc (Nat.le_refl _) _).cell (p := ⟨w1.heap.size, 0, none⟩) (by show w1.heap.size < w2.heap.size; omega)).trans hx02) (by simp; omega); have hx13 := hg3.cell ((((Below.refl w2.heap.size w2).alloc (Nat.le_refl _) _).cell (p := ⟨w1.heap.size, 1, none⟩) (by show w1.heap.size < w2.heap.size; omega)).trans hx12) (by simp; omega))
  have hs3 := hg3.size
  simp at hs3
  have hCH3 := (hCH2.alloc (by omega) _).grown (by simp; omega) hg3 (by simp; omega)
  have hCK3 := (hCK2.alloc (by omega) _).grown (by simp; omega) hg3 (by simp; omega)
  have hB3 := (hB2.alloc (by omega) _).grown hg3 (by simp; omega) (fun k hk => by cases hk; omega)
  clear hCH2 hCK2 hx02 hx12 hB2 hg3 hx03 hx13
  refine (macR_any K0 H0 key text gH gK cH cK _ (by have := HT.out; omega) (by have := HT.out; omega) (by omega) (by omega) hCH3 hCK3).mono ?_
  rintro e w4 ⟨rfl, hb4⟩
  have hs4 := hb4.size
  have hM4 := hM.below hb4 hM.lt
  have hB4 := hB3.trans (hb4.mono (by omega))
  clear hM hB3 hb4 hCH3 hCK3
  go_wp2_with fail
  refine (Pack_any text _ HT.out.2.1).mono ?_
  rintro e w5 ⟨rfl, hb5⟩
  have hs5 := hb5.size
  have hM5 := hM4.below hb5 hM4.lt
  have hB5 := hB4.trans (hb5.mono (by omega))
  clear hM4 hB4 hb5
  go_wp2_with fail
  refine (packR_any text _ HT.out.2.1).mono ?_
  rintro e w6 ⟨rfl, hb6⟩
  have hs6 := hb6.size
  have hM6 := hM5.below hb6 hM5.lt
  have hB6 := hB5.trans (hb6.mono (by omega))
  clear hM5 hB5 hb6
  go_wp2_with fail
  refine (Unpack_any packed _ HT.out.2.2).mono ?_
  rintro e w7 ⟨rfl, hb7⟩
  have hs7 := hb7.size
  have hM7 := hM6.below hb7 hM6.lt
  have hB7 := hB6.trans (hb7.mono (by omega))
  clear hM6 hB6 hb7
  go_wp2_with fail
  refine (unpackR_any packed _ HT.out.2.2).mono ?_
  rintro e w8 ⟨rfl, hb8⟩
  have hs8 := hb8.size
  have hM8 := hM7.below hb8 hM7.lt
  have hB8 := hB7.trans (hb8.mono (by omega))
  clear hM7 hB7 hb8
  have hcv := conv8 (w := w8) w2.heap.size 0 32 32 F (fun i hi => by rw [Nat.zero_add]; exact hM8.cell hi)
  have hmac : macL K0 H0 key text = bs 32 F := by unfold macL; rw [show ∀ x, shaL K0 H0 x = bs 32 (shaF K0 H0 x) from fun _ => rfl, unhide HF]
  rw [hmac]
  clear hmac
  generalize packL text = pt
  generalize uO packed = uo
  generalize uE packed = ue
  generalize bs 32 F = bf32 at hcv ⊢
  go_wp2
  go_ret
  exact ⟨rfl, hB8⟩
end Go.Proofs.YtkmkkmdpjliifaaDoor
