import Derived.Test.YtkmkkmdpjliifaaDoorTxE
namespace Go.Proofs.YtkmkkmdpjliifaaDoor
open Go.ChangeShapes Go.WideShapes Go.ChangeAt Go.RowKit

theorem tR54 (l : List UInt8) (w : World) (hs : l.length = 64) :
    Calls Tryd.prog 29 #[.string ⟨l.toArray⟩, .int .i64 54] w fun e w' => e = .returned (.string ⟨(tk l 54).toArray⟩) ∧ Below w.heap.size w w' :=
  turnedR_any ⟨l.toArray⟩ 54 w hs (by decide)
theorem tR92 (l : List UInt8) (w : World) (hs : l.length = 64) :
    Calls Tryd.prog 29 #[.string ⟨l.toArray⟩, .int .i64 92] w fun e w' => e = .returned (.string ⟨(tk l 92).toArray⟩) ∧ Below w.heap.size w w' :=
  turnedR_any ⟨l.toArray⟩ 92 w hs (by decide)
theorem shaR (K H : Nat → BitVec 32) (l : List UInt8) (gH gK capH capK : Nat) (w : World)
    (hs : l.length ≤ 4194304) (hgH : gH < w.heap.size) (hgK : gK < w.heap.size)
    (hH : Cel w gH 0 8 (fun j => .int .i64 (wi (H j)))) (hK : Cel w gK 0 64 (fun j => .int .i64 (wi (K j)))) :
    Calls Tryd.prog 28 #[.agg #[.slice (some ⟨gH, 0, none⟩) 8 capH, .slice (some ⟨gK, 0, none⟩) 64 capK], .string ⟨l.toArray⟩] w fun e w' =>
      e = .returned (.string ⟨(shaL K H l).toArray⟩) ∧ Below w.heap.size w w' :=
  sha_any K H ⟨l.toArray⟩ gH gK capH capK w hs hgH hgK hH hK

/-- from the loop that lengthens the key on -/
def kz (l : List UInt8) (k : Nat) : List UInt8 := l ++ List.replicate k 0
theorem kz_length (l : List UInt8) (k : Nat) : (kz l k).length = l.length + k := by simp [kz]
theorem kz_succ (l : List UInt8) (k : Nat) : kz l k ++ [0] = kz l (k + 1) := by simp [kz, List.replicate_succ']

/-- the box of a struct of two -/
theorem box2 {w wq : World} {a b : Value} (hB : Below (w.heap.size + 1) (w.alloc (.cells #[a, b] 24)) wq) :
    wq.cell? ⟨w.heap.size, 0, none⟩ = some a ∧ wq.cell? ⟨w.heap.size, 1, none⟩ = some b ∧ w.heap.size + 1 ≤ wq.heap.size := by
  refine ⟨?_, ?_, ?_⟩
  · rw [hB.cell (p := ⟨w.heap.size, 0, none⟩) (Nat.lt_succ_self _)]; simp
  · rw [hB.cell (p := ⟨w.heap.size, 1, none⟩) (Nat.lt_succ_self _)]; simp
  · have := hB.size; simpa using this
theorem below_next {w w1 w2 : World} {B : Nat} (h : Below B w w1) (h2 : Below w1.heap.size w1 w2) (hB : B ≤ w1.heap.size) : Below B w w2 := h.trans (h2.mono hB)

set_option maxRecDepth 20000 in
set_option maxHeartbeats 1000000 in
theorem macR_any (K H : Nat → BitVec 32) (key text : List UInt8) (gH gK capH capK : Nat) (w : World)
    (hk : key.length ≤ 2097152) (ht : text.length ≤ 2097152) (hgH : gH < w.heap.size) (hgK : gK < w.heap.size)
    (hH : Cel w gH 0 8 (fun j => .int .i64 (wi (H j)))) (hK : Cel w gK 0 64 (fun j => .int .i64 (wi (K j)))) :
    Calls Tryd.prog 8 #[.agg #[.slice (some ⟨gH, 0, none⟩) 8 capH, .slice (some ⟨gK, 0, none⟩) 64 capK], .string ⟨key.toArray⟩, .string ⟨text.toArray⟩] w fun e w' =>
      e = .returned (.string ⟨(macL K H key text).toArray⟩) ∧ Below w.heap.size w w' := by
  have HT : Hid (key.length ≤ 2097152 ∧ text.length ≤ 2097152) := ⟨hk, ht⟩
  clear hk ht
  go_enter Tryd.func8, Tryd.ntmps8
  by_cases h64 : 64 < key.length
  · go_wp2_with fail
    refine (shaR K H _ gH gK capH capK _ (by have := HT.out; omega) (by simp; omega) (by simp; omega) (hH.alloc hgH _) (hK.alloc hgK _)).mono ?_
    rintro e w1 ⟨rfl, hb1⟩
    rw [show (w.alloc (.cells #[.slice (some ⟨gH, 0, none⟩) 8 capH, .slice (some ⟨gK, 0, none⟩) 64 capK] 24)).heap.size = w.heap.size + 1 by simp] at hb1
    obtain ⟨l0, hl0⟩ : ∃ l0, l0 = shaL K H key := ⟨_, rfl⟩
    rw [← hl0]
    have HL : Hid (l0 = keyL K H key ∧ l0.length ≤ 64) := by
      subst hl0; exact ⟨by unfold keyL; rw [if_pos h64], by rw [shaL_length]; omega⟩
    clear hl0
    obtain ⟨_, _, hz1⟩ := box2 hb1
    go_wp2_with fail
    go_loopg [1] (64 - l0.length) (fun q v wq => ∃ k : Nat, k + q = 64 - l0.length ∧ v = .string ⟨(kz l0 k).toArray⟩ ∧ wq = w1)
    case atStart => exact ⟨0, by omega, by simp [kz], rfl⟩
    case round =>
      obtain ⟨k, hk, rfl, rfl⟩ := hrel
      have hkl := kz_length l0 k
      by_cases hlt : l0.length + k < 64
      · have hadd := cat_any (kz l0 k) [0] _ (kz_succ l0 k) (by rw [kz_length]; omega)
        go_wp2
        go_roundg (gk - 1)
        case measure => omega
        case rel => exact ⟨k + 1, by omega, rfl, rfl⟩
      · have hk64 : (kz l0 k).length = 64 := by have := HL.out; omega
        have HK64 := hide hk64
        clear hk64
        go_wp2_with fail
        refine (tR54 _ _ (unhide HK64)).mono ?_
        rintro e w2 ⟨rfl, hb2⟩
        have hB2 := below_next hb1 hb2 hz1
        obtain ⟨_, _, hz2⟩ := box2 hB2
        go_wp2_with fail
        refine (tR92 _ _ (unhide HK64)).mono ?_
        rintro e w3 ⟨rfl, hb3⟩
        have hB3 := below_next hB2 hb3 hz2
        obtain ⟨hx0, hx1, hz3⟩ := box2 hB3
        have hadd1 := cat_any (tk (kz l0 k) 54) text _ rfl (by rw [List.length_append, tk_length]; have := HT.out; omega)
        clear hb2 hb3 hB2
        go_wp2_with fail
        refine (shaR K H _ gH gK capH capK _ (by rw [List.length_append, tk_length]; have := HT.out; omega) (by omega) (by omega) ((hH.alloc hgH _).below hB3 (by omega)) ((hK.alloc hgK _).below hB3 (by omega))).mono ?_
        rintro e w4 ⟨rfl, hb4⟩
        have hB4 := below_next hB3 hb4 hz3
        clear hx0 hx1 hadd1
        obtain ⟨hx0, hx1, hz4⟩ := box2 hB4
        have hadd2 := cat_any (tk (kz l0 k) 92) (shaL K H (tk (kz l0 k) 54 ++ text)) _ rfl (by rw [List.length_append, tk_length, shaL_length]; omega)
        go_wp2_with fail
        refine (shaR K H _ gH gK capH capK _ (by rw [List.length_append, tk_length, shaL_length]; omega) (by omega) (by omega) ((hH.alloc hgH _).below hB4 (by omega)) ((hK.alloc hgK _).below hB4 (by omega))).mono ?_
        rintro e w5 ⟨rfl, hb5⟩
        have hB5 := below_next hB4 hb5 hz4
        go_wp2
        go_ret
        refine ⟨?_, Below.trans ((Below.refl w.heap.size w).alloc (Nat.le_refl _) _) (hB5.mono (by omega))⟩
        have e1 := HL.out.1
        unfold macL
        rw [← e1, ← tk_zeros l0 k, ← tk_zeros l0 k]
        rfl
  · have HL : Hid (key = keyL K H key ∧ key.length ≤ 64) := ⟨by unfold keyL; rw [if_neg h64], by omega⟩
    have hb1 := Below.refl (w.heap.size + 1) (w.alloc (.cells #[.slice (some ⟨gH, 0, none⟩) 8 capH, .slice (some ⟨gK, 0, none⟩) 64 capK] 24))
    obtain ⟨_, _, hz1⟩ := box2 hb1
    go_wp2_with fail
    go_loopg [1] (64 - key.length) (fun q v wq => ∃ k : Nat, k + q = 64 - key.length ∧ v = .string ⟨(kz key k).toArray⟩ ∧ wq = w.alloc (.cells #[.slice (some ⟨gH, 0, none⟩) 8 capH, .slice (some ⟨gK, 0, none⟩) 64 capK] 24))
    case atStart => exact ⟨0, by omega, by simp [kz], rfl⟩
    case round =>
      obtain ⟨k, hk, rfl, rfl⟩ := hrel
      have hkl := kz_length key k
      by_cases hlt : key.length + k < 64
      · have hadd := cat_any (kz key k) [0] _ (kz_succ key k) (by rw [kz_length]; omega)
        go_wp2
        go_roundg (gk - 1)
        case measure => omega
        case rel => exact ⟨k + 1, by omega, rfl, rfl⟩
      · have hk64 : (kz key k).length = 64 := by have := HL.out; omega
        have HK64 := hide hk64
        clear hk64
        go_wp2_with fail
        refine (tR54 _ _ (unhide HK64)).mono ?_
        rintro e w2 ⟨rfl, hb2⟩
        have hB2 := below_next hb1 hb2 hz1
        obtain ⟨_, _, hz2⟩ := box2 hB2
        go_wp2_with fail
        refine (tR92 _ _ (unhide HK64)).mono ?_
        rintro e w3 ⟨rfl, hb3⟩
        have hB3 := below_next hB2 hb3 hz2
        obtain ⟨hx0, hx1, hz3⟩ := box2 hB3
        have hadd1 := cat_any (tk (kz key k) 54) text _ rfl (by rw [List.length_append, tk_length]; have := HT.out; omega)
        clear hb2 hb3 hB2
        go_wp2_with fail
        refine (shaR K H _ gH gK capH capK _ (by rw [List.length_append, tk_length]; have := HT.out; omega) (by omega) (by omega) ((hH.alloc hgH _).below hB3 (by omega)) ((hK.alloc hgK _).below hB3 (by omega))).mono ?_
        rintro e w4 ⟨rfl, hb4⟩
        have hB4 := below_next hB3 hb4 hz3
        clear hx0 hx1 hadd1
        obtain ⟨hx0, hx1, hz4⟩ := box2 hB4
        have hadd2 := cat_any (tk (kz key k) 92) (shaL K H (tk (kz key k) 54 ++ text)) _ rfl (by rw [List.length_append, tk_length, shaL_length]; omega)
        go_wp2_with fail
        refine (shaR K H _ gH gK capH capK _ (by rw [List.length_append, tk_length, shaL_length]; omega) (by omega) (by omega) ((hH.alloc hgH _).below hB4 (by omega)) ((hK.alloc hgK _).below hB4 (by omega))).mono ?_
        rintro e w5 ⟨rfl, hb5⟩
        have hB5 := below_next hB4 hb5 hz4
        go_wp2
        go_ret
        refine ⟨?_, Below.trans ((Below.refl w.heap.size w).alloc (Nat.le_refl _) _) (hB5.mono (by omega))⟩
        have e1 := HL.out.1
        unfold macL
        rw [← e1, ← tk_zeros key k, ← tk_zeros key k]
        rfl
end Go.Proofs.YtkmkkmdpjliifaaDoor
