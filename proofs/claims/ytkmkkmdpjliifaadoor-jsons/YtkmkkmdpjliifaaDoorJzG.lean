import Derived.Test.YtkmkkmdpjliifaaDoorJzE
import Derived.Test.YtkmkkmdpjliifaaDoorJxT
import Derived.Lib.MapLaws
import Derived.Lib.TrimU
import Derived.Deep.RegionHeld3
namespace Go.Proofs.YtkmkkmdpjliifaaDoor
open Go.ChangeShapes Go.WideShapes Go.ChangeAt Go.RowKit

theorem encB_rune {x : Nat} (h : x < 1114112) (hs : x < 55296 ∨ 57344 ≤ x) : Lib.encodeRune (x : Int) = encB x := by
  unfold Lib.encodeRune encB
  by_cases h1 : x < 128
  · rw [if_pos h1, Lib.encodeRuneZ_one (by omega) (by omega)]
    simp
  rw [if_neg h1]
  by_cases h2 : x < 2048
  · rw [if_pos h2, Lib.encodeRuneZ_two (by omega) (by omega)]
    simp only [List.map_cons, List.map_nil]
    rw [show (192 + (x : Int) / 64).toNat = 192 + x / 64 by omega, show (128 + (x : Int) % 64).toNat = 128 + x % 64 by omega]
  rw [if_neg h2]
  by_cases h3 : x < 65536
  · rw [if_pos h3, Lib.encodeRuneZ_three (by omega)]
    simp only [List.map_cons, List.map_nil]
    rw [show (224 + (x : Int) / 4096).toNat = 224 + x / 4096 by omega, show (128 + (x : Int) / 64 % 64).toNat = 128 + x / 64 % 64 by omega, show (128 + (x : Int) % 64).toNat = 128 + x % 64 by omega]
  rw [if_neg h3, Lib.encodeRuneZ_four (by omega) (by omega)]
  simp only [List.map_cons, List.map_nil]
  rw [show (240 + (x : Int) / 262144).toNat = 240 + x / 262144 by omega, show (128 + (x : Int) / 4096 % 64).toNat = 128 + x / 4096 % 64 by omega, show (128 + (x : Int) / 64 % 64).toNat = 128 + x / 64 % 64 by omega, show (128 + (x : Int) % 64).toNat = 128 + x % 64 by omega]
theorem pieceS_plain {c : UInt8} {t : List UInt8} (h : ¬ c = 92) : pieceS (c :: t) = if c.toNat < 32 then none else if fN (c :: t) = 0 then none else some ((c :: t).take (fN (c :: t)), (c :: t).drop (fN (c :: t))) := by
  rw [pieceS]
  by_cases h1 : c.toNat < 32
  · rw [if_pos h1, if_pos h1]
  · rw [if_neg h1, if_neg h1, if_neg h]
/-- what the reading of a piece of a string comes to -/
def PieR (g : Nat) (T : List UInt8) (o : Option (List UInt8 × List UInt8)) (w : World) (e : Ending) (w' : World) : Prop :=
  ∃ (x : Nat) (ok : Bool) (b : Nat), e = .returned (.tuple #[.int .i32 (x : Nat), .bool ok]) ∧ x < 1114112 ∧ b ≤ T.length ∧ Sc w' g T b ∧ Gr g w w' ∧ ((ok = true ∧ o = some (Lib.encodeRune (x : Int), T.drop b)) ∨ (ok = false ∧ o = none))
theorem Sc.lt {w : World} {g : Nat} {T : List UInt8} {a : Nat} (h : Sc w g T a) : g < w.heap.size := Row.lt h
theorem Sc.below {w w' : World} {g : Nat} {T : List UInt8} {a : Nat} (h : Sc w g T a) (hb : Below w.heap.size w w') : Sc w' g T a := Row.keep h (hb.block g h.lt)

set_option maxRecDepth 20000 in
set_option maxHeartbeats 2000000 in
theorem rune_any (g : Nat) (T : List UInt8) (a : Nat) (w : World) (hT : T.length ≤ 1048576) (ha : a < T.length) (hR : Sc w g T a) (hU : UT w) :
    Calls Tryd.prog 140 #[.pointer (some ⟨g, 0, none⟩)] w (PieR g T (pieceS (T.drop a)) w) := by
  have HT := hide hT
  have HU := hide hU
  have hc0 := hR.c0
  have hc1 := hR.c1
  have hix := ix_any T a ha
  have hbl : ((a : Nat) : Int) < (T.length : Int) := by omega
  have hby : by_ T a = (T.getD a 0).toNat := rfl
  rw [hby] at hix
  have hdc := drop_cons ha
  generalize T.getD a 0 = c at *
  have hcl := c.toNat_lt
  clear hT hU
  by_cases e1 : c = 92
  · subst e1
    have HPS : Hid (pieceS (T.drop a) = (escS (T.drop (a + 1))).map (fun r => (encB r.1, r.2))) := by unfold Hid; rw [hdc]; rfl
    clear hdc
    go_enter Tryd.func140, Tryd.ntmps140
    go_wp2_with fail
    go_quiet (fail)
    go_wp2_with fail
    refine (escape_any g T a _ (unhide HT) ha (hR.drewN _)).mono ?_
    rintro e w1 ⟨x, ok, b, rfl, hx, hb, hR1, hB1, hO⟩
    have HO : Hid ((ok = true ∧ pieceS (T.drop a) = some (Lib.encodeRune (x : Int), T.drop b)) ∨ (ok = false ∧ pieceS (T.drop a) = none)) := by
      unfold Hid
      rw [unhide HPS]
      rcases hO with ⟨h1, h2⟩ | ⟨h1, h2⟩
      · refine Or.inl ⟨h1, ?_⟩
        have h3 := escS_len h2
        rw [h2, encB_rune hx h3.2.2]
        rfl
      · exact Or.inr ⟨h1, by rw [h2]; rfl⟩
    clear hO
    go_wp2_with fail
    go_ret2
    exact ⟨x, ok, b, rfl, hx, hb, hR1, (Gr.refl g w).trans (Gr.ofBut ⟨hB1.os, hB1.tape, hB1.output, hB1.size, hB1.block⟩), unhide HO⟩
  · have m1 : (((c.toNat : Nat) : Int) == 92) = false := nb (n := 92) (by decide) e1
    have hdr := drop_any T a (Nat.le_of_lt ha)
    have hne : T.drop a ≠ [] := by rw [hdc]; simp
    have hsz : (ByteArray.mk (T.drop a).toArray).size ≠ 0 := by
      have : (ByteArray.mk (T.drop a).toArray).size = (T.drop a).length := by simp [ByteArray.size]
      rw [this, List.length_drop]
      omega
    have hdec : Lib.decodeGo ⟨(T.drop a).toArray⟩ = Lib.decodeL (T.drop a) := by unfold Lib.decodeGo Lib.decodeL; rw [if_neg hsz]
    have HX := hide (fun w hU => Tryd.decodeRune ⟨(T.drop a).toArray⟩ w hU)
    rw [hdec] at HX
    have hr1 := Lib.decodeL_rune (T.drop a)
    have hr2 := Lib.decodeL_le (T.drop a) hne
    have hr3 := Lib.decodeL_width (T.drop a)
    have hfn := fN_decode (T.drop a) (by rw [List.length_drop]; omega)
    have hed := Lib.encode_decode (T.drop a) hne
    have HPS : Hid (pieceS (T.drop a) = if c.toNat < 32 then none else if (Lib.decodeL (T.drop a)).1 = 65533 ∧ (Lib.decodeL (T.drop a)).2 = 1 then none else some (Lib.encodeRune ((Lib.decodeL (T.drop a)).1 : Int), T.drop (a + (Lib.decodeL (T.drop a)).2))) := by
      unfold Hid
      rw [show pieceS (T.drop a) = if c.toNat < 32 then none else if fN (T.drop a) = 0 then none else some ((T.drop a).take (fN (T.drop a)), (T.drop a).drop (fN (T.drop a))) by rw [hdc]; exact pieceS_plain e1]
      rw [hfn]
      by_cases hbad : (Lib.decodeL (T.drop a)).1 = 65533 ∧ (Lib.decodeL (T.drop a)).2 = 1
      · rw [if_pos hbad, if_pos hbad, if_pos rfl]
      · rw [if_neg hbad, if_neg hbad, if_neg (Nat.ne_of_gt hr3), hed hbad, List.drop_drop]
    rw [List.length_drop] at hr2
    clear hdec hne hsz hfn hed hdc
    generalize Lib.decodeL (T.drop a) = rs at *
    obtain ⟨r, n⟩ := rs
    simp only at HX HPS hr1 hr2 hr3
    have hw : wrap64 ((a : Int) + (n : Int)) = (a : Int) + (n : Int) := w64 _ (by omega) (by have := unhide HT; omega)
    generalize hdb : (T.drop a).toArray = DB at *
    have HDB := hide hdb
    have hgl := hR.lt
    clear hdb e1
    go_enter Tryd.func140, Tryd.ntmps140
    go_wp2_with fail
    go_quiet (fail)
    go_wp2_with fail
    go_region_held3 (fun w' => w'.cell? ⟨g, 0, none⟩ = some (.string ⟨T.toArray⟩) ∧ w'.cell? ⟨g, 1, none⟩ = some (.int .i64 (a : Nat))) (go_keep)
      (first | (go_at_call 145; refine (unhide HX _ (by exact (unhide HU))).mono ?_; rintro e w2 ⟨rfl, hb2⟩; have k0 := (hb2.cell (p := ⟨g, 0, none⟩) (by exact hgl)).trans hc0; have k1 := (hb2.cell (p := ⟨g, 1, none⟩) (by exact hgl)).trans hc1))
    have hR2 := (hR.drewN (nq + 1)).below hb2
    have hf2 := hR2.frozen 1
    have hG2 : Gr g w w2 := (Gr.refl g w).trans (Gr.ofBelow g (w := w) ⟨hb2.os, hb2.tape, hb2.output, hb2.size, hb2.block⟩)
    have hb : a + n ≤ T.length := by omega
    have hxx : r < 1114112 := by omega
    have hR3 : Sc (w2.setCell ⟨g, 1, none⟩ (.int .i64 ((a : Int) + (n : Int)))) g T (a + n) := hR2.set1 (a + n) _ rfl
    have hG3 := hG2.setCell 1 (.int .i64 ((a : Int) + (n : Int)))
    have hcs : (((r : Int) == 65533) = false ∧ ¬ (r = 65533 ∧ n = 1)) ∨ (((r : Int) == 65533) = true ∧ ((n : Int) == 1) = false ∧ ¬ (r = 65533 ∧ n = 1)) ∨ (((r : Int) == 65533) = true ∧ ((n : Int) == 1) = true ∧ (r = 65533 ∧ n = 1)) := by
      by_cases h1 : r = 65533
      · have h1' : ((r : Int) == 65533) = true := by simp [h1]
        by_cases h2 : n = 1
        · exact Or.inr (Or.inr ⟨h1', by simp [h2], h1, h2⟩)
        · exact Or.inr (Or.inl ⟨h1', by simp only [beq_eq_false_iff_ne, ne_eq]; omega, fun h => h2 h.2⟩)
      · exact Or.inl ⟨by simp only [beq_eq_false_iff_ne, ne_eq]; omega, fun h => h1 h.1⟩
    clear hb2 hc0 hc1 hr1 hr2 hr3 hR hix hdr
    by_cases c32 : c.toNat < 32
    · have d1 : decide ((32 : Int) ≤ ((c.toNat : Nat) : Int)) = false := decide_eq_false (by omega)
      have HN : Hid (pieceS (T.drop a) = none) := by unfold Hid; rw [unhide HPS, if_pos c32]
      clear c32
      rcases hcs with ⟨b1, -⟩ | ⟨b1, b2, -⟩ | ⟨b1, b2, -⟩
      all_goals
        go_wp2_with fail
        go_ret2
        exact ⟨r, false, a + n, rfl, hxx, hb, hR3, hG3, Or.inr ⟨rfl, unhide HN⟩⟩
    · have d1 : decide ((32 : Int) ≤ ((c.toNat : Nat) : Int)) = true := decide_eq_true (by omega)
      rcases hcs with ⟨b1, b3⟩ | ⟨b1, b2, b3⟩ | ⟨b1, b2, b3⟩
      · have HN : Hid (pieceS (T.drop a) = some (Lib.encodeRune (r : Int), T.drop (a + n))) := by unfold Hid; rw [unhide HPS, if_neg c32, if_neg b3]
        clear c32 b3
        go_wp2_with fail
        go_ret2
        exact ⟨r, true, a + n, rfl, hxx, hb, hR3, hG3, Or.inl ⟨rfl, unhide HN⟩⟩
      · have HN : Hid (pieceS (T.drop a) = some (Lib.encodeRune (r : Int), T.drop (a + n))) := by unfold Hid; rw [unhide HPS, if_neg c32, if_neg b3]
        clear c32 b3
        go_wp2_with fail
        go_ret2
        exact ⟨r, true, a + n, rfl, hxx, hb, hR3, hG3, Or.inl ⟨rfl, unhide HN⟩⟩
      · have HN : Hid (pieceS (T.drop a) = none) := by unfold Hid; rw [unhide HPS, if_neg c32, if_pos b3]
        clear c32 b3
        go_wp2_with fail
        go_ret2
        exact ⟨r, false, a + n, rfl, hxx, hb, hR3, hG3, Or.inr ⟨rfl, unhide HN⟩⟩
end Go.Proofs.YtkmkkmdpjliifaaDoor
