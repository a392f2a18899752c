import Derived.Test.YtkmkkmdpjliifaaGreatDoorJzE
import Derived.Lib.MapLaws
import Derived.Lib.TrimU
import Derived.Deep.RegionHeld3
namespace Go.Proofs.YtkmkkmdpjliifaaGreatDoor
open Go.ChangeShapes Go.WideShapes Go.ChangeAt Go.RowKit

theorem encB_rune {x : Nat} (h : x < 1114112) (hs : x < 55296 ∨ 57344 ≤ x) : Lib.encodeRune (x : Int) = encB x := by
  unfold Lib.encodeRune encB
  by_cases h1 : x < 128
  · rw [if_pos h1, Lib.encodeRuneZ_one (by omega) (by omega)]
    simp
  rw [if_neg h1]
  by_cases h2 : x < 2048
  · rw [if_pos h2, Lib.encodeRuneZ_two (by omega) (by omega)]
    simp only [List.map_cons, List.map_nil]
    rw [show (192 + (x : Int) / 64).toNat = 192 + x / 64 by omega, show (128 + (x : Int) % 64).toNat = 128 + x % 64 by omega]
  rw [if_neg h2]
  by_cases h3 : x < 65536
  · rw [if_pos h3, Lib.encodeRuneZ_three (by omega)]
    simp only [List.map_cons, List.map_nil]
    rw [show (224 + (x : Int) / 4096).toNat = 224 + x / 4096 by omega, show (128 + (x : Int) / 64 % 64).toNat = 128 + x / 64 % 64 by omega, show (128 + (x : Int) % 64).toNat = 128 + x % 64 by omega]
  rw [if_neg h3, Lib.encodeRuneZ_four (by omega) (by omega)]
  simp only [List.map_cons, List.map_nil]
  rw [show (240 + (x : Int) / 262144).toNat = 240 + x / 262144 by omega, show (128 + (x : Int) / 4096 % 64).toNat = 128 + x / 4096 % 64 by omega, show (128 + (x : Int) / 64 % 64).toNat = 128 + x / 64 % 64 by omega, show (128 + (x : Int) % 64).toNat = 128 + x % 64 by omega]
theorem pieceS_plain {c : UInt8} {t : List UInt8} (h : ¬ c = 92) : pieceS (c :: t) = if c.toNat < 32 then none else if fN (c :: t) = 0 then none else some ((c :: t).take (fN (c :: t)), (c :: t).drop (fN (c :: t))) := by
  rw [pieceS]
  by_cases h1 : c.toNat < 32
  · rw [if_pos h1, if_pos h1]
  · rw [if_neg h1, if_neg h1, if_neg h]
/-- what the reading of a piece of a string comes to -/
def PieR (g : Nat) (T : List UInt8) (o : Option (List UInt8 × List UInt8)) (w : World) (e : Ending) (w' : World) : Prop :=
  ∃ (x : Nat) (ok : Bool) (b : Nat), e = .returned (.tuple #[.int .i32 (x : Nat), .bool ok]) ∧ x < 1114112 ∧ b ≤ T.length ∧ Sc w' g T b ∧ Gr g w w' ∧ ((ok = true ∧ o = some (Lib.encodeRune (x : Int), T.drop b)) ∨ (ok = false ∧ o = none))
theorem Sc.lt {w : World} {g : Nat} {T : List UInt8} {a : Nat} (h : Sc w g T a) : g < w.heap.size := Row.lt h
theorem Sc.below {w w' : World} {g : Nat} {T : List UInt8} {a : Nat} (h : Sc w g T a) (hb : Below w.heap.size w w') : Sc w' g T a := Row.keep h (hb.block g h.lt)

set_option maxRecDepth 20000 in
set_option maxHeartbeats 2000000 in
theorem rune_any (g : Nat) (T : List UInt8) (a : Nat) (w : World) (hT : T.length ≤ 1048576) (ha : a < T.length) (hR : Sc w g T a) (hU : UT w) :
    Calls Tryz.prog 226 #[.pointer (some ⟨g, 0, none⟩)] w (PieR g T (pieceS (T.drop a)) w) := by
  have HT := hide hT
  have HU := hide hU
  have hc0 := hR.c0
  have hc1 := hR.c1
  have hix := ix_any T a ha
  have hbl : ((a : Nat) : Int) < (T.length : Int) := by omega
  have hby : by_ T a = (T.getD a 0).toNat := rfl
  rw [hby] at hix
  have hdc := drop_cons ha
  generalize T.getD a 0 = c at *
  have hcl := c.toNat_lt
  clear hT hU
  by_cases e1 : c = 92
  · subst e1
    have HPS : Hid (pieceS (T.drop a) = (escS (T.drop (a + 1))).map (fun r => (encB r.1, r.2))) := by unfold Hid; rw [hdc]; rfl
    clear hdc
    go_enter Tryz.func226, Tryz.ntmps226
    go_wp2_with fail
    go_quiet (fail)
    go_wp2_with fail
    refine (escape_any g T a _ (unhide HT) ha (hR.drewN _)).mono ?_
    rintro e w1 ⟨x, ok, b, rfl, hx, hb, hR1, hB1, hO⟩
    have HO : Hid ((ok = true ∧ pieceS (T.drop a) = some (Lib.encodeRune (x : Int), T.drop b)) ∨ (ok = false ∧ pieceS (T.drop a) = none)) := by
      unfold Hid
      rw [unhide HPS]
      rcases hO with ⟨h1, h2⟩ | ⟨h1, h2⟩
      · refine Or.inl ⟨h1, ?_⟩
        have h3 := escS_len h2
        rw [h2, encB_rune hx h3.2.2]
        rfl
      · exact Or.inr ⟨h1, by rw [h2]; rfl⟩
    clear hO
    go_wp2_with fail
    go_ret2
    exact ⟨x, ok, b, rfl, hx, hb, hR1, (Gr.refl g w).trans (Gr.ofBut ⟨hB1.os, hB1.tape, hB1.output, hB1.size, hB1.block⟩), unhide HO⟩
  · have m1 : (((c.toNat : Nat) : Int) == 92) = false := nb (n := 92) (by decide) e1
    have hdr := drop_any T a (Nat.le_of_lt ha)
    have hne : T.drop a ≠ [] := by rw [hdc]; simp
    have hsz : (ByteArray.mk (T.drop a).toArray).size ≠ 0 := by
      have : (ByteArray.mk (T.drop a).toArray).size = (T.drop a).length := by simp [ByteArray.size]
      rw [this, List.length_drop]
      omega
    have hdec : Lib.decodeGo ⟨(T.drop a).toArray⟩ = Lib.decodeL (T.drop a) := by unfold Lib.decodeGo Lib.decodeL; rw [if_neg hsz]
    have HX := hide (fun w (hU : UT w) => Tryz.decodeRune ⟨(T.drop a).toArray⟩ w hU.1)
    rw [hdec] at HX
    have hr1 := Lib.decodeL_rune (T.drop a)
    have hr2 := Lib.decodeL_le (T.drop a) hne
    have hr3 := Lib.decodeL_width (T.drop a)
    have hfn := fN_decode (T.drop a) (by rw [List.length_drop]; omega)
    have hed := Lib.encode_decode (T.drop a) hne
    have HPS : Hid (pieceS (T.drop a) = if c.toNat < 32 then none else if (Lib.decodeL (T.drop a)).1 = 65533 ∧ (Lib.decodeL (T.drop a)).2 = 1 then none else some (Lib.encodeRune ((Lib.decodeL (T.drop a)).1 : Int), T.drop (a + (Lib.decodeL (T.drop a)).2))) := by
      unfold Hid
      rw [show pieceS (T.drop a) = if c.toNat < 32 then none else if fN (T.drop a) = 0 then none else some ((T.drop a).take (fN (T.drop a)), (T.drop a).drop (fN (T.drop a))) by rw [hdc]; exact pieceS_plain e1]
      rw [hfn]
      by_cases hbad : (Lib.decodeL (T.drop a)).1 = 65533 ∧ (Lib.decodeL (T.drop a)).2 = 1
      · rw [if_pos hbad, if_pos hbad, if_pos rfl]
      · rw [if_neg hbad, if_neg hbad, if_neg (Nat.ne_of_gt hr3), hed hbad, List.drop_drop]
    rw [List.length_drop] at hr2
    clear hdec hne hsz hfn hed hdc
    generalize Lib.decodeL (T.drop a) = rs at *
    obtain ⟨r, n⟩ := rs
    simp only at HX HPS hr1 hr2 hr3
    have hw : wrap64 ((a : Int) + (n : Int)) = (a : Int) + (n : Int) := w64 _ (by omega) (by have := unhide HT; omega)
    generalize hdb : (T.drop a).toArray = DB at *
    have HDB := hide hdb
    have hgl := hR.lt
    clear hdb e1
    go_enter Tryz.func226, Tryz.ntmps226
    go_wp2_with fail
    go_quiet (fail)
    go_wp2_with fail
    go_region_held3 (fun w' => w'.cell? ⟨g, 0, none⟩ = some (.string ⟨T.toArray⟩) ∧ w'.cell? ⟨g, 1, none⟩ = some (.int .i64 (a : Nat))) (go_keep)
      (first | (go_at_call 236; refine (unhide HX _ (by exact (unhide HU))).mono ?_; rintro e w2 ⟨rfl, hb2⟩; have k0 := (hb2.cell (p := ⟨g, 0, none⟩) (by exact hgl)).trans hc0; have k1 := (hb2.cell (p := ⟨g, 1, none⟩) (by exact hgl)).trans hc1))
    have hR2 := (hR.drewN (nq + 1)).below hb2
    have hf2 := hR2.frozen 1
    have hG2 : Gr g w w2 := (Gr.refl g w).trans (Gr.ofBelow g (w := w) ⟨hb2.os, hb2.tape, hb2.output, hb2.size, hb2.block⟩)
    have hb : a + n ≤ T.length := by omega
    have hxx : r < 1114112 := by omega
    have hR3 : Sc (w2.setCell ⟨g, 1, none⟩ (.int .i64 ((a : Int) + (n : Int)))) g T (a + n) := hR2.set1 (a + n) _ rfl
    have hG3 := hG2.setCell 1 (.int .i64 ((a : Int) + (n : Int)))
    have hcs : (((r : Int) == 65533) = false ∧ ¬ (r = 65533 ∧ n = 1)) ∨ (((r : Int) == 65533) = true ∧ ((n : Int) == 1) = false ∧ ¬ (r = 65533 ∧ n = 1)) ∨ (((r : Int) == 65533) = true ∧ ((n : Int) == 1) = true ∧ (r = 65533 ∧ n = 1)) := by
      by_cases h1 : r = 65533
      · have h1' : ((r : Int) == 65533) = true := by simp [h1]
        by_cases h2 : n = 1
        · exact Or.inr (Or.inr ⟨h1', by simp [h2], h1, h2⟩)
        · exact Or.inr (Or.inl ⟨h1', by simp only [beq_eq_false_iff_ne, ne_eq]; omega, fun h => h2 h.2⟩)
      · exact Or.inl ⟨by simp only [beq_eq_false_iff_ne, ne_eq]; omega, fun h => h1 h.1⟩
    clear hb2 hc0 hc1 hr1 hr2 hr3 hR hix hdr
    by_cases c32 : c.toNat < 32
    · have d1 : decide ((32 : Int) ≤ ((c.toNat : Nat) : Int)) = false := decide_eq_false (by omega)
      have HN : Hid (pieceS (T.drop a) = none) := by unfold Hid; rw [unhide HPS, if_pos c32]
      clear c32
      rcases hcs with ⟨b1, -⟩ | ⟨b1, b2, -⟩ | ⟨b1, b2, -⟩
      all_goals
        go_wp2_with fail
        go_ret2
        exact ⟨r, false, a + n, rfl, hxx, hb, hR3, hG3, Or.inr ⟨rfl, unhide HN⟩⟩
    · have d1 : decide ((32 : Int) ≤ ((c.toNat : Nat) : Int)) = true := decide_eq_true (by omega)
      rcases hcs with ⟨b1, b3⟩ | ⟨b1, b2, b3⟩ | ⟨b1, b2, b3⟩
      · have HN : Hid (pieceS (T.drop a) = some (Lib.encodeRune (r : Int), T.drop (a + n))) := by unfold Hid; rw [unhide HPS, if_neg c32, if_neg b3]
        clear c32 b3
        go_wp2_with fail
        go_ret2
        exact ⟨r, true, a + n, rfl, hxx, hb, hR3, hG3, Or.inl ⟨rfl, unhide HN⟩⟩
      · have HN : Hid (pieceS (T.drop a) = some (Lib.encodeRune (r : Int), T.drop (a + n))) := by unfold Hid; rw [unhide HPS, if_neg c32, if_neg b3]
        clear c32 b3
        go_wp2_with fail
        go_ret2
        exact ⟨r, true, a + n, rfl, hxx, hb, hR3, hG3, Or.inl ⟨rfl, unhide HN⟩⟩
      · have HN : Hid (pieceS (T.drop a) = none) := by unfold Hid; rw [unhide HPS, if_neg c32, if_pos b3]
        clear c32 b3
        go_wp2_with fail
        go_ret2
        exact ⟨r, false, a + n, rfl, hxx, hb, hR3, hG3, Or.inr ⟨rfl, unhide HN⟩⟩
end Go.Proofs.YtkmkkmdpjliifaaGreatDoor
namespace Go.Proofs.YtkmkkmdpjliifaaGreatDoor
open Go.ChangeShapes Go.WideShapes Go.ChangeAt Go.RowKit

theorem take_any (l : List UInt8) (n : Nat) (h : n ≤ l.length) (u : World) : (Instr.slice 9 (.string ⟨l.toArray⟩) none (some (.int .i64 (n : Int))) none).run Tryz.prog u = .ok (.string ⟨(l.take n).toArray⟩) u := by
  have h3 : (ByteArray.mk l.toArray).size = l.length := by simp [ByteArray.size]
  rw [run_slice_string_to_if (w := u) 9 _ .i64 _ Tryz.underlying9, if_pos (by omega), ByteArray.extract_mk, Int.toNat_natCast]
  simp
theorem lit1' (u : World) (n : Nat) (hn : u.heap.size = n) (x : Int) : (convert 110 9 (.slice (some ⟨n, 0, none⟩) 1 1)).run Tryz.prog (u.alloc (.cells #[.int .u8 x] 5)) = .ok (.string ⟨[UInt8.ofNat x.toNat].toArray⟩) (u.alloc (.cells #[.int .u8 x] 5)) := by
  subst hn
  exact lit1 u x
theorem take2 (a d : UInt8) (t : List UInt8) (u : World) : (Instr.slice 9 (.string ⟨(a :: d :: t).toArray⟩) none (some (.int .i64 2)) none).run Tryz.prog u = .ok (.string ⟨[a, d].toArray⟩) u := take_any (a :: d :: t) 2 (by simp) u
theorem drop2 (a d : UInt8) (t : List UInt8) (u : World) : (Instr.slice 9 (.string ⟨(a :: d :: t).toArray⟩) (some (.int .i64 2)) none none).run Tryz.prog u = .ok (.string ⟨t.toArray⟩) u := drop_any (a :: d :: t) 2 (by simp) u
/-- what escaped comes to -/
def EscR (g : Nat) (t : List UInt8) (w : World) (e : Ending) (w' : World) : Prop :=
  ∃ (v u : List UInt8) (b : Bool), e = .returned (.string ⟨v.toArray⟩) ∧ v.length ≤ 4 ∧ Rd w' g u b ∧ u.length ≤ t.length ∧ Out false ((escS t).map (fun r => (encB r.1, r.2))) v u b ∧ Gr g w w'

set_option maxRecDepth 20000 in
set_option maxHeartbeats 1000000 in
theorem esc_plain (g : Nat) (t : List UInt8) (w : World) (hR : Rd w g t false) (hc : ∀ c u, t = c :: u → c ≠ 117) :
    Calls Tryz.prog 193 #[.pointer (some ⟨g, 0, none⟩)] w (EscR g t w) := by
  have hc0 := hR.c0
  have hf0 := hR.frozen 0
  have hf1 := hR.frozen 1
  have hc1 := hR.c1
  cases t with
  | nil =>
    go_enter Tryz.func193, Tryz.ntmps193
    go_wp2
    go_ret
    exact ⟨[], [], true, rfl, by decide, hR.set1 true, Nat.le_refl _, Out.wrong rfl, (Gr.refl _ _).setCell _ _⟩
  | cons c u =>
    have hix := head_any c u
    have htl := tail_any c u
    have hul : u.length ≤ (c :: u).length := by simp
    have h117 := hc c u rfl
    have hR0 := hR.set0 u
    have l1 := fun x => lit1' (w.setCell ⟨g, 0, none⟩ (.string ⟨u.toArray⟩)) w.heap.size (by simp [World.setCell]) x
    by_cases a1 : c = 34
    · subst a1
      go_enter Tryz.func193, Tryz.ntmps193
      go_wp2
      go_ret
      exact ⟨[34], u, false, rfl, by decide, hR0.alloc _, hul, Out.good rfl, ((Gr.refl _ _).setCell _ _).alloc _⟩
    by_cases a2 : c = 92
    · subst a2
      go_enter Tryz.func193, Tryz.ntmps193
      go_wp2
      go_ret
      exact ⟨[92], u, false, rfl, by decide, hR0.alloc _, hul, Out.good rfl, ((Gr.refl _ _).setCell _ _).alloc _⟩
    by_cases a3 : c = 47
    · subst a3
      go_enter Tryz.func193, Tryz.ntmps193
      go_wp2
      go_ret
      exact ⟨[47], u, false, rfl, by decide, hR0.alloc _, hul, Out.good rfl, ((Gr.refl _ _).setCell _ _).alloc _⟩
    by_cases a4 : c = 98
    · subst a4
      go_enter Tryz.func193, Tryz.ntmps193
      go_wp2
      go_ret
      exact ⟨[8], u, false, rfl, by decide, hR0, hul, Out.good rfl, (Gr.refl _ _).setCell _ _⟩
    by_cases a5 : c = 102
    · subst a5
      go_enter Tryz.func193, Tryz.ntmps193
      go_wp2
      go_ret
      exact ⟨[12], u, false, rfl, by decide, hR0, hul, Out.good rfl, (Gr.refl _ _).setCell _ _⟩
    by_cases a6 : c = 110
    · subst a6
      go_enter Tryz.func193, Tryz.ntmps193
      go_wp2
      go_ret
      exact ⟨[10], u, false, rfl, by decide, hR0, hul, Out.good rfl, (Gr.refl _ _).setCell _ _⟩
    by_cases a7 : c = 114
    · subst a7
      go_enter Tryz.func193, Tryz.ntmps193
      go_wp2
      go_ret
      exact ⟨[13], u, false, rfl, by decide, hR0, hul, Out.good rfl, (Gr.refl _ _).setCell _ _⟩
    by_cases a8 : c = 116
    · subst a8
      go_enter Tryz.func193, Tryz.ntmps193
      go_wp2
      go_ret
      exact ⟨[9], u, false, rfl, by decide, hR0, hul, Out.good rfl, (Gr.refl _ _).setCell _ _⟩
    have m1 : (((c.toNat : Nat) : Int) == 34) = false := u8_bne (n := 34) (fun h => a1 ((u8_eq (by decide)).2 h))
    have m2 : (((c.toNat : Nat) : Int) == 92) = false := u8_bne (n := 92) (fun h => a2 ((u8_eq (by decide)).2 h))
    have m3 : (((c.toNat : Nat) : Int) == 47) = false := u8_bne (n := 47) (fun h => a3 ((u8_eq (by decide)).2 h))
    have m4 : (((c.toNat : Nat) : Int) == 98) = false := u8_bne (n := 98) (fun h => a4 ((u8_eq (by decide)).2 h))
    have m5 : (((c.toNat : Nat) : Int) == 102) = false := u8_bne (n := 102) (fun h => a5 ((u8_eq (by decide)).2 h))
    have m6 : (((c.toNat : Nat) : Int) == 110) = false := u8_bne (n := 110) (fun h => a6 ((u8_eq (by decide)).2 h))
    have m7 : (((c.toNat : Nat) : Int) == 114) = false := u8_bne (n := 114) (fun h => a7 ((u8_eq (by decide)).2 h))
    have m8 : (((c.toNat : Nat) : Int) == 116) = false := u8_bne (n := 116) (fun h => a8 ((u8_eq (by decide)).2 h))
    have m9 : (((c.toNat : Nat) : Int) == 117) = false := u8_bne (n := 117) (fun h => h117 ((u8_eq (by decide)).2 h))
    go_enter Tryz.func193, Tryz.ntmps193
    go_wp2
    go_ret
    refine ⟨[], u, true, rfl, by decide, hR0.set1 true, hul, Out.wrong ?_, ((Gr.refl _ _).setCell _ _).setCell _ _⟩
    rw [escS, if_neg (by simp [a1, a2, a3]), if_neg a4, if_neg a5, if_neg a6, if_neg a7, if_neg a8, if_neg h117]; rfl

theorem escS_u (u : List UInt8) : escS (117 :: u) = pointS u := rfl
set_option maxRecDepth 20000 in
set_option maxHeartbeats 1000000 in
theorem esc_u (g : Nat) (u : List UInt8) (w : World) (hR : Rd w g (117 :: u) false) :
    Calls Tryz.prog 193 #[.pointer (some ⟨g, 0, none⟩)] w (EscR g (117 :: u) w) := by
  have hc0 := hR.c0
  have hf0 := hR.frozen 0
  have hix := head_any 117 u
  have htl := tail_any 117 u
  have hR0 := hR.set0 u
  have hB0 := (Gr.refl g w).setCell 0 (.string ⟨u.toArray⟩)
  go_enter Tryz.func193, Tryz.ntmps193
  go_wp2_with fail
  refine (hex_any g u _ hR0).mono ?_
  rintro e w1 ⟨n, u1, b1, rfl, hn, hR1, hl1, hO1, hB1⟩
  have hG1 := hB0.trans (Gr.ofBut hB1)
  have hc0 := hR1.c0
  have hc1 := hR1.c1
  have hf0 := hR1.frozen 0
  have hf1 := hR1.frozen 1
  have HN := hide hn
  clear hn
  have hul : u1.length ≤ (117 :: u).length := by simp; omega
  rcases hO1.2 rfl with ⟨h1, rfl⟩ | ⟨h1, rfl⟩
  · have hn2 := (hex4_len h1).2
    have hpt : pointS u = if n < 55296 ∨ 57344 ≤ n then some (n, u1) else if 56320 ≤ n then none else halfS n u1 := by unfold pointS; rw [h1]
    by_cases r1 : n < 55296
    · have f1 : (n : Int) < 55296 := by omega
      go_wp2_with (go_at_call 216; refine (bytes_any n _ (by omega)).mono ?_; rintro e w2 ⟨rfl, hb2⟩)
      go_ret
      refine ⟨encB n, u1, false, rfl, encB_length n, hR1.below hb2, hul, Out.good ?_, hG1.trans (Gr.ofBelow g hb2)⟩
      rw [escS_u, hpt, if_pos (Or.inl r1)]; rfl
    by_cases r2 : 57344 ≤ n
    · have f1 : ¬ (n : Int) < 55296 := by omega
      have f2 : (57344 : Int) ≤ n := by omega
      go_wp2_with (go_at_call 216; refine (bytes_any n _ (by omega)).mono ?_; rintro e w2 ⟨rfl, hb2⟩)
      go_ret
      refine ⟨encB n, u1, false, rfl, encB_length n, hR1.below hb2, hul, Out.good ?_, hG1.trans (Gr.ofBelow g hb2)⟩
      rw [escS_u, hpt, if_pos (Or.inr r2)]; rfl
    have f1 : decide ((n : Int) < 55296) = false := decide_eq_false (by omega)
    have f2 : decide ((57344 : Int) ≤ n) = false := decide_eq_false (by omega)
    rw [if_neg (by omega)] at hpt
    by_cases r3 : 56320 ≤ n
    · have f3 : decide ((56320 : Int) ≤ n) = true := decide_eq_true (by omega)
      rw [if_pos r3] at hpt
      have HPT := hide hpt
      clear hpt hn2 r1 r2 r3 h1 hO1
      go_wp2
      go_ret
      exact ⟨[], u1, true, rfl, by decide, hR1.set1 true, hul, Out.wrong (by rw [escS_u, unhide HPT]; rfl), hG1.setCell _ _⟩
    have f3 : decide ((56320 : Int) ≤ n) = false := decide_eq_false (by omega)
    rw [if_neg r3] at hpt
    have HPT := hide hpt
    have HN2 : Hid (55296 ≤ n ∧ n < 56320) := ⟨by omega, by omega⟩
    clear hpt hn2 r1 r2 r3 h1 hO1
    generalize hz : ((n : Nat) : Int) = z at f1 f2 f3 ⊢
    have HZ := hide hz
    clear hz
    rcases u1 with _ | ⟨a, _ | ⟨d, u2⟩⟩
    · go_wp2
      go_ret
      exact ⟨[], [], true, rfl, by decide, hR1.set1 true, hul, Out.wrong (by rw [escS_u, unhide HPT]; unfold halfS; rw [if_neg (by simp)]; rfl), hG1.setCell _ _⟩
    · go_wp2
      go_ret
      exact ⟨[], [a], true, rfl, by decide, hR1.set1 true, hul, Out.wrong (by rw [escS_u, unhide HPT]; unfold halfS; rw [if_neg (by simp)]; rfl), hG1.setCell _ _⟩
    · have htk := take2 a d u2
      have hdr := drop2 a d u2
      have h2l : ¬ (u2.length : Int) + 1 + 1 < 2 := by omega
      by_cases hu : a = 92 ∧ d = 117
      · obtain ⟨rfl, rfl⟩ := hu
        go_wp2_with fail
        refine (hex_any g u2 _ (hR1.set0 u2)).mono ?_
        rintro e w2 ⟨q, u3, b3, rfl, hq, hR3, hl3, hO3, hB3⟩
        have hG3 := (hG1.setCell 0 (.string ⟨u2.toArray⟩)).trans (Gr.ofBut hB3)
        have hul3 : u3.length ≤ (117 :: u).length := by simp at hul ⊢; omega
        have hf1 := hR3.frozen 1
        have hc1 := hR3.c1
        have hn := unhide HN2
        have hz := unhide HZ
        have hM : ((65536 + (n - 55296) * 1024 + q - 56320 : Nat) : Int) = 65536 + (z - 55296) * 1024 + (q : Int) - 56320 := by omega
        have e1 : wrap64 (z - 55296) = z - 55296 := w64 _ (by omega) (by omega)
        have e2 : wrap64 ((z - 55296) * 1024) = (z - 55296) * 1024 := w64 _ (by omega) (by omega)
        have e3 : wrap64 (65536 + (z - 55296) * 1024) = 65536 + (z - 55296) * 1024 := w64 _ (by omega) (by omega)
        have e4 : wrap64 (65536 + (z - 55296) * 1024 + (q : Int)) = 65536 + (z - 55296) * 1024 + (q : Int) := w64 _ (by omega) (by omega)
        have e5 : wrap64 (65536 + (z - 55296) * 1024 + (q : Int) - 56320) = 65536 + (z - 55296) * 1024 + (q : Int) - 56320 := w64 _ (by omega) (by omega)
        have hby := bytes_any (65536 + (n - 55296) * 1024 + q - 56320)
        rw [hM] at hby
        have HBY : Hid _ := hide (fun w => hby w (by omega))
        have HQ := hide hq
        have HH : Hid (halfS n (92 :: 117 :: u2) = match hex4 u2 with | some (q, t) => if 56320 ≤ q ∧ q < 57344 then some (65536 + (n - 55296) * 1024 + (q - 56320), t) else none | none => none) := hide (by unfold halfS; exact if_pos rfl)
        by_cases r4 : q < 56320
        · have g1 : decide ((q : Int) < 56320) = true := decide_eq_true (by omega)
          have hbad : halfS n (92 :: 117 :: u2) = none := by
            rw [unhide HH]
            rcases hO3.2 rfl with ⟨h1, _⟩ | ⟨h1, _⟩
            · rw [h1]; exact if_neg (by omega)
            · rw [h1]
          have HBD := hide hbad
          generalize hzq : ((q : Nat) : Int) = zq at *
          have HZQ := hide hzq
          clear hM hq hn hz hby r4 hO3 hbad hzq
          go_wp2_with (go_at_call 216; refine (unhide HBY _).mono ?_; rintro e w4 ⟨rfl, hb4⟩)
          go_ret
          exact ⟨_, u3, true, rfl, encB_length _, (hR3.set1 true).below hb4, hul3, Out.wrong (by rw [escS_u, unhide HPT, unhide HBD]; rfl), (hG3.setCell _ _).trans (Gr.ofBelow g hb4)⟩
        by_cases r5 : 57344 ≤ q
        · have g1 : decide ((q : Int) < 56320) = false := decide_eq_false (by omega)
          have g2 : decide ((57344 : Int) ≤ (q : Int)) = true := decide_eq_true (by omega)
          have hbad : halfS n (92 :: 117 :: u2) = none := by
            rw [unhide HH]
            rcases hO3.2 rfl with ⟨h1, _⟩ | ⟨h1, _⟩
            · rw [h1]; exact if_neg (by omega)
            · rw [h1]
          have HBD := hide hbad
          generalize hzq : ((q : Nat) : Int) = zq at *
          have HZQ := hide hzq
          clear hM hq hn hz hby r4 r5 hO3 hbad hzq
          go_wp2_with (go_at_call 216; refine (unhide HBY _).mono ?_; rintro e w4 ⟨rfl, hb4⟩)
          go_ret
          exact ⟨_, u3, true, rfl, encB_length _, (hR3.set1 true).below hb4, hul3, Out.wrong (by rw [escS_u, unhide HPT, unhide HBD]; rfl), (hG3.setCell _ _).trans (Gr.ofBelow g hb4)⟩
        have g1 : decide ((q : Int) < 56320) = false := decide_eq_false (by omega)
        have g2 : decide ((57344 : Int) ≤ (q : Int)) = false := decide_eq_false (by omega)
        have hend : Out false ((pointS u).map (fun r => (encB r.1, r.2))) (encB (65536 + (n - 55296) * 1024 + q - 56320)) u3 b3 := by
          rw [unhide HPT, unhide HH]
          rcases hO3.2 rfl with ⟨h1, rfl⟩ | ⟨h1, rfl⟩
          · refine Out.good ?_
            rw [h1]
            show Option.map _ (if 56320 ≤ q ∧ q < 57344 then _ else _) = _
            rw [if_pos (by omega), show 65536 + (n - 55296) * 1024 + (q - 56320) = 65536 + (n - 55296) * 1024 + q - 56320 by omega]; rfl
          · refine Out.wrong ?_
            rw [h1]; rfl
        have HE := hide hend
        generalize hzq : ((q : Nat) : Int) = zq at *
        have HZQ := hide hzq
        clear hM hq hn hz hby r4 r5 hO3 hend hzq
        go_wp2_with (go_at_call 216; refine (unhide HBY _).mono ?_; rintro e w4 ⟨rfl, hb4⟩)
        go_ret
        exact ⟨_, u3, b3, rfl, encB_length _, hR3.below hb4, hul3, unhide HE, hG3.trans (Gr.ofBelow g hb4)⟩
      · have hbad : halfS n (a :: d :: u2) = none := by
          unfold halfS
          exact if_neg (by simpa using hu)
        go_wp2_with fail
        · go_ret
          exact ⟨[], a :: d :: u2, true, rfl, by decide, hR1.set1 true, hul, Out.wrong (by rw [escS_u, unhide HPT, hbad]; rfl), hG1.setCell _ _⟩
        · have hh : 2 ≤ (u2.length : Int) + 1 + 1 ∧ (!a == 92) = false ∧ (!d == 117) = false := by assumption
          exfalso
          apply hu
          have h1 := hh.2.1
          have h2 := hh.2.2
          simp at h1 h2
          exact ⟨h1, h2⟩
  · have f0 : escS (117 :: u) = none := by rw [escS_u]; unfold pointS; rw [h1]
    go_wp2_with (go_at_call 216; refine (bytes_any n _ (by have := unhide HN; omega)).mono ?_; rintro e w2 ⟨rfl, hb2⟩)
    go_ret
    exact ⟨encB n, u1, true, rfl, encB_length n, hR1.below hb2, hul, Out.wrong (by rw [f0]; rfl), hG1.trans (Gr.ofBelow g hb2)⟩
theorem escaped_any (g : Nat) (t : List UInt8) (w : World) (hR : Rd w g t false) : Calls Tryz.prog 193 #[.pointer (some ⟨g, 0, none⟩)] w (EscR g t w) := by
  by_cases h : ∃ u, t = 117 :: u
  · obtain ⟨u, rfl⟩ := h
    exact esc_u g u w hR
  · refine esc_plain g t w hR ?_
    rintro c u rfl rfl
    exact h ⟨u, rfl⟩
end Go.Proofs.YtkmkkmdpjliifaaGreatDoor
namespace Go.Proofs.YtkmkkmdpjliifaaGreatDoor
open Go.ChangeShapes Go.WideShapes Go.ChangeAt Go.RowKit

def TxtR (g : Nat) (t : List UInt8) (b : Bool) (w : World) (e : Ending) (w' : World) : Prop :=
  ∃ (v u : List UInt8) (b' : Bool), e = .returned (.string ⟨v.toArray⟩) ∧ v.length ≤ 4 * t.length ∧ Rd w' g u b' ∧ u.length ≤ t.length ∧ Out b (textS t) v u b' ∧ Gr g w w'
theorem txt_none {s1 out u : List UInt8} (h : txtS s1 = (txtS u).map (fun r => (out ++ r.1, r.2))) (hu : txtS u = none) : txtS s1 = none := by rw [h, hu]; rfl
theorem txt_more {s1 out u v u2 : List UInt8} (h : txtS s1 = (txtS u).map (fun r => (out ++ r.1, r.2))) (hu : txtS u = (txtS u2).map (fun r => (v ++ r.1, r.2))) : txtS s1 = (txtS u2).map (fun r => ((out ++ v) ++ r.1, r.2)) := by
  rw [h, hu, Option.map_map]
  congr 1
  funext r
  simp
theorem txtS_bad {c : UInt8} {r : List UInt8} (hc : c ≠ 34) (h : pieceS (c :: r) = none) : txtS (c :: r) = none := by rw [txtS_cons, if_neg hc, h]
theorem txtS_good {c : UInt8} {r b u : List UInt8} (hc : c ≠ 34) (h : pieceS (c :: r) = some (b, u)) : txtS (c :: r) = (txtS u).map (fun r => (b ++ r.1, r.2)) := by rw [txtS_cons, if_neg hc, h]

set_option maxRecDepth 20000 in
set_option maxHeartbeats 2000000 in
theorem text_any (g : Nat) (t : List UInt8) (b : Bool) (w : World) (hl : t.length ≤ 1048576) (hR : Rd w g t b) :
    Calls Tryz.prog 157 #[.pointer (some ⟨g, 0, none⟩)] w (TxtR g t b w) := by
  have HL := hide hl
  clear hl
  have hsk := skipB_le t
  go_enter Tryz.func157, Tryz.ntmps157
  go_wp2_with fail
  refine (must_any g 34 t b _ hR).mono ?_
  rintro e w1 ⟨⟨v0, rfl⟩, hR1, hB1⟩
  have hG1 := Gr.ofBut hB1
  have hc1 := hR1.c1
  clear hB1 hR
  by_cases hbad : b = true ∨ seesS 34 t = none
  · have hx : (b || (seesS 34 t).isNone) = true := by
      rcases hbad with rfl | h
      · rfl
      · rw [h]; simp
    have hu : ((seesS 34 t).getD (skipB t)).length ≤ t.length := by
      cases h : seesS 34 t with
      | none => exact hsk
      | some u => exact Nat.le_of_lt (seesS_lt h)
    rw [hx] at hR1 hc1
    have HO : Hid (Out b (textS t) [] ((seesS 34 t).getD (skipB t)) true) := hide (by
      cases b with
      | true => exact Out.still
      | false =>
        rcases hbad with h | h
        · cases h
        · exact Out.wrong (by unfold textS; rw [h]; rfl))
    clear hbad hx
    generalize (seesS 34 t).getD (skipB t) = s1 at *
    go_wp2_with fail
    go_loopg [3] 0 (fun q o wr => wr = w1)
    case atStart => rfl
    case round =>
      subst hrel
      go_wp2_with fail
      go_ret
      exact ⟨[], s1, true, rfl, Nat.zero_le _, hR1, hu, unhide HO, hG1⟩
  · obtain ⟨s1, hs1⟩ : ∃ s1, seesS 34 t = some s1 := by
      cases h : seesS 34 t with
      | none => exact absurd (Or.inr h) hbad
      | some u => exact ⟨u, rfl⟩
    have hb : b = false := by cases b with
      | true => exact absurd (Or.inl rfl) hbad
      | false => rfl
    subst hb
    have hlt := seesS_lt hs1
    have htx : textS t = txtS s1 := by unfold textS; rw [hs1]; rfl
    rw [hs1] at hR1 hc1
    simp only [Option.getD, Option.isNone, Bool.or_false] at hR1 hc1
    have HT := hide htx
    clear hbad hs1 htx hsk
    go_wp2_with fail
    go_loopg [3] (s1.length + 1) (fun q o wr => ∃ (out u : List UInt8) (b' : Bool), o = .string ⟨out.toArray⟩ ∧ Rd wr g u b' ∧ u.length < q ∧ u.length ≤ t.length ∧ out.length + 4 * u.length ≤ 4 * t.length ∧ ((b' = false ∧ txtS s1 = (txtS u).map (fun r => (out ++ r.1, r.2))) ∨ (b' = true ∧ txtS s1 = none)) ∧ Gr g w wr)
    case atStart =>
      refine ⟨[], s1, false, rfl, hR1, by omega, by omega, by simp; omega, Or.inl ⟨rfl, ?_⟩, hG1⟩
      cases txtS s1 <;> rfl
    case round =>
      clear hR1 hc1 hlt hG1
      obtain ⟨out, u, b', rfl, hR, hq, hu, ho, hI, hG⟩ := hrel
      have hc0 := hR.c0
      have hc1 := hR.c1
      have hf0 := hR.frozen 0
      have hf1 := hR.frozen 1
      have HO := hide ho
      clear ho
      rcases hI with ⟨rfl, hI⟩ | ⟨rfl, hI⟩
      · have HI := hide hI
        clear hI
        cases u with
        | nil =>
          go_wp2_with fail
          go_ret
          exact ⟨[], [], true, rfl, Nat.zero_le _, hR.set1 true, hu, Out.wrong (by rw [unhide HT]; exact txt_none (unhide HI) rfl), hG.setCell _ _⟩
        | cons c r =>
          have hix := head_any c r
          have htl := tail_any c r
          have hrl : r.length ≤ t.length := by simp at hu; omega
          have hrq : r.length + 1 < gk := by simpa using hq
          by_cases c1 : c.toNat < 32
          · have d1 : decide ((c.toNat : Int) < 32) = true := decide_eq_true (by omega)
            have hbad : pieceS (c :: r) = none := by rw [pieceS, if_pos c1]
            have hne : c ≠ 34 := fun h => by subst h; exact absurd c1 (by decide)
            clear c1
            go_wp2_with fail
            go_ret
            exact ⟨[], c :: r, true, rfl, Nat.zero_le _, hR.set1 true, hu, Out.wrong (by rw [unhide HT]; exact txt_none (unhide HI) (txtS_bad hne hbad)), hG.setCell _ _⟩
          have d1 : decide ((c.toNat : Int) < 32) = false := decide_eq_false (by omega)
          by_cases c2 : c = 34
          · subst c2
            go_wp2_with fail
            go_ret
            refine ⟨out, r, false, rfl, by have := unhide HO; omega, hR.set0 r, hrl, Out.good ?_, hG.setCell _ _⟩
            rw [unhide HT, unhide HI, txtS_cons, if_pos rfl]
            simp
          have d2 : (((c.toNat : Nat) : Int) == 34) = false := u8_bne (n := 34) (fun h => c2 ((u8_eq (by decide)).2 h))
          by_cases c3 : c = 92
          · subst c3
            go_wp2_with fail
            refine (escaped_any g r _ (hR.set0 r)).mono ?_
            rintro e w2 ⟨v, u2, b2, rfl, hv, hR2, hl2, hO2, hG2⟩
            have hcat := cat_str out v (out ++ v) rfl (by rw [List.length_append]; have h1 := unhide HO; have h2 := unhide HL; simp at h1; omega)
            have HV := hide hv
            clear hv
            go_wp2_with fail
            go_roundg (gk - 1)
            case measure => omega
            case rel =>
              refine ⟨out ++ v, u2, b2, rfl, hR2, by omega, by omega, ?_, ?_, (hG.setCell _ _).trans hG2⟩
              · rw [List.length_append]
                have h1 := unhide HO
                have h2 := unhide HV
                simp at h1
                omega
              · rcases hO2.2 rfl with ⟨h1, rfl⟩ | ⟨h1, rfl⟩
                · exact Or.inl ⟨rfl, txt_more (unhide HI) (txtS_good (by decide) (by rw [pieceS, if_neg (by decide), if_pos rfl]; exact h1))⟩
                · exact Or.inr ⟨rfl, txt_none (unhide HI) (txtS_bad (by decide) (by rw [pieceS, if_neg (by decide), if_pos rfl]; exact h1))⟩
          have d3 : (((c.toNat : Nat) : Int) == 92) = false := u8_bne (n := 92) (fun h => c3 ((u8_eq (by decide)).2 h))
          have hf := fN_le (c :: r) (by simp)
          have hpc : pieceS (c :: r) = if fN (c :: r) = 0 then none else some ((c :: r).take (fN (c :: r)), (c :: r).drop (fN (c :: r))) := by rw [pieceS, if_neg c1, if_neg c3]
          have htk : ∀ v, _ := take_any (c :: r) (fN (c :: r)) hf
          have hdr : ∀ v, _ := drop_any (c :: r) (fN (c :: r)) hf
          have hfa := fun w => first_any (c :: r) w (by simp) (by have := unhide HL; simp at hu ⊢; omega)
          have HF := hide hfa
          clear hfa c1
          generalize fN (c :: r) = n at *
          have HP := hide hpc
          by_cases hn : n = 0
          · subst hn
            clear hpc
            go_wp2_with (go_at_call 187; refine (unhide HF _).mono ?_; rintro e w2 ⟨rfl, hb2⟩; have hR2 := hR.below hb2; have hf2 := hR2.frozen 1; have hc2 := hR2.c1)
            go_ret
            exact ⟨[], c :: r, true, rfl, Nat.zero_le _, hR2.set1 true, hu, Out.wrong (by rw [unhide HT]; exact txt_none (unhide HI) (txtS_bad c2 (unhide HP))), (hG.trans (Gr.ofBelow g hb2)).setCell _ _⟩
          · have hnz : (((n : Nat) : Int) == 0) = false := by simp only [beq_eq_false_iff_ne, ne_eq]; omega
            have hcat := cat_str out ((c :: r).take n) _ rfl (by rw [List.length_append, List.length_take]; have h1 := unhide HO; have h2 := unhide HL; simp at h1; omega)
            rw [if_neg hn] at hpc
            have HP := hide hpc
            clear hpc
            go_wp2_with (go_at_call 187; refine (unhide HF _).mono ?_; rintro e w2 ⟨rfl, hb2⟩; have hR2 := hR.below hb2; have hf2 := hR2.frozen 0; have hc2 := hR2.c0)
            go_roundg (gk - 1)
            case measure => omega
            case rel =>
              refine ⟨out ++ (c :: r).take n, (c :: r).drop n, false, rfl, hR2.set0 _, by rw [List.length_drop]; omega, by rw [List.length_drop]; omega, ?_, Or.inl ⟨rfl, txt_more (unhide HI) (txtS_good c2 (unhide HP))⟩, (hG.trans (Gr.ofBelow g hb2)).setCell _ _⟩
              rw [List.length_append, List.length_take, List.length_drop]
              have h1 := unhide HO
              omega
      · go_wp2_with fail
        go_ret
        exact ⟨[], u, true, rfl, Nat.zero_le _, hR, hu, Out.wrong (by rw [unhide HT]; exact hI), hG⟩
end Go.Proofs.YtkmkkmdpjliifaaGreatDoor
