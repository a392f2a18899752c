import Derived.Test.YtkmkkmdpjliifaaDoorJxR
import Derived.Test.YtkmkkmdpjliifaaDoorNxF
namespace Go.Proofs.YtkmkkmdpjliifaaDoor
open Go.ChangeShapes Go.WideShapes Go.ChangeAt Go.RowKit

/-- Block g may have turned, new ones may have come. -/
structure Gr (g : Nat) (w w' : World) : Prop where
  os : w'.os = w.os
  tape : w'.tape = w.tape
  output : w'.output = w.output
  size : w.heap.size ≤ w'.heap.size
  block : ∀ k, k ≠ g → k < w.heap.size → w'.heap[k]? = w.heap[k]?
theorem Gr.refl (g : Nat) (w : World) : Gr g w w := ⟨rfl, rfl, rfl, Nat.le_refl _, fun _ _ _ => rfl⟩
theorem Gr.trans {g : Nat} {a b c : World} (h : Gr g a b) (k : Gr g b c) : Gr g a c :=
  ⟨k.os.trans h.os, k.tape.trans h.tape, k.output.trans h.output, Nat.le_trans h.size k.size, fun i hi hl => (k.block i hi (Nat.lt_of_lt_of_le hl h.size)).trans (h.block i hi hl)⟩
theorem Gr.ofBut {g : Nat} {w w' : World} (h : But g w w') : Gr g w w' := ⟨h.os, h.tape, h.output, by rw [h.size]; exact Nat.le_refl _, fun k hk _ => h.block k hk⟩
theorem Gr.ofBelow (g : Nat) {w w' : World} (h : Below w.heap.size w w') : Gr g w w' := ⟨h.os, h.tape, h.output, h.size, fun k _ hl => h.block k hl⟩
theorem Gr.drewN {g : Nat} {a w : World} (h : Gr g a w) (n : Nat) : Gr g a (w.drewN n) := ⟨h.os, h.tape, h.output, h.size, h.block⟩
theorem Gr.setCell {g : Nat} {a w : World} (h : Gr g a w) (o : Nat) (v : Value) : Gr g a (w.setCell ⟨g, o, none⟩ v) := h.trans (Gr.ofBut ((But.refl g w).setCell o v))
theorem Gr.alloc {g : Nat} {a w : World} (h : Gr g a w) (o : Obj) : Gr g a (w.alloc o) := h.trans (Gr.ofBelow g ((Below.refl _ _).alloc (Nat.le_refl _) o))
theorem Gr.below {g B : Nat} {w w' : World} (h : Gr g w w') (hg : B ≤ g) (hB : B ≤ w.heap.size) : Below B w w' := ⟨h.os, h.tape, h.output, h.size, fun k hk => h.block k (by omega) (by omega)⟩
theorem Row.keep {w w' : World} {g n : Nat} {t : TypeId} {f : Nat → Value} (h : Row w g t n f) (hb : w'.heap[g]? = w.heap[g]?) : Row w' g t n f := by
  obtain ⟨cs, h1, h2, h3⟩ := h
  exact ⟨cs, by rw [hb]; exact h1, h2, h3⟩
theorem Rd.lt {w : World} {g : Nat} {t : List UInt8} {b : Bool} (h : Rd w g t b) : g < w.heap.size := by
  obtain ⟨cs, h1, _⟩ := h
  rcases Nat.lt_or_ge g w.heap.size with h' | h'
  · exact h'
  · rw [Array.getElem?_eq_none h'] at h1; cases h1
theorem Rd.below {w w' : World} {g : Nat} {t : List UInt8} {b : Bool} (h : Rd w g t b) (hb : Below w.heap.size w w') : Rd w' g t b := Row.keep h (hb.block g h.lt)
theorem Rd.alloc {w : World} {g : Nat} {t : List UInt8} {b : Bool} (h : Rd w g t b) (o : Obj) : Rd (w.alloc o) g t b := h.below ((Below.refl _ _).alloc (Nat.le_refl _) o)

/-- string([]byte{..}) -/
theorem lit1 (u : World) (x : Int) : (convert 33 9 (.slice (some ⟨u.heap.size, 0, none⟩) 1 1)).run Tryd.prog (u.alloc (.cells #[.int .u8 x] 5)) = .ok (.string ⟨[UInt8.ofNat x.toNat].toArray⟩) (u.alloc (.cells #[.int .u8 x] 5)) :=
  run_convert_bytes_arg (P := Tryd.prog) _ 33 5 Tryd.underlying33 Tryd.underlying5 u.heap.size 0 1 1 [x] rfl (fun i hi => by
    obtain rfl : i = 0 := by omega
    rw [cell_of_row _ _ _ _ 5 _ (heap_alloc_new u _)]; rfl) 9 Tryd.underlying9
theorem lit2 (u : World) (x y : Int) : (convert 33 9 (.slice (some ⟨u.heap.size, 0, none⟩) 2 2)).run Tryd.prog (u.alloc (.cells #[.int .u8 x, .int .u8 y] 5)) = .ok (.string ⟨[UInt8.ofNat x.toNat, UInt8.ofNat y.toNat].toArray⟩) (u.alloc (.cells #[.int .u8 x, .int .u8 y] 5)) :=
  run_convert_bytes_arg (P := Tryd.prog) _ 33 5 Tryd.underlying33 Tryd.underlying5 u.heap.size 0 2 2 [x, y] rfl (fun i hi => by
    rcases (show i = 0 ∨ i = 1 by omega) with rfl | rfl <;> (rw [cell_of_row _ _ _ _ 5 _ (heap_alloc_new u _)]; rfl)) 9 Tryd.underlying9
theorem lit3 (u : World) (x y z : Int) : (convert 33 9 (.slice (some ⟨u.heap.size, 0, none⟩) 3 3)).run Tryd.prog (u.alloc (.cells #[.int .u8 x, .int .u8 y, .int .u8 z] 5)) = .ok (.string ⟨[UInt8.ofNat x.toNat, UInt8.ofNat y.toNat, UInt8.ofNat z.toNat].toArray⟩) (u.alloc (.cells #[.int .u8 x, .int .u8 y, .int .u8 z] 5)) :=
  run_convert_bytes_arg (P := Tryd.prog) _ 33 5 Tryd.underlying33 Tryd.underlying5 u.heap.size 0 3 3 [x, y, z] rfl (fun i hi => by
    rcases (show i = 0 ∨ i = 1 ∨ i = 2 by omega) with rfl | rfl | rfl <;> (rw [cell_of_row _ _ _ _ 5 _ (heap_alloc_new u _)]; rfl)) 9 Tryd.underlying9
theorem lit4 (u : World) (x y z q : Int) : (convert 33 9 (.slice (some ⟨u.heap.size, 0, none⟩) 4 4)).run Tryd.prog (u.alloc (.cells #[.int .u8 x, .int .u8 y, .int .u8 z, .int .u8 q] 5)) = .ok (.string ⟨[UInt8.ofNat x.toNat, UInt8.ofNat y.toNat, UInt8.ofNat z.toNat, UInt8.ofNat q.toNat].toArray⟩) (u.alloc (.cells #[.int .u8 x, .int .u8 y, .int .u8 z, .int .u8 q] 5)) :=
  run_convert_bytes_arg (P := Tryd.prog) _ 33 5 Tryd.underlying33 Tryd.underlying5 u.heap.size 0 4 4 [x, y, z, q] rfl (fun i hi => by
    rcases (show i = 0 ∨ i = 1 ∨ i = 2 ∨ i = 3 by omega) with rfl | rfl | rfl | rfl <;> (rw [cell_of_row _ _ _ _ 5 _ (heap_alloc_new u _)]; rfl)) 9 Tryd.underlying9
theorem ofNat_mod (n : Nat) (x : Int) (h : x = ((n : Int) % 256)) : UInt8.ofNat x.toNat = UInt8.ofNat n := by
  subst h
  have : ((n : Int) % 256).toNat = n % 256 := by omega
  rw [this]
  exact UInt8.toNat_inj.1 (by simp)

set_option maxRecDepth 20000 in
set_option maxHeartbeats 1000000 in
theorem bytes_1 (p : Nat) (w : World) (hp : p < 128) :
    Calls Tryd.prog 93 #[.int .i64 (p : Nat)] w fun e w' => e = .returned (.string ⟨[UInt8.ofNat p].toArray⟩) ∧ Below w.heap.size w w' := by
  have l1 := lit1
  have f1 : (p : Int) < 128 := by omega
  go_enter Tryd.func93, Tryd.ntmps93
  go_wp2
  go_ret
  refine ⟨?_, (Below.refl _ _).alloc (Nat.le_refl _) _⟩
  rfl
set_option maxRecDepth 20000 in
set_option maxHeartbeats 1000000 in
theorem bytes_2 (p : Nat) (w : World) (hp : 128 ≤ p) (hp2 : p < 2048) :
    Calls Tryd.prog 93 #[.int .i64 (p : Nat)] w fun e w' => e = .returned (.string ⟨[UInt8.ofNat (192 + p / 64), UInt8.ofNat (128 + p % 64)].toArray⟩) ∧ Below w.heap.size w w' := by
  have l1 := lit2
  have f1 : ¬ (p : Int) < 128 := by omega
  have f2 : (p : Int) < 2048 := by omega
  go_enter Tryd.func93, Tryd.ntmps93
  go_wp2
  go_ret
  refine ⟨?_, (Below.refl _ _).alloc (Nat.le_refl _) _⟩
  refine congrArg (fun s => Ending.returned (Value.string s)) (congrArg ByteArray.mk (congrArg List.toArray ?_))
  rfl
set_option maxRecDepth 20000 in
set_option maxHeartbeats 1000000 in
theorem bytes_3 (p : Nat) (w : World) (hp : 2048 ≤ p) (hp2 : p < 65536) :
    Calls Tryd.prog 93 #[.int .i64 (p : Nat)] w fun e w' => e = .returned (.string ⟨[UInt8.ofNat (224 + p / 4096), UInt8.ofNat (128 + p / 64 % 64), UInt8.ofNat (128 + p % 64)].toArray⟩) ∧ Below w.heap.size w w' := by
  have l1 := lit3
  have f1 : ¬ (p : Int) < 128 := by omega
  have f2 : ¬ (p : Int) < 2048 := by omega
  have f3 : (p : Int) < 65536 := by omega
  go_enter Tryd.func93, Tryd.ntmps93
  go_wp2
  go_ret
  refine ⟨?_, (Below.refl _ _).alloc (Nat.le_refl _) _⟩
  refine congrArg (fun s => Ending.returned (Value.string s)) (congrArg ByteArray.mk (congrArg List.toArray ?_))
  rfl
set_option maxRecDepth 20000 in
set_option maxHeartbeats 1000000 in
theorem bytes_4 (p : Nat) (w : World) (hp : 65536 ≤ p) (hp2 : p < 16777216) :
    Calls Tryd.prog 93 #[.int .i64 (p : Nat)] w fun e w' => e = .returned (.string ⟨[UInt8.ofNat (240 + p / 262144), UInt8.ofNat (128 + p / 4096 % 64), UInt8.ofNat (128 + p / 64 % 64), UInt8.ofNat (128 + p % 64)].toArray⟩) ∧ Below w.heap.size w w' := by
  have l1 := lit4
  have f1 : ¬ (p : Int) < 128 := by omega
  have f2 : ¬ (p : Int) < 2048 := by omega
  have f3 : ¬ (p : Int) < 65536 := by omega
  have HP := hide hp2
  clear hp hp2
  go_enter Tryd.func93, Tryd.ntmps93
  go_wp2
  go_ret
  refine ⟨?_, (Below.refl _ _).alloc (Nat.le_refl _) _⟩
  refine congrArg (fun s => Ending.returned (Value.string s)) (congrArg ByteArray.mk (congrArg List.toArray ?_))
  have h := unhide HP
  have e1 : wrap64 ((p : Int) / 262144) = (p : Int) / 262144 := w64 _ (by omega) (by omega)
  have e2 : wrap64 ((p : Int) / 4096) = (p : Int) / 4096 := w64 _ (by omega) (by omega)
  have e3 : wrap64 ((p : Int) / 64) = (p : Int) / 64 := w64 _ (by omega) (by omega)
  rw [e1, e2, e3, Int.tmod_eq_emod_of_nonneg (by omega), Int.tmod_eq_emod_of_nonneg (by omega), w64 (240 + (p : Int) / 262144) (by omega) (by omega), w64 (128 + (p : Int) / 4096 % 64) (by omega) (by omega), w64 (128 + (p : Int) / 64 % 64) (by omega) (by omega)]
  rw [ofNat_mod (240 + p / 262144) _ (by omega), ofNat_mod (128 + p / 4096 % 64) _ (by omega), ofNat_mod (128 + p / 64 % 64) _ (by omega)]
  simp
theorem bytes_any (p : Nat) (w : World) (hp : p < 16777216) :
    Calls Tryd.prog 93 #[.int .i64 (p : Nat)] w fun e w' => e = .returned (.string ⟨(encB p).toArray⟩) ∧ Below w.heap.size w w' := by
  unfold encB
  by_cases c1 : p < 128
  · rw [if_pos c1]; exact bytes_1 p w c1
  rw [if_neg c1]
  by_cases c2 : p < 2048
  · rw [if_pos c2]; exact bytes_2 p w (by omega) c2
  rw [if_neg c2]
  by_cases c3 : p < 65536
  · rw [if_pos c3]; exact bytes_3 p w (by omega) c3
  rw [if_neg c3]
  exact bytes_4 p w (by omega) hp

/-- what a reading comes to: a text that was wrong stays so; one that was not is read, or is wrong now -/
def Out {α : Type} (b : Bool) (o : Option (α × List UInt8)) (v : α) (t : List UInt8) (b' : Bool) : Prop :=
  (b = true → b' = true) ∧ (b = false → (o = some (v, t) ∧ b' = false) ∨ (o = none ∧ b' = true))

theorem Out.good {α : Type} {o : Option (α × List UInt8)} {v : α} {t : List UInt8} (h : o = some (v, t)) : Out false o v t false := ⟨fun e => absurd e (by decide), fun _ => Or.inl ⟨h, rfl⟩⟩
theorem Out.wrong {α : Type} {o : Option (α × List UInt8)} {v : α} {t : List UInt8} (h : o = none) : Out false o v t true := ⟨fun _ => rfl, fun _ => Or.inr ⟨h, rfl⟩⟩
theorem Out.still {α : Type} {o : Option (α × List UInt8)} {v : α} {t : List UInt8} : Out true o v t true := ⟨fun _ => rfl, fun e => absurd e (by decide)⟩
theorem hex_step {n a m : Nat} {l u : List UInt8} {c : UInt8} {x : Nat} (h : hexG 4 0 l = hexG (m + 1) a (c :: u)) (hx : hexN c = some x) (hn : n = m) : hexG 4 0 l = hexG n (16 * a + x) u := by
  subst hn
  rw [h, hexG, hx]
theorem hex_none {a m : Nat} {l u : List UInt8} {c : UInt8} (h : hexG 4 0 l = hexG (m + 1) a (c :: u)) (hx : hexN c = none) : hexG 4 0 l = none := by
  rw [h, hexG, hx]

set_option maxRecDepth 20000 in
set_option maxHeartbeats 1000000 in
theorem hex_any (g : Nat) (t : List UInt8) (w : World) (hR : Rd w g t false) :
    Calls Tryd.prog 92 #[.pointer (some ⟨g, 0, none⟩)] w fun e w' => ∃ (n : Nat) (u : List UInt8) (b : Bool), e = .returned (.int .i64 (n : Nat)) ∧ n < 4194304 ∧ Rd w' g u b ∧ u.length ≤ t.length ∧ Out false (hex4 t) n u b ∧ But g w w' := by
  go_enter Tryd.func92, Tryd.ntmps92
  go_wp2_with fail
  go_loopg [3, 4] 4 (fun q n i wr => ∃ (k a : Nat) (u : List UInt8) (b : Bool), k + q = 4 ∧ i = .int .i64 (k : Nat) ∧ n = .int .i64 (a : Nat) ∧ a + 17 ≤ 17 * 16 ^ k ∧ Rd wr g u b ∧ u.length ≤ t.length ∧ ((b = false ∧ hexG 4 0 t = hexG q a u) ∨ (b = true ∧ hexG 4 0 t = none)) ∧ But g w wr)
  case atStart => exact ⟨0, 0, t, false, rfl, rfl, rfl, by decide, hR, Nat.le_refl _, Or.inl ⟨rfl, rfl⟩, But.refl _ _⟩
  case round =>
    clear hR
    obtain ⟨k, a, u, b, hk, rfl, rfl, ha, hR, hu, hI, hB⟩ := hrel
    have hp16 : 16 ^ k ≤ 65536 := Nat.le_trans (Nat.pow_le_pow_right (n := 16) (j := 4) (by decide) (by omega)) (by decide)
    have ha2 : a < 1114112 := by omega
    have HA : Hid (a + 17 ≤ 17 * 16 ^ k ∧ a < 1114112) := ⟨ha, ha2⟩
    have HI := hide hI
    clear ha ha2 hp16 hI
    by_cases hlt : k < 4
    · have hc0 := hR.c0
      have hf0 := hR.frozen 0
      have hf1 := hR.frozen 1
      have hc1 := hR.c1
      cases u with
      | nil =>
        go_wp2
        go_ret
        have hh := unhide HI
        refine ⟨0, [], true, rfl, by decide, hR.set1 true, Nat.zero_le _, Out.wrong ?_, hB.setCell _ _⟩
        rcases hh with ⟨_, h⟩ | ⟨_, h⟩
        · unfold hex4
          rw [h]
          obtain ⟨m, rfl⟩ : ∃ m, gk = m + 1 := ⟨gk - 1, by omega⟩
          rfl
        · exact h
      | cons c u =>
        have hix := head_any c u
        have htl := tail_any c u
        have hcl := c.toNat_lt
        have hw : wrap64 (c.toNat : Int) = (c.toNat : Int) := w64 _ (by omega) (by omega)
        have hw1 : wrap64 ((k : Int) + 1) = (k : Int) + 1 := w64 _ (by omega) (by omega)
        have hul : u.length ≤ t.length := by simp at hu; omega
        obtain ⟨m, rfl⟩ : ∃ m, gk = m + 1 := ⟨gk - 1, by omega⟩
        have hw2 : wrap64 (16 * (a : Int)) = 16 * (a : Int) := w64 _ (by have := unhide HA; omega) (by have := unhide HA; omega)
        have hnum : ∀ (x : Nat) (y : Int), x < 256 → y = (x : Int) → wrap64 (16 * (a : Int) + y) = ((16 * a + x : Nat) : Int) ∧ (16 * a + x) + 17 ≤ 17 * 16 ^ (k + 1) := fun x y hx hy => by
          subst hy
          have := unhide HA
          rw [Nat.pow_succ]
          exact ⟨by rw [w64 _ (by omega) (by omega)]; omega, by omega⟩
        have HN := hide hnum
        clear hu hnum
        by_cases c1 : 48 ≤ c.toNat ∧ c.toNat ≤ 57
        · have f1 : (48 : Int) ≤ c.toNat := by omega
          have f2 : (c.toNat : Int) ≤ 57 := by omega
          have e1 : wrap64 ((c.toNat : Int) - 48) = ((c.toNat : Int) - 48) := w64 _ (by omega) (by omega)
          have hx : hexN c = some (c.toNat - 48) := by unfold hexN; rw [if_pos c1]
          clear hcl
          go_wp2
          go_roundg m
          case measure => omega
          case rel =>
            have h2 : ∀ y : Int, y = ((c.toNat - 48 : Nat) : Int) → _ := fun y hy => unhide HN (c.toNat - 48) y (by have := c.toNat_lt; omega) hy
            refine ⟨k + 1, 16 * a + (c.toNat - 48), u, b, by omega, congrArg (Value.int .i64) (by omega), congrArg (Value.int .i64) (h2 _ (by omega)).1, (h2 _ rfl).2, hR.set0 u, hul, ?_, hB.setCell _ _⟩
            rcases unhide HI with ⟨h1, h2⟩ | ⟨h1, h2⟩
            · exact Or.inl ⟨h1, hex_step h2 hx rfl⟩
            · exact Or.inr ⟨h1, h2⟩
        by_cases c2 : 97 ≤ c.toNat ∧ c.toNat ≤ 102
        · have f1 : (48 : Int) ≤ c.toNat := by omega
          have f2 : ¬ (c.toNat : Int) ≤ 57 := by omega
          have f3 : (97 : Int) ≤ c.toNat := by omega
          have f4 : (c.toNat : Int) ≤ 102 := by omega
          have e1 : wrap64 ((c.toNat : Int) - 97) = ((c.toNat : Int) - 97) := w64 _ (by omega) (by omega)
          have e2 : wrap64 ((c.toNat : Int) - 97 + 10) = ((c.toNat : Int) - 97 + 10) := w64 _ (by omega) (by omega)
          have hx : hexN c = some (c.toNat - 87) := by unfold hexN; rw [if_neg c1, if_pos c2]
          clear hcl
          go_wp2
          go_roundg m
          case measure => omega
          case rel =>
            have h2 : ∀ y : Int, y = ((c.toNat - 87 : Nat) : Int) → _ := fun y hy => unhide HN (c.toNat - 87) y (by have := c.toNat_lt; omega) hy
            refine ⟨k + 1, 16 * a + (c.toNat - 87), u, b, by omega, congrArg (Value.int .i64) (by omega), congrArg (Value.int .i64) (h2 _ (by omega)).1, (h2 _ rfl).2, hR.set0 u, hul, ?_, hB.setCell _ _⟩
            rcases unhide HI with ⟨h1, h2⟩ | ⟨h1, h2⟩
            · exact Or.inl ⟨h1, hex_step h2 hx rfl⟩
            · exact Or.inr ⟨h1, h2⟩
        by_cases c3 : 65 ≤ c.toNat ∧ c.toNat ≤ 70
        · have f1 : (48 : Int) ≤ c.toNat := by omega
          have f2 : ¬ (c.toNat : Int) ≤ 57 := by omega
          have f3 : ¬ (97 : Int) ≤ c.toNat := by omega
          have f4 : (65 : Int) ≤ c.toNat := by omega
          have f5 : (c.toNat : Int) ≤ 70 := by omega
          have e1 : wrap64 ((c.toNat : Int) - 65) = ((c.toNat : Int) - 65) := w64 _ (by omega) (by omega)
          have e2 : wrap64 ((c.toNat : Int) - 65 + 10) = ((c.toNat : Int) - 65 + 10) := w64 _ (by omega) (by omega)
          have hx : hexN c = some (c.toNat - 55) := by unfold hexN; rw [if_neg c1, if_neg c2, if_pos c3]
          clear hcl
          go_wp2
          go_roundg m
          case measure => omega
          case rel =>
            have h2 : ∀ y : Int, y = ((c.toNat - 55 : Nat) : Int) → _ := fun y hy => unhide HN (c.toNat - 55) y (by have := c.toNat_lt; omega) hy
            refine ⟨k + 1, 16 * a + (c.toNat - 55), u, b, by omega, congrArg (Value.int .i64) (by omega), congrArg (Value.int .i64) (h2 _ (by omega)).1, (h2 _ rfl).2, hR.set0 u, hul, ?_, hB.setCell _ _⟩
            rcases unhide HI with ⟨h1, h2⟩ | ⟨h1, h2⟩
            · exact Or.inl ⟨h1, hex_step h2 hx rfl⟩
            · exact Or.inr ⟨h1, h2⟩
        · have d1 : (decide ((48 : Int) ≤ c.toNat) && decide ((c.toNat : Int) ≤ 57)) = false := by simp; omega
          have d2 : (decide ((97 : Int) ≤ c.toNat) && decide ((c.toNat : Int) ≤ 102)) = false := by simp; omega
          have d3 : (decide ((65 : Int) ≤ c.toNat) && decide ((c.toNat : Int) ≤ 70)) = false := by simp; omega
          have hx : hexN c = none := by unfold hexN; rw [if_neg c1, if_neg c2, if_neg c3]
          clear hcl
          go_wp2
          all_goals
            go_roundg m
            case measure => omega
            case rel =>
              have h2 : ∀ y : Int, y = ((c.toNat : Nat) : Int) → _ := fun y hy => unhide HN (c.toNat) y (by have := c.toNat_lt; omega) hy
              refine ⟨k + 1, 16 * a + (c.toNat), u, true, by omega, congrArg (Value.int .i64) (by omega), congrArg (Value.int .i64) (h2 _ (by omega)).1, (h2 _ rfl).2, (hR.set0 u).set1 true, hul, Or.inr ⟨rfl, ?_⟩, (hB.setCell _ _).setCell _ _⟩
              rcases unhide HI with ⟨h1, h2⟩ | ⟨h1, h2⟩
              · exact hex_none h2 hx
              · exact h2
    · have : gk = 0 := by omega
      subst this
      go_wp2
      go_ret
      have hh := unhide HA
      refine ⟨a, u, b, rfl, by omega, hR, hu, ?_, hB⟩
      rcases unhide HI with ⟨h1, h2⟩ | ⟨h1, h2⟩
      · subst h1; exact Out.good h2
      · subst h1; exact Out.wrong h2
end Go.Proofs.YtkmkkmdpjliifaaDoor
