import Derived.Test.YtkmkkmdpjliifaaGreatDoorTxN
import Derived.Deep.RegionHeld3
import Derived.Test.YtkmkkmdpjliifaaGreatDoorTxJ
import Derived.Test.YtkmkkmdpjliifaaGreatDoorSvH
import Derived.Test.YtkmkkmdpjliifaaGreatDoorTxM
namespace Go.Proofs.YtkmkkmdpjliifaaGreatDoor
open Go.ChangeShapes Go.WideShapes Go.ChangeAt Go.RowKit

theorem by_bound (l : List UInt8) : ∀ j, j < 64 → by_ l j < 256 := fun j _ => by_lt l j
theorem turn54 (l : List UInt8) (w : World) :
    Calls Tryz.prog 133 #[.agg (arrOf 64 (bf (by_ l))), .int .u8 54] w fun e w' => e = .returned (.string ⟨(tk l 54).toArray⟩) ∧ Below w.heap.size w w' :=
  turned_any (by_ l) 54 w (by_bound l) (by decide)
theorem turn92 (l : List UInt8) (w : World) :
    Calls Tryz.prog 133 #[.agg (arrOf 64 (bf (by_ l))), .int .u8 92] w fun e w' => e = .returned (.string ⟨(tk l 92).toArray⟩) ∧ Below w.heap.size w w' :=
  turned_any (by_ l) 92 w (by_bound l) (by decide)

/-- what lies in memory while the last row of Mac runs -/
def TMc (w w5 : World) (b5 b6 : Nat) (kl : List UInt8) (sf : Nat → Nat) (w' : World) : Prop :=
  Row w' b5 188 64 (bf (by_ kl)) ∧ Row w' b6 105 32 (bf sf) ∧ (∃ f, Row w' w.heap.size 105 32 f) ∧ Below w.heap.size w w' ∧ w5.heap.size ≤ w'.heap.size
section
variable {w w5 w' w'' : World} {b5 b6 : Nat} {kl : List UInt8} {sf : Nat → Nat}
theorem TMc.below (h : TMc w w5 b5 b6 kl sf w') (hb : Below w'.heap.size w' w'') : TMc w w5 b5 b6 kl sf w'' := by
  obtain ⟨h1, h2, ⟨f, h3⟩, h4, h5⟩ := h
  exact ⟨h1.below hb h1.lt, h2.below hb h2.lt, ⟨f, h3.below hb h3.lt⟩, h4.trans (hb.mono h4.size), Nat.le_trans h5 hb.size⟩
theorem TMc.set (h : TMc w w5 b5 b6 kl sf w') (h5 : w.heap.size ≠ b5) (h6 : w.heap.size ≠ b6) (vs : List Value) : TMc w w5 b5 b6 kl sf (w'.setCells w.heap.size 0 vs) := by
  obtain ⟨k1, k2, ⟨f, k3⟩, k4, k5⟩ := h
  have hg := grown_setCells w.heap.size vs 0 w'
  exact ⟨k1.grown hg (by simpa using h5.symm), k2.grown hg (by simpa using h6.symm), ⟨_, Row.setCells vs 0 w' f k3⟩, k4.grown hg k4.size (fun k hk => by cases hk; exact Nat.le_refl _), Nat.le_trans k5 hg.size⟩
theorem TMc.s (h : TMc w w5 b5 b6 kl sf w') : w'.rangeAt b5 0 (arrOf 64 (bf (by_ kl))).toList ∧ w'.there w.heap.size 0 32 ∧ (convert 110 9 (.slice (some ⟨b6, 0, none⟩) 32 32)).run Tryz.prog w' = .ok (.string ⟨(bs 32 sf).toArray⟩) w' ∧ TMc w w5 b5 b6 kl sf w' := by
  have h' := h
  obtain ⟨h1, h2, ⟨f, h3⟩, h4, h5⟩ := h
  refine ⟨fun j v hv => ?_, fun j hj => ?_, conv8 (w := w') b6 0 32 32 sf (fun i hi => by rw [Nat.zero_add]; exact h2.cell hi), h'⟩
  · have hj : j < 64 := by
      rcases Nat.lt_or_ge j 64 with h | h
      · exact h
      · rw [List.getElem?_eq_none (by rw [Array.length_toList, arrOf_size]; exact h)] at hv; cases hv
    rw [Array.getElem?_toList, arrOf_get _ _ j hj] at hv
    rw [Nat.zero_add, ← Option.some.inj hv]; exact h1.cell hj
  · rw [Nat.zero_add]; exact ⟨by rw [h3.cell hj]; rfl, h3.frozen j⟩
theorem TMc.pos (h : TMc w w5 b5 b6 kl sf w') (h0 : 2 < w.heap.size) : 2 < w'.heap.size := by have := h.2.2.2.1.size; omega
theorem TMc.tab (h : TMc w w5 b5 b6 kl sf w') (h0 : 2 < w.heap.size) (hK : Rk w 2 0 64 (fun j => .int .u32 (wi (K0 j)))) : Rk w' 2 0 64 (fun j => .int .u32 (wi (K0 j))) := hK.below h.2.2.2.1 h0
theorem TMc.drew (h : TMc w w5 b5 b6 kl sf w') : TMc w w5 b5 b6 kl sf w'.drew := h.below ⟨rfl, rfl, rfl, Nat.le_refl _, fun _ _ => rfl⟩
end
theorem len72 (f : Nat → Value) : (Tryz.prog.info? 188).map (·.size) = some (arrOf 64 f).toList.length := by rw [Array.length_toList, arrOf_size]; exact sz188
theorem len72' (f : Nat → Value) : (arrOf 64 f).toList.length = 64 := by rw [Array.length_toList, arrOf_size]
theorem one72 (f : Nat → Nat) (n : Nat) : ∀ v ∈ (arrOf n (bf f)).toList, v.oneCell' = true := fun v hv => by
  obtain ⟨j, hj, rfl⟩ := List.mem_iff_getElem.1 hv
  have h2 := arrOf_get n (bf f) j (by rw [Array.length_toList, arrOf_size] at hj; exact hj)
  rw [← Array.getElem?_toList, List.getElem?_eq_getElem hj] at h2
  rw [Option.some.inj h2]; rfl

/-- cells of bytes, as a list -/
def cl (n : Nat) (F : Nat → Nat) : List Value := (arrOf n (bf F)).toList
theorem cl_length (n : Nat) (F : Nat → Nat) : (cl n F).length = n := by unfold cl; rw [Array.length_toList, arrOf_size]
theorem cl_one (n : Nat) (F : Nat → Nat) : ∀ v ∈ cl n F, v.oneCell' = true := one72 F n
theorem cl_arr (n : Nat) (F : Nat → Nat) : (cl n F).toArray = arrOf n (bf F) := by unfold cl; exact Array.toArray_toList
theorem hashC (l : List UInt8) (w : World) (hs : l.length ≤ 4194304) (h0 : 2 < w.heap.size) (hK : Rk w 2 0 64 (fun j => .int .u32 (wi (K0 j)))) :
    Calls Tryz.prog 132 #[.string ⟨l.toArray⟩] w fun e w' => e = .returned (.agg (cl 32 (shaF K0 H0 l)).toArray) ∧ Below w.heap.size w w' := by
  rw [cl_arr]; exact hashL l w hs h0 hK
theorem row_cl {w : World} {g : Nat} {t : TypeId} {f : Nat → Value} (h : Row w g t 32 f) (F : Nat → Nat) : Row (w.setCells g 0 (cl 32 F)) g t 32 (bf F) :=
  (Row.setCells (cl 32 F) 0 w f h).congr (fun j hj => by
    rw [cl_length, if_pos ⟨Nat.zero_le _, by omega⟩, Nat.sub_zero]
    unfold cl
    rw [List.getD_eq_getElem?_getD, Array.getElem?_toList, arrOf_get _ _ j hj]; rfl)

set_option maxRecDepth 20000 in
set_option maxHeartbeats 1000000 in
theorem mac_any (key text : List UInt8) (w : World) (hk : key.length ≤ 2097152) (ht : text.length ≤ 2097152) (h0 : 2 < w.heap.size) (hK : Rk w 2 0 64 (fun j => .int .u32 (wi (K0 j)))) :
    Calls Tryz.prog 92 #[.string ⟨key.toArray⟩, .string ⟨text.toArray⟩] w fun e w' => e = .returned (.agg (arrOf 32 (bf (shaF K0 H0 (tk (keyL K0 H0 key) 92 ++ shaL K0 H0 (tk (keyL K0 H0 key) 54 ++ text)))))) ∧ Below w.heap.size w w' := by
  have hRa : Row (w.alloc (.cells (Array.replicate 32 (.int .u8 0)) 105)) w.heap.size 105 32 (fun _ => .int .u8 0) :=
    Row.new w 105 (Array.replicate 32 (.int .u8 0)) _ 32 (by simp) (fun j hj => by simp [hj])
  have HT : Hid (key.length ≤ 2097152 ∧ text.length ≤ 2097152) := ⟨hk, ht⟩
  clear hk ht
  go_enter Tryz.func92, Tryz.ntmps92
  go_wp2_with fail
  refine (keyBlock_any key _ HT.out.1 (by simp; omega) (hK.alloc h0 _)).mono ?_
  rintro e w1 ⟨rfl, hb1⟩
  have hs1 : w.heap.size + 1 ≤ w1.heap.size := by have := hb1.size; simp at this; omega
  have hR1 := hRa.below hb1 (by simp)
  have hB1 : Below w.heap.size w w1 := ((Below.refl w.heap.size w).alloc (Nat.le_refl _) _).trans (hb1.mono (by simp))
  clear hb1 hRa
  generalize hkl : keyL K0 H0 key = kl
  have HKL := hide hkl
  clear hkl
  go_wp2_with (first | (refine stRow rfl 188 _ _ rfl rfl rfl (Row.new w1 188 (Array.replicate 64 (.int .u8 0)) (fun _ => .int .u8 0) 64 (by simp) (fun j hj => by simp [hj])) sz188 (fun _ _ => rfl) ?_; intro w2 hS hg2) | (refine ldRow rfl 188 _ rfl rfl hS Tryz.underlying188 sz188 ?_))
  have hs2 := hg2.size
  simp at hs2
  have hR2 := (hR1.alloc _).grown hg2 (by simp; omega)
  have hB2 := (hB1.alloc (by omega) _).grown hg2 (by simp; omega) (fun k hk => by cases hk; omega)
  clear hR1 hB1 hg2
  refine (turn54 kl _).mono ?_
  rintro e w3 ⟨rfl, hb3⟩
  have hs3 := hb3.size
  have hR3 := hR2.below hb3 hR2.lt
  have hS3 := hS.below hb3 hS.lt
  have hB3 := hB2.trans (hb3.mono (by omega))
  clear hR2 hS hB2 hb3
  have hadd := cat_any (tk kl 54) text _ rfl (by rw [List.length_append, tk_length]; have := HT.out; omega)
  go_wp2_with fail
  refine (hashL _ _ (by rw [List.length_append, tk_length]; have := HT.out; omega) (by omega) (hK.below hB3 h0)).mono ?_
  rintro e w4 ⟨rfl, hb4⟩
  have hs4 := hb4.size
  have hR4 := hR3.below hb4 hR3.lt
  have hS4 := hS3.below hb4 hS3.lt
  have hB4 := hB3.trans (hb4.mono (by omega))
  clear hR3 hS3 hB3 hb4 hadd
  generalize hsi : shaF K0 H0 (tk kl 54 ++ text) = sf
  have HSI := hide hsi
  clear hsi
  go_wp2_with (refine stRow rfl 105 _ _ rfl rfl rfl (Row.new w4 105 (Array.replicate 32 (.int .u8 0)) (fun _ => .int .u8 0) 32 (by simp) (fun j hj => by simp [hj])) sz105 (fun _ _ => rfl) ?_; intro w5 hI hg5)
  have hs5 := hg5.size
  simp at hs5
  have hR5 := (hR4.alloc _).grown hg5 (by simp; omega)
  have hS5 := (hS4.alloc _).grown hg5 (by simp; omega)
  have hB5 := (hB4.alloc (by omega) _).grown hg5 (by simp; omega) (fun k hk => by cases hk; omega)
  clear hR4 hS4 hB4 hg5
  obtain ⟨b5, hb5⟩ : ∃ b5, b5 = w1.heap.size := ⟨_, rfl⟩
  obtain ⟨b6, hb6⟩ : ∃ b6, b6 = w4.heap.size := ⟨_, rfl⟩
  have hne5 : w.heap.size ≠ b5 := by omega
  have hne6 : w.heap.size ≠ b6 := by omega
  rw [← hb5] at hS5 ⊢
  rw [← hb6] at hI ⊢
  have hT : TMc w w5 b5 b6 kl sf w5.drew := TMc.drew ⟨hS5, hI, ⟨_, hR5⟩, hB5, Nat.le_refl _⟩
  have hadd2 := cat_any (tk kl 92) (bs 32 sf) _ rfl (by rw [List.length_append, tk_length, bs_length]; omega)
  have q1 := Tryz.underlying188
  have q2 := len72 (bf (by_ kl))
  have q3 := len72' (bf (by_ kl))
  have q4 := one72 (by_ kl) 64
  have q5 := Tryz.underlying105
  have q7 := cl_one 32 (shaF K0 H0 (tk kl 92 ++ bs 32 sf))
  have q8 := cl_length 32 (shaF K0 H0 (tk kl 92 ++ bs 32 sf))
  have q6 := sz105
  clear hS5 hI hR5 hB5 hb5 hb6 hs1 hs2 hs3 hs4 hs5
  go_region_held3 (fun w' => w'.rangeAt b5 0 (arrOf 64 (bf (by_ kl))).toList ∧ w'.there w.heap.size 0 32 ∧ (convert 110 9 (.slice (some ⟨b6, 0, none⟩) 32 32)).run Tryz.prog w' = .ok (.string ⟨(bs 32 sf).toArray⟩) w' ∧ TMc w w5 b5 b6 kl sf w')
    (first | exact TMc.s hT | exact TMc.s (by assumption) | exact TMc.s (TMc.set (by assumption) hne5 hne6 _))
    (first
      | (go_at_call 133; have hU := (‹_ ∧ _ ∧ _ ∧ TMc w w5 b5 b6 kl sf _›).2.2.2; refine (turn92 kl _).mono ?_; rintro e w6 ⟨rfl, hb6⟩; have hT6 := hU.below hb6)
      | (go_at_call 132; have hU := (‹_ ∧ _ ∧ _ ∧ TMc w w5 b5 b6 kl sf _›).2.2.2; refine (hashC _ _ (by rw [List.length_append, tk_length, bs_length]; omega) (hU.pos h0) (hU.tab h0 hK)).mono ?_; rintro e w7 ⟨rfl, hb7⟩; have hT7 := hU.below hb7))
  go_wp2
  obtain ⟨_, _, ⟨f, hRf⟩, hBf, _⟩ := hT7
  have hfin := row_cl hRf (shaF K0 H0 (tk kl 92 ++ bs 32 sf))
  refine ret_row Tryz.results92 _ hfin rfl Tryz.underlying105 (Or.inr ⟨_, _, rfl⟩) sz105 rfl ⟨?_, ?_⟩
  · rw [unhide HKL]; unfold shaL; rw [unhide HSI]
  · exact hBf.grown (grown_setCells _ _ 0 _) hBf.size (fun k hk => by cases hk; exact Nat.le_refl _)

set_option maxRecDepth 20000 in
set_option maxHeartbeats 1000000 in
/-- mandate.Mac -/
theorem Mac_any (key text : List UInt8) (w : World) (hk : key.length ≤ 2097152) (ht : text.length ≤ 2097152) (h0 : 2 < w.heap.size) (hK : Rk w 2 0 64 (fun j => .int .u32 (wi (K0 j)))) :
    Calls Tryz.prog 56 #[.string ⟨key.toArray⟩, .string ⟨text.toArray⟩] w fun e w' => e = .returned (.agg (arrOf 32 (bf (shaF K0 H0 (tk (keyL K0 H0 key) 92 ++ shaL K0 H0 (tk (keyL K0 H0 key) 54 ++ text)))))) ∧ Below w.heap.size w w' := by
  have hRa : Row (w.alloc (.cells (Array.replicate 32 (.int .u8 0)) 105)) w.heap.size 105 32 (fun _ => .int .u8 0) :=
    Row.new w 105 (Array.replicate 32 (.int .u8 0)) _ 32 (by simp) (fun j hj => by simp [hj])
  go_enter Tryz.func56, Tryz.ntmps56
  go_wp2_with fail
  refine (mac_any key text _ hk ht (by simp; omega) (hK.alloc h0 _)).mono ?_
  rintro e w1 ⟨rfl, hb1⟩
  have hR1 := hRa.below hb1 (by simp)
  have hB1 : Below w.heap.size w w1 := ((Below.refl w.heap.size w).alloc (Nat.le_refl _) _).trans (hb1.mono (by simp))
  go_wp2_with (refine stRow rfl 105 _ _ rfl rfl rfl hR1 sz105 (fun _ _ => rfl) ?_; intro w2 hR2 hg2)
  refine ret_row Tryz.results56 _ hR2 rfl Tryz.underlying105 (Or.inr ⟨_, _, rfl⟩) sz105 rfl ⟨rfl, ?_⟩
  exact hB1.grown hg2 hB1.size (fun k hk => by cases hk; exact Nat.le_refl _)
end Go.Proofs.YtkmkkmdpjliifaaGreatDoor
namespace Go.Proofs.YtkmkkmdpjliifaaGreatDoor
open Go.ChangeShapes Go.WideShapes Go.ChangeAt Go.RowKit

/-- the characters of Base64 -/
def aL : List UInt8 := [65, 66, 67, 68, 69, 70, 71, 72, 73, 74, 75, 76, 77, 78, 79, 80, 81, 82, 83, 84, 85, 86, 87, 88, 89, 90, 97, 98, 99, 100, 101, 102, 103, 104, 105, 106, 107, 108, 109, 110, 111, 112, 113, 114, 115, 116, 117, 118, 119, 120, 121, 122, 48, 49, 50, 51, 52, 53, 54, 55, 56, 57, 45, 95]
def al (i : Nat) : Nat := (aL.getD i 0).toNat
/-- what a character stands for; -1: nothing -/
def sgn (c : Nat) : Int := if 65 ≤ c ∧ c ≤ 90 then (c : Int) - 65 else if 97 ≤ c ∧ c ≤ 122 then (c : Int) - 71 else if 48 ≤ c ∧ c ≤ 57 then (c : Int) + 4 else if c = 45 then 62 else if c = 95 then 63 else -1
theorem sgn_al : ∀ i, i < 64 → sgn (al i) = (i : Int) := by decide +kernel
theorem al_sgn : ∀ c, c < 256 → 0 ≤ sgn c → al (sgn c).toNat = c ∧ sgn c < 64 := by decide +kernel
theorem al_lt : ∀ i, i < 64 → al i < 256 := by decide +kernel
theorem sgn_lo (c : Nat) : -1 ≤ sgn c ∧ sgn c < 64 := by unfold sgn; omega
theorem indexAlK (κ : IntKind) (k : Nat) (hk : k < 64) (u : World) : (Instr.index 9 (.string ⟨#[65, 66, 67, 68, 69, 70, 71, 72, 73, 74, 75, 76, 77, 78, 79, 80, 81, 82, 83, 84, 85, 86, 87, 88, 89, 90, 97, 98, 99, 100, 101, 102, 103, 104, 105, 106, 107, 108, 109, 110, 111, 112, 113, 114, 115, 116, 117, 118, 119, 120, 121, 122, 48, 49, 50, 51, 52, 53, 54, 55, 56, 57, 45, 95]⟩) (.int κ (k : Int))).run Tryz.prog u = .ok (.int .u8 (al k : Nat)) u := by
  have h : ((aL.toArray)[k]?).isSome = true := by
    have : aL.toArray.size = 64 := rfl
    rw [Array.getElem?_eq_getElem (by omega)]; rfl
  have h2 : ∀ k, k < 64 → aL.toArray[k]? = some (UInt8.ofNat (al k)) := by decide +kernel
  have h4 : ∀ k, k < 64 → (UInt8.ofNat (al k)).toNat = al k := by decide +kernel
  have h3 : (ByteArray.mk #[65, 66, 67, 68, 69, 70, 71, 72, 73, 74, 75, 76, 77, 78, 79, 80, 81, 82, 83, 84, 85, 86, 87, 88, 89, 90, 97, 98, 99, 100, 101, 102, 103, 104, 105, 106, 107, 108, 109, 110, 111, 112, 113, 114, 115, 116, 117, 118, 119, 120, 121, 122, 48, 49, 50, 51, 52, 53, 54, 55, 56, 57, 45, 95])[k]? = some (UInt8.ofNat (al k)) := by
    rw [ByteArray.getElem?_lt' _ k (by exact hk)]
    have := h2 k hk
    rw [Array.getElem?_eq_getElem (by exact hk)] at this
    exact this
  unfold Instr.index
  simp only [asIntOf, Sem.run_bind, Sem.run_pure, run_underlying Tryz.underlying9, Result.andThen_ok]
  rw [if_pos (by omega), Int.toNat_natCast, h3]
  simp [h4 k hk]

theorem indexAl (k : Nat) (hk : k < 64) (u : World) : (Instr.index 9 (.string ⟨#[65, 66, 67, 68, 69, 70, 71, 72, 73, 74, 75, 76, 77, 78, 79, 80, 81, 82, 83, 84, 85, 86, 87, 88, 89, 90, 97, 98, 99, 100, 101, 102, 103, 104, 105, 106, 107, 108, 109, 110, 111, 112, 113, 114, 115, 116, 117, 118, 119, 120, 121, 122, 48, 49, 50, 51, 52, 53, 54, 55, 56, 57, 45, 95]⟩) (.int .i64 (k : Int))).run Tryz.prog u = .ok (.int .u8 (al k : Nat)) u := indexAlK .i64 k hk u

theorem sign_any (c : Nat) (w : World) (hc : c < 256) :
    Calls Tryz.prog 155 #[.int .u8 (c : Int)] w fun e w' => e = .returned (.int .i64 (sgn c)) ∧ w' = w := by
  go_enter Tryz.func155, Tryz.ntmps155
  go_wp2
  go_loop [3] (fun i => ∃ k : Nat, k ≤ 64 ∧ i = .int .i64 k ∧ ∀ j, j < k → ¬ al j = c) (fun i => 64 - (intOf i).toNat)
  case atStart => exact ⟨0, by omega, rfl, fun j hj => by omega⟩
  case round =>
    obtain ⟨k, hk, rfl, hall⟩ := hrel
    have HA := hide hall
    clear hall
    by_cases hlt : k < 64
    · have hix := indexAl k hlt
      by_cases he : al k = c
      · have he' : (((al k : Nat) : Int) == ((c : Nat) : Int)) = true := by simp [he]
        have HE := hide he
        clear he
        go_wp2
        go_ret
        exact ⟨ret_int (by rw [← unhide HE, sgn_al k hlt]), rfl⟩
      · have he' : (((al k : Nat) : Int) == ((c : Nat) : Int)) = false := by rw [beq_eq_false_iff_ne]; omega
        have HE := hide he
        clear he
        go_wp2
        go_round
        case rel => exact ⟨k + 1, by omega, by go_num, fun j hj => by
          by_cases e : j = k
          · subst e; exact unhide HE
          · exact unhide HA j (by omega)⟩
        case measure => simp [intOf]; omega
    · obtain rfl : k = 64 := by omega
      go_wp2
      go_ret
      refine ⟨ret_int ?_, rfl⟩
      have h1 := al_sgn c hc
      have h2 := sgn_lo c
      by_cases h3 : 0 ≤ sgn c
      · exact absurd (h1 h3).1 (unhide HA _ (by omega))
      · omega

theorem tup_eq {a v : Int} {y b : Bool} (h1 : a = v) (h2 : y = b) : Ending.returned (.tuple #[.int .u32 a, .bool y]) = .returned (.tuple #[.int .u32 v, .bool b]) := by rw [h1, h2]
def sgv (c : Nat) : Nat := (sgn c).toNat
def sgo (c : Nat) : Bool := decide (0 ≤ sgn c)
theorem sgv_eq (c : Nat) : ((sgv c : Nat) : Int) = if 65 ≤ c ∧ c ≤ 90 then (c : Int) - 65 else if 97 ≤ c ∧ c ≤ 122 then (c : Int) - 71 else if 48 ≤ c ∧ c ≤ 57 then (c : Int) + 4 else if c = 45 then 62 else if c = 95 then 63 else 0 := by
  unfold sgv sgn; omega
theorem sgo_eq (c : Nat) : sgo c = decide ((65 ≤ c ∧ c ≤ 90) ∨ (97 ≤ c ∧ c ≤ 122) ∨ (48 ≤ c ∧ c ≤ 57) ∨ c = 45 ∨ c = 95) := by
  unfold sgo sgn
  rw [decide_eq_decide]; omega
theorem six_any (c : Nat) (w : World) (hc : c < 256) :
    Calls Tryz.prog 99 #[.int .u8 (c : Int)] w fun e w' => e = .returned (.tuple #[.int .u32 (sgv c : Nat), .bool (sgo c)]) ∧ w' = w := by
  go_enter Tryz.func99, Tryz.ntmps99
  go_wp2
  all_goals go_ret2
  all_goals refine ⟨tup_eq ?_ ?_, rfl⟩
  all_goals try simp only [beq_iff_eq, beq_eq_false_iff_ne, ne_eq] at *
  all_goals first
    | (rw [sgv_eq]; omega)
    | (rw [sgo_eq]; first | (apply Eq.symm; apply decide_eq_true; omega) | (apply Eq.symm; apply decide_eq_false; omega))
end Go.Proofs.YtkmkkmdpjliifaaGreatDoor
namespace Go.Proofs.YtkmkkmdpjliifaaGreatDoor

/-- a number in digits of b bits, the first k of them -/
def nbu (b : Nat) (f : Nat → Nat) : Nat → Nat
  | 0 => 0
  | k + 1 => 2 ^ b * nbu b f k + f k
theorem nb_lt (b : Nat) (f : Nat → Nat) : ∀ n, (∀ j, j < n → f j < 2 ^ b) → nbu b f n < 2 ^ (b * n)
  | 0, _ => by simp [nbu]
  | n + 1, h => by
    have h1 := nb_lt b f n (fun j hj => h j (by omega))
    have h2 := h n (by omega)
    have h3 : 2 ^ b * (nbu b f n + 1) ≤ 2 ^ b * 2 ^ (b * n) := Nat.mul_le_mul_left _ h1
    rw [nbu, Nat.mul_succ b n, Nat.add_comm (b * n) b, Nat.pow_add]
    rw [Nat.mul_add] at h3; omega
theorem nb_congr (b : Nat) {f g : Nat → Nat} : ∀ n, (∀ j, j < n → f j = g j) → nbu b f n = nbu b g n
  | 0, _ => rfl
  | n + 1, h => by rw [nbu, nbu, nb_congr b n (fun j hj => h j (by omega)), h n (by omega)]
theorem nb_pre (b : Nat) (f : Nat → Nat) (i : Nat) : ∀ k, (∀ j, j < i + k → f j < 2 ^ b) → nbu b f (i + k) / 2 ^ (b * k) = nbu b f i
  | 0, _ => by simp
  | k + 1, h => by
    rw [← Nat.add_assoc, nbu, Nat.mul_succ, Nat.add_comm (b * k) b, Nat.pow_add, ← Nat.div_div_eq_div_mul]
    rw [Nat.mul_add_div (Nat.two_pow_pos b), Nat.div_eq_of_lt (h (i + k) (by omega)), Nat.add_zero]
    exact nb_pre b f i k (fun j hj => h j (by omega))
/-- what is gathered bit by bit -/
def gb (f : Nat → Nat) (s : Nat) : Nat → Nat
  | 0 => 0
  | k + 1 => 2 * gb f s k + f (s + k)
theorem by_lt8 (l : List UInt8) (n : Nat) : ∀ j, j < n → by_ l j < 2 ^ 8 := fun j _ => by_lt l j

/-- how many characters -/
def mOf (n : Nat) : Nat := (8 * n + 5) / 6
/-- what a character of Base64 stands for -/
def cv (l : List UInt8) (p : Nat) : Nat := nbu 8 (by_ l) l.length * 2 ^ (6 * mOf l.length - 8 * l.length) / 2 ^ (6 * (mOf l.length - 1 - p)) % 64
theorem cv_lt (l : List UInt8) (p : Nat) : cv l p < 64 := Nat.mod_lt _ (by decide)
theorem cv_full (l : List UInt8) (p i : Nat) (hi : i ≤ l.length) (hp : 6 * p + 6 ≤ 8 * i) : cv l p = nbu 8 (by_ l) i / 2 ^ (8 * i - 6 * p - 6) % 64 := by
  have hpre := nb_pre 8 (by_ l) i (l.length - i) (by_lt8 l _)
  rw [show i + (l.length - i) = l.length by omega] at hpre
  have hm : mOf l.length = (8 * l.length + 5) / 6 := rfl
  unfold cv
  have e : 6 * (mOf l.length - 1 - p) = (6 * mOf l.length - 8 * l.length) + (8 * (l.length - i) + (8 * i - 6 * p - 6)) := by omega
  rw [e, Nat.pow_add, Nat.mul_comm (nbu 8 (by_ l) l.length), Nat.mul_div_mul_left _ _ (Nat.two_pow_pos _), Nat.pow_add, ← Nat.div_div_eq_div_mul, hpre]
theorem cv_last (l : List UInt8) (q : Nat) (h0 : 6 * q < 8 * l.length) (h1 : 8 * l.length < 6 * q + 6) : cv l q = nbu 8 (by_ l) l.length * 2 ^ (6 - (8 * l.length - 6 * q)) % 64 := by
  have hm : mOf l.length = q + 1 := by unfold mOf; omega
  unfold cv
  rw [hm, show 6 * (q + 1 - 1 - q) = 0 by omega, Nat.pow_zero, Nat.div_one, show 6 * (q + 1) - 8 * l.length = 6 - (8 * l.length - 6 * q) by omega]
end Go.Proofs.YtkmkkmdpjliifaaGreatDoor
namespace Go.Proofs.YtkmkkmdpjliifaaGreatDoor
open Go.ChangeShapes Go.WideShapes Go.ChangeAt Go.RowKit

theorem cell_new (w : World) (x : Value) (t : TypeId) : (w.alloc (.cells #[x] t)).cell? ⟨w.heap.size, 0, none⟩ = some x := by simp
end Go.Proofs.YtkmkkmdpjliifaaGreatDoor
namespace Go.Proofs.YtkmkkmdpjliifaaGreatDoor
open Go.ChangeShapes Go.WideShapes Go.ChangeAt Go.RowKit

/-- a character of Base64 -/
def ac (n : Nat) : UInt8 := aL.getD n 0
/-- the first p characters of Base64 -/
def pT (l : List UInt8) (p : Nat) : List UInt8 := (List.range p).map (fun p => ac (cv l p))
theorem pT_length (l : List UInt8) (p : Nat) : (pT l p).length = p := by simp [pT]
/-- Base64 -/
def packL (l : List UInt8) : List UInt8 := pT l (mOf l.length)
end Go.Proofs.YtkmkkmdpjliifaaGreatDoor
namespace Go.Proofs.YtkmkkmdpjliifaaGreatDoor
open Go.ChangeShapes Go.WideShapes Go.ChangeAt Go.RowKit

/-- the first p characters, as numbers -/
def pN_ (l : List UInt8) (p : Nat) : List Nat := (List.range p).map (fun p => al (cv l p))
theorem pN_length_ (l : List UInt8) (p : Nat) : (pN_ l p).length = p := by simp [pN_]
theorem pN_succ_ (l : List UInt8) (p : Nat) : pN_ l p ++ [al (cv l p)] = pN_ l (p + 1) := by simp [pN_, List.range_succ]
theorem ownB_made (w : World) (c : Nat) (hc : c ≤ 16777216) : OwnB (w.alloc (.cells (zc .u8 c) 5)) w.heap.size (.slice (some ⟨w.heap.size, 0, none⟩) 0 c) [] :=
  ⟨by simp, Or.inr ⟨w.heap.size, c, zc .u8 c, rfl, Nat.le_refl _, heap_alloc_new w _, Nat.zero_le _, by unfold maxLen; omega, by rw [zc_size, Nat.mul_one], by simp⟩⟩

theorem held8 (h b : Nat) (_hh : h < 4294967296) (hb : b < 256) : bits .or .u32 ((h : Int) * 256 % 4294967296) ((b : Int) % 4294967296) = (((256 * h + b) % 4294967296 : Nat) : Int) := by
  rw [show (h : Int) * 256 % 4294967296 = ((2 ^ 8 * (h % 16777216) : Nat) : Int) by omega, show (b : Int) % 4294967296 = (b : Int) by omega, orN32 _ _ (by omega) (by omega), or_add _ 8 _ (by omega)]
  omega

theorem conv_own {w : World} {base : Nat} {v : Value} {L : List Nat} (h : OwnB w base v L) : (convert 110 9 v).run Tryz.prog w = .ok (.string ⟨(L.map UInt8.ofNat).toArray⟩) w := by
  rcases OwnB.shape h with ⟨rfl, rfl⟩ | ⟨g, cap, rfl, _, _, h4⟩
  · exact run_convert_bytes_nil w 110 5 Tryz.underlying110 Tryz.underlying5 0 0 9 Tryz.underlying9
  · rw [conv8 (w := w) g 0 L.length cap (fun j => L.getD j 0) (fun i hi => h4.cell hi)]
    have e : bs L.length (fun j => L.getD j 0) = L.map UInt8.ofNat := by
      unfold bs
      apply List.ext_getElem?
      intro i
      rw [List.getElem?_map, List.getElem?_map]
      rcases Nat.lt_or_ge i L.length with hi | hi
      · rw [List.getElem?_range hi, List.getElem?_eq_getElem hi]
        simp [List.getD_eq_getElem?_getD, List.getElem?_eq_getElem hi]
      · rw [List.getElem?_eq_none (by simpa using hi), List.getElem?_eq_none hi]; rfl
    rw [e]
theorem pN_pT (l : List UInt8) (p : Nat) : (pN_ l p).map UInt8.ofNat = pT l p := by
  unfold pN_ pT
  rw [List.map_map]
  apply List.map_congr_left
  intro j _
  show UInt8.ofNat (aL.getD (cv l j) 0).toNat = ac (cv l j)
  unfold ac
  exact UInt8.ofNat_toNat
theorem and63 (x : Nat) (hx : x < 4294967296) : bits .and .u32 (x : Int) 63 = ((x % 64 : Nat) : Int) := by
  have h63 : (63 : Int) = wi (BitVec.ofNat 32 63) := by decide
  rw [← wi_ofNat x hx, h63, and32]
  unfold wi
  rw [BitVec.toNat_and, BitVec.toNat_ofNat, BitVec.toNat_ofNat, Nat.mod_eq_of_lt (show x < 2 ^ 32 by omega)]
  have := Nat.and_two_pow_sub_one_eq_mod x 6
  exact congrArg _ this
theorem mod_shift (N e : Nat) (he : e ≤ 7) : N % 4294967296 / 2 ^ e % 64 = N / 2 ^ e % 64 := by
  rcases (show e = 0 ∨ e = 1 ∨ e = 2 ∨ e = 3 ∨ e = 4 ∨ e = 5 ∨ e = 6 ∨ e = 7 by omega) with rfl | rfl | rfl | rfl | rfl | rfl | rfl | rfl <;> omega
theorem emitL (H N e : Nat) (hH : N % 4294967296 = H) (he : e ≤ 6) : bits .and .u32 ((H : Int) * 2 ^ e % 4294967296) 63 = ((N * 2 ^ e % 64 : Nat) : Int) := by
  have h1 : (H : Int) * 2 ^ e % 4294967296 = ((H * 2 ^ e % 4294967296 : Nat) : Int) := by rw [Int.natCast_emod, Int.natCast_mul, Int.natCast_pow]; rfl
  rw [h1, and63 _ (by omega), ← hH]
  congr 1
  rcases (show e = 0 ∨ e = 1 ∨ e = 2 ∨ e = 3 ∨ e = 4 ∨ e = 5 ∨ e = 6 by omega) with rfl | rfl | rfl | rfl | rfl | rfl | rfl <;> omega
theorem emit6 (H N e : Nat) (hH : N % 4294967296 = H) (he : e ≤ 7) : bits .and .u32 ((H : Int) / 2 ^ e) 63 = ((N / 2 ^ e % 64 : Nat) : Int) := by
  have h1 : (H : Int) / 2 ^ e = ((H / 2 ^ e : Nat) : Int) := by rw [Int.natCast_ediv, Int.natCast_pow]; rfl
  have h2 : H / 2 ^ e ≤ H := Nat.div_le_self _ _
  rw [h1, and63 _ (by omega), ← mod_shift N e he, hH]

set_option maxRecDepth 20000 in
set_option maxHeartbeats 1000000 in
theorem packP_any (l : List UInt8) (w : World) (hl : l.length ≤ 1048576) :
    Calls Tryz.prog 59 #[.string ⟨l.toArray⟩] w fun e w' => e = .returned (.string ⟨(packL l).toArray⟩) ∧ Below w.heap.size w w' := by
  have hmk : ∀ u : World, (Instr.makeSlice 110 (.int .i64 0) (.int .i64 ((l.length : Int) / 3 * 4 + 4))).run Tryz.prog u = .ok (.slice (some ⟨u.heap.size, 0, none⟩) 0 (l.length / 3 * 4 + 4)) (u.alloc (.cells (zc .u8 (l.length / 3 * 4 + 4)) 5)) := fun u => by
    rw [make8 _ _ (by omega) (by omega) (by omega), show ((l.length : Int) / 3 * 4 + 4).toNat = l.length / 3 * 4 + 4 by omega]; rfl
  have hO0 := ownB_made w (l.length / 3 * 4 + 4) (by omega)
  go_enter Tryz.func59, Tryz.ntmps59
  go_wp2
  go_loopg [3, 4, 5, 15] l.length (fun q v h c i wr => ∃ k p : Nat, k + q = l.length ∧ i = .int .i64 k ∧ 6 * p ≤ 8 * k ∧ 8 * k < 6 * p + 6 ∧ c = .int .i64 ((8 * k - 6 * p : Nat) : Int) ∧ h = .int .u32 ((nbu 8 (by_ l) k % 4294967296 : Nat) : Int) ∧ OwnB wr w.heap.size v (pN_ l p) ∧ Below w.heap.size w wr)
  case atStart => exact ⟨0, 0, by omega, rfl, by omega, by omega, rfl, rfl, hO0, (Below.refl _ _).alloc (Nat.le_refl _) _⟩
  case round =>
    clear hO0 hmk
    obtain ⟨k, p, hk, rfl, hp1, hp2, rfl, rfl, hO, hB⟩ := hrel
    generalize hc : 8 * k - 6 * p = c
    have hc6 : c < 6 := by omega
    have HC := hide hc
    clear hc
    generalize hh : nbu 8 (by_ l) k % 4294967296 = h
    have HH := hide hh
    have hhl : h < 4294967296 := by omega
    have HHL := hide hhl
    clear hh hhl
    by_cases hlt : k < l.length
    · have hlk : k < (ByteArray.mk l.toArray).size := by simpa [ByteArray.size] using hlt
      go_wp2
      rw [by_get ⟨l.toArray⟩ k hlk, show (ByteArray.mk l.toArray).data.toList = l from rfl, held8 h _ (unhide HHL) (by_lt l k)]
      generalize hH : (256 * h + by_ l k) % 4294967296 = H
      have HH2 : Hid (nbu 8 (by_ l) (k + 1) % 4294967296 = H ∧ H < 4294967296) := by
        have := unhide HH
        exact ⟨by rw [nbu, ← hH, ← this]; omega, by omega⟩
      clear hH
      go_loopg [3, 5] ((c + 8) / 6) (fun q v i wq => ∃ p c : Nat, c + 6 * p = 8 * (k + 1) ∧ q = c / 6 ∧ c ≤ 13 ∧ i = .int .i64 c ∧ OwnB wq w.heap.size v (pN_ l p) ∧ Below w.heap.size w wq)
      case atStart => exact ⟨p, c + 8, by have := unhide HC; omega, rfl, by omega, rfl, hO, hB⟩
      case round =>
        clear hO hB
        obtain ⟨p, c, hcp, hq, hc13, rfl, hO, hB⟩ := hrel
        have hsz := hB.size
        by_cases hge : 6 ≤ c
        · have hem := emit6 H (nbu 8 (by_ l) (k + 1)) (c - 6) HH2.out.1 (by omega)
          rw [show c - 6 = 8 * (k + 1) - 6 * p - 6 by omega, ← cv_full l p (k + 1) (by omega) (by omega), show 8 * (k + 1) - 6 * p - 6 = c - 6 by omega] at hem
          have hix := indexAlK .u32 (cv l p) (cv_lt l p)
          have hal := al_lt (cv l p) (cv_lt l p)
          have hps := pN_succ_ l p
          generalize cv l p = cc at hem hix hal hps
          generalize al cc = aa at hix hal hps
          have HPS := hide hps
          clear hps
          go_wp2_with (at_builtin; refine app110 rfl _ _ rfl w.heap.size _ _ aa rfl (hO.alloc _) _ rfl (cell_new _ _ _) (by rw [pN_length_]; omega) (by simp; omega) ?_; intro v' w1 hO1 hg1)
          go_roundg ((c - 6) / 6)
          case measure => omega
          case rel =>
            rw [unhide HPS] at hO1
            exact ⟨p + 1, c - 6, by omega, rfl, by omega, by go_num, hO1, below_grown (hB.alloc hsz _) hg1 (by simp; omega) (fun k hk => by have := OwnB.lt hO k hk; simp; omega) (Nat.le_refl _)⟩
        · have hge' : ¬ (6 : Int) ≤ c := by omega
          go_wp2
          go_roundg (l.length - (k + 1))
          case measure => omega
          case rel => exact ⟨k + 1, p, by omega, by go_num, by omega, by omega, congrArg (Value.int .i64) (by omega), by rw [HH2.out.1], hO, hB⟩
    · obtain rfl : k = l.length := by omega
      have hsz := hB.size
      by_cases hc0 : c = 0
      · subst hc0
        have hcv := conv_own hO
        rw [pN_pT] at hcv
        go_wp2
        go_ret
        refine ⟨?_, hB⟩
        have hm : mOf l.length = p := by have := unhide HC; unfold mOf; omega
        unfold packL
        rw [hm]; rfl
      · have hcpos : (0 : Int) < c := by omega
        have hem := emitL h (nbu 8 (by_ l) l.length) (6 - c) (unhide HH) (by omega)
        have hcl := cv_last l p (by have := unhide HC; omega) (by omega)
        rw [unhide HC] at hcl
        rw [← hcl] at hem
        have hix := indexAlK .u32 (cv l p) (cv_lt l p)
        have hal := al_lt (cv l p) (cv_lt l p)
        have hps := pN_succ_ l p
        generalize cv l p = cc at hem hix hal hps
        generalize al cc = aa at hix hal hps
        have HPS := hide hps
        clear hps hcl
        go_wp2_with (at_builtin; refine app110 rfl _ _ rfl w.heap.size _ _ aa rfl (hO.alloc _) _ rfl (cell_new _ _ _) (by rw [pN_length_]; omega) (by simp; omega) ?_; intro v' w1 hO1 hg1; rw [unhide HPS] at hO1; have hcv := conv_own hO1; rw [pN_pT] at hcv)
        go_ret
        refine ⟨?_, below_grown (hB.alloc hsz _) hg1 (by simp; omega) (fun k hk => by have := OwnB.lt hO k hk; simp; omega) (Nat.le_refl _)⟩
        have hm : mOf l.length = p + 1 := by have := unhide HC; unfold mOf; omega
        unfold packL
        rw [hm]; rfl
end Go.Proofs.YtkmkkmdpjliifaaGreatDoor
