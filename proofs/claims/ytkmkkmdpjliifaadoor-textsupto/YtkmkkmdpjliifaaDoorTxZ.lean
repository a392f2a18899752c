import Derived.Test.YtkmkkmdpjliifaaDoorTxY
import Derived.Test.YtkmkkmdpjliifaaDoorTxF
import Derived.Deep.RegionHeld3
namespace Go.Proofs.YtkmkkmdpjliifaaDoor
open Go.ChangeShapes Go.WideShapes Go.ChangeAt Go.RowKit

theorem by_bound (l : List UInt8) : ∀ j, j < 64 → by_ l j < 256 := fun j _ => by_lt l j
theorem turn54 (l : List UInt8) (w : World) :
    Calls Tryd.prog 59 #[.agg (arrOf 64 (bf (by_ l))), .int .u8 54] w fun e w' => e = .returned (.string ⟨(tk l 54).toArray⟩) ∧ Below w.heap.size w w' :=
  turned_any (by_ l) 54 w (by_bound l) (by decide)
theorem turn92 (l : List UInt8) (w : World) :
    Calls Tryd.prog 59 #[.agg (arrOf 64 (bf (by_ l))), .int .u8 92] w fun e w' => e = .returned (.string ⟨(tk l 92).toArray⟩) ∧ Below w.heap.size w w' :=
  turned_any (by_ l) 92 w (by_bound l) (by decide)

/-- what lies in memory while the last row of Mac runs -/
def TM (w w5 : World) (b5 b6 : Nat) (kl : List UInt8) (sf : Nat → Nat) (w' : World) : Prop :=
  Row w' b5 87 64 (bf (by_ kl)) ∧ Row w' b6 26 32 (bf sf) ∧ (∃ f, Row w' w.heap.size 26 32 f) ∧ Below w.heap.size w w' ∧ w5.heap.size ≤ w'.heap.size
section
variable {w w5 w' w'' : World} {b5 b6 : Nat} {kl : List UInt8} {sf : Nat → Nat}
theorem TM.below (h : TM w w5 b5 b6 kl sf w') (hb : Below w'.heap.size w' w'') : TM w w5 b5 b6 kl sf w'' := by
  obtain ⟨h1, h2, ⟨f, h3⟩, h4, h5⟩ := h
  exact ⟨h1.below hb h1.lt, h2.below hb h2.lt, ⟨f, h3.below hb h3.lt⟩, h4.trans (hb.mono h4.size), Nat.le_trans h5 hb.size⟩
theorem TM.set (h : TM w w5 b5 b6 kl sf w') (h5 : w.heap.size ≠ b5) (h6 : w.heap.size ≠ b6) (vs : List Value) : TM w w5 b5 b6 kl sf (w'.setCells w.heap.size 0 vs) := by
  obtain ⟨k1, k2, ⟨f, k3⟩, k4, k5⟩ := h
  have hg := grown_setCells w.heap.size vs 0 w'
  exact ⟨k1.grown hg (by simpa using h5.symm), k2.grown hg (by simpa using h6.symm), ⟨_, Row.setCells vs 0 w' f k3⟩, k4.grown hg k4.size (fun k hk => by cases hk; exact Nat.le_refl _), Nat.le_trans k5 hg.size⟩
theorem TM.s (h : TM w w5 b5 b6 kl sf w') : w'.rangeAt b5 0 (arrOf 64 (bf (by_ kl))).toList ∧ w'.there w.heap.size 0 32 ∧ (convert 33 9 (.slice (some ⟨b6, 0, none⟩) 32 32)).run Tryd.prog w' = .ok (.string ⟨(bs 32 sf).toArray⟩) w' ∧ TM w w5 b5 b6 kl sf w' := by
  have h' := h
  obtain ⟨h1, h2, ⟨f, h3⟩, h4, h5⟩ := h
  refine ⟨fun j v hv => ?_, fun j hj => ?_, conv8 (w := w') b6 0 32 32 sf (fun i hi => by rw [Nat.zero_add]; exact h2.cell hi), h'⟩
  · have hj : j < 64 := by
      rcases Nat.lt_or_ge j 64 with h | h
      · exact h
      · rw [List.getElem?_eq_none (by rw [Array.length_toList, arrOf_size]; exact h)] at hv; cases hv
    rw [Array.getElem?_toList, arrOf_get _ _ j hj] at hv
    rw [Nat.zero_add, ← Option.some.inj hv]; exact h1.cell hj
  · rw [Nat.zero_add]; exact ⟨by rw [h3.cell hj]; rfl, h3.frozen j⟩
theorem TM.pos (h : TM w w5 b5 b6 kl sf w') (h0 : 0 < w.heap.size) : 0 < w'.heap.size := by have := h.2.2.2.1.size; omega
theorem TM.tab (h : TM w w5 b5 b6 kl sf w') (h0 : 0 < w.heap.size) (hK : Rd w 0 0 64 (fun j => .int .u32 (wi (K0 j)))) : Rd w' 0 0 64 (fun j => .int .u32 (wi (K0 j))) := hK.below h.2.2.2.1 h0
theorem TM.drew (h : TM w w5 b5 b6 kl sf w') : TM w w5 b5 b6 kl sf w'.drew := h.below ⟨rfl, rfl, rfl, Nat.le_refl _, fun _ _ => rfl⟩
end
theorem len72 (f : Nat → Value) : (Tryd.prog.info? 87).map (·.size) = some (arrOf 64 f).toList.length := by rw [Array.length_toList, arrOf_size]; exact sz87
theorem len72' (f : Nat → Value) : (arrOf 64 f).toList.length = 64 := by rw [Array.length_toList, arrOf_size]
theorem one72 (f : Nat → Nat) (n : Nat) : ∀ v ∈ (arrOf n (bf f)).toList, v.oneCell' = true := fun v hv => by
  obtain ⟨j, hj, rfl⟩ := List.mem_iff_getElem.1 hv
  have h2 := arrOf_get n (bf f) j (by rw [Array.length_toList, arrOf_size] at hj; exact hj)
  rw [← Array.getElem?_toList, List.getElem?_eq_getElem hj] at h2
  rw [Option.some.inj h2]; rfl

/-- cells of bytes, as a list -/
def cl (n : Nat) (F : Nat → Nat) : List Value := (arrOf n (bf F)).toList
theorem cl_length (n : Nat) (F : Nat → Nat) : (cl n F).length = n := by unfold cl; rw [Array.length_toList, arrOf_size]
theorem cl_one (n : Nat) (F : Nat → Nat) : ∀ v ∈ cl n F, v.oneCell' = true := one72 F n
theorem cl_arr (n : Nat) (F : Nat → Nat) : (cl n F).toArray = arrOf n (bf F) := by unfold cl; exact Array.toArray_toList
theorem hashC (l : List UInt8) (w : World) (hs : l.length ≤ 4194304) (h0 : 0 < w.heap.size) (hK : Rd w 0 0 64 (fun j => .int .u32 (wi (K0 j)))) :
    Calls Tryd.prog 58 #[.string ⟨l.toArray⟩] w fun e w' => e = .returned (.agg (cl 32 (shaF K0 H0 l)).toArray) ∧ Below w.heap.size w w' := by
  rw [cl_arr]; exact hashL l w hs h0 hK
theorem row_cl {w : World} {g : Nat} {t : TypeId} {f : Nat → Value} (h : Row w g t 32 f) (F : Nat → Nat) : Row (w.setCells g 0 (cl 32 F)) g t 32 (bf F) :=
  (Row.setCells (cl 32 F) 0 w f h).congr (fun j hj => by
    rw [cl_length, if_pos ⟨Nat.zero_le _, by omega⟩, Nat.sub_zero]
    unfold cl
    rw [List.getD_eq_getElem?_getD, Array.getElem?_toList, arrOf_get _ _ j hj]; rfl)

set_option maxRecDepth 20000 in
set_option maxHeartbeats 1000000 in
theorem mac_any (key text : List UInt8) (w : World) (hk : key.length ≤ 2097152) (ht : text.length ≤ 2097152) (h0 : 0 < w.heap.size) (hK : Rd w 0 0 64 (fun j => .int .u32 (wi (K0 j)))) :
    Calls Tryd.prog 27 #[.string ⟨key.toArray⟩, .string ⟨text.toArray⟩] w fun e w' => e = .returned (.agg (arrOf 32 (bf (shaF K0 H0 (tk (keyL K0 H0 key) 92 ++ shaL K0 H0 (tk (keyL K0 H0 key) 54 ++ text)))))) ∧ Below w.heap.size w w' := by
  have hRa : Row (w.alloc (.cells (Array.replicate 32 (.int .u8 0)) 26)) w.heap.size 26 32 (fun _ => .int .u8 0) :=
    Row.new w 26 (Array.replicate 32 (.int .u8 0)) _ 32 (by simp) (fun j hj => by simp [hj])
  have HT : Hid (key.length ≤ 2097152 ∧ text.length ≤ 2097152) := ⟨hk, ht⟩
  clear hk ht
  go_enter Tryd.func27, Tryd.ntmps27
  go_wp2_with fail
  refine (keyBlock_any key _ HT.out.1 (by simp) (hK.alloc h0 _)).mono ?_
  rintro e w1 ⟨rfl, hb1⟩
  have hs1 : w.heap.size + 1 ≤ w1.heap.size := by have := hb1.size; simp at this; omega
  have hR1 := hRa.below hb1 (by simp)
  have hB1 : Below w.heap.size w w1 := ((Below.refl w.heap.size w).alloc (Nat.le_refl _) _).trans (hb1.mono (by simp))
  clear hb1 hRa
  generalize hkl : keyL K0 H0 key = kl
  have HKL := hide hkl
  clear hkl
  go_wp2_with (first | (refine stRow rfl 87 _ _ rfl rfl rfl (Row.new w1 87 (Array.replicate 64 (.int .u8 0)) (fun _ => .int .u8 0) 64 (by simp) (fun j hj => by simp [hj])) sz87 (fun _ _ => rfl) ?_; intro w2 hS hg2) | (refine ldRow rfl 87 _ rfl rfl hS Tryd.underlying87 sz87 ?_))
  have hs2 := hg2.size
  simp at hs2
  have hR2 := (hR1.alloc _).grown hg2 (by simp; omega)
  have hB2 := (hB1.alloc (by omega) _).grown hg2 (by simp; omega) (fun k hk => by cases hk; omega)
  clear hR1 hB1 hg2
  refine (turn54 kl _).mono ?_
  rintro e w3 ⟨rfl, hb3⟩
  have hs3 := hb3.size
  have hR3 := hR2.below hb3 hR2.lt
  have hS3 := hS.below hb3 hS.lt
  have hB3 := hB2.trans (hb3.mono (by omega))
  clear hR2 hS hB2 hb3
  have hadd := cat_any (tk kl 54) text _ rfl (by rw [List.length_append, tk_length]; have := HT.out; omega)
  go_wp2_with fail
  refine (hashL _ _ (by rw [List.length_append, tk_length]; have := HT.out; omega) (by omega) (hK.below hB3 h0)).mono ?_
  rintro e w4 ⟨rfl, hb4⟩
  have hs4 := hb4.size
  have hR4 := hR3.below hb4 hR3.lt
  have hS4 := hS3.below hb4 hS3.lt
  have hB4 := hB3.trans (hb4.mono (by omega))
  clear hR3 hS3 hB3 hb4 hadd
  generalize hsi : shaF K0 H0 (tk kl 54 ++ text) = sf
  have HSI := hide hsi
  clear hsi
  go_wp2_with (refine stRow rfl 26 _ _ rfl rfl rfl (Row.new w4 26 (Array.replicate 32 (.int .u8 0)) (fun _ => .int .u8 0) 32 (by simp) (fun j hj => by simp [hj])) sz26 (fun _ _ => rfl) ?_; intro w5 hI hg5)
  have hs5 := hg5.size
  simp at hs5
  have hR5 := (hR4.alloc _).grown hg5 (by simp; omega)
  have hS5 := (hS4.alloc _).grown hg5 (by simp; omega)
  have hB5 := (hB4.alloc (by omega) _).grown hg5 (by simp; omega) (fun k hk => by cases hk; omega)
  clear hR4 hS4 hB4 hg5
  obtain ⟨b5, hb5⟩ : ∃ b5, b5 = w1.heap.size := ⟨_, rfl⟩
  obtain ⟨b6, hb6⟩ : ∃ b6, b6 = w4.heap.size := ⟨_, rfl⟩
  have hne5 : w.heap.size ≠ b5 := by omega
  have hne6 : w.heap.size ≠ b6 := by omega
  rw [← hb5] at hS5 ⊢
  rw [← hb6] at hI ⊢
  have hT : TM w w5 b5 b6 kl sf w5.drew := TM.drew ⟨hS5, hI, ⟨_, hR5⟩, hB5, Nat.le_refl _⟩
  have hadd2 := cat_any (tk kl 92) (bs 32 sf) _ rfl (by rw [List.length_append, tk_length, bs_length]; omega)
  have q1 := Tryd.underlying87
  have q2 := len72 (bf (by_ kl))
  have q3 := len72' (bf (by_ kl))
  have q4 := one72 (by_ kl) 64
  have q5 := Tryd.underlying26
  have q7 := cl_one 32 (shaF K0 H0 (tk kl 92 ++ bs 32 sf))
  have q8 := cl_length 32 (shaF K0 H0 (tk kl 92 ++ bs 32 sf))
  have q6 := sz26
  clear hS5 hI hR5 hB5 hb5 hb6 hs1 hs2 hs3 hs4 hs5
  go_region_held3 (fun w' => w'.rangeAt b5 0 (arrOf 64 (bf (by_ kl))).toList ∧ w'.there w.heap.size 0 32 ∧ (convert 33 9 (.slice (some ⟨b6, 0, none⟩) 32 32)).run Tryd.prog w' = .ok (.string ⟨(bs 32 sf).toArray⟩) w' ∧ TM w w5 b5 b6 kl sf w')
    (first | exact TM.s hT | exact TM.s (by assumption) | exact TM.s (TM.set (by assumption) hne5 hne6 _))
    (first
      | (go_at_call 59; have hU := (‹_ ∧ _ ∧ _ ∧ TM w w5 b5 b6 kl sf _›).2.2.2; refine (turn92 kl _).mono ?_; rintro e w6 ⟨rfl, hb6⟩; have hT6 := hU.below hb6)
      | (go_at_call 58; have hU := (‹_ ∧ _ ∧ _ ∧ TM w w5 b5 b6 kl sf _›).2.2.2; refine (hashC _ _ (by rw [List.length_append, tk_length, bs_length]; omega) (hU.pos h0) (hU.tab h0 hK)).mono ?_; rintro e w7 ⟨rfl, hb7⟩; have hT7 := hU.below hb7))
  go_wp2
  obtain ⟨_, _, ⟨f, hRf⟩, hBf, _⟩ := hT7
  have hfin := row_cl hRf (shaF K0 H0 (tk kl 92 ++ bs 32 sf))
  refine ret_row Tryd.results27 _ hfin rfl Tryd.underlying26 (Or.inr ⟨_, _, rfl⟩) sz26 rfl ⟨?_, ?_⟩
  · rw [unhide HKL]; unfold shaL; rw [unhide HSI]
  · exact hBf.grown (grown_setCells _ _ 0 _) hBf.size (fun k hk => by cases hk; exact Nat.le_refl _)

set_option maxRecDepth 20000 in
set_option maxHeartbeats 1000000 in
/-- mandate.Mac -/
theorem Mac_any (key text : List UInt8) (w : World) (hk : key.length ≤ 2097152) (ht : text.length ≤ 2097152) (h0 : 0 < w.heap.size) (hK : Rd w 0 0 64 (fun j => .int .u32 (wi (K0 j)))) :
    Calls Tryd.prog 7 #[.string ⟨key.toArray⟩, .string ⟨text.toArray⟩] w fun e w' => e = .returned (.agg (arrOf 32 (bf (shaF K0 H0 (tk (keyL K0 H0 key) 92 ++ shaL K0 H0 (tk (keyL K0 H0 key) 54 ++ text)))))) ∧ Below w.heap.size w w' := by
  have hRa : Row (w.alloc (.cells (Array.replicate 32 (.int .u8 0)) 26)) w.heap.size 26 32 (fun _ => .int .u8 0) :=
    Row.new w 26 (Array.replicate 32 (.int .u8 0)) _ 32 (by simp) (fun j hj => by simp [hj])
  go_enter Tryd.func7, Tryd.ntmps7
  go_wp2_with fail
  refine (mac_any key text _ hk ht (by simp) (hK.alloc h0 _)).mono ?_
  rintro e w1 ⟨rfl, hb1⟩
  have hR1 := hRa.below hb1 (by simp)
  have hB1 : Below w.heap.size w w1 := ((Below.refl w.heap.size w).alloc (Nat.le_refl _) _).trans (hb1.mono (by simp))
  go_wp2_with (refine stRow rfl 26 _ _ rfl rfl rfl hR1 sz26 (fun _ _ => rfl) ?_; intro w2 hR2 hg2)
  refine ret_row Tryd.results7 _ hR2 rfl Tryd.underlying26 (Or.inr ⟨_, _, rfl⟩) sz26 rfl ⟨rfl, ?_⟩
  exact hB1.grown hg2 hB1.size (fun k hk => by cases hk; exact Nat.le_refl _)
end Go.Proofs.YtkmkkmdpjliifaaDoor
