import Derived.Test.YtkmkkmdpjliifaaDoorNxN
namespace Go.Proofs.YtkmkkmdpjliifaaDoor
open Go.ChangeShapes Go.WideShapes Go.ChangeAt Go.RowKit

/-- n keys without anything -/
def zk (n : Nat) : Array Value := madeCells #[.string ⟨#[]⟩, .string ⟨#[]⟩] n
theorem zk_get (n j : Nat) (h : j < n) : (zk n)[j]? = some (sv []) := by
  have : j % 2 < 2 := Nat.mod_lt _ (by omega)
  simp only [zk, madeCells, Array.getElem?_map, Array.getElem?_range, h, if_true, Option.map_some]
  rcases (show j % 2 = 0 ∨ j % 2 = 1 by omega) with e | e <;> simp [e, sv]
theorem make52 (l c : Int) (h0 : 0 ≤ l) (hlc : l ≤ c) (hc : 32 * c ≤ 281474976710656) (u : World) : (Instr.makeSlice 52 (.int .i64 l) (.int .i64 c)).run Tryd.prog u =
    .ok (.slice (some ⟨u.heap.size, 0, none⟩) l.toNat c.toNat) (u.alloc (.cells (zk (c.toNat * 2)) 59)) := by
  obtain ⟨i0, hi, hz0, hz1, hz2⟩ := info_parts info59
  have h := run_make (P := Tryd.prog) u 52 59 i0 _ Tryd.underlying52 hi hz0 .i64 .i64 l c h0 hlc (by rw [hz2]; exact hc) (by omega)
  rw [hz1] at h
  exact h
/-- cell j of keys -/
def keyF (ks : List Ky) (j : Nat) : Value := if j / 2 < ks.length then (if j % 2 = 0 then sv (ks.getD (j / 2) default).name else sv (ks.getD (j / 2) default).secret) else sv []
theorem keyF_0 (ks : List Ky) (i : Nat) (h : i < ks.length) : keyF ks (i * 2) = sv (ks.getD i default).name := by
  unfold keyF
  rw [show i * 2 / 2 = i by omega, show i * 2 % 2 = 0 by omega, if_pos h, if_pos rfl]
theorem keyF_1 (ks : List Ky) (i : Nat) (h : i < ks.length) : keyF ks (i * 2 + 1) = sv (ks.getD i default).secret := by
  unfold keyF
  rw [show (i * 2 + 1) / 2 = i by omega, show (i * 2 + 1) % 2 = 1 by omega, if_pos h, if_neg (by omega)]
theorem keyF_out (ks : List Ky) (j : Nat) (h : ¬ j / 2 < ks.length) : keyF ks j = sv [] := by unfold keyF; rw [if_neg h]
theorem row_Ks {w : World} {g n c : Nat} {ks : List Ky} (hn : n = ks.length) (h : Row w g 59 (2 * (ks.length + 4)) (keyF ks)) : Ks w w.heap.size (.slice (some ⟨g, 0, none⟩) n c) ks := by
  subst hn
  refine ⟨_, c, rfl, fun _ => ⟨g, 0, rfl, h.lt, fun i hi => ?_⟩⟩
  rw [Nat.zero_add]
  refine ⟨?_, ?_⟩
  · rw [h.cell (j := i * 2) (by omega), keyF_0 ks i hi]
  · rw [h.cell (j := i * 2 + 1) (by omega), keyF_1 ks i hi]
theorem row_Ls {w : World} {g : Nat} {l : List (List UInt8)} (h : Row w g 9 (l.length + 4) (lentF l)) : Ls w w.heap.size (.slice (some ⟨g, 0, none⟩) l.length (l.length + 4)) l := by
  refine ⟨_, _, rfl, by omega, fun _ => ⟨g, 0, rfl, h.lt, fun j hj => ?_⟩⟩
  rw [Nat.zero_add, h.cell (j := j) (by omega)]
  unfold lentF
  rw [if_pos hj]
theorem row_Cs {w : World} {G m : Nat} {cs : List Cl} (h : Row w G 105 (5 * (cs.length + 4)) (fun j => clF G cs cs.length m (j / 5) (j % 5))) (hL : ∀ i, i < cs.length → ListsAt w G i (cs.getD i default)) : Cs w w.heap.size (.slice (some ⟨G, 0, none⟩) cs.length (cs.length + 4)) cs := by
  refine ⟨_, _, rfl, fun _ => ⟨G, 0, rfl, h.lt, fun i hi => ?_⟩⟩
  rw [Nat.zero_add]
  have hc : ∀ f, f < 5 → w.cell? ⟨G, i * 5 + f, none⟩ = some (clF G cs cs.length m i f) := fun f hf => by
    rw [h.cell (j := i * 5 + f) (by omega), show (i * 5 + f) / 5 = i by omega, show (i * 5 + f) % 5 = f by omega]
  have c0 := hc 0 (by omega)
  have c1 := hc 1 (by omega)
  have c2 := hc 2 (by omega)
  have c3 := hc 3 (by omega)
  have c4 := hc 4 (by omega)
  obtain ⟨r1, r2, r3⟩ := hL i hi
  unfold clF at c0 c1 c2 c3 c4
  rw [if_pos hi] at c0 c1 c2 c3 c4
  simp at c0 c1 c2 c3 c4
  exact ⟨by rw [c0]; rfl, by rw [c1]; rfl, ⟨_, _, c2, row_Ls r1⟩, ⟨_, _, c3, row_Ls r2⟩, _, _, c4, row_Ls r3⟩
/-- copy(keys, k) -/
theorem copy_keys {w : World} {B : Nat} {a : Option Addr} {c : Nat} {ks : List Ky} (hB : B ≤ w.heap.size) (hv : Ks w B (.slice a ks.length c) ks) (ty : TypeId) :
    ∃ w', (Builtin.copy_ #[52, 52] ty #[.slice (some ⟨w.heap.size, 0, none⟩) (ks.length + 4) (ks.length + 4), .slice a ks.length c]).run Tryd.prog (w.alloc (.cells (zk ((ks.length + 4) * 2)) 59)) = .ok (goInt ks.length) w' ∧
      Row w' w.heap.size 59 (2 * (ks.length + 4)) (keyF ks) ∧ w'.heap.size = w.heap.size + 1 ∧ Below w.heap.size w w' := by
  have hR0 : Row (w.alloc (.cells (zk ((ks.length + 4) * 2)) 59)) w.heap.size 59 (2 * (ks.length + 4)) (fun _ => sv []) := Row.new w 59 _ _ _ (by simp [zk, madeCells, Nat.mul_comm]) (fun j hj => zk_get _ j (by omega))
  obtain ⟨a1, c1, he, hx⟩ := hv
  obtain ⟨w1, hrun, hR1, hg1, hs1⟩ := copy_any (dT := 52) (sT := 52) (cap := ks.length + 4) (m := ks.length) (cap2 := c) (a := a) (f2 := keyF ks) (n := ks.length + 4) Tryd.underlying52 (show (Tryd.prog.info? 59).map (·.size) = some 2 by kernel_rfl) hR0 (by omega) (by omega)
    (fun hp => by
      obtain ⟨g, o, e, hg, hc⟩ := hx hp
      injection he with e1 e2 e3
      refine ⟨g, o, e1.trans e, fun j hj => ?_⟩
      have hj2 : j / 2 < ks.length := by omega
      refine (((Below.refl w.heap.size w).alloc (Nat.le_refl _) _).cell (p := ⟨g, o + j, none⟩) (by show g < _; omega)).trans ?_
      rcases (show j % 2 = 0 ∨ j % 2 = 1 by omega) with h | h
      · have hj3 : j = j / 2 * 2 := by omega
        rw [hj3, keyF_0 ks (j / 2) hj2]
        exact (hc (j / 2) hj2).1
      · have hj3 : j = j / 2 * 2 + 1 := by omega
        rw [hj3, keyF_1 ks (j / 2) hj2, ← Nat.add_assoc]
        exact (hc (j / 2) hj2).2) (fun j hj => by unfold keyF; split; split <;> rfl; rfl) ty
  refine ⟨w1, hrun, hR1.congr (fun j hj => ?_), by rw [hs1]; simp, ((Below.refl w.heap.size w).alloc (Nat.le_refl _) _).grown hg1 (by simp) (fun k hk => by cases hk; exact Nat.le_refl _)⟩
  by_cases e : j < ks.length * 2
  · rw [if_pos e]
  · rw [if_neg e, keyF_out ks j (by omega)]
end Go.Proofs.YtkmkkmdpjliifaaDoor
