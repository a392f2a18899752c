import Derived.Test.YtkmkkmdpjliifaaDoorTxC
import Derived.BigRegion
import Derived.Deep.LoopGhost
namespace Go.Proofs.YtkmkkmdpjliifaaDoor
open Go.ChangeShapes Go.WideShapes Go.ChangeAt Go.RowKit

set_option maxRecDepth 100000 in
set_option maxHeartbeats 1000000 in
theorem block_any (K h : Nat → BitVec 32) (s : ByteArray) (vH : Value) (gK gh capK caph : Nat) (w : World)
    (hs : s.size = 64) (hgK : gK < w.heap.size) (hgh : gh < w.heap.size)
    (hK : Cel w gK 0 64 (fun j => .int .i64 (wi (K j)))) (hh : Cel w gh 0 8 (fun j => .int .i64 (wi (h j)))) :
    Calls Tryd.prog 61 #[.agg #[vH, .slice (some ⟨gK, 0, none⟩) 64 capK], .slice (some ⟨gh, 0, none⟩) 8 caph, .string s] w fun e w' =>
      ∃ g, e = .returned (.slice (some ⟨g, 0, none⟩) 8 8) ∧ w.heap.size ≤ g ∧ g < w'.heap.size ∧ Cel w' g 0 8 (fun j => .int .i64 (wi (blk K h s.data.toList j))) ∧ Below w.heap.size w w' := by
  have hmk : ∀ u : World, (Instr.makeSlice 22 (.int .i64 64) (.int .i64 64)).run Tryd.prog u = .ok (.slice (some ⟨u.heap.size, 0, none⟩) 64 64) (u.alloc (.cells (zc .i64 64) 3)) := make64 64 64 (by decide) (by decide) (by decide)
  have hmk2 : ∀ u : World, (Instr.makeSlice 22 (.int .i64 8) (.int .i64 8)).run Tryd.prog u = .ok (.slice (some ⟨u.heap.size, 0, none⟩) 8 8) (u.alloc (.cells (zc .i64 8) 3)) := make64 8 8 (by decide) (by decide) (by decide)
  go_enter Tryd.func61, Tryd.ntmps61
  go_wp2
  go_loopw [8] (fun i wr => ∃ k : Nat, k ≤ 16 ∧ i = .int .i64 k ∧ Cel wr (w.heap.size + 1) 0 64 (fun j => .int .i64 (if j < k then wi (wordAt s.data.toList (4 * j)) else 0)) ∧ w.heap.size + 1 < wr.heap.size ∧ Below (w.heap.size + 1) (w.alloc (.cells #[vH, .slice (some ⟨gK, 0, none⟩) 64 capK] 24)) wr) (fun i _ => 16 - (intOf i).toNat)
  case atStart =>
    exact ⟨0, by omega, rfl, by simpa using (Row.zc (w.alloc (.cells #[vH, .slice (some ⟨gK, 0, none⟩) 64 capK] 24)) .i64 64 3).cel, by simp, (Below.refl _ _).alloc (by simp) _⟩
  case round =>
    obtain ⟨k, hk, rfl, hR, hZ, hB⟩ := hrel
    by_cases hlt : k < 16
    · have hc := hR.cell0 (j := k) (by omega)
      have hfz := hR.frozen0 (j := k) (by omega)
      simp only [Nat.lt_irrefl, if_false] at hc
      go_wp2_with (go_at_call 83; refine (N_any _ _ _ (by omega) (by omega) (by omega)).mono ?_; rintro e w' ⟨rfl, rfl⟩)
      go_roundw
      case rel =>
        refine ⟨k + 1, by omega, by go_num, (hR.set k _).congr (fun j hj => ?_), by simpa using hZ, hB.setCell (Nat.le_refl _) _⟩
        have e : (4 * (k : Int)).toNat = 4 * k := by omega
        by_cases e1 : j = k
        · subst e1; simp only [if_true, Nat.lt_succ_self]
        · have e2 : (j < k + 1) ↔ j < k := by omega
          simp only [e1, e2, if_false]
      case measure => simp [intOf]; omega
    · obtain rfl : k = 16 := by omega
      clear hlt
      go_wp2
      go_loopg [9] 48 (fun q i wr => ∃ n : Nat, n + q = 48 ∧ i = .int .i64 (16 + n) ∧ Cel wr (w.heap.size + 1) 0 64 (fun j => .int .i64 (if j < 16 + n then wi (Wk s.data.toList n j) else 0)) ∧ w.heap.size + 1 < wr.heap.size ∧ Below (w.heap.size + 1) (w.alloc (.cells #[vH, .slice (some ⟨gK, 0, none⟩) 64 capK] 24)) wr)
      case atStart => exact ⟨0, rfl, rfl, hR, hZ, hB⟩
      case round =>
        clear hR hZ hB
        obtain ⟨n, hn, rfl, hR, hZ, hB⟩ := hrel
        by_cases hlt : n < 48
        · have hc := hR.cell0 (j := 16 + n) (by omega)
          have hfz := hR.frozen0 (j := 16 + n) (by omega)
          have hc16 := hR.cell0 (j := 16 + n - 16) (by omega)
          have hc15 := hR.cell0 (j := 16 + n - 15) (by omega)
          have hc7 := hR.cell0 (j := 16 + n - 7) (by omega)
          have hc2 := hR.cell0 (j := 16 + n - 2) (by omega)
          rw [if_neg (by omega)] at hc
          rw [if_pos (by omega)] at hc16 hc15 hc7 hc2
          have hc16' := hc16
          rw [show 16 + n - 16 = n by omega] at hc16'
          go_wp2_with fail
          refine (mixed7 _ _).mono ?_
          rintro e w' ⟨rfl, nq, rfl⟩
          go_wp2_with fail
          refine (mixed17 _ _).mono ?_
          rintro e w' ⟨rfl, nq2, rfl⟩
          go_wp2_with fail
          go_region
          go_wp2
          go_roundg (gk - 1)
          case measure => omega
          case rel =>
            refine ⟨n + 1, by omega, by go_num, ((hR.drewN _).set (16 + n) _).congr (fun j hj => ?_), by simpa using hZ, (below_drewN' hB _).setCell (Nat.le_refl _) _⟩
            show (if j = 16 + n then Value.int IntKind.i64 _ else _) = _
            rw [sum4]
            by_cases e1 : j = 16 + n
            · rw [if_pos e1, if_pos (by omega)]
              subst e1
              show _ = Value.int .i64 (wi (if 16 + n = 16 + n then wext (Wk s.data.toList n) (16 + n) else Wk s.data.toList n (16 + n)))
              rw [if_pos rfl]
              unfold wext
              rw [show 16 + n - 16 = n by omega]
            · have e2 : (j < 16 + (n + 1)) ↔ j < 16 + n := by omega
              rw [if_neg e1]
              simp only [e2]
              show _ = Value.int .i64 (if _ then wi (if j = 16 + n then wext (Wk s.data.toList n) j else Wk s.data.toList n j) else 0)
              rw [if_neg e1]
        · obtain rfl : n = 48 := by omega
          clear hlt
          have hh' : Cel wr gh 0 8 (fun j => .int .i64 (wi (h j))) := (hh.alloc hgh _).below hB (by omega)
          have hK' : Cel wr gK 0 64 (fun j => .int .i64 (wi (K j))) := (hK.alloc hgK _).below hB (by omega)
          have hbox : wr.cell? ⟨w.heap.size, 1, none⟩ = some (.slice (some ⟨gK, 0, none⟩) 64 capK) := by
            rw [hB.cell (p := ⟨w.heap.size, 1, none⟩) (Nat.lt_succ_self _)]; simp
          have h0 := hh'.cell0 (j := 0) (by omega)
          have h1 := hh'.cell0 (j := 1) (by omega)
          have h2 := hh'.cell0 (j := 2) (by omega)
          have h3 := hh'.cell0 (j := 3) (by omega)
          have h4 := hh'.cell0 (j := 4) (by omega)
          have h5 := hh'.cell0 (j := 5) (by omega)
          have h6 := hh'.cell0 (j := 6) (by omega)
          have h7 := hh'.cell0 (j := 7) (by omega)
          go_wp2
          clear h0 h1 h2 h3 h4 h5 h6 h7
          go_loopg [12, 13, 14, 15, 16, 17, 18, 19, 20] 64 (fun q a b c d e f g r i wq => ∃ n : Nat, n + q = 64 ∧ i = .int .i64 n ∧
            a = .int .i64 (wi (rounds K (Wk s.data.toList 48) (S8.of h) n).a) ∧ b = .int .i64 (wi (rounds K (Wk s.data.toList 48) (S8.of h) n).b) ∧
            c = .int .i64 (wi (rounds K (Wk s.data.toList 48) (S8.of h) n).c) ∧ d = .int .i64 (wi (rounds K (Wk s.data.toList 48) (S8.of h) n).d) ∧
            e = .int .i64 (wi (rounds K (Wk s.data.toList 48) (S8.of h) n).e) ∧ f = .int .i64 (wi (rounds K (Wk s.data.toList 48) (S8.of h) n).f) ∧
            g = .int .i64 (wi (rounds K (Wk s.data.toList 48) (S8.of h) n).g) ∧ r = .int .i64 (wi (rounds K (Wk s.data.toList 48) (S8.of h) n).h) ∧
            ∃ nq, wq = wr.drewN nq)
          case atStart => exact ⟨0, rfl, rfl, rfl, rfl, rfl, rfl, rfl, rfl, rfl, rfl, 0, rfl⟩
          case round =>
            obtain ⟨n, hn, rfl, rfl, rfl, rfl, rfl, rfl, rfl, rfl, rfl, nq, rfl⟩ := hrel
            generalize hS : rounds K (Wk s.data.toList 48) (S8.of h) n = S
            have HS : Hid (rounds K (Wk s.data.toList 48) (S8.of h) n = S) := hS
            clear hS
            by_cases hlt : n < 64
            · have hKc := hK'.cell0 (j := n) (by omega)
              have hWc := hR.cell0 (j := n) (by omega)
              rw [if_pos (by omega)] at hWc
              go_wp2_with fail
              refine (turns6 _ _).mono ?_
              rintro e w' ⟨rfl, nq1, rfl⟩
              go_wp2_with fail
              go_quiet (fail)
              go_wp2_with fail
              refine (turns2 _ _).mono ?_
              rintro e w' ⟨rfl, nq2, rfl⟩
              go_wp2
              go_roundg (gk - 1)
              case measure => omega
              case rel =>
                refine ⟨n + 1, by omega, by go_num, ?_⟩
                have hr : rounds K (Wk s.data.toList 48) (S8.of h) (n + 1) = rnd (K n) (Wk s.data.toList 48 n) S := by
                  show rnd _ _ (rounds K (Wk s.data.toList 48) (S8.of h) n) = _
                  rw [HS.out]
                rw [hr]
                simp only [not64w, and64, xor64, sum5, sum3, sum2]
                exact ⟨by show _ = Value.int .i64 (wi (tt _ _ _ + uu _)); unfold tt uu; rw [← BitVec.add_assoc], rfl, rfl, rfl, rfl, rfl, rfl, rfl, _, rfl⟩
            · obtain rfl : n = 64 := by omega
              clear hlt
              go_wp2
              have hx : Cel ((wr.drewN nq).alloc (.cells #[.int .i64 (wi S.a), .int .i64 (wi S.b), .int .i64 (wi S.c), .int .i64 (wi S.d), .int .i64 (wi S.e), .int .i64 (wi S.f), .int .i64 (wi S.g), .int .i64 (wi S.h)] 3)) wr.heap.size 0 8 (fun j => .int .i64 (wi (S.at j))) :=
                (Row.new (wr.drewN nq) 3 _ _ 8 rfl (S8.cells S (fun x => .int .i64 (wi x)))).cel
              have hhx := (hh'.drewN nq).alloc (by show gh < wr.heap.size; omega) (.cells #[.int .i64 (wi S.a), .int .i64 (wi S.b), .int .i64 (wi S.c), .int .i64 (wi S.d), .int .i64 (wi S.e), .int .i64 (wi S.f), .int .i64 (wi S.g), .int .i64 (wi S.h)] 3)
              go_loopg [28] 8 (fun q i wq => ∃ k : Nat, k + q = 8 ∧ i = .int .i64 k ∧ Cel wq (wr.heap.size + 1) 0 8 (fun j => .int .i64 (if j < k then wi (h j + S.at j) else 0)) ∧ wr.heap.size + 1 < wq.heap.size ∧
                Below (wr.heap.size + 1) ((wr.drewN nq).alloc (.cells #[.int .i64 (wi S.a), .int .i64 (wi S.b), .int .i64 (wi S.c), .int .i64 (wi S.d), .int .i64 (wi S.e), .int .i64 (wi S.f), .int .i64 (wi S.g), .int .i64 (wi S.h)] 3)) wq)
              case atStart => exact ⟨0, rfl, rfl, by simpa using (Row.zc ((wr.drewN nq).alloc (.cells #[.int .i64 (wi S.a), .int .i64 (wi S.b), .int .i64 (wi S.c), .int .i64 (wi S.d), .int .i64 (wi S.e), .int .i64 (wi S.f), .int .i64 (wi S.g), .int .i64 (wi S.h)] 3)) .i64 8 3).cel, by simp, (Below.refl _ _).alloc (by simp) _⟩
              case round =>
                obtain ⟨k, hk, rfl, hO, hZO, hBO⟩ := hrel
                by_cases hlt : k < 8
                · have hc := hO.cell0 (j := k) (by omega)
                  have hfz := hO.frozen0 (j := k) (by omega)
                  rw [if_neg (by omega)] at hc
                  have hxc := (hx.below hBO (by omega)).cell0 (j := k) (by omega)
                  have hhc := (hhx.below hBO (by omega)).cell0 (j := k) (by omega)
                  go_wp2_with fail
                  go_region
                  go_wp2
                  go_roundg (gk - 1)
                  case measure => omega
                  case rel =>
                    refine ⟨k + 1, by omega, by go_num, ((hO.drewN _).set k _).congr (fun j hj => ?_), by simpa using hZO, (below_drewN' hBO _).setCell (Nat.le_refl _) _⟩
                    show (if j = k then Value.int IntKind.i64 _ else _) = _
                    rw [sum2]
                    by_cases e1 : j = k
                    · subst e1; simp
                    · have e2 : (j < k + 1) ↔ j < k := by omega
                      simp [e1, e2]
                · obtain rfl : k = 8 := by omega
                  go_wp2
                  go_ret
                  refine ⟨_, rfl, by omega, hZO, hO.congr (fun j hj => ?_), ?_⟩
                  · rw [if_pos hj]; unfold blk; rw [HS.out]
                  · refine Below.trans ((Below.refl w.heap.size w).alloc (Nat.le_refl _) _) (Below.trans (hB.mono (by omega)) ?_)
                    exact Below.trans ((below_drewN' (Below.refl _ _) nq).alloc (by rw [World.heap_drewN]; omega) _) (hBO.mono (by omega))
end Go.Proofs.YtkmkkmdpjliifaaDoor
