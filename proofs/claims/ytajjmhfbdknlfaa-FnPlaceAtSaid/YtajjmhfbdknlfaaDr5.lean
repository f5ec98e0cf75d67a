/-
  The walk of the model's draw of a signal and steps (DrawPlaceAt). No statement is proved here.
-/
import Derived.Test.YtajjmhfbdknlfaaDr4
import Derived.Deep.RegionHeld3
import Derived.IntWalk
namespace Go.Proofs.Ytajjmhfbdknlfaa
open Go.RowKit
set_option linter.unusedVariables false
set_option linter.unusedSimpArgs false

theorem lit5 (x y u : Int) (x0 : 0 ≤ x) (x1 : x < 40) (y0 : 0 ≤ y) (y1 : y < 200) (u0 : 0 ≤ u) (u1 : u < 250) (j : Nat) (hj : j < 5) : ∃ t : Int, -10000 ≤ t ∧ t ≤ 10000 ∧ (#[.int .i64 x, .int .i64 y, .int .i64 (IntKind.i64.wrap (u * 8)), .int .i64 (-1), .int .i64 2001] : Array Value)[j]? = some (.int .i64 t) := by
  have e : IntKind.i64.wrap (u * 8) = u * 8 := IntWalk.i64_in _ (by omega)
  rcases (show j = 0 ∨ j = 1 ∨ j = 2 ∨ j = 3 ∨ j = 4 by omega) with rfl | rfl | rfl | rfl | rfl
  · exact ⟨x, by omega, by omega, rfl⟩
  · exact ⟨y, by omega, by omega, rfl⟩
  · exact ⟨IntKind.i64.wrap (u * 8), by rw [e]; omega, by rw [e]; omega, rfl⟩
  · exact ⟨-1, by omega, by omega, rfl⟩
  · exact ⟨2001, by omega, by omega, rfl⟩

theorem third (q : Int) (h0 : 0 ≤ q) (h1 : q < 13) : ∃ j : Nat, (0 : Int) ≤ (j : Int) ∧ (j : Int) < 5 ∧ IntKind.i64.wrap (j : Int) = (j : Int) ∧ q.tdiv 3 = (j : Int) ∧ q / 3 = (j : Int) ∧ j < 5 := by
  have e : q.tdiv 3 = q / 3 := Int.tdiv_eq_ediv_of_nonneg h0
  refine ⟨(q / 3).toNat, by omega, by omega, ?_, by omega, by omega, by omega⟩
  rw [IntWalk.i64_in _ (by omega)]

/-- Says nothing of a world (a region's condition must stand as a hypothesis). -/
structure AnyW (w : World) : Prop where
  size : w.heap.size = w.heap.size
theorem anyW (w : World) : AnyW w := ⟨rfl⟩

set_option maxRecDepth 100000 in
set_option maxHeartbeats 12800000 in
theorem drawPlaceAt_any (A : Option Addr) (n c : Nat) (w : World) (hs : By w w.heap.size A n) (hc : n ≤ c) :
    Calls Try.prog 17 #[.slice A n c] w fun e w' => ∃ f d z t, e = .returned (.tuple #[sig f d, .int .i64 z, .int .i64 t]) ∧ -1 ≤ f ∧ f ≤ 53 ∧ -10 ≤ d ∧ d ≤ 10 ∧ -100 ≤ z ∧ z ≤ 100 ∧ -10000 ≤ t ∧ t ≤ 10000 ∧ Below w.heap.size w w' := by
  have bb : Below w.heap.size w (w.alloc (.cells #[.int .i64 0, .int .i64 0] 24)) := (Below.refl _ _).alloc (Nat.le_refl _) _
  have hs' : By (w.alloc (.cells #[.int .i64 0, .int .i64 0] 24)) (w.alloc (.cells #[.int .i64 0, .int .i64 0] 24)).heap.size A n := hs.on bb
  go_enter Try.func17, Try.ntmps17
  go_wp2_with fail
  refine (open_any A n c _ hs' hc).mono ?_
  rintro e w1 ⟨g, rfl, r1, hg, b1⟩
  have hg : w.heap.size + 1 ≤ g := by simpa using hg
  have X0 := hid ((Bx.new w 0 0).below b1 (by first | (simp; done) | (simp; omega)))
  have b1 : Below w.heap.size w w1 := bb.trans (b1.mono (by first | (simp; done) | (simp; omega)))
  clear bb
  go_wp2_with fail
  refine (last_any g _ _ r1 (by omega)).mono ?_
  rintro e w2 ⟨L, rfl, L0, L1, r2, g2⟩
  have b2 := b1.grown g2 b1.size (by intro k hk; cases hk; omega)
  have X0 := hid (X0.out.on g2 (by simp; omega))
  have D2 : Below w2.heap.size w2 w2.drew := (Below.refl _ _).drew
  have R2 := hid (r2.below D2 r2.lt)
  have B2 := hid (b2.trans (D2.mono b2.size))
  have X2 := hid (X0.out.below D2 X0.out.lt)
  clear D2 g2 b1 r1 X0 hs hs' b2 r2
  have S12 := hid (fun (W : World) (P : Nat) (hr : Rd W g P) (hP : P < 100000) => signal_any g P L 12 W hr hP (by omega) (by omega) (by omega) (by omega))
  have P40 := hid (fun (W : World) (P : Nat) (hr : Rd W g P) (hP : P < 1000000) => pick_any g P 40 W hr hP (by omega) (by omega))
  have P200 := hid (fun (W : World) (P : Nat) (hr : Rd W g P) (hP : P < 1000000) => pick_any g P 200 W hr hP (by omega) (by omega))
  have P250 := hid (fun (W : World) (P : Nat) (hr : Rd W g P) (hP : P < 1000000) => pick_any g P 250 W hr hP (by omega) (by omega))
  have P13 := hid (fun (W : World) (P : Nat) (hr : Rd W g P) (hP : P < 1000000) => pick_any g P 13 W hr hP (by omega) (by omega))
  go_wp2_with fail
  go_region_with
    (first
      | (go_at_call 37; with_reducible refine Calls.mono (S12.out _ _ R2.out (by omega)) ?_; rintro e w3 ⟨f, d, rfl, f0, f1, d0, d1, r3, g3⟩; have B3 := hid (B2.out.grown g3 B2.out.size (by intro k hk; cases hk; omega)); have X3 := hid (X2.out.on g3 (by simp; omega)); have R3 := hid r3; clear g3 r3)
      | (go_at_call 38; with_reducible refine Calls.mono (P40.out _ _ R3.out (by omega)) ?_; rintro e w4 ⟨x, rfl, x0, x1, r4, g4⟩; have B4 := hid (B3.out.grown g4 B3.out.size (by intro k hk; cases hk; omega)); have X4 := hid (X3.out.on g4 (by simp; omega)); have R4 := hid r4; clear g4 r4)
      | (go_at_call 38; with_reducible refine Calls.mono (P200.out _ _ R4.out (by omega)) ?_; rintro e w5 ⟨y, rfl, y0, y1, r5, g5⟩; have B5 := hid (B4.out.grown g5 B4.out.size (by intro k hk; cases hk; omega)); have X5 := hid (X4.out.on g5 (by simp; omega)); have R5 := hid r5; clear g5 r5)
      | (go_at_call 38; with_reducible refine Calls.mono (P250.out _ _ R5.out (by omega)) ?_; rintro e w6 ⟨u, rfl, u0, u1, r6, g6⟩; have B6 := hid (B5.out.grown g6 B5.out.size (by intro k hk; cases hk; omega)); have X6 := hid (X5.out.on g6 (by simp; omega)); have R6 := hid r6; clear g6 r6)
      | (go_at_call 38; with_reducible refine Calls.mono (P13.out _ _ R6.out (by omega)) ?_; rintro e w7 ⟨q, rfl, q0, q1, r7, g7⟩; have B7 := hid (B6.out.grown g7 B6.out.size (by intro k hk; cases hk; omega)); have X7 := hid (X6.out.on g7 (by simp; omega)); clear g7 r7; obtain ⟨j, q0', q1', e1, e2, e3, j5⟩ := third q q0 q1; clear q0 q1; have c00 := X7.out.c0; have c01 := X7.out.c1; have f00 := X7.out.fz 0; have f01 := X7.out.fz 1; obtain ⟨t, t0, t1, hlit⟩ := lit5 x y u x0 x1 y0 y1 u0 u1 j j5; have hne : w7.heap.size ≠ w.heap.size := by { have := X7.out.lt; omega }; have Y7 := hid (X7.out.on (grown_alloc w7 (.cells #[.int .i64 x, .int .i64 y, .int .i64 (IntKind.i64.wrap (u * 8)), .int .i64 (-1), .int .i64 2001] 3) none) (by simp)); have d00 := Y7.out.c0; have d01 := Y7.out.c1; have h00 := Y7.out.fz 0; have h01 := Y7.out.fz 1; have hlg : ([.int .i64 x, .int .i64 y, .int .i64 (IntKind.i64.wrap (u * 8)), .int .i64 (-1), .int .i64 2001] : List Value)[j]'(by simpa using j5) = .int .i64 t := by { have h5 := hlit; simpa [j5] using h5 })
      | (go_at_call 38; with_reducible refine Calls.mono (P13.out _ _ (R6.out.below (w' := w6.alloc (.cells #[.int .i64 x, .int .i64 y, .int .i64 (IntKind.i64.wrap (u * 8)), .int .i64 (-1), .int .i64 2001] 3)) ((Below.refl w6.heap.size w6).alloc (Nat.le_refl _) _) R6.out.lt) (by omega)) ?_; rintro e w8 ⟨q, rfl, q0, q1, r8, g8⟩; have B8 := hid ((B6.out.trans (((Below.refl w6.heap.size w6).alloc (Nat.le_refl _) (.cells #[.int .i64 x, .int .i64 y, .int .i64 (IntKind.i64.wrap (u * 8)), .int .i64 (-1), .int .i64 2001] 3)).mono B6.out.size)).grown g8 (by have := B6.out.size; simp; omega) (by intro k hk; cases hk; omega)); have X8 := hid ((X6.out.below ((Below.refl w6.heap.size w6).alloc (Nat.le_refl _) (.cells #[.int .i64 x, .int .i64 y, .int .i64 (IntKind.i64.wrap (u * 8)), .int .i64 (-1), .int .i64 2001] 3)) X6.out.lt).on g8 (by simp; omega)); have L8 := hid ((g8.block w6.heap.size (by simp) (by have := R6.out.lt; simp; omega)).trans (heap_alloc_new w6 _)); clear g8 r8; obtain ⟨j, q0', q1', e1, e2, e3, j5⟩ := third q q0 q1; clear q0 q1; have c00 := X8.out.c0; have c01 := X8.out.c1; have f00 := X8.out.fz 0; have f01 := X8.out.fz 1; obtain ⟨t, t0, t1, hlit⟩ := lit5 x y u x0 x1 y0 y1 u0 u1 j j5; have hne : w6.heap.size ≠ w.heap.size := by { have := X6.out.lt; omega }; have hct : w8.cell? ⟨w6.heap.size, j, none⟩ = some (.int .i64 t) := by { rw [cell_of_row w8 _ j _ _ _ L8.out]; exact hlit }))
  all_goals
    clear P40 P200 P250 P13 S12
    go_wp2
    (try simp only [Exit.inBlock, Exit.then])
    first
      | (refine bodyPost_ret (results_c2 rfl _ _ w.heap.size 24 _ (0, 0) _ (by simp [Act.put]) (X8.out.set f d) Try.underlying24 rfl size_sig) rfl ?_
         exact ⟨f, d, L, t, rfl, by omega, by omega, by omega, by omega, by omega, by omega, by omega, by omega, B8.out.trans (below_set2 w8 w.heap.size (.int .i64 f) (.int .i64 d))⟩)
      | (refine bodyPost_ret (results_c2 rfl _ _ w.heap.size 24 _ (0, 0) _ (by simp [Act.put]) (Y7.out.set f d) Try.underlying24 rfl size_sig) rfl ?_
         exact ⟨f, d, L, t, rfl, by omega, by omega, by omega, by omega, by omega, by omega, by omega, by omega, (B7.out.trans (((Below.refl w7.heap.size w7).alloc (Nat.le_refl _) _).mono B7.out.size)).trans (below_set2 _ w.heap.size (.int .i64 f) (.int .i64 d))⟩)
      | (refine bodyPost_ret (results_c2 rfl _ _ w.heap.size 24 _ (0, 0) _ (by simp [Act.put]) ((X7.out.set f d).on (grown_alloc _ (.cells #[.int .i64 x, .int .i64 y, .int .i64 (IntKind.i64.wrap (u * 8)), .int .i64 (-1), .int .i64 2001] 3) none) (by simp)) Try.underlying24 rfl size_sig) rfl ?_
         exact ⟨f, d, L, t, rfl, by omega, by omega, by omega, by omega, by omega, by omega, by omega, by omega, (B7.out.trans (below_set2 w7 w.heap.size (.int .i64 f) (.int .i64 d))).trans (Below.mono ((Below.refl _ _).alloc (Nat.le_refl _) _) (by simpa using B7.out.size))⟩)
end Go.Proofs.Ytajjmhfbdknlfaa
