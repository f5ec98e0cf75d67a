/-
  The walk of the model's draw of a row and a bound, written by program (draws9.py). No statement is proved here.
-/
import Derived.Test.YtpobcfmldimgiaaDr8
import Derived.Deep.RegionWith
import Derived.IntWalk
namespace Go.Proofs.Ytpobcfmldimgiaa
open Go.RowKit
set_option linter.unusedVariables false
set_option linter.unusedSimpArgs false

theorem lit2 (x y q : Int) (q0 : 0 ≤ q) (q1 : q < 2) (x0 : 0 ≤ x) (x1 : x < 6) (y0 : 0 ≤ y) (y1 : y < 101) : ∃ (j : Nat) (t : Int), q = j ∧ (j : Int) < 2 ∧ (0 : Int) ≤ j ∧ j < 2 ∧ 0 ≤ t ∧ t ≤ 100 ∧ (#[.int .i64 x, .int .i64 y] : Array Value)[j]? = some (.int .i64 t) := by
  rcases (show q = 0 ∨ q = 1 by omega) with rfl | rfl
  · exact ⟨0, x, rfl, by omega, by omega, by omega, by omega, by omega, rfl⟩
  · exact ⟨1, y, rfl, by omega, by omega, by omega, by omega, by omega, rfl⟩

set_option maxRecDepth 100000 in
set_option maxHeartbeats 12800000 in
theorem drawBoundsOf_any (A : Option Addr) (n c : Nat) (w : World) (hs : By w w.heap.size A n) (hc : n ≤ c) :
    Calls Try.prog 35 #[.slice A n c] w fun e w' => ∃ A1 n1 c1 l1 z, e = .returned (.tuple #[.slice A1 n1 c1, .int .i64 z]) ∧ w'.ownsRow w.heap.size 3 1 (.slice A1 n1 c1) n1 (ints l1) ∧ n1 ≤ 15 ∧ -1000 ≤ z ∧ z ≤ 1000 ∧ Below w.heap.size w w' := by
  go_enter Try.func35, Try.ntmps35
  go_wp2_with fail
  refine (open_any A n c _ hs hc).mono ?_
  rintro e w1 ⟨g, rfl, r1, hg, b1⟩
  have D1 : Below w1.heap.size w1 w1.drew := (Below.refl _ _).drew
  have R1 := hid (r1.below D1 r1.lt)
  have B1 := hid (b1.trans (D1.mono b1.size))
  have G1 := hid r1.lt
  have Z1 := hid b1.size
  clear D1 b1 r1 hs hc
  have KK := hid (fun (W : World) (P : Nat) (hr : Rd W g P) (hP : P < 100000) => kept_any g P 12 W hr hP (by omega) (by omega))
  have P6 := hid (fun (W : World) (P : Nat) (hr : Rd W g P) (hP : P < 1000000) => pick_any g P 6 W hr hP (by omega) (by omega))
  have P101 := hid (fun (W : World) (P : Nat) (hr : Rd W g P) (hP : P < 1000000) => pick_any g P 101 W hr hP (by omega) (by omega))
  have P2 := hid (fun (W : World) (P : Nat) (hr : Rd W g P) (hP : P < 1000000) => pick_any g P 2 W hr hP (by omega) (by omega))
  go_wp2_with fail
  go_region_with
    (first
      | (go_at_call 44; with_reducible refine Calls.mono (KK.out _ _ R1.out (by omega)) ?_; rintro e w3 ⟨A1, n1, c1, l1, rfl, o1, hn1, r3, g3⟩; have B3 := hid (B1.out.grown g3 B1.out.size (by intro k hk; cases hk; omega)); have NE := hid (own_ne o1 R1.out.lt); have O3 := hid (own_mono o1 B1.out.size); have R3 := hid r3; clear g3 r3 o1)
      | (go_at_call 49; with_reducible refine Calls.mono (P6.out _ _ R3.out (by omega)) ?_; rintro e w4 ⟨x, rfl, x0, x1, r4, g4⟩; have B4 := hid (B3.out.grown g4 B3.out.size (by intro k hk; cases hk; omega)); have O4 := hid (O3.out.kept g4 NE.out); have R4 := hid r4; clear g4 r4)
      | (go_at_call 49; with_reducible refine Calls.mono (P101.out _ _ R4.out (by omega)) ?_; rintro e w5 ⟨y, rfl, y0, y1, r5, g5⟩; have B5 := hid (B4.out.grown g5 B4.out.size (by intro k hk; cases hk; omega)); have O5 := hid (O4.out.kept g5 NE.out); have R5 := hid r5; clear g5 r5)
      | (go_at_call 49; with_reducible refine Calls.mono (P2.out _ _ R5.out (by omega)) ?_; rintro e w7 ⟨q, rfl, q0, q1, r7, g7⟩; have B7 := hid (B5.out.grown g7 B5.out.size (by intro k hk; cases hk; omega)); have O7 := hid (O5.out.kept g7 NE.out); clear g7 r7; obtain ⟨j, t, rfl, e1, e2, j2, t0, t1, hlit⟩ := lit2 x y q q0 q1 x0 x1 y0 y1; clear q0 q1; have hlg : ([.int .i64 x, .int .i64 y] : List Value)[j]'(by simpa using j2) = .int .i64 t := by { have h5 := hlit; simpa [j2] using h5 })
      | (go_at_call 49; with_reducible refine Calls.mono (P2.out _ _ (R5.out.below (w' := w5.alloc (.cells #[.int .i64 x, .int .i64 y] 3)) ((Below.refl w5.heap.size w5).alloc (Nat.le_refl _) _) R5.out.lt) (by omega)) ?_; rintro e w8 ⟨q, rfl, q0, q1, r8, g8⟩; have B8 := hid ((B5.out.trans (((Below.refl w5.heap.size w5).alloc (Nat.le_refl _) (.cells #[.int .i64 x, .int .i64 y] 3)).mono B5.out.size)).grown g8 (by have := B5.out.size; simp; omega) (by intro k hk; cases hk; omega)); have O8 := hid ((own_kept_none O5.out (grown_alloc w5 (.cells #[.int .i64 x, .int .i64 y] 3) none)).kept g8 NE.out); have L8 := hid ((g8.block w5.heap.size (by simp) (by have := R5.out.lt; simp; omega)).trans (heap_alloc_new w5 _)); clear g8 r8; obtain ⟨j, t, rfl, e1, e2, j2, t0, t1, hlit⟩ := lit2 x y q q0 q1 x0 x1 y0 y1; clear q0 q1; have hct : w8.cell? ⟨w5.heap.size, j, none⟩ = some (.int .i64 t) := by { rw [cell_of_row w8 _ j _ _ _ L8.out]; exact hlit }))
  all_goals
    clear P6 P101 P2 KK
    go_wp2
    go_ret2
    first
      | exact ⟨A1, n1, c1, l1, t, rfl, O8.out, hn1, by omega, by omega, B8.out⟩
      | exact ⟨A1, n1, c1, l1, t, rfl, own_kept_none O7.out (grown_alloc _ _ _), hn1, by omega, by omega, B7.out.trans (((Below.refl w7.heap.size w7).alloc (Nat.le_refl _) _).mono B7.out.size)⟩
end Go.Proofs.Ytpobcfmldimgiaa
