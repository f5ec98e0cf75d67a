/-
  Walks of the model's draws of rings, written by program (draws10.py). No statement is proved here.
-/
import Derived.Test.YtegmkacapldnoaaDrR
import Derived.IntWalk
namespace Go.Proofs.Ytegmkacapldnoaa
open Go.RowKit
set_option linter.unusedVariables false
set_option linter.unusedSimpArgs false

set_option maxHeartbeats 1600000 in
theorem drawRingOk_any (A : Option Addr) (n c : Nat) (w : World) (hs : By w w.heap.size A n) (hc : n ≤ c) :
    Calls Try.prog 15 #[.slice A n c] w fun e w' => ∃ A1 n1 c1 l1, e = .returned (.slice A1 n1 c1) ∧ w'.ownsRow w.heap.size 3 1 (.slice A1 n1 c1) n1 (ints l1) ∧ n1 ≤ 13 ∧ Below w.heap.size w w' := by
  go_enter Try.func15, Try.ntmps15
  go_wp2_with fail
  refine (open_any A n c _ hs hc).mono ?_
  rintro e w1 ⟨g, rfl, r1, hg, b1⟩
  go_wp2_with fail
  refine (ringDraw_any g _ 2 _ r1 (by omega) (by omega) (by omega)).mono ?_
  rintro e w2 ⟨A1, n1, c1, l1, rfl, o1, hn1, r2, g2⟩
  have b2 := b1.grown g2 b1.size (by intro k hk; cases hk; exact hg)
  have ne1 := own_ne o1 r1.lt
  have z1 := b1.size
  clear g2
  go_wp2
  go_ret
  exact ⟨A1, n1, c1, l1, rfl, own_mono o1 z1, hn1, b2⟩

set_option maxHeartbeats 1600000 in
theorem drawChosenAt_any (A : Option Addr) (n c : Nat) (w : World) (hs : By w w.heap.size A n) (hc : n ≤ c) :
    Calls Try.prog 24 #[.slice A n c] w fun e w' => ∃ A1 n1 c1 l1, e = .returned (.slice A1 n1 c1) ∧ w'.ownsRow w.heap.size 3 1 (.slice A1 n1 c1) n1 (ints l1) ∧ n1 ≤ 13 ∧ Below w.heap.size w w' := by
  go_enter Try.func24, Try.ntmps24
  go_wp2_with fail
  refine (open_any A n c _ hs hc).mono ?_
  rintro e w1 ⟨g, rfl, r1, hg, b1⟩
  go_wp2_with fail
  refine (ringDraw_any g _ 9 _ r1 (by omega) (by omega) (by omega)).mono ?_
  rintro e w2 ⟨A1, n1, c1, l1, rfl, o1, hn1, r2, g2⟩
  have b2 := b1.grown g2 b1.size (by intro k hk; cases hk; exact hg)
  have ne1 := own_ne o1 r1.lt
  have z1 := b1.size
  clear g2
  go_wp2
  go_ret
  exact ⟨A1, n1, c1, l1, rfl, own_mono o1 z1, hn1, b2⟩

set_option maxHeartbeats 1600000 in
theorem drawMessagesOf_any (A : Option Addr) (n c : Nat) (w : World) (hs : By w w.heap.size A n) (hc : n ≤ c) :
    Calls Try.prog 27 #[.slice A n c] w fun e w' => ∃ A1 n1 c1 l1, e = .returned (.slice A1 n1 c1) ∧ w'.ownsRow w.heap.size 3 1 (.slice A1 n1 c1) n1 (ints l1) ∧ n1 ≤ 13 ∧ Below w.heap.size w w' := by
  go_enter Try.func27, Try.ntmps27
  go_wp2_with fail
  refine (open_any A n c _ hs hc).mono ?_
  rintro e w1 ⟨g, rfl, r1, hg, b1⟩
  go_wp2_with fail
  refine (ringDraw_any g _ 9 _ r1 (by omega) (by omega) (by omega)).mono ?_
  rintro e w2 ⟨A1, n1, c1, l1, rfl, o1, hn1, r2, g2⟩
  have b2 := b1.grown g2 b1.size (by intro k hk; cases hk; exact hg)
  have ne1 := own_ne o1 r1.lt
  have z1 := b1.size
  clear g2
  go_wp2
  go_ret
  exact ⟨A1, n1, c1, l1, rfl, own_mono o1 z1, hn1, b2⟩

set_option maxHeartbeats 1600000 in
theorem drawReachOf_any (A : Option Addr) (n c : Nat) (w : World) (hs : By w w.heap.size A n) (hc : n ≤ c) :
    Calls Try.prog 31 #[.slice A n c] w fun e w' => ∃ A1 n1 c1 l1, e = .returned (.slice A1 n1 c1) ∧ w'.ownsRow w.heap.size 3 1 (.slice A1 n1 c1) n1 (ints l1) ∧ n1 ≤ 13 ∧ Below w.heap.size w w' := by
  go_enter Try.func31, Try.ntmps31
  go_wp2_with fail
  refine (open_any A n c _ hs hc).mono ?_
  rintro e w1 ⟨g, rfl, r1, hg, b1⟩
  go_wp2_with fail
  refine (ringDraw_any g _ 9 _ r1 (by omega) (by omega) (by omega)).mono ?_
  rintro e w2 ⟨A1, n1, c1, l1, rfl, o1, hn1, r2, g2⟩
  have b2 := b1.grown g2 b1.size (by intro k hk; cases hk; exact hg)
  have ne1 := own_ne o1 r1.lt
  have z1 := b1.size
  clear g2
  go_wp2
  go_ret
  exact ⟨A1, n1, c1, l1, rfl, own_mono o1 z1, hn1, b2⟩

set_option maxHeartbeats 1600000 in
theorem drawSentAt_any (A : Option Addr) (n c : Nat) (w : World) (hs : By w w.heap.size A n) (hc : n ≤ c) :
    Calls Try.prog 19 #[.slice A n c] w fun e w' => ∃ A1 n1 c1 l1 z, e = .returned (.tuple #[.slice A1 n1 c1, .int .i64 z]) ∧ w'.ownsRow w.heap.size 3 1 (.slice A1 n1 c1) n1 (ints l1) ∧ n1 ≤ 13 ∧ -1 ≤ z ∧ z ≤ 14 ∧ Below w.heap.size w w' := by
  go_enter Try.func19, Try.ntmps19
  go_wp2_with fail
  refine (open_any A n c _ hs hc).mono ?_
  rintro e w1 ⟨g, rfl, r1, hg, b1⟩
  go_wp2_with fail
  refine (ringDraw_any g _ 12 _ r1 (by omega) (by omega) (by omega)).mono ?_
  rintro e w2 ⟨A1, n1, c1, l1, rfl, o1, hn1, r2, g2⟩
  have b2 := b1.grown g2 b1.size (by intro k hk; cases hk; exact hg)
  have ne1 := own_ne o1 r1.lt
  have z1 := b1.size
  go_wp2_with fail
  refine (pick_any g _ 15 _ r2 (by omega) (by omega) (by omega)).mono ?_
  rintro e w3 ⟨x, rfl, x0, x1, r3, g3⟩
  have b3 := b2.grown g3 b2.size (by intro k hk; cases hk; exact hg)
  replace o1 := o1.kept g3 ne1
  go_wp2_with fail
  refine (pick_any g _ 20 _ r3 (by omega) (by omega) (by omega)).mono ?_
  rintro e w4 ⟨y, rfl, y0, y1, r4, g4⟩
  have b4 := b3.grown g4 b3.size (by intro k hk; cases hk; exact hg)
  replace o1 := o1.kept g4 ne1
  have q0 : 0 ≤ y / 19 := Int.ediv_nonneg y0 (by omega)
  have q1 : y / 19 ≤ 1 := by omega
  clear g2 g3 g4
  go_wp2
  go_ret2
  exact ⟨A1, n1, c1, l1, _, rfl, own_mono o1 z1, hn1, by omega, by omega, b4⟩

set_option maxHeartbeats 1600000 in
theorem drawWentRound_any (A : Option Addr) (n c : Nat) (w : World) (hs : By w w.heap.size A n) (hc : n ≤ c) :
    Calls Try.prog 33 #[.slice A n c] w fun e w' => ∃ A1 n1 c1 l1 z, e = .returned (.tuple #[.slice A1 n1 c1, .int .i64 z]) ∧ w'.ownsRow w.heap.size 3 1 (.slice A1 n1 c1) n1 (ints l1) ∧ n1 ≤ 13 ∧ -1 ≤ z ∧ z ≤ 14 ∧ Below w.heap.size w w' := by
  go_enter Try.func33, Try.ntmps33
  go_wp2_with fail
  refine (open_any A n c _ hs hc).mono ?_
  rintro e w1 ⟨g, rfl, r1, hg, b1⟩
  go_wp2_with fail
  refine (ringDraw_any g _ 12 _ r1 (by omega) (by omega) (by omega)).mono ?_
  rintro e w2 ⟨A1, n1, c1, l1, rfl, o1, hn1, r2, g2⟩
  have b2 := b1.grown g2 b1.size (by intro k hk; cases hk; exact hg)
  have ne1 := own_ne o1 r1.lt
  have z1 := b1.size
  go_wp2_with fail
  refine (pick_any g _ ((n1 : Int) + 1) _ r2 (by omega) (by omega) (by omega)).mono ?_
  rintro e w3 ⟨x, rfl, x0, x1, r3, g3⟩
  have b3 := b2.grown g3 b2.size (by intro k hk; cases hk; exact hg)
  replace o1 := o1.kept g3 ne1
  go_wp2_with fail
  refine (pick_any g _ 20 _ r3 (by omega) (by omega) (by omega)).mono ?_
  rintro e w4 ⟨y, rfl, y0, y1, r4, g4⟩
  have b4 := b3.grown g4 b3.size (by intro k hk; cases hk; exact hg)
  replace o1 := o1.kept g4 ne1
  have q0 : 0 ≤ y / 19 := Int.ediv_nonneg y0 (by omega)
  have q1 : y / 19 ≤ 1 := by omega
  clear g2 g3 g4
  go_wp2
  go_ret2
  exact ⟨A1, n1, c1, l1, _, rfl, own_mono o1 z1, hn1, by omega, by omega, b4⟩
end Go.Proofs.Ytegmkacapldnoaa
