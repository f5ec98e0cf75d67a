/-
  Walks of the model's draws of rows of numbers, written by program (draws9.py). No statement is proved here.
-/
import Derived.Test.YtpobcfmldimgiaaDr8
import Derived.Test.YtpobcfmldimgiaaC5a
import Derived.IntWalk
namespace Go.Proofs.Ytpobcfmldimgiaa
open Go.RowKit
set_option linter.unusedVariables false
set_option linter.unusedSimpArgs false

set_option maxHeartbeats 1600000 in
theorem drawKeptOk_any (A : Option Addr) (n c : Nat) (w : World) (hs : By w w.heap.size A n) (hc : n ≤ c) :
    Calls Try.prog 17 #[.slice A n c] w fun e w' => ∃ A1 n1 c1 l1, e = .returned (.slice A1 n1 c1) ∧ w'.ownsRow w.heap.size 3 1 (.slice A1 n1 c1) n1 (ints l1) ∧ n1 ≤ 15 ∧ Below w.heap.size w w' := by
  go_enter Try.func17, Try.ntmps17
  go_wp2_with fail
  refine (open_any A n c _ hs hc).mono ?_
  rintro e w1 ⟨g, rfl, r1, hg, b1⟩
  go_wp2_with fail
  refine (kept_any g _ 2 _ r1 (by omega) (by omega) (by omega)).mono ?_
  rintro e w2 ⟨A1, n1, c1, l1, rfl, o1, hn1, r2, g2⟩
  have b2 := b1.grown g2 b1.size (by intro k hk; cases hk; exact hg)
  have ne1 := own_ne o1 r1.lt
  have z1 := b1.size
  clear g2
  go_wp2
  go_ret
  exact ⟨A1, n1, c1, l1, rfl, own_mono o1 z1, hn1, b2⟩

set_option maxHeartbeats 1600000 in
theorem drawStepsToOrder_any (A : Option Addr) (n c : Nat) (w : World) (hs : By w w.heap.size A n) (hc : n ≤ c) :
    Calls Try.prog 32 #[.slice A n c] w fun e w' => ∃ A1 n1 c1 l1, e = .returned (.slice A1 n1 c1) ∧ w'.ownsRow w.heap.size 3 1 (.slice A1 n1 c1) n1 (ints l1) ∧ n1 ≤ 15 ∧ Below w.heap.size w w' := by
  go_enter Try.func32, Try.ntmps32
  go_wp2_with fail
  refine (open_any A n c _ hs hc).mono ?_
  rintro e w1 ⟨g, rfl, r1, hg, b1⟩
  go_wp2_with fail
  refine (kept_any g _ 9 _ r1 (by omega) (by omega) (by omega)).mono ?_
  rintro e w2 ⟨A1, n1, c1, l1, rfl, o1, hn1, r2, g2⟩
  have b2 := b1.grown g2 b1.size (by intro k hk; cases hk; exact hg)
  have ne1 := own_ne o1 r1.lt
  have z1 := b1.size
  clear g2
  go_wp2
  go_ret
  exact ⟨A1, n1, c1, l1, rfl, own_mono o1 z1, hn1, b2⟩

set_option maxHeartbeats 1600000 in
theorem drawAstrayOf_any (A : Option Addr) (n c : Nat) (w : World) (hs : By w w.heap.size A n) (hc : n ≤ c) :
    Calls Try.prog 38 #[.slice A n c] w fun e w' => ∃ A1 n1 c1 l1, e = .returned (.slice A1 n1 c1) ∧ w'.ownsRow w.heap.size 3 1 (.slice A1 n1 c1) n1 (ints l1) ∧ n1 ≤ 15 ∧ Below w.heap.size w w' := by
  go_enter Try.func38, Try.ntmps38
  go_wp2_with fail
  refine (open_any A n c _ hs hc).mono ?_
  rintro e w1 ⟨g, rfl, r1, hg, b1⟩
  go_wp2_with fail
  refine (kept_any g _ 9 _ r1 (by omega) (by omega) (by omega)).mono ?_
  rintro e w2 ⟨A1, n1, c1, l1, rfl, o1, hn1, r2, g2⟩
  have b2 := b1.grown g2 b1.size (by intro k hk; cases hk; exact hg)
  have ne1 := own_ne o1 r1.lt
  have z1 := b1.size
  clear g2
  go_wp2
  go_ret
  exact ⟨A1, n1, c1, l1, rfl, own_mono o1 z1, hn1, b2⟩

set_option maxHeartbeats 1600000 in
theorem drawSwappedAt_any (A : Option Addr) (n c : Nat) (w : World) (hs : By w w.heap.size A n) (hc : n ≤ c) :
    Calls Try.prog 21 #[.slice A n c] w fun e w' => ∃ A1 n1 c1 l1 z, e = .returned (.tuple #[.slice A1 n1 c1, .int .i64 z]) ∧ w'.ownsRow w.heap.size 3 1 (.slice A1 n1 c1) n1 (ints l1) ∧ n1 ≤ 15 ∧ -1000 ≤ z ∧ z ≤ 1000 ∧ Below w.heap.size w w' := by
  go_enter Try.func21, Try.ntmps21
  go_wp2_with fail
  refine (open_any A n c _ hs hc).mono ?_
  rintro e w1 ⟨g, rfl, r1, hg, b1⟩
  go_wp2_with fail
  refine (kept_any g _ 12 _ r1 (by omega) (by omega) (by omega)).mono ?_
  rintro e w2 ⟨A1, n1, c1, l1, rfl, o1, hn1, r2, g2⟩
  have b2 := b1.grown g2 b1.size (by intro k hk; cases hk; exact hg)
  have ne1 := own_ne o1 r1.lt
  have z1 := b1.size
  go_wp2_with fail
  refine (pick_any g _ 6 _ r2 (by omega) (by omega) (by omega)).mono ?_
  rintro e w3 ⟨x, rfl, x0, x1, r3, g3⟩
  have b3 := b2.grown g3 b2.size (by intro k hk; cases hk; exact hg)
  replace o1 := o1.kept g3 ne1
  go_wp2_with fail
  refine (pick_any g _ 20 _ r3 (by omega) (by omega) (by omega)).mono ?_
  rintro e w4 ⟨y, rfl, y0, y1, r4, g4⟩
  have b4 := b3.grown g4 b3.size (by intro k hk; cases hk; exact hg)
  replace o1 := o1.kept g4 ne1
  have qy0 : 0 ≤ y / 19 := Int.ediv_nonneg y0 (by omega)
  have qy1 : y / 19 ≤ 1 := by omega
  go_wp2_with fail
  refine (pick_any g _ 30 _ r4 (by omega) (by omega) (by omega)).mono ?_
  rintro e w5 ⟨u, rfl, u0, u1, r5, g5⟩
  have b5 := b4.grown g5 b4.size (by intro k hk; cases hk; exact hg)
  replace o1 := o1.kept g5 ne1
  have qu0 : 0 ≤ u / 29 := Int.ediv_nonneg u0 (by omega)
  have qu1 : u / 29 ≤ 1 := by omega
  clear g2 g3 g4 g5
  go_wp2
  go_ret2
  exact ⟨A1, n1, c1, l1, _, rfl, own_mono o1 z1, hn1, by omega, by omega, b5⟩

set_option maxHeartbeats 1600000 in
theorem drawAfterSteps_any (A : Option Addr) (n c : Nat) (w : World) (hs : By w w.heap.size A n) (hc : n ≤ c) :
    Calls Try.prog 26 #[.slice A n c] w fun e w' => ∃ A1 n1 c1 l1 z, e = .returned (.tuple #[.slice A1 n1 c1, .int .i64 z]) ∧ w'.ownsRow w.heap.size 3 1 (.slice A1 n1 c1) n1 (ints l1) ∧ n1 ≤ 15 ∧ -1000 ≤ z ∧ z ≤ 1000 ∧ Below w.heap.size w w' := by
  go_enter Try.func26, Try.ntmps26
  go_wp2_with fail
  refine (open_any A n c _ hs hc).mono ?_
  rintro e w1 ⟨g, rfl, r1, hg, b1⟩
  go_wp2_with fail
  refine (kept_any g _ 12 _ r1 (by omega) (by omega) (by omega)).mono ?_
  rintro e w2 ⟨A1, n1, c1, l1, rfl, o1, hn1, r2, g2⟩
  have b2 := b1.grown g2 b1.size (by intro k hk; cases hk; exact hg)
  have ne1 := own_ne o1 r1.lt
  have z1 := b1.size
  go_wp2_with fail
  refine (pick_any g _ 16 _ r2 (by omega) (by omega) (by omega)).mono ?_
  rintro e w3 ⟨x, rfl, x0, x1, r3, g3⟩
  have b3 := b2.grown g3 b2.size (by intro k hk; cases hk; exact hg)
  replace o1 := o1.kept g3 ne1
  go_wp2_with fail
  refine (pick_any g _ 20 _ r3 (by omega) (by omega) (by omega)).mono ?_
  rintro e w4 ⟨y, rfl, y0, y1, r4, g4⟩
  have b4 := b3.grown g4 b3.size (by intro k hk; cases hk; exact hg)
  replace o1 := o1.kept g4 ne1
  have qy0 : 0 ≤ y / 19 := Int.ediv_nonneg y0 (by omega)
  have qy1 : y / 19 ≤ 1 := by omega
  go_wp2_with fail
  refine (pick_any g _ 30 _ r4 (by omega) (by omega) (by omega)).mono ?_
  rintro e w5 ⟨u, rfl, u0, u1, r5, g5⟩
  have b5 := b4.grown g5 b4.size (by intro k hk; cases hk; exact hg)
  replace o1 := o1.kept g5 ne1
  have qu0 : 0 ≤ u / 29 := Int.ediv_nonneg u0 (by omega)
  have qu1 : u / 29 ≤ 1 := by omega
  clear g2 g3 g4 g5
  go_wp2
  go_ret2
  exact ⟨A1, n1, c1, l1, _, rfl, own_mono o1 z1, hn1, by omega, by omega, b5⟩

set_option maxHeartbeats 1600000 in
theorem drawInOrderOk_any (A : Option Addr) (n c : Nat) (w : World) (hs : By w w.heap.size A n) (hc : n ≤ c) :
    Calls Try.prog 30 #[.slice A n c] w fun e w' => ∃ A1 n1 c1 l1, e = .returned (.slice A1 n1 c1) ∧ w'.ownsRow w.heap.size 3 1 (.slice A1 n1 c1) n1 (ints l1) ∧ n1 ≤ 15 ∧ Below w.heap.size w w' := by
  go_enter Try.func30, Try.ntmps30
  go_wp2_with fail
  refine (open_any A n c _ hs hc).mono ?_
  rintro e w1 ⟨g, rfl, r1, hg, b1⟩
  go_wp2_with fail
  refine (kept_any g _ 9 _ r1 (by omega) (by omega) (by omega)).mono ?_
  rintro e w2 ⟨A1, n1, c1, l1, rfl, o1, hn1, r2, g2⟩
  have b2 := b1.grown g2 b1.size (by intro k hk; cases hk; exact hg)
  have ne1 := own_ne o1 r1.lt
  have z1 := b1.size
  have HK := hid (specKeptOk_any A1 n1 c1 l1 _ _ (Sl.of_own o1))
  cases hk : keptOk l1 with
  | false =>
    rw [hk] at HK
    clear hk
    go_wp2_with fail
    with_reducible refine Calls.mono HK.out ?_
    rintro e w' ⟨rfl, rfl⟩
    clear g2
    go_wp2
    go_ret
    exact ⟨A1, n1, c1, l1, rfl, own_mono o1 z1, hn1, b2⟩
  | true =>
    rw [hk] at HK
    have hk2 := (keptOk_iff.1 hk).2
    have hl1 : l1.length = n1 := by have := o1.1; simpa using this
    rw [hl1] at hk2
    clear hl1
    go_wp2_with fail
    with_reducible refine Calls.mono HK.out ?_
    rintro e w' ⟨rfl, rfl⟩
    go_wp2_with fail
    refine (pick_any g _ 2 _ r2 (by omega) (by omega) (by omega)).mono ?_
    rintro e w3 ⟨x, rfl, x0, x1, r3, g3⟩
    have b3 := b2.grown g3 b2.size (by intro k hk; cases hk; exact hg)
    replace o1 := o1.kept g3 ne1
    by_cases hx : x = 0
    · subst hx
      go_wp2_with fail
      refine (pick_any g _ 2 _ r3 (by omega) (by omega) (by omega)).mono ?_
      rintro e w4 ⟨y, rfl, y0, y1, r4, g4⟩
      have b4 := b3.grown g4 b3.size (by intro k hk; cases hk; exact hg)
      replace o1 := o1.kept g4 ne1
      clear g2 g3 g4 HK
      go_wp2_with fail
      refine (specAfterSteps_any A1 n1 c1 l1 _ _ (Sl.of_own o1)).mono ?_
      rintro e w5 ⟨A2, n2, c2, rfl, o2, hn2, b5⟩
      have B5 := hid (b4.trans (b5.mono b4.size))
      have O2 := hid (own_mono o2 b4.size)
      clear o1 o2 b5
      go_wp2
      go_ret
      exact ⟨A2, n2, c2, _, rfl, O2.out, by omega, B5.out⟩
    · have hx' : decide (x = 0) = false := by simpa using hx
      clear g2 g3 HK
      go_wp2
      go_ret
      exact ⟨A1, n1, c1, l1, rfl, own_mono o1 z1, hn1, b3⟩
end Go.Proofs.Ytpobcfmldimgiaa
