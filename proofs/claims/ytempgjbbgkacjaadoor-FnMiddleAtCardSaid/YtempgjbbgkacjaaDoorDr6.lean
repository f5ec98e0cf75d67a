/-
  Walks of the model's draws of last places, parts and places. No statement is proved here.
-/
import Derived.Test.YtempgjbbgkacjaaDoorDr
namespace Go.Proofs.YtempgjbbgkacjaaDoor
open Go.RowKit
set_option linter.unusedVariables false
set_option linter.unusedSimpArgs false

set_option maxHeartbeats 1600000 in
theorem drawPartAt_any (A : Option Addr) (n c : Nat) (w : World) (hs : By w w.heap.size A n) (hc : n ≤ c) :
    Calls Tryd.prog 9 #[.slice A n c] w fun e w' => ∃ a b, e = .returned (.tuple #[.int .i64 a, .int .i64 b]) ∧ -1000 ≤ a ∧ a ≤ 1000 ∧ -1000 ≤ b ∧ b ≤ 1000 ∧ Below w.heap.size w w' := by
  go_enter Tryd.func9, Tryd.ntmps9
  go_wp2_with fail
  refine (open_any A n c _ hs hc).mono ?_
  rintro e w1 ⟨g, rfl, r1, hg, b1⟩
  go_wp2_with fail
  refine (pick_any g _ 41 _ r1 (by omega) (by omega) (by omega)).mono ?_
  rintro e w2 ⟨x, rfl, x0, x1, r2, g2⟩
  have b2 := b1.grown g2 b1.size (by intro k hk; cases hk; exact hg)
  go_wp2_with fail
  refine (pick_any g _ 20 _ r2 (by omega) (by omega) (by omega)).mono ?_
  rintro e w3 ⟨y, rfl, y0, y1, r3, g3⟩
  have b3 := b2.grown g3 b2.size (by intro k hk; cases hk; exact hg)
  have qy0 : 0 ≤ y / 19 := Int.ediv_nonneg y0 (by omega)
  have qy1 : y / 19 ≤ 1 := by omega
  go_wp2_with fail
  refine (pick_any g _ 5 _ r3 (by omega) (by omega) (by omega)).mono ?_
  rintro e w4 ⟨u, rfl, u0, u1, r4, g4⟩
  have b4 := b3.grown g4 b3.size (by intro k hk; cases hk; exact hg)
  go_wp2_with fail
  refine (pick_any g _ 20 _ r4 (by omega) (by omega) (by omega)).mono ?_
  rintro e w5 ⟨v, rfl, v0, v1, r5, g5⟩
  have b5 := b4.grown g5 b4.size (by intro k hk; cases hk; exact hg)
  have qv0 : 0 ≤ v / 19 := Int.ediv_nonneg v0 (by omega)
  have qv1 : v / 19 ≤ 1 := by omega
  clear g2 g3 g4 g5
  go_wp2
  go_ret2
  exact ⟨_, _, rfl, by omega, by omega, by omega, by omega, b5⟩

set_option maxHeartbeats 1600000 in
theorem drawMiddleAt_any (A : Option Addr) (n c : Nat) (w : World) (hs : By w w.heap.size A n) (hc : n ≤ c) :
    Calls Tryd.prog 14 #[.slice A n c] w fun e w' => ∃ a, e = .returned (.int .i64 a) ∧ -1000 ≤ a ∧ a ≤ 1000 ∧ Below w.heap.size w w' := by
  go_enter Tryd.func14, Tryd.ntmps14
  go_wp2_with fail
  refine (open_any A n c _ hs hc).mono ?_
  rintro e w1 ⟨g, rfl, r1, hg, b1⟩
  go_wp2_with fail
  refine (pick_any g _ 43 _ r1 (by omega) (by omega) (by omega)).mono ?_
  rintro e w2 ⟨x, rfl, x0, x1, r2, g2⟩
  have b2 := b1.grown g2 b1.size (by intro k hk; cases hk; exact hg)
  clear g2
  go_wp2
  go_ret
  exact ⟨_, rfl, by omega, by omega, b2⟩

set_option maxHeartbeats 1600000 in
theorem drawMiddlesOf_any (A : Option Addr) (n c : Nat) (w : World) (hs : By w w.heap.size A n) (hc : n ≤ c) :
    Calls Tryd.prog 17 #[.slice A n c] w fun e w' => ∃ a, e = .returned (.int .i64 a) ∧ -1000 ≤ a ∧ a ≤ 1000 ∧ Below w.heap.size w w' := by
  go_enter Tryd.func17, Tryd.ntmps17
  go_wp2_with fail
  refine (open_any A n c _ hs hc).mono ?_
  rintro e w1 ⟨g, rfl, r1, hg, b1⟩
  go_wp2_with fail
  refine (pick_any g _ 43 _ r1 (by omega) (by omega) (by omega)).mono ?_
  rintro e w2 ⟨x, rfl, x0, x1, r2, g2⟩
  have b2 := b1.grown g2 b1.size (by intro k hk; cases hk; exact hg)
  clear g2
  go_wp2
  go_ret
  exact ⟨_, rfl, by omega, by omega, b2⟩
end Go.Proofs.YtempgjbbgkacjaaDoor
