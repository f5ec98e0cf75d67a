/-
  The walk of the model's draw of machines and rounds. No statement is proved here.
-/
import Derived.Test.YtannfeiogocpeaaDoorDr
import Derived.Test.YtannfeiogocpeaaDoorC4
namespace Go.Proofs.YtannfeiogocpeaaDoor
open Go.RowKit
set_option linter.unusedVariables false
set_option linter.unusedSimpArgs false

set_option maxHeartbeats 1600000 in
theorem drawPartsAfter_any (A : Option Addr) (n c : Nat) (w : World) (hs : By w w.heap.size A n) (hc : n ≤ c) :
    Calls Tryd.prog 24 #[.slice A n c] w fun e w' => ∃ a b, e = .returned (.tuple #[.int .i64 a, .int .i64 b]) ∧ -1000 ≤ a ∧ a ≤ 1000 ∧ -1000 ≤ b ∧ b ≤ 1000 ∧ Below w.heap.size w w' := by
  go_enter Tryd.func24, Tryd.ntmps24
  go_wp2_with fail
  refine (open_any A n c _ hs hc).mono ?_
  rintro e w1 ⟨g, rfl, r1, hg, b1⟩
  go_wp2_with fail
  refine (pick_any g _ 42 _ r1 (by omega) (by omega) (by omega)).mono ?_
  rintro e w2 ⟨x, rfl, x0, x1, r2, g2⟩
  have b2 := b1.grown g2 b1.size (by intro k hk; cases hk; exact hg)
  go_wp2_with fail
  refine (specRoundsOf_any x _ (WalkArith.wf_i64 (by omega))).mono ?_
  rintro e w3 ⟨A3, m3, c3, rfl, o3, hm3, st3⟩
  have r3 := r2.below st3 r2.lt
  have b3 := b2.trans (st3.mono b2.size)
  clear st3 o3
  have hm3' : (m3 : Int) ≤ 6 := by omega
  go_wp2_with fail
  refine (pick_any g _ ((m3 : Int) + 2) _ r3 (by omega) (by omega) (by omega)).mono ?_
  rintro e w4 ⟨y, rfl, y0, y1, r4, g4⟩
  have b4 := b3.grown g4 b3.size (by intro k hk; cases hk; exact hg)
  go_wp2_with fail
  refine (pick_any g _ 20 _ r4 (by omega) (by omega) (by omega)).mono ?_
  rintro e w5 ⟨v, rfl, v0, v1, r5, g5⟩
  have b5 := b4.grown g5 b4.size (by intro k hk; cases hk; exact hg)
  have qv0 : 0 ≤ v / 19 := Int.ediv_nonneg v0 (by omega)
  have qv1 : v / 19 ≤ 1 := by omega
  clear g2 g4 g5
  go_wp2
  go_ret2
  exact ⟨_, _, rfl, by omega, by omega, by omega, by omega, b5⟩
end Go.Proofs.YtannfeiogocpeaaDoor
