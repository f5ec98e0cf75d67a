/-
  The walk of the model's draw of a number of machines. No statement is proved here.
-/
import Derived.Test.YtannfeiogocpeaaDr
namespace Go.Proofs.Ytannfeiogocpeaa
open Go.RowKit
set_option linter.unusedVariables false
set_option linter.unusedSimpArgs false

set_option maxHeartbeats 1600000 in
theorem drawRoundsOf_any (A : Option Addr) (n c : Nat) (w : World) (hs : By w w.heap.size A n) (hc : n ≤ c) :
    Calls Try.prog 10 #[.slice A n c] w fun e w' => ∃ a, e = .returned (.int .i64 a) ∧ -1000 ≤ a ∧ a ≤ 1000 ∧ Below w.heap.size w w' := by
  go_enter Try.func10, Try.ntmps10
  go_wp2_with fail
  refine (open_any A n c _ hs hc).mono ?_
  rintro e w1 ⟨g, rfl, r1, hg, b1⟩
  go_wp2_with fail
  refine (pick_any g _ 43 _ r1 (by omega) (by omega) (by omega)).mono ?_
  rintro e w2 ⟨x, rfl, x0, x1, r2, g2⟩
  have b2 := b1.grown g2 b1.size (by intro k hk; cases hk; exact hg)
  clear g2
  go_wp2
  go_ret
  exact ⟨_, rfl, by omega, by omega, b2⟩
end Go.Proofs.Ytannfeiogocpeaa
