/-
  The walk of the model's draw for FireAt. No statement is proved here.
-/
import Derived.Test.YtannfeiogocpeaaDoorDr
namespace Go.Proofs.YtannfeiogocpeaaDoor
open Go.RowKit
set_option linter.unusedVariables false
set_option linter.unusedSimpArgs false

set_option maxHeartbeats 1600000 in
theorem drawFireAt_any (A : Option Addr) (n c : Nat) (w : World) (hs : By w w.heap.size A n) (hc : n ≤ c) :
    Calls Tryd.prog 21 #[.slice A n c] w fun e w' => ∃ a, e = .returned (.int .i64 a) ∧ -1000 ≤ a ∧ a ≤ 1000 ∧ Below w.heap.size w w' := by
  go_enter Tryd.func21, Tryd.ntmps21
  go_wp2_with fail
  refine (open_any A n c _ hs hc).mono ?_
  rintro e w1 ⟨g, rfl, r1, hg, b1⟩
  go_wp2_with fail
  refine (pick_any g _ 43 _ r1 (by omega) (by omega) (by omega)).mono ?_
  rintro e w2 ⟨x, rfl, x0, x1, r2, g2⟩
  have b2 := b1.grown g2 b1.size (by intro k hk; cases hk; exact hg)
  clear g2
  go_wp2
  go_ret
  exact ⟨_, rfl, by omega, by omega, b2⟩
end Go.Proofs.YtannfeiogocpeaaDoor
