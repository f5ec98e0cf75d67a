/-
  The walk of the model's draw for ToldAfter. No statement is proved here.
-/
import Derived.Test.YtannfeiogocpeaaDoorDr7p
namespace Go.Proofs.YtannfeiogocpeaaDoor
open Go.RowKit
set_option linter.unusedVariables false
set_option linter.unusedSimpArgs false

set_option maxHeartbeats 800000 in
theorem drawToldAfter_any (A : Option Addr) (n c : Nat) (w : World) (hs : By w w.heap.size A n) (hc : n ≤ c) :
    Calls Tryd.prog 27 #[.slice A n c] w fun e w' => ∃ a b, e = .returned (.tuple #[.int .i64 a, .int .i64 b]) ∧ -1000 ≤ a ∧ a ≤ 1000 ∧ -1000 ≤ b ∧ b ≤ 1000 ∧ Below w.heap.size w w' := by
  go_enter Tryd.func27, Tryd.ntmps27
  go_wp2_with fail
  refine (drawPartsAfter_any A n c _ hs hc).mono ?_
  rintro e w1 ⟨a, b, rfl, a0, a1, b0, b1, hb⟩
  have HB := hid hb
  clear hb
  go_wp2
  go_ret2
  exact ⟨_, _, rfl, a0, a1, b0, b1, HB.out⟩
end Go.Proofs.YtannfeiogocpeaaDoor
