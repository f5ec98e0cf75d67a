/-
  The walk of the reader's odd. No statement is proved here.
-/
import Derived.Test.YtkejcajboneniabDoorDr
namespace Go.Proofs.YtkejcajboneniabDoor
open Go.RowKit
set_option linter.unusedVariables false
set_option linter.unusedSimpArgs false

set_option maxHeartbeats 800000 in
theorem odd_any (g P : Nat) (m : Int) (w : World) (hr : Rd w g P) (hP : P < 1000000) (hm : 1 ≤ m) (hm2 : m ≤ 1000000) :
    Calls Tryd.prog 20 #[.pointer (some ⟨g, 0, none⟩), .int .i64 m] w fun e w' => ∃ b : Bool, e = .returned (.bool b) ∧ Rd w' g (P + 1) ∧ w.grownBy w' (some g) := by
  have e1 : decide (0 < m) = true := by simp; omega
  go_enter Tryd.func20, Tryd.ntmps20
  go_wp2_with (go_at_call 33; refine (pick_any g P m _ hr hP hm hm2).mono ?_; rintro e w1 ⟨x, rfl, hx0, hx1, hr1, hg1⟩)
  go_ret
  exact ⟨_, rfl, hr1, hg1⟩

end Go.Proofs.YtkejcajboneniabDoor
