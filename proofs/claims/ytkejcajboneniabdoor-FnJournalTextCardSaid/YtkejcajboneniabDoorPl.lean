/-
  The walk of the program's namesPlace. No statement is proved here.
-/
import Derived.Test.YtkejcajboneniabDoorT12b
namespace Go.Proofs.YtkejcajboneniabDoor
open Go.RowKit
set_option linter.unusedVariables false
set_option linter.unusedSimpArgs false

/-- namesPlace: of flip and round. -/
def placed (k : Int) : Bool := decide (k = 3 ∨ k = 4)
set_option maxHeartbeats 800000 in
theorem namesPlace_any (k N : Int) (w : World) :
    Calls Tryd.prog 34 #[deed k N] w fun e w' => e = .returned (.bool (placed k)) ∧ Below w.heap.size w w' := by
  have hB := (Below.refl w.heap.size w).alloc (Nat.le_refl _) (.cells #[.int .i64 k, .int .i64 N] 42)
  by_cases h3 : k = 3
  · subst h3
    go_enter Tryd.func34, Tryd.ntmps34
    go_wp2
    go_ret
    exact ⟨ret_bool (by decide), hB⟩
  · by_cases h4 : k = 4
    · subst h4
      go_enter Tryd.func34, Tryd.ntmps34
      go_wp2
      go_ret
      exact ⟨ret_bool (by decide), hB⟩
    · have HF := hid (show placed k = false from by unfold placed; simp [h3, h4])
      have h3' : (k == 3) = false := by simpa using h3
      have h4' : (k == 4) = false := by simpa using h4
      go_enter Tryd.func34, Tryd.ntmps34
      go_wp2
      go_ret
      exact ⟨ret_bool HF.out.symm, hB⟩
end Go.Proofs.YtkejcajboneniabDoor
