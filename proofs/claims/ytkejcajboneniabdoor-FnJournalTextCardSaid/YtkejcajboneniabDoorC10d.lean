/-
  The walk of the model's AddedOf. No statement is proved here.
-/
import Derived.Test.YtkejcajboneniabDoorC10a
namespace Go.Proofs.YtkejcajboneniabDoor
open Go.RowKit
set_option linter.unusedVariables false
set_option linter.unusedSimpArgs false

theorem add_take {a b : List Int} {k : Nat} (h : k < a.length) : (addL a b).take (k + 1) = (addL a b).take k ++ [(nth a k + nth b k) % 2] := by
  rw [take_nth (by rw [addL_len]; exact h), nth_addL h]

end Go.Proofs.YtkejcajboneniabDoor
