/-
  The walk of the model's CellsOk. No statement is proved here.
-/
import Derived.Test.YtkejcajboneniabDoorC1a
namespace Go.Proofs.YtkejcajboneniabDoor
open Go.RowKit
set_option linter.unusedVariables false
set_option linter.unusedSimpArgs false

end Go.Proofs.YtkejcajboneniabDoor
