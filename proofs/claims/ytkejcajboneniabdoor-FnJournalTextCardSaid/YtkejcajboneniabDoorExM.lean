/-
  The walks of laws.markIntS and laws.heldIntS. No statement is proved here.
-/
import Derived.Test.YtkejcajboneniabDoorEx0
namespace Go.Proofs.YtkejcajboneniabDoor
open Go.RowKit
set_option linter.unusedVariables false
set_option linter.unusedSimpArgs false

end Go.Proofs.YtkejcajboneniabDoor
