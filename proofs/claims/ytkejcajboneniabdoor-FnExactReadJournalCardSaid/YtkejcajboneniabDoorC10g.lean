/-
  Walks of the program's rings of bits: after as many steps as a power of two, and as any number. No statement is proved here.
-/
import Derived.Test.YtkejcajboneniabDoorC10f
namespace Go.Proofs.YtkejcajboneniabDoor
open Go.RowKit
set_option linter.unusedVariables false
set_option linter.unusedSimpArgs false

end Go.Proofs.YtkejcajboneniabDoor
