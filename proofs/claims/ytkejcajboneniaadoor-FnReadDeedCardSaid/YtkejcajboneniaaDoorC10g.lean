/-
  Walks of the program's rings of bits: after as many steps as a power of two, and as any number. No statement is proved here.
-/
import Derived.Test.YtkejcajboneniaaDoorC10f
namespace Go.Proofs.YtkejcajboneniaaDoor
open Go.RowKit
set_option linter.unusedVariables false
set_option linter.unusedSimpArgs false

end Go.Proofs.YtkejcajboneniaaDoor
