/-
  The walk of the model's CellsOk. No statement is proved here.
-/
import Derived.Test.YthncjopbagkdcaaC1a
namespace Go.Proofs.Ythncjopbagkdcaa
open Go.RowKit
set_option linter.unusedVariables false
set_option linter.unusedSimpArgs false

end Go.Proofs.Ythncjopbagkdcaa
