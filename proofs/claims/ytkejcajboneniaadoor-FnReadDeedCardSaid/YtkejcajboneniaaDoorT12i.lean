/-
  The program's texts, all together. No statement is proved here.
-/
import Derived.Test.YtkejcajboneniaaDoorT12j
import Derived.Test.YtkejcajboneniaaDoorC10k
import Derived.Test.YtkejcajboneniaaDoorC10a
import Derived.Test.YtkejcajboneniaaDoorTabL
namespace Go.Proofs.YtkejcajboneniaaDoor
end Go.Proofs.YtkejcajboneniaaDoor
