/-
  The program's texts, all together. No statement is proved here.
-/
import Derived.Test.YtkejcajboneniabDoorT12j
import Derived.Test.YtkejcajboneniabDoorT12k
import Derived.Test.YtkejcajboneniabDoorC10k
import Derived.Test.YtkejcajboneniabDoorC10a
import Derived.Test.YtkejcajboneniabDoorTabL
namespace Go.Proofs.YtkejcajboneniabDoor
end Go.Proofs.YtkejcajboneniabDoor
