/-
  Walks of the model's SummedOf, SummedAfter, AddedOf, OnesOf. No statement is proved here.
-/
import Derived.Test.YtkejcajboneniabDoorC10
namespace Go.Proofs.YtkejcajboneniabDoor
open Go.RowKit
set_option linter.unusedVariables false
set_option linter.unusedSimpArgs false

/-- What SummedOf gives. -/
def sumOut (l : List Int) : List Int := if bitsOk l = true then sumL l else []
/-- What SummedAfter gives. -/
def sumAft (l : List Int) (s : Int) : List Int := if (bitsOk l && within s 0 1000) = true then sumI s.toNat l else []
/-- What OnesOf gives. -/
def onesOut (l : List Int) : Int := if bitsOk l = true then (ones l : Int) else -1
/-- What AddedOf gives. -/
def addOut (a b : List Int) : List Int := if (bitsOk a && (bitsOk b && decide (a.length = b.length))) = true then addL a b else []

end Go.Proofs.YtkejcajboneniabDoor
