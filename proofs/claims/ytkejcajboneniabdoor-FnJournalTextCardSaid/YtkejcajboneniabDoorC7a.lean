/-
  Walks of the model's votes: VotedOf, VotedAfter. No statement is proved here.
-/
import Derived.Test.YtkejcajboneniabDoorC7
namespace Go.Proofs.YtkejcajboneniabDoor
open Go.RowKit
set_option linter.unusedVariables false
set_option linter.unusedSimpArgs false

/-- What VotedOf gives. -/
def votedOut (l : List Int) : List Int := if votesOk l = true then voteL l else []
/-- What VotedAfter gives. -/
def votedN (l : List Int) (s : Int) : List Int := if (votesOk l && within s 0 60) = true then voteN s.toNat l else []

end Go.Proofs.YtkejcajboneniabDoor
