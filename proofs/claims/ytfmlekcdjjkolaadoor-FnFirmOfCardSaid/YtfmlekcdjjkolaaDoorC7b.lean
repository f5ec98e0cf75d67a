/-
  Walks of the model's votes: OpposedOf, FirmOf, SettledAfter. No statement is proved here.
-/
import Derived.Test.YtfmlekcdjjkolaaDoorC7a
namespace Go.Proofs.YtfmlekcdjjkolaaDoor
open Go.RowKit
set_option linter.unusedVariables false
set_option linter.unusedSimpArgs false

/-- What OpposedOf gives. -/
def oppOut (l : List Int) : List Int := if votesOk l = true then oppL l else []
theorem opp_take {l : List Int} {k : Nat} (h : k < l.length) : (oppL l).take (k + 1) = (oppL l).take k ++ [1 - nth l k] := by
  rw [take_nth (by rw [opp_len]; exact h), nth_opp h]

end Go.Proofs.YtfmlekcdjjkolaaDoor
