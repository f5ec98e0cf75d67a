/-
  The walk of the model's SettledAfter. No statement is proved here.
-/
import Derived.Test.YtfmlekcdjjkolaaDoorC7b
namespace Go.Proofs.YtfmlekcdjjkolaaDoor
open Go.RowKit
set_option linter.unusedVariables false
set_option linter.unusedSimpArgs false

/-- What SettledAfter tells. -/
def settleC (l : List Int) : Int := if votesOk l = true then (settleL l : Int) else -1
theorem take_same {a b : List Int} {k : Nat} (h1 : k < a.length) (h2 : k < b.length) : a.take (k + 1) = b.take (k + 1) ↔ a.take k = b.take k ∧ nth a k = nth b k := by
  rw [take_nth h1, take_nth h2]
  constructor
  · intro h
    have := List.append_inj' h (by simp)
    exact ⟨this.1, by simpa using this.2⟩
  · rintro ⟨h, h'⟩; rw [h, h']

end Go.Proofs.YtfmlekcdjjkolaaDoor
