/-
  Walks of the model's votes: VotesOk, l7Vote, VotedOf, VotedAfter. No statement is proved here.
-/
import Derived.Test.YtkejcajboneniabDoorC1
import Derived.Test.YtkejcajboneniabDoorS7
import Derived.Test.YtkejcajboneniabDoorEx0
import Derived.OwnWalk
import Derived.Lib.MinMax
import Derived.IntWalk
namespace Go.Proofs.YtkejcajboneniabDoor
open Go.RowKit
set_option linter.unusedVariables false
set_option linter.unusedSimpArgs false

/-- What VotesOk tells. -/
def votesOk (l : List Int) : Bool := cellsOk l 2
theorem votesOk_iff {l : List Int} : votesOk l = true ↔ (1 ≤ l.length ∧ l.length ≤ 40) ∧ bitsL l := by
  simp only [votesOk, cellsOk, within, allIn, bitsL, Bool.and_eq_true, decide_eq_true_eq, List.all_eq_true]
  constructor
  · rintro ⟨_, h1, h2, h3⟩; exact ⟨⟨h1, h2⟩, fun x hx => by have := h3 x hx; omega⟩
  · rintro ⟨⟨h1, h2⟩, h3⟩; exact ⟨by omega, h1, h2, fun x hx => by have := h3 x hx; omega⟩

theorem drewN_g7 (w : World) (m : Nat) : w.grownBy (w.drewN m) none := ⟨rfl, rfl, rfl, Nat.le_refl _, fun _ _ _ => rfl⟩
theorem vote_take {l : List Int} {k : Nat} (h : k < l.length) : (voteL l).take (k + 1) = (voteL l).take k ++ [voteAt l k] := by
  rw [take_nth (by rw [voteL_len]; exact h), nth_vote h]

end Go.Proofs.YtkejcajboneniabDoor
