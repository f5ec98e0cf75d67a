/-
  Walks of the program's votes as a number of bits: VotesOk, what is heard from both sides, all. No statement is proved here.
-/
import Derived.Test.YtkejcajboneniabDoorC1a
import Derived.Test.YtkejcajboneniabDoorS7v
import Derived.Test.YtkejcajboneniabDoorC7a
import Derived.Laws.Bits64b
import Derived.Laws.Rows
import Derived.OwnWalk
import Derived.IntWalk
import Derived.BigRegion
import Derived.Deep.RegionHeld3
namespace Go.Proofs.YtkejcajboneniabDoor
open Go.RowKit
set_option linter.unusedVariables false
set_option linter.unusedSimpArgs false

/-- Votes as a value, and a block that holds them. -/
abbrev vot (x n : Nat) : Value := .agg #[.int .u64 x, .int .i64 n]
section
variable {w w' : World} {b g x n : Nat}
end
theorem drew_grown (w : World) : w.grownBy w.drew none := ⟨rfl, rfl, rfl, Nat.le_refl _, fun _ _ _ => rfl⟩
theorem pow40 {n : Nat} (h : n ≤ 40) : 1 ≤ 2 ^ n ∧ 2 ^ n ≤ 1099511627776 := ⟨Nat.two_pow_pos n, by have := Nat.pow_le_pow_right (n := 2) (by omega) h; simpa using this⟩
theorem u64_in (x : Nat) (h : x < 18446744073709551616) : IntKind.u64.wrap (x : Int) = (x : Int) := by rw [IntKind.wrap_u64]; omega
theorem u64_pow {n : Nat} (h : n ≤ 40) : IntKind.u64.wrap (2 ^ n) = ((2 ^ n : Nat) : Int) := by
  have := pow40 h
  rw [show ((2 : Int) ^ n) = ((2 ^ n : Nat) : Int) from by simp, u64_in _ (by omega)]

end Go.Proofs.YtkejcajboneniabDoor
