/-
  Walks of the program's OnesOf, SummedAfter, SummedOf, AddedOf. No statement is proved here.
-/
import Derived.Test.YtkejcajboneniabDoorC10g
import Derived.Test.YtkejcajboneniabDoorC10h
import Derived.Test.YtkejcajboneniabDoorC10a
import Derived.Test.YtkejcajboneniabDoorC10d
namespace Go.Proofs.YtkejcajboneniabDoor
open Go.RowKit
set_option linter.unusedVariables false
set_option linter.unusedSimpArgs false

theorem pop_pb {l : List Int} {n : Nat} (hl : l.length = n) (hn : n ≤ 16) : pop 16 (pb l n) = ones l := by
  have e : code l = pb l n := by
    subst hl
    exact pb_eq (code_lt l) fun j hj => code_bit l j
  have h16 : pb l n < 2 ^ 16 := Nat.lt_of_lt_of_le (pb_lt l n) (Nat.pow_le_pow_right (by omega) hn)
  rw [← pop16_pop (Nat.le_refl 16) h16, pop16_pop hn (pb_lt l n), ← e, ← hl, code_pop]

end Go.Proofs.YtkejcajboneniabDoor
