/-
  The walk of the model's RowText. No statement is proved here.
-/
import Derived.Test.YtkejcajboneniabDoorT12
import Derived.Test.YtkejcajboneniabDoorC10
namespace Go.Proofs.YtkejcajboneniabDoor
open Go.RowKit
set_option linter.unusedVariables false
set_option linter.unusedSimpArgs false

/-- A ring's digits. -/
def rowB (l : List Int) : List UInt8 := l.map fun x => digB x.toNat
def rowTextOut (l : List Int) : List UInt8 := if bitsOk l = true then rowB l else []
theorem rowB_len (l : List Int) : (rowB l).length = l.length := by simp [rowB]
theorem rowB_take {l : List Int} {k : Nat} (h : k < l.length) : rowB (l.take (k + 1)) = rowB (l.take k) ++ [digB (nth l k).toNat] := by rw [take_nth h]; simp [rowB]

end Go.Proofs.YtkejcajboneniabDoor
