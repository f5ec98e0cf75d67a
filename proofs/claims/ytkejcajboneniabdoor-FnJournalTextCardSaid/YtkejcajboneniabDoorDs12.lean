/-
  Walks of the model's draws of texts. No statement is proved here.
-/
import Derived.Test.YtkejcajboneniabDoorDr12
import Derived.Test.YtkejcajboneniabDoorT12e
import Derived.Test.YtkejcajboneniabDoorT12b
namespace Go.Proofs.YtkejcajboneniabDoor
open Go.RowKit
set_option linter.unusedVariables false
set_option linter.unusedSimpArgs false

/-- The texts that l20Spoil puts in. -/
def spoilT (u : Nat) : List UInt8 := if u = 0 then [] else if u = 1 then [48] else if u = 2 then [32] else if u = 3 then [10] else if u = 4 then [45] else [98, 97, 99, 107]
theorem spoilT_len (u : Nat) : (spoilT u).length ≤ 4 := by
  unfold spoilT
  (repeat' split) <;> decide
def spoilC : Array Value := #[encStr [], encStr [48], encStr [32], encStr [10], encStr [45], encStr [98, 97, 99, 107]]
theorem spoilC_at {u : Nat} (h : u < 6) : spoilC[u]? = some (encStr (spoilT u)) := by
  rcases (show u = 0 ∨ u = 1 ∨ u = 2 ∨ u = 3 ∨ u = 4 ∨ u = 5 by omega) with rfl | rfl | rfl | rfl | rfl | rfl <;> rfl

end Go.Proofs.YtkejcajboneniabDoor
