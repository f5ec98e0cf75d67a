/-
  Walks of the model's BitsOk, l10Sum, SummedOf, SummedAfter, AddedOf, OnesOf. No statement is proved here.
-/
import Derived.Test.YtkejcajboneniabDoorS10
import Derived.Test.YtkejcajboneniabDoorEx0
import Derived.OwnWalk
import Derived.IntWalk
import Derived.BigQuiet
import Derived.Deep.QuietTactic
import Derived.Deep.RegionHeld3
namespace Go.Proofs.YtkejcajboneniabDoor
open Go.RowKit
set_option linter.unusedVariables false
set_option linter.unusedSimpArgs false

theorem drewN_gA (w : World) (m : Nat) : w.grownBy (w.drewN m) none := ⟨rfl, rfl, rfl, Nat.le_refl _, fun _ _ _ => rfl⟩

theorem far_take {l : List Int} {a k : Nat} (h : k < l.length) : (farL a l).take (k + 1) = (farL a l).take k ++ [nth (farL a l) k] := take_nth (by rw [farL_len]; exact h)

end Go.Proofs.YtkejcajboneniabDoor
