/-
  The walk of the model's FirmOf. No statement is proved here.
-/
import Derived.Test.YtfmlekcdjjkolaaC7b
namespace Go.Proofs.Ytfmlekcdjjkolaa
open Go.RowKit
set_option linter.unusedVariables false
set_option linter.unusedSimpArgs false

/-- The places of the machines that are firm. -/
def firmTo (l : List Int) (k : Nat) : List Int := ((List.range k).filter (firmAt l)).map Int.ofNat
def firmOut (l : List Int) : List Int := if votesOk l = true then firmTo l l.length else []
theorem firm_yes {l : List Int} {k : Nat} (h : firmAt l k = true) : firmTo l (k + 1) = firmTo l k ++ [(k : Int)] := by simp [firmTo, List.range_succ, h]
theorem firm_no {l : List Int} {k : Nat} (h : firmAt l k = false) : firmTo l (k + 1) = firmTo l k := by simp [firmTo, List.range_succ, h]
theorem firm_len (l : List Int) (k : Nat) : (firmTo l k).length ≤ k := by
  simp only [firmTo, List.length_map]
  exact Nat.le_trans (List.length_filter_le _ _) (by simp)

end Go.Proofs.Ytfmlekcdjjkolaa
