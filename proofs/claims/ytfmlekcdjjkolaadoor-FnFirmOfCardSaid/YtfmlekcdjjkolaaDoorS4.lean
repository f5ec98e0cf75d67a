/-
  Chapter 4's rounds as plain lists: no walk, and no statement is proved here.
-/
import Derived.Test.YtfmlekcdjjkolaaDoorS3
namespace Go.Proofs.YtfmlekcdjjkolaaDoor
open Go.RowKit
set_option linter.unusedVariables false
set_option linter.unusedSimpArgs false

def halves : Nat → Nat → List Int
  | 0, _ => []
  | f + 1, n => if 2 ≤ n then (n : Int) :: halves f ((n + 1) / 2) else []
def roundsN (n : Nat) : List Int := halves 6 n
theorem roundsN_step : ∀ n : Nat, n ≤ 40 → 2 ≤ n → roundsN n = (n : Int) :: roundsN ((n + 1) / 2) := by decide
theorem roundsN_none {n : Nat} (h : n < 2) : roundsN n = [] := by unfold roundsN halves; rw [if_neg (by omega)]
theorem roundsN_len : ∀ n : Nat, n ≤ 40 → (roundsN n).length ≤ 6 := by decide
theorem roundsN_mem : ∀ n : Nat, n ≤ 40 → ∀ x ∈ roundsN n, 2 ≤ x ∧ x ≤ 40 := by decide
def roundsOut (n : Int) : List Int := if 1 ≤ n ∧ n ≤ 40 then roundsN n.toNat else []
theorem roundsOut_yes {n : Int} (h : 1 ≤ n ∧ n ≤ 40) : roundsOut n = roundsN n.toNat := by unfold roundsOut; rw [if_pos h]
theorem roundsOut_no {n : Int} (h : ¬ (1 ≤ n ∧ n ≤ 40)) : roundsOut n = [] := by unfold roundsOut; rw [if_neg h]
theorem roundsOut_len (n : Int) : (roundsOut n).length ≤ 6 := by
  unfold roundsOut
  split
  · exact roundsN_len _ (by omega)
  · simp
theorem roundsOut_mem {n x : Int} (h : x ∈ roundsOut n) : 2 ≤ x ∧ x ≤ 40 := by
  unfold roundsOut at h
  split at h
  · exact roundsN_mem _ (by omega) x h
  · simp at h

/-- The steps of all rounds. -/
def fires (l : List Int) : Int := (l.map fun x => partTime (x - 1) 2).sum
theorem fires_snoc (l : List Int) (x : Int) : fires (l ++ [x]) = fires l + partTime (x - 1) 2 := by simp [fires]
theorem fires_bd (l : List Int) (h : ∀ x ∈ l, 2 ≤ x ∧ x ≤ 40) : 0 ≤ fires l ∧ fires l ≤ 100 * l.length := by
  induction l with
  | nil => simp [fires]
  | cons a l ih =>
    have ha := h a (by simp)
    have := ih (fun x hx => h x (by simp [hx]))
    have e : fires (a :: l) = partTime (a - 1) 2 + fires l := by simp [fires]
    rw [e]
    unfold partTime
    simp only [List.length_cons]
    omega
def fireOut (n : Int) : Int := if within n 1 40 = true then fires (roundsOut n) else -1
theorem fire_law : ∀ n : Nat, n ≤ 40 → 2 ≤ n → fires (roundsN n) = partTime ((n : Int) - 1) 2 + fires (roundsN ((n + 1) / 2)) ∧ fires (roundsN n) ≤ 3 * (n : Int) ∧ 2 * (n : Int) - 2 ≤ fires (roundsN n) := by decide
end Go.Proofs.YtfmlekcdjjkolaaDoor
