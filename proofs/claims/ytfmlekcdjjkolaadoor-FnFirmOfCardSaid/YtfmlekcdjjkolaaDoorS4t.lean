/-
  Chapter 4's told places as plain lists: no walk, and no statement is proved here.
-/
import Derived.Test.YtfmlekcdjjkolaaDoorS4p
namespace Go.Proofs.YtfmlekcdjjkolaaDoor
open Go.RowKit
set_option linter.unusedVariables false
set_option linter.unusedSimpArgs false

/-- One part tells its middles. -/
def tell1 (b : List Bool) (p : Int × Int) : List Bool := if p.1 < p.2 then (b.set (p.1 + (p.2 - p.1) / 2).toNat true).set (p.2 - (p.2 - p.1) / 2).toNat true else b
def toldB (n : Nat) : Nat → List Bool
  | 0 => (List.replicate n false).set 0 true
  | k + 1 => (partsP n k).foldl tell1 (toldB n k)
theorem tell1_len (b : List Bool) (p : Int × Int) : (tell1 b p).length = b.length := by unfold tell1; split <;> simp
theorem tells_len (l : List (Int × Int)) (b : List Bool) : (l.foldl tell1 b).length = b.length := by
  induction l generalizing b with
  | nil => rfl
  | cons a l ih => simp only [List.foldl_cons]; rw [ih, tell1_len]
theorem toldB_len (n k : Nat) : (toldB n k).length = n := by
  induction k with
  | zero => simp [toldB]
  | succ k ih => simp only [toldB]; rw [tells_len, ih]
def toldOut (n r : Int) : List Int := if partsOk n r = true then allAt (fun j => (toldB n.toNat r.toNat).getD j false) n.toNat else []
theorem toldOut_yes {n r : Int} (h : partsOk n r = true) : toldOut n r = allAt (fun j => (toldB n.toNat r.toNat).getD j false) n.toNat := by unfold toldOut; rw [if_pos h]
theorem toldOut_no {n r : Int} (h : partsOk n r = false) : toldOut n r = [] := by unfold toldOut; rw [h]; rfl
theorem toldOut_len (n r : Int) : (toldOut n r).length ≤ 40 := by
  by_cases h : partsOk n r = true
  · rw [toldOut_yes h]
    have h1 := allAt_len (fun j => (toldB n.toNat r.toNat).getD j false) n.toNat
    have h2 := partsOk_bd h
    omega
  · rw [toldOut_no (by simpa using h)]; simp
end Go.Proofs.YtfmlekcdjjkolaaDoor
