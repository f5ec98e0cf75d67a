/-
  Chapter 4's parts as plain lists: no walk, and no statement is proved here.
-/
import Derived.Test.YtfmlekcdjjkolaaDoorS4
namespace Go.Proofs.YtfmlekcdjjkolaaDoor
open Go.RowKit
set_option linter.unusedVariables false
set_option linter.unusedSimpArgs false

def split1 (p : Int × Int) : List (Int × Int) := if p.1 = p.2 then [p] else [(p.1, p.1 + (p.2 - p.1) / 2), (p.2 - (p.2 - p.1) / 2, p.2)]
def partsP (n : Int) : Nat → List (Int × Int)
  | 0 => [(0, n - 1)]
  | k + 1 => (partsP n k).flatMap split1
def pairL (p : Int × Int) : List Int := [p.1, p.2]
def pairs (l : List (Int × Int)) : List (List Int) := l.map pairL
theorem partsP_bd {n : Int} (h : 1 ≤ n) (k : Nat) : ∀ p ∈ partsP n k, 0 ≤ p.1 ∧ p.1 ≤ p.2 ∧ p.2 ≤ n - 1 := by
  induction k with
  | zero => intro p hp; simp [partsP] at hp; subst hp; simp; omega
  | succ k ih =>
    intro p hp
    simp only [partsP, List.mem_flatMap] at hp
    obtain ⟨q, hq, hp⟩ := hp
    have := ih q hq
    unfold split1 at hp
    split at hp
    · simp at hp; subst hp; exact this
    · simp at hp
      rcases hp with rfl | rfl
      · simp; omega
      · simp; omega
theorem split1_len (p : Int × Int) : (split1 p).length ≤ 2 := by unfold split1; split <;> simp
theorem flat_len (l : List (Int × Int)) : (l.flatMap split1).length ≤ 2 * l.length := by
  induction l with
  | nil => simp
  | cons a l ih =>
    have := split1_len a
    simp only [List.flatMap_cons, List.length_append, List.length_cons]
    omega
theorem partsP_len (n : Int) (k : Nat) : (partsP n k).length ≤ 2 ^ k := by
  induction k with
  | zero => simp [partsP]
  | succ k ih =>
    have := flat_len (partsP n k)
    simp only [partsP]
    rw [Nat.pow_succ]
    omega
theorem partsP_len64 (n : Int) {k : Nat} (h : k ≤ 6) : (partsP n k).length ≤ 64 := Nat.le_trans (partsP_len n k) (Nat.pow_le_pow_right (by omega) h)
theorem pairs_snoc (l : List (Int × Int)) (p : Int × Int) : pairs (l ++ [p]) = pairs l ++ [pairL p] := by simp [pairs]
theorem pairs_len (l : List (Int × Int)) : (pairs l).length = l.length := by simp [pairs]
theorem flat_take {l : List (Int × Int)} {j : Nat} (h : j < l.length) : (l.take (j + 1)).flatMap split1 = (l.take j).flatMap split1 ++ split1 (l[j]) := by
  rw [List.take_succ_eq_append_getElem h, List.flatMap_append]
  simp
theorem pairs_at {l : List (Int × Int)} {j : Nat} (h : j < l.length) : (pairs l)[j]? = some [(l[j]).1, (l[j]).2] := by simp [pairs, pairL, h]

def partsOk (n r : Int) : Bool := within n 1 40 && within r 0 (roundsOut n).length
def partsOut (n r : Int) : List (Int × Int) := if partsOk n r = true then partsP n r.toNat else []
theorem partsOut_yes {n r : Int} (h : partsOk n r = true) : partsOut n r = partsP n r.toNat := by unfold partsOut; rw [if_pos h]
theorem partsOut_no {n r : Int} (h : partsOk n r = false) : partsOut n r = [] := by unfold partsOut; rw [h]; rfl
theorem partsOk_iff {n r : Int} : partsOk n r = true ↔ (1 ≤ n ∧ n ≤ 40) ∧ 0 ≤ r ∧ r ≤ (roundsOut n).length := by simp [partsOk, within]
theorem partsOk_bd {n r : Int} (h : partsOk n r = true) : (1 ≤ n ∧ n ≤ 40) ∧ 0 ≤ r ∧ r ≤ 6 := by
  have h1 := partsOk_iff.1 h
  have h2 := roundsOut_len n
  omega
theorem partsP_pos {n : Int} (h : 1 ≤ n) (k : Nat) : 0 < (partsP n k).length := by
  induction k with
  | zero => simp [partsP]
  | succ k ih =>
    simp only [partsP]
    cases hl : partsP n k with
    | nil => rw [hl] at ih; simp at ih
    | cons a l =>
      simp only [List.flatMap_cons, List.length_append]
      have : 0 < (split1 a).length := by unfold split1; split <;> simp
      omega
end Go.Proofs.YtfmlekcdjjkolaaDoor
