/-
  What the law on parts asks, reckoned for all rows of up to 40 machines: no walk, and no statement is proved here.
-/
import Derived.Test.YtannfeiogocpeaaDoorS4p
namespace Go.Proofs.YtannfeiogocpeaaDoor
open Go.RowKit
set_option linter.unusedVariables false
set_option linter.unusedSimpArgs false

/-- Each next part begins where the one before ends, or one place on. -/
def joined : List (Int × Int) → Bool
  | [] => true
  | [_] => true
  | a :: b :: l => (decide (b.1 = a.2) || decide (b.1 = a.2 + 1)) && joined (b :: l)
def longAt (n k : Nat) : Int := nth (roundsN n ++ [1]) k
def partsChk (n k : Nat) : Bool := decide ((partsP n k).length = 2 ^ k) && ((partsP n k).all fun p => decide (p.2 - p.1 + 1 = longAt n k)) && joined (partsP n k) && decide (((partsP n k).headD (0, 0)).1 = 0) && decide (((partsP n k).getLastD (0, 0)).2 = (n : Int) - 1)
set_option maxRecDepth 100000 in
theorem parts_chk : ∀ n < 41, ∀ k < 7, 1 ≤ n → k ≤ (roundsN n).length → partsChk n k = true := by decide +kernel
theorem joined_at {l : List (Int × Int)} (h : joined l = true) : ∀ (j : Nat) (hj : j + 1 < l.length), (l[j + 1]).1 = (l[j]'(by omega)).2 ∨ (l[j + 1]).1 = (l[j]'(by omega)).2 + 1 := by
  induction l with
  | nil => intro j hj; simp at hj
  | cons a l ih =>
    cases l with
    | nil => intro j hj; simp at hj
    | cons b l =>
      simp only [joined, Bool.and_eq_true, Bool.or_eq_true, decide_eq_true_eq] at h
      intro j hj
      cases j with
      | zero => simpa using h.1
      | succ j => exact ih h.2 j (by simpa using hj)
theorem getD_at {l : List (Int × Int)} {j : Nat} (h : j < l.length) : l.getD j (0, 0) = l[j] := by simp [List.getD, h]
theorem joined_D {l : List (Int × Int)} (h : joined l = true) (j : Nat) (hj : j + 1 < l.length) : (l.getD (j + 1) (0, 0)).1 = (l.getD j (0, 0)).2 ∨ (l.getD (j + 1) (0, 0)).1 = (l.getD j (0, 0)).2 + 1 := by
  rw [getD_at hj, getD_at (by omega)]
  exact joined_at h j hj
theorem pairs_D {l : List (Int × Int)} {j : Nat} (h : j < l.length) : (pairs l)[j]? = some [(l.getD j (0, 0)).1, (l.getD j (0, 0)).2] := by rw [getD_at h]; exact pairs_at h
theorem mem_D {l : List (Int × Int)} {j : Nat} (h : j < l.length) : l.getD j (0, 0) ∈ l := by rw [getD_at h]; exact List.getElem_mem _
theorem parts_law {n k : Nat} (h1 : 1 ≤ n) (h40 : n ≤ 40) (hk : k ≤ (roundsN n).length) : (partsP n k).length = 2 ^ k ∧ (∀ p ∈ partsP n k, p.2 - p.1 + 1 = longAt n k) ∧ (∀ (j : Nat), j + 1 < (partsP n k).length → ((partsP n k).getD (j + 1) (0, 0)).1 = ((partsP n k).getD j (0, 0)).2 ∨ ((partsP n k).getD (j + 1) (0, 0)).1 = ((partsP n k).getD j (0, 0)).2 + 1) ∧ ((partsP n k).getD 0 (0, 0)).1 = 0 ∧ ((partsP n k).getD ((partsP n k).length - 1) (0, 0)).2 = (n : Int) - 1 := by
  have h6 := roundsN_len n h40
  have h := parts_chk n (by omega) k (by omega) h1 hk
  simp only [partsChk, Bool.and_eq_true, decide_eq_true_eq, List.all_eq_true] at h
  obtain ⟨⟨⟨⟨a, b⟩, c⟩, d⟩, e⟩ := h
  have hp := partsP_pos (n := (n : Int)) (by omega) k
  refine ⟨a, b, joined_D c, ?_, ?_⟩
  · rw [← d]; cases hl : partsP (n : Int) k with
    | nil => rfl
    | cons x l => rfl
  · rw [← e, getD_at (by omega), List.getLastD_eq_getLast?, List.getLast?_eq_getElem?, List.getElem?_eq_getElem (by omega)]
    rfl
end Go.Proofs.YtannfeiogocpeaaDoor
