/-
  What the law on told places asks, reckoned for all rows of up to 40 machines: no walk, and no statement is proved here.
-/
import Derived.Test.YtfmlekcdjjkolaaDoorS4t
namespace Go.Proofs.YtfmlekcdjjkolaaDoor
open Go.RowKit
set_option linter.unusedVariables false
set_option linter.unusedSimpArgs false

def toldN (n k : Nat) : List Int := allAt (fun j => (toldB n k).getD j false) n
def toldChk (n k : Nat) : Bool := (decide ((toldN n k).length = n) == decide (k = (roundsN n).length)) && (toldN n k).contains 0 && (decide ((roundsN n).length < k + 1) || (toldN n k).all fun x => (toldN n (k + 1)).contains x)
set_option maxRecDepth 100000 in
theorem told_chk : ∀ n < 41, ∀ k < 7, 1 ≤ n → k ≤ (roundsN n).length → toldChk n k = true := by decide +kernel
theorem told_law {n k : Nat} (h1 : 1 ≤ n) (h40 : n ≤ 40) (hk : k ≤ (roundsN n).length) : (decide ((toldN n k).length = n) = decide (k = (roundsN n).length)) ∧ (0 : Int) ∈ toldN n k ∧ (k + 1 ≤ (roundsN n).length → ∀ x ∈ toldN n k, x ∈ toldN n (k + 1)) := by
  have h6 := roundsN_len n h40
  have h := told_chk n (by omega) k (by omega) h1 hk
  simp only [toldChk, Bool.and_eq_true, Bool.or_eq_true, beq_iff_eq, List.contains_iff_mem, decide_eq_true_eq, List.all_eq_true] at h
  obtain ⟨⟨a, b⟩, c⟩ := h
  refine ⟨a, b, fun hle => ?_⟩
  rcases c with c | c
  · omega
  · exact c
theorem toldOut_N {n k : Nat} (h : partsOk (n : Int) (k : Int) = true) : toldOut (n : Int) (k : Int) = toldN n k := by rw [toldOut_yes h, Int.toNat_natCast, Int.toNat_natCast]; rfl
theorem toldOut_pw (n r : Int) : (toldOut n r).Pairwise (· < ·) := by
  unfold toldOut
  split
  · exact allAt_lt _ _
  · simp
end Go.Proofs.YtfmlekcdjjkolaaDoor
