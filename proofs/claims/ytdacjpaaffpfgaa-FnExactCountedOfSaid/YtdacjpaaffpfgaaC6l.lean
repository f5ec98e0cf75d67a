/-
  How long chapter 6's results are. No walk, and no statement is proved here.
-/
import Derived.Test.YtdacjpaaffpfgaaC6q
namespace Go.Proofs.Ytdacjpaaffpfgaa
open Go.RowKit
theorem zeros_len (n : Int) : (zerosOut n).length ≤ 8 ∧ (zerosOut n).length ≤ 8 := by
  unfold zerosOut
  split
  · rename_i h; have := within_iff.1 h; simp; omega
  · simp
theorem tick_len8 (D C : List Int) (t : Bool) : (tickD D C t).length ≤ 8 ∧ (tickC D C t).length ≤ 8 := by
  unfold tickD tickC
  split
  · rename_i h; obtain ⟨h1, h2, _⟩ := ctrOk_iff.1 h; simp [tickL_len]; omega
  · simp
theorem rest_len8 (D C : List Int) : (restD D C).length ≤ 8 ∧ (restC D C).length ≤ 8 := by
  unfold restD restC
  split
  · rename_i h; obtain ⟨h1, h2, _⟩ := ctrOk_iff.1 h; simp [restL_len]; omega
  · simp
theorem count_len8 (m : Int) (ts : List Bool) : (countD m ts).length ≤ 8 ∧ (countC m ts).length ≤ 8 := by
  unfold countD countC
  split
  · rename_i h; simp [countOk, within] at h; simp [countL_len, zeroL]; omega
  · simp
end Go.Proofs.Ytdacjpaaffpfgaa
