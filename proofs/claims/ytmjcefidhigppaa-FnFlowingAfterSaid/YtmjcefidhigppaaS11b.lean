/-
  Chapter 11: what the functions give, and the least number of steps. No walk, and no statement is proved here.
-/
import Derived.Test.YtmjcefidhigppaaS11
namespace Go.Proofs.Ytmjcefidhigppaa
open Go.RowKit
set_option linter.unusedVariables false
set_option linter.unusedSimpArgs false

def drivenOut (l : List Int) : List Int := if bitsOk l = true then driveL l else []
def drivenAft (l : List Int) (s : Int) : List Int := if (bitsOk l && within s 0 60) = true then driveI s.toNat l else []
def flowOut (l : List Int) : Int := if bitsOk l = true then (flowN l : Int) else -1
def endOut (l : List Int) : Int := if bitsOk l = true then (endN l : Int) else -1
def freeOut (l : List Int) : List Int := if bitsOk l = true then freeL l else []
/-- The least number of steps after which the flow is that of the end. -/
def flowK (l : List Int) : Nat := ((List.range (l.length + 1)).find? fun k => decide (flowN (driveI k l) = endN l)).getD 0
def flowingOut (l : List Int) : Int := if bitsOk l = true then (flowK l : Int) else -1
theorem nth_drive {l : List Int} {k : Nat} (h : k < l.length) : nth (driveL l) k = if nth l k = 1 then nth l ((k + 1) % l.length) else nth l ((k + l.length - 1) % l.length) := nth_ringL h
theorem drive_take {l : List Int} {k : Nat} (h : k < l.length) : (driveL l).take (k + 1) = (driveL l).take k ++ [nth (driveL l) k] := take_nth (by rw [driveL_len]; exact h)
theorem nth_flow {l : List Int} {k : Nat} (h : k < l.length) : nth (flowL l) k = if nth l k = 1 ∧ nth l ((k + 1) % l.length) = 0 then 1 else 0 := nth_ringL h
theorem flow_take {l : List Int} {k : Nat} (h : k < l.length) : ones ((flowL l).take (k + 1)) = ones ((flowL l).take k) + (if nth l k = 1 ∧ nth l ((k + 1) % l.length) = 0 then 1 else 0) := by
  rw [ones_take (by rw [show (flowL l).length = l.length from ringL_len _ l]; exact h), nth_flow h]
  split <;> simp
theorem flowK_spec {l : List Int} (h : bitsOk l = true) : flowN (driveI (flowK l) l) = endN l ∧ (∀ j, j < flowK l → flowN (driveI j l) ≠ endN l) ∧ 2 * flowK l ≤ l.length := by
  have hh := flow_half h
  have h1 := (bitsOk_iff.1 h).2
  cases hf : (List.range (l.length + 1)).find? (fun k => decide (flowN (driveI k l) = endN l)) with
  | none =>
    rw [List.find?_eq_none] at hf
    exact absurd (decide_eq_true hh) (hf (l.length / 2) (by rw [List.mem_range]; omega))
  | some k =>
    have hk : flowK l = k := by unfold flowK; rw [hf]; rfl
    rw [List.find?_eq_some_iff_getElem] at hf
    obtain ⟨g1, i, hi, g2, g3⟩ := hf
    have e : i = k := by simpa using g2
    subst e
    rw [hk]
    have hmin : ∀ j, j < i → flowN (driveI j l) ≠ endN l := fun j hj => by
      have := g3 j hj
      simpa using this
    refine ⟨by simpa using g1, hmin, ?_⟩
    rcases Nat.lt_or_ge (l.length / 2) i with h2 | h2
    · exact absurd hh (hmin _ h2)
    · omega
theorem flowK_at {l : List Int} (h : bitsOk l = true) {k : Nat} (h1 : flowN (driveI k l) = endN l) (h2 : ∀ j, j < k → flowN (driveI j l) ≠ endN l) : flowK l = k := by
  obtain ⟨g1, g2, _⟩ := flowK_spec h
  rcases Nat.lt_trichotomy (flowK l) k with h3 | h3 | h3
  · exact absurd g1 (h2 _ h3)
  · exact h3
  · exact absurd h1 (g2 _ h3)
theorem freeL_ok {l : List Int} (h : bitsOk l = true) : bitsOk (freeL l) = true := by
  obtain ⟨h1, h2⟩ := bitsOk_iff.1 h
  exact bitsOk_iff.2 ⟨freeL_bits h1, by rw [freeL_len]; exact h2⟩
theorem flowK_free {l : List Int} (h : bitsOk l = true) : flowK (freeL l) = flowK l := by
  obtain ⟨g1, g2, _⟩ := flowK_spec h
  have hl := (bitsOk_iff.1 h).1
  refine flowK_at (freeL_ok h) ?_ fun j hj => ?_
  · rw [driveI_free hl, flow_free (end_driveI hl _).2, end_free hl, g1]
  · rw [driveI_free hl, flow_free (end_driveI hl _).2, end_free hl]
    exact g2 j hj
theorem nth_freeS {l : List Int} {k : Nat} (h : k < l.length) : nth (freeL l) k = 1 - nth l (l.length - 1 - k) := nth_free h
theorem free_take {l : List Int} {k : Nat} (h : k < l.length) : (freeL l).take (k + 1) = (freeL l).take k ++ [1 - nth l (l.length - 1 - k)] := by
  rw [take_nth (by rw [freeL_len]; exact h), nth_free h]
end Go.Proofs.Ytmjcefidhigppaa
