/-
  Chapter 3's middles and parts as plain arithmetic: no walk, and no statement is proved here.
-/
import Derived.Test.YtfmlekcdjjkolaaDoorS2
import Derived.Test.YtfmlekcdjjkolaaDoorC1a
namespace Go.Proofs.YtfmlekcdjjkolaaDoor
open Go.RowKit
set_option linter.unusedVariables false
set_option linter.unusedSimpArgs false

def partOk (last p : Int) : Bool := within last 1 40 && within p 2 5
theorem partOk_iff {last p : Int} : partOk last p = true ↔ (1 ≤ last ∧ last ≤ 40) ∧ (2 ≤ p ∧ p ≤ 5) := by simp [partOk, within]
/-- When the way back and the slow signal meet. -/
def partTime (last p : Int) : Int := 2 * last - last / p
theorem part_cases {p : Int} (h : 2 ≤ p ∧ p ≤ 5) : p = 2 ∨ p = 3 ∨ p = 4 ∨ p = 5 := by omega
theorem part_bd {last p : Int} (h : partOk last p = true) : 0 ≤ last / p ∧ last / p ≤ last ∧ last ≤ partTime last p ∧ partTime last p ≤ 2 * last := by
  obtain ⟨⟨l1, l2⟩, hp⟩ := partOk_iff.1 h
  unfold partTime
  rcases part_cases hp with rfl | rfl | rfl | rfl <;> omega
theorem fast_ok {last p : Int} (h : partOk last p = true) : sigOk 0 1 last = true := by
  rw [partOk_iff] at h; rw [sigOk_iff]; omega
theorem slow_ok {last p : Int} (h : partOk last p = true) : sigOk 0 (2 * p - 1) last = true := by
  rw [partOk_iff] at h; rw [sigOk_iff]; omega
theorem fast_at {last t : Int} (h : 1 ≤ last) (h0 : last ≤ t) (h1 : t ≤ 2 * last) : at2 0 1 last t = 2 * last - t := by
  have e := fold_back h (f := 2 * last - t) (by omega) (by omega)
  rw [show 2 * last - (2 * last - t) = t from by omega] at e
  unfold at2 starts
  rw [if_neg (by omega), slow_pos (by omega), Int.ediv_one, Int.zero_add, e]
theorem slow_at {last p t : Int} (h : partOk last p = true) (h0 : 0 ≤ t) (h1 : t ≤ 2 * last) : at2 0 (2 * p - 1) last t = t / (2 * p - 1) := by
  obtain ⟨⟨l1, l2⟩, hp⟩ := partOk_iff.1 h
  unfold at2 starts
  rw [if_neg (by omega), slow_pos (by omega), Int.zero_add]
  exact fold_small l1 (by rcases part_cases hp with rfl | rfl | rfl | rfl <;> omega) (by rcases part_cases hp with rfl | rfl | rfl | rfl <;> omega)
theorem part_meet {last p : Int} (h : partOk last p = true) : at2 0 1 last (partTime last p) = last / p ∧ at2 0 (2 * p - 1) last (partTime last p) = last / p := by
  have hb := part_bd h
  obtain ⟨⟨l1, l2⟩, hp⟩ := partOk_iff.1 h
  rw [fast_at l1 hb.2.2.1 hb.2.2.2, slow_at h (by omega) hb.2.2.2]
  unfold partTime
  rcases part_cases hp with rfl | rfl | rfl | rfl <;> omega
theorem part_not {last p t : Int} (h : partOk last p = true) (h0 : last ≤ t) (h1 : t < partTime last p) : at2 0 1 last t ≠ at2 0 (2 * p - 1) last t := by
  have hb := part_bd h
  obtain ⟨⟨l1, l2⟩, hp⟩ := partOk_iff.1 h
  rw [fast_at l1 h0 (by omega), slow_at h (by omega) (by omega)]
  unfold partTime at h1
  rcases part_cases hp with rfl | rfl | rfl | rfl <;> omega
theorem part_form {last p : Int} (h : partOk last p = true) : partTime last p = (2 * p - 1) * (last / p) + 2 * (last % p) := by
  obtain ⟨⟨l1, l2⟩, hp⟩ := partOk_iff.1 h
  unfold partTime
  rcases part_cases hp with rfl | rfl | rfl | rfl <;> omega
/-- What PartAt answers. -/
def partVal (last p : Int) : Value := if partOk last p = true then .tuple #[.int .i64 (partTime last p), .int .i64 (last / p), .bool true] else .tuple #[.int .i64 (-1), .int .i64 (-1), .bool false]
theorem partVal_yes {last p : Int} (h : partOk last p = true) : partVal last p = .tuple #[.int .i64 (partTime last p), .int .i64 (last / p), .bool true] := by unfold partVal; rw [if_pos h]
theorem partVal_no {last p : Int} (h : partOk last p = false) : partVal last p = .tuple #[.int .i64 (-1), .int .i64 (-1), .bool false] := by unfold partVal; rw [h]; rfl
theorem partVal_form (last p : Int) : ∃ x y b, partVal last p = .tuple #[.int .i64 x, .int .i64 y, .bool b] := by
  unfold partVal
  split
  · exact ⟨_, _, _, rfl⟩
  · exact ⟨_, _, _, rfl⟩
def middles (last : Int) : List Int := if within last 1 40 = true then (if last % 2 = 0 then [last / 2] else [last / 2, last / 2 + 1]) else []
theorem middles_len (last : Int) : (middles last).length ≤ 2 := by
  unfold middles
  split
  · split <;> simp
  · simp
def heardOut (last p : Int) : Int := if (within last 1 40 && within p 0 last) = true then 2 * last - p else -1
theorem placeOut_at {f e last t : Int} (h : sigOk f e last = true) (h0 : 0 ≤ t) (h1 : t ≤ 2000) : placeOut f e last t = at2 f e last t := by unfold placeOut; rw [h, if_pos (by simp; omega)]
end Go.Proofs.YtfmlekcdjjkolaaDoor
