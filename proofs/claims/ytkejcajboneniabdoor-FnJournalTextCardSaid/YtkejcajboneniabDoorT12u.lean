/-
  Journals are read: the arithmetic of the laws on JournalText and ReadJournal. No function is named, and no statement is proved here.
-/
import Derived.Test.YtkejcajboneniabDoorT12t
import Derived.Test.YtkejcajboneniabDoorT12g
namespace Go.Proofs.YtkejcajboneniabDoor
open Go.RowKit
set_option linter.unusedVariables false
set_option linter.unusedSimpArgs false

set_option maxRecDepth 100000 in
theorem flip_line : ∀ n : Fin 100, ∀ b ∈ flipB ++ num2 n.val, b ≠ 10 := by decide
set_option maxRecDepth 100000 in
theorem round_line : ∀ n : Fin 100, ∀ b ∈ roundB ++ num2 n.val, b ≠ 10 := by decide
theorem deedP_line (a : Int × Int) : ∀ b ∈ deedP a, b ≠ 10 := by
  obtain ⟨k, n⟩ := a
  unfold deedP
  simp only
  rcases deedB_form k n with ⟨q, hq, rfl, rfl, e⟩ | ⟨q, hq, rfl, rfl, e⟩ | ⟨rfl, ⟨rfl, e⟩ | ⟨rfl, e⟩ | ⟨rfl, e⟩ | ⟨rfl, e⟩ | ⟨rfl, e⟩⟩ | e
  · rw [e]; exact flip_line ⟨q, hq⟩
  · rw [e]; exact round_line ⟨q, hq⟩
  all_goals (rw [e]; decide)
theorem bat_mid (pre t post : List UInt8) {d : Nat} (h : d < t.length) : bat (pre ++ (t ++ post)) (pre.length + d) = t[d] := by
  simp [bat, List.getD, List.getElem?_append_right, List.getElem?_append_left, h]
/-- A line without its newline is passed. -/
theorem jgo_pass {pre t post : List UInt8} {L : List (Int × Int)} (h0 : jgo (pre ++ (t ++ post)) pre.length = (L, pre.length, false)) (ht : ∀ b ∈ t, b ≠ 10) :
    ∀ d, d ≤ t.length → jgo (pre ++ (t ++ post)) (pre.length + d) = (L, pre.length, false)
  | 0, _ => h0
  | d + 1, hd => by
    have ih := jgo_pass h0 ht d (by omega)
    rw [← Nat.add_assoc, jgo, ih, if_neg Bool.false_ne_true, if_neg]
    rw [bat_mid pre t post (by omega)]
    exact ht _ (List.getElem_mem _)
theorem sub_mid (pre t post : List UInt8) : sub (pre ++ (t ++ post)) pre.length (pre.length + t.length) = t := by
  unfold sub
  rw [← List.append_assoc, List.take_left' (by simp), List.drop_left]
/-- A line is read. -/
theorem jgo_line {pre post : List UInt8} {a : Int × Int} {L : List (Int × Int)} (h0 : jgo (pre ++ (deedP a ++ ([10] ++ post))) pre.length = (L, pre.length, false)) (ha : hasText a = true) :
    jgo (pre ++ (deedP a ++ ([10] ++ post))) (pre.length + (deedP a).length + 1) = (L ++ [a], pre.length + (deedP a).length + 1, false) := by
  have h1 := jgo_pass h0 (deedP_line a) (deedP a).length (Nat.le_refl _)
  have h2 : bat (pre ++ (deedP a ++ ([10] ++ post))) (pre.length + (deedP a).length) = 10 := by
    simp [bat, List.getD, List.getElem?_append_right]
  have h3 : readOut (deedP a) = some a := read_deed a (by simpa [hasText] using ha)
  rw [jgo, h1, if_neg Bool.false_ne_true, if_pos h2]
  simp only [sub_mid, h3]
theorem jgo_lines : ∀ (l2 l1 : List (Int × Int)) (post : List UInt8), l2.all hasText = true →
    jgo (linesB l1 ++ (linesB l2 ++ post)) (linesB l1).length = (l1, (linesB l1).length, false) →
    jgo (linesB l1 ++ (linesB l2 ++ post)) (linesB (l1 ++ l2)).length = (l1 ++ l2, (linesB (l1 ++ l2)).length, false)
  | [], l1, post, _, h => by simpa using h
  | a :: l2, l1, post, hh, h => by
    rw [List.all_cons, Bool.and_eq_true] at hh
    have e1 : linesB l1 ++ (linesB (a :: l2) ++ post) = linesB l1 ++ (deedP a ++ ([10] ++ (linesB l2 ++ post))) := by simp [linesB]
    have e2 : linesB (l1 ++ [a]) ++ (linesB l2 ++ post) = linesB l1 ++ (deedP a ++ ([10] ++ (linesB l2 ++ post))) := by simp [linesB_append, linesB]
    have e3 : (linesB (l1 ++ [a])).length = (linesB l1).length + (deedP a).length + 1 := by simp [linesB_append, linesB]; omega
    rw [e1] at h
    have h1 := jgo_line h hh.1
    rw [← e2, ← e3] at h1
    have h2 := jgo_lines l2 (l1 ++ [a]) post hh.2 h1
    rw [e2, ← e1, List.append_assoc] at h2
    exact h2
theorem read_lines {l : List (Int × Int)} (h : l.all hasText = true) : jOut (linesB l) = (l, (linesB l).length) := by
  have h1 := jgo_lines l [] [] h rfl
  simp only [linesB, List.nil_append, List.append_nil] at h1
  unfold jOut
  rw [h1]
end Go.Proofs.YtkejcajboneniabDoor
