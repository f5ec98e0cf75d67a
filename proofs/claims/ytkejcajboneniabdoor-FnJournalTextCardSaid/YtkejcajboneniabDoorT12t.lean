/-
  Texts of deeds are read: the arithmetic of the laws on DeedText and ReadDeed. No function is named, and no statement is proved here.
-/
import Derived.Test.YtkejcajboneniabDoorT12f
namespace Go.Proofs.YtkejcajboneniabDoor
open Go.RowKit
set_option linter.unusedVariables false
set_option linter.unusedSimpArgs false

def num2 (n : Nat) : List UInt8 := if n < 10 then [digB n] else [digB (n / 10), digB (n % 10)]
theorem numB_two {n : Nat} (h : n < 100) : numB n = num2 n := by
  unfold num2
  by_cases h1 : n < 10
  · rw [numB_lt h1, if_pos h1]
  · rw [numB_ge h1, numB_lt (by omega), if_neg h1]; rfl
set_option maxRecDepth 100000 in
theorem cut_flip : ∀ n : Fin 100, cutB (flipB ++ num2 n.val) 32 = [[102, 108, 105, 112], num2 n.val] := by decide
set_option maxRecDepth 100000 in
theorem cut_round : ∀ n : Fin 100, cutB (roundB ++ num2 n.val) 32 = [[114, 111, 117, 110, 100], num2 n.val] := by decide
set_option maxRecDepth 100000 in
theorem digits_num : ∀ n : Fin 100, digitsOut (num2 n.val) = (n.val : Int) := by decide
set_option maxRecDepth 100000 in
theorem num2_inj : ∀ n m : Fin 100, num2 n.val = num2 m.val → n.val = m.val := by decide
set_option maxRecDepth 100000 in
theorem flip_plain : ∀ n : Fin 100, ∀ a ∈ plainD, isText (flipB ++ num2 n.val) a = false := by decide
set_option maxRecDepth 100000 in
theorem round_plain : ∀ n : Fin 100, ∀ a ∈ plainD, isText (roundB ++ num2 n.val) a = false := by decide
theorem deedP_flip {q : Nat} (h : q < 100) : deedP (3, (q : Int)) = flipB ++ num2 q := by
  have hw : within (q : Int) 0 99 = true := within_iff.2 ⟨by omega, by omega⟩
  unfold deedP deedB
  rw [if_pos ⟨rfl, hw⟩, Int.toNat_natCast, numB_two h]
theorem deedP_round {q : Nat} (h : q < 100) : deedP (4, (q : Int)) = roundB ++ num2 q := by
  have hw : within (q : Int) 0 99 = true := within_iff.2 ⟨by omega, by omega⟩
  unfold deedP deedB
  rw [if_neg (fun h => absurd (show (4 : Int) = 3 from h.1) (by decide)), if_pos ⟨rfl, hw⟩, Int.toNat_natCast, numB_two h]
theorem read_flip {q : Nat} (h : q < 100) : readOut (flipB ++ num2 q) = some (3, (q : Int)) := by
  have h1 := cut_flip ⟨q, h⟩
  have h2 := digits_num ⟨q, h⟩
  have h3 := flip_plain ⟨q, h⟩
  simp only at h1 h2 h3
  have hc : candD (flipB ++ num2 q) = plainD ++ [(3, (q : Int)), (4, (q : Int))] := by
    unfold candD
    rw [h1, if_pos (by rfl)]
    show plainD ++ [(3, digitsOut (num2 q)), (4, digitsOut (num2 q))] = _
    rw [h2]
  have ht : isText (flipB ++ num2 q) (3, (q : Int)) = true := by
    unfold isText
    rw [deedP_flip h]
    simp [flipB]
  unfold readOut
  rw [hc, List.find?_append, List.find?_eq_none.2 (by simpa using h3)]
  simp [ht]
theorem read_round {q : Nat} (h : q < 100) : readOut (roundB ++ num2 q) = some (4, (q : Int)) := by
  have h1 := cut_round ⟨q, h⟩
  have h2 := digits_num ⟨q, h⟩
  have h3 := round_plain ⟨q, h⟩
  simp only at h1 h2 h3
  have hc : candD (roundB ++ num2 q) = plainD ++ [(3, (q : Int)), (4, (q : Int))] := by
    unfold candD
    rw [h1, if_pos (by rfl)]
    show plainD ++ [(3, digitsOut (num2 q)), (4, digitsOut (num2 q))] = _
    rw [h2]
  have hf : isText (roundB ++ num2 q) (3, (q : Int)) = false := by
    unfold isText
    rw [deedP_flip h]
    simp [flipB, roundB]
  have ht : isText (roundB ++ num2 q) (4, (q : Int)) = true := by
    unfold isText
    rw [deedP_round h]
    simp [roundB]
  unfold readOut
  rw [hc, List.find?_append, List.find?_eq_none.2 (by simpa using h3)]
  simp [ht, hf]
/-- What a text of a deed can be. -/
theorem deedB_form (k n : Int) : (∃ q : Nat, q < 100 ∧ n = q ∧ k = 3 ∧ deedB k n = flipB ++ num2 q) ∨ (∃ q : Nat, q < 100 ∧ n = q ∧ k = 4 ∧ deedB k n = roundB ++ num2 q) ∨
    (n = 0 ∧ ((k = 0 ∧ deedB k n = sumsB) ∨ (k = 1 ∧ deedB k n = carsB) ∨ (k = 2 ∧ deedB k n = votesB) ∨ (k = 5 ∧ deedB k n = freeB) ∨ (k = 6 ∧ deedB k n = backB))) ∨ deedB k n = [] := by
  by_cases h3 : k = 3 ∧ within n 0 99 = true
  · have hb := within_iff.1 h3.2
    obtain ⟨q, rfl⟩ : ∃ q : Nat, n = q := Int.eq_ofNat_of_zero_le hb.1
    obtain ⟨rfl, -⟩ := h3
    exact .inl ⟨q, by omega, rfl, rfl, deedP_flip (by omega)⟩
  by_cases h4 : k = 4 ∧ within n 0 99 = true
  · have hb := within_iff.1 h4.2
    obtain ⟨q, rfl⟩ : ∃ q : Nat, n = q := Int.eq_ofNat_of_zero_le hb.1
    obtain ⟨rfl, -⟩ := h4
    exact .inr (.inl ⟨q, by omega, rfl, rfl, deedP_round (by omega)⟩)
  by_cases h0 : k = 0 ∧ n = 0
  · obtain ⟨rfl, rfl⟩ := h0; exact .inr (.inr (.inl ⟨rfl, .inl ⟨rfl, rfl⟩⟩))
  by_cases h1 : k = 1 ∧ n = 0
  · obtain ⟨rfl, rfl⟩ := h1; exact .inr (.inr (.inl ⟨rfl, .inr (.inl ⟨rfl, rfl⟩)⟩))
  by_cases h2 : k = 2 ∧ n = 0
  · obtain ⟨rfl, rfl⟩ := h2; exact .inr (.inr (.inl ⟨rfl, .inr (.inr (.inl ⟨rfl, rfl⟩))⟩))
  by_cases h5 : k = 5 ∧ n = 0
  · obtain ⟨rfl, rfl⟩ := h5; exact .inr (.inr (.inl ⟨rfl, .inr (.inr (.inr (.inl ⟨rfl, rfl⟩)))⟩))
  by_cases h6 : k = 6 ∧ n = 0
  · obtain ⟨rfl, rfl⟩ := h6; exact .inr (.inr (.inl ⟨rfl, .inr (.inr (.inr (.inr ⟨rfl, rfl⟩)))⟩))
  refine .inr (.inr (.inr ?_))
  unfold deedB
  rw [if_neg h3, if_neg h4, if_neg h0, if_neg h1, if_neg h2, if_neg h5, if_neg h6]
set_option maxRecDepth 100000 in
theorem read_deed (a : Int × Int) (h : deedP a ≠ []) : readOut (deedP a) = some a := by
  obtain ⟨k, n⟩ := a
  unfold deedP at h ⊢
  simp only at h ⊢
  rcases deedB_form k n with ⟨q, hq, rfl, rfl, e⟩ | ⟨q, hq, rfl, rfl, e⟩ | ⟨rfl, ⟨rfl, e⟩ | ⟨rfl, e⟩ | ⟨rfl, e⟩ | ⟨rfl, e⟩ | ⟨rfl, e⟩⟩ | e
  · rw [e]; exact read_flip hq
  · rw [e]; exact read_round hq
  · rw [e]; decide
  · rw [e]; decide
  · rw [e]; decide
  · rw [e]; decide
  · rw [e]; decide
  · exact absurd e h
theorem read_text {s : List UInt8} {a : Int × Int} (h : readOut s = some a) : deedP a = s ∧ s ≠ [] := by
  have := List.find?_some h
  simp only [isText, Bool.and_eq_true, bne_iff_ne, beq_iff_eq] at this
  exact ⟨this.2, this.1⟩
set_option maxRecDepth 100000 in
theorem flip_last : ∀ n : Fin 100, (flipB ++ num2 n.val).getLast? ≠ some 32 ∧ (flipB ++ num2 n.val).getLast? ≠ some 10 := by decide
set_option maxRecDepth 100000 in
theorem round_last : ∀ n : Fin 100, (roundB ++ num2 n.val).getLast? ≠ some 32 ∧ (roundB ++ num2 n.val).getLast? ≠ some 10 := by decide
theorem deedP_last (a : Int × Int) : (deedP a).getLast? ≠ some 32 := by
  obtain ⟨k, n⟩ := a
  unfold deedP
  simp only
  rcases deedB_form k n with ⟨q, hq, rfl, rfl, e⟩ | ⟨q, hq, rfl, rfl, e⟩ | ⟨rfl, ⟨rfl, e⟩ | ⟨rfl, e⟩ | ⟨rfl, e⟩ | ⟨rfl, e⟩ | ⟨rfl, e⟩⟩ | e
  · rw [e]; exact (flip_last ⟨q, hq⟩).1
  · rw [e]; exact (round_last ⟨q, hq⟩).1
  all_goals (rw [e]; decide)
theorem read_spaced (s : List UInt8) : readOut (s ++ [32]) = none := by
  cases h : readOut (s ++ [32]) with
  | none => rfl
  | some a =>
    exfalso
    have h1 := (read_text h).1
    exact deedP_last a (by rw [h1]; simp)
end Go.Proofs.YtkejcajboneniabDoor
