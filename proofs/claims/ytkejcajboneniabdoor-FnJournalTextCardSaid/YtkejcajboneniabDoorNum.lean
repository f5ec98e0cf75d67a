/-
  Numbers out of texts: strconv.Atoi of the digits of a number, and what the program's numberOf gives. No walk, and no statement is proved here.
-/
import Derived.Test.YtkejcajboneniabDoorT12
import Derived.Test.YtkejcajboneniabDoorIt
import Derived.Lib.AtoiAllCases
import Derived.Lib.ItoaNum
namespace Go.Proofs.YtkejcajboneniabDoor
open Go.RowKit
set_option linter.unusedVariables false
set_option linter.unusedSimpArgs false

theorem parse_append : ∀ (a b : List UInt8) (acc : Nat), Lib.parseUint10 acc (a ++ b) = match Lib.parseUint10 acc a with | .ok u => Lib.parseUint10 u b | .syntax => .syntax | .range => .range
  | [], b, acc => rfl
  | c :: r, b, acc => by
    simp only [List.cons_append, Lib.parseUint10]
    split
    · split
      · rfl
      · split
        · rfl
        · exact parse_append r b _
    · rfl
theorem parse_num : ∀ n : Nat, n < 1000000000000 → Lib.parseUint10 0 (numB n) = .ok n := by
  intro n
  induction n using Nat.strongRecOn with
  | _ n ih =>
    intro hn
    have hd : ∀ d, d < 10 → (digB d).toNat = 48 + d := fun d h => digit_nat h
    by_cases h : n < 10
    · rw [numB_lt h]
      simp only [Lib.parseUint10]
      rw [if_pos (by rw [hd n h]; omega), if_neg (by omega), if_neg (by rw [hd n h]; omega)]
      congr 1
      rw [hd n h]; omega
    · rw [numB_ge h, parse_append, ih (n / 10) (by omega) (by omega)]
      simp only [Lib.parseUint10]
      have h1 := hd (n % 10) (by omega)
      rw [if_pos (by rw [h1]; omega), if_neg (by omega), if_neg (by rw [h1]; omega)]
      congr 1
      rw [h1]; omega
theorem num_head : ∀ n : Nat, ∃ c r, numB n = c :: r ∧ 48 ≤ c.toNat ∧ c.toNat ≤ 57 := by
  intro n
  induction n using Nat.strongRecOn with
  | _ n ih =>
    by_cases h : n < 10
    · exact ⟨_, [], numB_lt h, by rw [digit_nat h]; omega, by rw [digit_nat h]; omega⟩
    · obtain ⟨c, r, e, h1, h2⟩ := ih (n / 10) (by omega)
      exact ⟨c, r ++ [digB (n % 10)], by rw [numB_ge h, e]; rfl, h1, h2⟩
theorem atoi_num {n : Nat} (hn : n < 1000000000000) : Lib.atoiAll (numB n) = .ok (n : Int) := by
  obtain ⟨c, r, e, h1, h2⟩ := num_head n
  have hp : Lib.parseMag (numB n) = .ok n := by
    unfold Lib.parseMag
    rw [if_neg (by rw [e]; simp), parse_num n hn]
  rw [e] at hp ⊢
  unfold Lib.atoiAll
  simp only
  rw [if_neg (show ¬ (c.toNat = 43 ∨ c.toNat = 45) by omega), hp]
  simp only
  rw [if_neg (by omega), if_neg (by omega), if_neg (by omega)]
theorem num_inj {n m : Nat} (hn : n < 1000000000000) (hm : m < 1000000000000) (h : numB n = numB m) : n = m := by
  have h1 := atoi_num hn
  rw [h, atoi_num hm] at h1
  injection h1 with h1
  omega
/-- What numberOf gives: the number in 0..most whose digits a text is, and whether there is one. -/
def numOut (s : List UInt8) (most : Nat) : Int × Bool :=
  match Lib.atoiAll s with
  | .ok v => if 0 ≤ v ∧ v ≤ (most : Int) ∧ numB v.toNat = s then (v, true) else (0, false)
  | _ => (0, false)
theorem numOut_yes {q most : Nat} (h : q ≤ most) (hm : most < 1000000000000) : numOut (numB q) most = ((q : Int), true) := by
  unfold numOut
  rw [atoi_num (by omega)]
  simp only
  rw [if_pos ⟨by omega, by omega, by rw [Int.toNat_natCast]⟩]
theorem numOut_iff {s : List UInt8} {most : Nat} {v : Int} (h : numOut s most = (v, true)) : ∃ q : Nat, v = q ∧ q ≤ most ∧ numB q = s := by
  unfold numOut at h
  split at h
  · rename_i u hu
    split at h
    · rename_i hc
      injection h with h1 h2
      subst h1
      exact ⟨u.toNat, by omega, by omega, hc.2.2⟩
    · injection h with h1 h2; cases h2
  · injection h with h1 h2; cases h2
theorem numOut_no {s : List UInt8} {most : Nat} (h : (numOut s most).2 = false) : numOut s most = (0, false) := by
  unfold numOut at h ⊢
  split
  · rename_i u hu
    rw [hu] at h
    simp only at h
    split at h
    · cases h
    · rename_i hc; rw [if_neg hc]
  · rfl
end Go.Proofs.YtkejcajboneniabDoor
