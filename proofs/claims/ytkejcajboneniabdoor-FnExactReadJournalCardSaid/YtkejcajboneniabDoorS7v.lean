/-
  Chapter 7's votes as numbers of bits. No walk, and no statement is proved here.
-/
import Derived.Test.YtkejcajboneniabDoorS7
namespace Go.Proofs.YtkejcajboneniabDoor
open Go.RowKit
set_option linter.unusedVariables false
set_option linter.unusedSimpArgs false

/-- The first k machines as a number, the lowest bit for the first machine. -/
def pk (l : List Int) : Nat → Nat
  | 0 => 0
  | k + 1 => pk l k ||| (if nth l k = 1 then 2 ^ k else 0)
theorem pk_bit (l : List Int) (k j : Nat) : (pk l k).testBit j = (decide (j < k) && decide (nth l j = 1)) := by
  induction k with
  | zero => simp [pk]
  | succ k ih =>
    rw [pk, Nat.testBit_or, ih]
    by_cases h : nth l k = 1
    · rw [if_pos h, Nat.testBit_two_pow]
      by_cases hjk : k = j
      · subst hjk; simp [h]
      · have : (j < k + 1) = (j < k) := by apply propext; omega
        simp [hjk, this]
    · rw [if_neg h, Nat.zero_testBit, Bool.or_false]
      by_cases hjk : k = j
      · subst hjk; simp [h]
      · have : (j < k + 1) = (j < k) := by apply propext; omega
        simp [this]
theorem pk_lt (l : List Int) (k : Nat) : pk l k < 2 ^ k := by
  apply Nat.lt_pow_two_of_testBit
  intro i hi
  rw [pk_bit]
  simp; omega
theorem pk_lt40 (l : List Int) {k : Nat} (h : k ≤ 40) : pk l k < 2 ^ 40 := Nat.lt_of_lt_of_le (pk_lt l k) (Nat.pow_le_pow_right (by omega) h)
theorem pk_inj {l m : List Int} {n : Nat} (hl : l.length = n) (hm : m.length = n) (bl : bitsL l) (bm : bitsL m) (h : pk l n = pk m n) : l = m := by
  refine list_ext7 (by omega) fun k hk => ?_
  have hb := congrArg (Nat.testBit · k) h
  simp only [pk_bit] at hb
  have h1 := bits_nth bl k
  have h2 := bits_nth bm k
  rw [show decide (k < n) = true by simp; omega, Bool.true_and, Bool.true_and, decide_eq_decide] at hb
  omega

/-- What each machine hears from the left, from the right, and what it votes. -/
def fromL (x n : Nat) : Nat := (x * 2 &&& (2 ^ n - 1)) ||| (x &&& 1)
def fromR (x n : Nat) : Nat := (x / 2) ||| (x &&& 2 ^ (n - 1))
def votedB (x n : Nat) : Nat := ((fromL x n &&& x) ||| (x &&& fromR x n)) ||| (fromL x n &&& fromR x n)
def firmB (x n : Nat) : Nat := (2 ^ n - 1) &&& ((2 ^ 64 - 1) ^^^ ((x ^^^ fromL x n) &&& (x ^^^ fromR x n)))
theorem fromL_bit (l : List Int) {n : Nat} (hn : 1 ≤ n) (j : Nat) : (fromL (pk l n) n).testBit j = (decide (j < n) && decide (nth l (j - 1) = 1)) := by
  unfold fromL
  rw [Nat.testBit_or, Nat.testBit_and, Nat.testBit_and, Nat.testBit_two_pow_sub_one, show (1 : Nat) = 2 ^ 0 from rfl, Nat.testBit_two_pow, show pk l n * 2 = 2 ^ 1 * pk l n by omega, Nat.testBit_two_pow_mul, pk_bit, pk_bit]
  rcases j with _ | j
  · simp
  · have h1 : ¬ (0 = j + 1) := by omega
    have h2 : (1 ≤ j + 1) = True := by simp
    simp only [h1, h2, decide_true, decide_false, Bool.and_false, Bool.or_false, Bool.true_and, Nat.add_sub_cancel]
    by_cases h : j + 1 < n
    · simp [h, show j < n by omega]
    · simp [h]
theorem fromR_bit (l : List Int) {n : Nat} (hn : 1 ≤ n) (j : Nat) : (fromR (pk l n) n).testBit j = (decide (j < n) && decide (nth l (min (j + 1) (n - 1)) = 1)) := by
  unfold fromR
  rw [Nat.testBit_or, Nat.testBit_and, Nat.testBit_two_pow, Nat.testBit_div_two, pk_bit, pk_bit]
  by_cases h : j + 1 < n
  · have h1 : ¬ (n - 1 = j) := by omega
    simp [h, h1, show j < n by omega, show min (j + 1) (n - 1) = j + 1 by omega]
  · by_cases h2 : n - 1 = j
    · subst h2
      simp [h, show min (n - 1 + 1) (n - 1) = n - 1 by omega]
    · simp [h, h2, show ¬ j < n by omega]
theorem voted_pk {l : List Int} {n : Nat} (hl : l.length = n) (hn : 1 ≤ n) (hb : bitsL l) : votedB (pk l n) n = pk (voteL l) n := by
  apply Nat.eq_of_testBit_eq
  intro j
  unfold votedB
  rw [Nat.testBit_or, Nat.testBit_or, Nat.testBit_and, Nat.testBit_and, Nat.testBit_and, fromL_bit l hn, fromR_bit l hn, pk_bit, pk_bit]
  by_cases h : j < n
  · rw [nth_vote (by omega)]
    unfold voteAt
    rw [hl]
    simp only [h, decide_true, Bool.true_and]
    rcases bits_nth hb j with e1 | e1 <;> rcases bits_nth hb (j - 1) with e2 | e2 <;> rcases bits_nth hb (min (j + 1) (n - 1)) with e3 | e3 <;> rw [e1, e2, e3] <;> decide
  · simp [h]
theorem opposed_pk {l : List Int} {n : Nat} (hl : l.length = n) (hb : bitsL l) : pk l n ^^^ (2 ^ n - 1) = pk (oppL l) n := by
  apply Nat.eq_of_testBit_eq
  intro j
  rw [Nat.testBit_xor, Nat.testBit_two_pow_sub_one, pk_bit, pk_bit]
  by_cases h : j < n
  · rw [nth_opp (by omega)]
    simp only [h, decide_true, Bool.true_and]
    rcases bits_nth hb j with e1 | e1 <;> rw [e1] <;> decide
  · simp [h]
theorem firm_bit {l : List Int} {n : Nat} (hl : l.length = n) (hn : 1 ≤ n) (h40 : n ≤ 40) (hb : bitsL l) (j : Nat) : (firmB (pk l n) n).testBit j = (decide (j < n) && firmAt l j) := by
  unfold firmB
  rw [Nat.testBit_and, Nat.testBit_xor, Nat.testBit_and, Nat.testBit_xor, Nat.testBit_xor, Nat.testBit_two_pow_sub_one, Nat.testBit_two_pow_sub_one, fromL_bit l hn, fromR_bit l hn, pk_bit]
  by_cases h : j < n
  · simp only [h, decide_true, Bool.true_and, show (j < 64) = True by simp; omega, Bool.true_xor]
    rw [Bool.eq_iff_iff, firm_iff, hl]
    by_cases h0 : j = 0
    · subst h0; simp
    · by_cases h1 : j = n - 1
      · rw [show min (j + 1) (n - 1) = j by omega]; simp [h1]
      · rw [show min (j + 1) (n - 1) = j + 1 by omega]
        rcases bits_nth hb j with e1 | e1 <;> rcases bits_nth hb (j - 1) with e2 | e2 <;> rcases bits_nth hb (j + 1) with e3 | e3 <;> rw [e1, e2, e3] <;> simp [h0, h1]
  · simp [h]
/-- Place k as the program gives it. -/
theorem pk_at {l : List Int} {n k : Nat} (hb : bitsL l) (hk : k < n) : ((pk l n / 2 ^ k &&& 1 : Nat) : Int) = nth l k := by
  have h : pk l n / 2 ^ k &&& 1 = if (pk l n).testBit k then 1 else 0 := by
    rw [Nat.and_one_is_mod, Nat.testBit_eq_decide_div_mod_eq]
    by_cases h : pk l n / 2 ^ k % 2 = 1 <;> simp [h]; omega
  rw [h, pk_bit]
  rcases bits_nth hb k with e | e <;> simp [e, hk]
theorem fromL_lt {x n : Nat} (h : x < 2 ^ n) : fromL x n < 2 ^ n :=
  Nat.or_lt_two_pow (Nat.and_lt_two_pow _ (by have := Nat.two_pow_pos n; omega)) (Nat.lt_of_le_of_lt Nat.and_le_left h)
theorem fromR_lt {x n : Nat} (h : x < 2 ^ n) : fromR x n < 2 ^ n :=
  Nat.or_lt_two_pow (by omega) (Nat.lt_of_le_of_lt Nat.and_le_left h)
end Go.Proofs.YtkejcajboneniabDoor
