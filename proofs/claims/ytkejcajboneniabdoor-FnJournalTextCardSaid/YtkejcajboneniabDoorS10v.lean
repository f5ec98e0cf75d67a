/-
  Rings of bits (chapters 10 and 11) as numbers: turned, and as sums of two. No walk, and no statement is proved here.
-/
import Derived.Test.YtkejcajboneniabDoorS10
namespace Go.Proofs.YtkejcajboneniabDoor
open Go.RowKit
set_option linter.unusedVariables false
set_option linter.unusedSimpArgs false

/-- The first k machines as a number, the lowest bit for the first machine. -/
def pb (l : List Int) : Nat → Nat
  | 0 => 0
  | k + 1 => pb l k ||| (if nth l k = 1 then 2 ^ k else 0)
theorem pb_bit (l : List Int) (k j : Nat) : (pb l k).testBit j = (decide (j < k) && decide (nth l j = 1)) := by
  induction k with
  | zero => simp [pb]
  | succ k ih =>
    rw [pb, Nat.testBit_or, ih]
    by_cases h : nth l k = 1
    · rw [if_pos h, Nat.testBit_two_pow]
      by_cases hjk : k = j
      · subst hjk; simp [h]
      · have : (j < k + 1) = (j < k) := by apply propext; omega
        simp [hjk, this]
    · rw [if_neg h, Nat.zero_testBit, Bool.or_false]
      by_cases hjk : k = j
      · subst hjk; simp [h]
      · have : (j < k + 1) = (j < k) := by apply propext; omega
        simp [this]
theorem pb_lt (l : List Int) (k : Nat) : pb l k < 2 ^ k := by
  apply Nat.lt_pow_two_of_testBit
  intro i hi
  rw [pb_bit]
  simp; omega
/-- A number is that of a list, bit by bit. -/
theorem pb_eq {x n : Nat} {l : List Int} (hx : x < 2 ^ n) (h : ∀ j, j < n → x.testBit j = decide (nth l j = 1)) : x = pb l n := by
  apply Nat.eq_of_testBit_eq
  intro j
  rw [pb_bit]
  by_cases hj : j < n
  · rw [h j hj]; simp [hj]
  · rw [Nat.testBit_lt_two_pow (Nat.lt_of_lt_of_le hx (Nat.pow_le_pow_right (by omega) (by omega)))]; simp [hj]
theorem pb_inj {l m : List Int} {n : Nat} (hl : l.length = n) (hm : m.length = n) (bl : ∀ x ∈ l, x = 0 ∨ x = 1) (bm : ∀ x ∈ m, x = 0 ∨ x = 1) (h : pb l n = pb m n) : l = m := by
  refine list_ext (by omega) fun k hk => ?_
  have hb := congrArg (Nat.testBit · k) h
  simp only [pb_bit] at hb
  have h1 := bit_nth bl k
  have h2 := bit_nth bm k
  rw [show decide (k < n) = true by simp; omega, Bool.true_and, Bool.true_and, decide_eq_decide] at hb
  omega
/-- Place k as a program may give it. -/
theorem pb_at {l : List Int} {n k : Nat} (hb : ∀ x ∈ l, x = 0 ∨ x = 1) (hk : k < n) : ((pb l n / 2 ^ k &&& 1 : Nat) : Int) = nth l k := by
  have h : pb l n / 2 ^ k &&& 1 = if (pb l n).testBit k then 1 else 0 := by
    rw [Nat.and_one_is_mod, Nat.testBit_eq_decide_div_mod_eq]
    by_cases h : pb l n / 2 ^ k % 2 = 1 <;> simp [h]; omega
  rw [h, pb_bit]
  rcases bit_nth hb k with e | e <;> simp [e, hk]

/-- Turned by a places: each bit from as many places to the left; from as many to the right. -/
def turnL (x n a : Nat) : Nat := (x * 2 ^ a &&& (2 ^ n - 1)) ||| x / 2 ^ (n - a)
def turnR (x n a : Nat) : Nat := x / 2 ^ a ||| (x * 2 ^ (n - a) &&& (2 ^ n - 1))
theorem turnL_bit {x n a j : Nat} (hx : x < 2 ^ n) (ha : a < n) (hj : j < n) : (turnL x n a).testBit j = x.testBit ((j + n - a) % n) := by
  unfold turnL
  rw [Nat.testBit_or, Nat.testBit_and, Nat.testBit_two_pow_sub_one, Nat.mul_comm, Nat.testBit_two_pow_mul, Nat.testBit_div_two_pow]
  have hhi : ∀ i, n ≤ i → x.testBit i = false := fun i hi => Nat.testBit_lt_two_pow (Nat.lt_of_lt_of_le hx (Nat.pow_le_pow_right (by omega) hi))
  by_cases h : a ≤ j
  · rw [show j + n - a = (j - a) + n by omega, Nat.add_mod_right, Nat.mod_eq_of_lt (by omega), hhi (j + (n - a)) (by omega)]
    simp [h, hj]
  · rw [Nat.mod_eq_of_lt (by omega)]
    simp [h, show j + (n - a) = j + n - a by omega]
theorem turnR_bit {x n a j : Nat} (hx : x < 2 ^ n) (ha : a < n) (hj : j < n) : (turnR x n a).testBit j = x.testBit ((j + a) % n) := by
  unfold turnR
  rw [Nat.testBit_or, Nat.testBit_and, Nat.testBit_two_pow_sub_one, Nat.mul_comm, Nat.testBit_two_pow_mul, Nat.testBit_div_two_pow]
  have hhi : ∀ i, n ≤ i → x.testBit i = false := fun i hi => Nat.testBit_lt_two_pow (Nat.lt_of_lt_of_le hx (Nat.pow_le_pow_right (by omega) hi))
  by_cases h : j + a < n
  · rw [Nat.mod_eq_of_lt h]
    simp [show ¬ n - a ≤ j by omega]
  · rw [show j + a = (j + a - n) + n by omega, Nat.add_mod_right, Nat.mod_eq_of_lt (by omega)]
    rw [hhi (j + a - n + n) (by omega)]
    simp [show n - a ≤ j by omega, hj, show j - (n - a) = j + a - n by omega]
theorem turnL_lt {x n a : Nat} (hx : x < 2 ^ n) (ha : a ≤ n) : turnL x n a < 2 ^ n :=
  Nat.or_lt_two_pow (Nat.and_lt_two_pow _ (by have := Nat.two_pow_pos n; omega)) (Nat.lt_of_le_of_lt (Nat.div_le_self _ _) hx)
theorem turnR_lt {x n a : Nat} (hx : x < 2 ^ n) (ha : a ≤ n) : turnR x n a < 2 ^ n :=
  Nat.or_lt_two_pow (Nat.lt_of_le_of_lt (Nat.div_le_self _ _) hx) (Nat.and_lt_two_pow _ (by have := Nat.two_pow_pos n; omega))
theorem pb_left {l : List Int} {n a j : Nat} (ha : a < n) (hj : j < n) : (turnL (pb l n) n a).testBit j = decide (nth l ((j + n - a) % n) = 1) := by
  rw [turnL_bit (pb_lt l n) ha hj, pb_bit]
  simp [Nat.mod_lt _ (show 0 < n by omega)]
theorem pb_right {l : List Int} {n a j : Nat} (ha : a < n) (hj : j < n) : (turnR (pb l n) n a).testBit j = decide (nth l ((j + a) % n) = 1) := by
  rw [turnR_bit (pb_lt l n) ha hj, pb_bit]
  simp [Nat.mod_lt _ (show 0 < n by omega)]
/-- The sum of those so many places away, as numbers. -/
theorem pb_far {l : List Int} {n : Nat} (hl : l.length = n) (h0 : 0 < n) (hb : ∀ x ∈ l, x = 0 ∨ x = 1) (a : Nat) : turnL (pb l n) n (a % n) ^^^ turnR (pb l n) n (a % n) = pb (farL a l) n := by
  have ha := Nat.mod_lt a h0
  refine pb_eq (Nat.xor_lt_two_pow (turnL_lt (pb_lt l n) (by omega)) (turnR_lt (pb_lt l n) (by omega))) fun j hj => ?_
  rw [Nat.testBit_xor, pb_left ha hj, pb_right ha hj]
  have hn : nth (farL a l) j = (nth l ((j + a) % n) + nth l ((j + n - a % n) % n)) % 2 := by
    subst hl
    simp [nth, farL, List.getD, hj]
  rw [hn, Nat.add_mod_mod]
  rcases bit_nth hb ((j + a) % n) with e1 | e1 <;> rcases bit_nth hb ((j + n - a % n) % n) with e2 | e2 <;> rw [e1, e2] <;> decide
theorem pb_sum {l : List Int} {n : Nat} (hl : l.length = n) (h0 : 0 < n) (hb : ∀ x ∈ l, x = 0 ∨ x = 1) : turnL (pb l n) n (1 % n) ^^^ turnR (pb l n) n (1 % n) = pb (sumL l) n := by
  rw [pb_far hl h0 hb 1, far_one (by omega)]
/-- Any ring that is told place by place. -/
theorem pb_ring {f : Int → Int → Int → Int} {l : List Int} {n y : Nat} (hl : l.length = n) (hy : y < 2 ^ n) (h : ∀ j, j < n → y.testBit j = decide (f (nth l ((j + n - 1) % n)) (nth l j) (nth l ((j + 1) % n)) = 1)) : y = pb (ringL f l) n :=
  pb_eq hy fun j hj => by rw [h j hj, nth_ringL (by omega), hl]
/-- The sum of two rows. -/
theorem pb_add {a b : List Int} {n : Nat} (ha : a.length = n) (hba : ∀ x ∈ a, x = 0 ∨ x = 1) (hbb : ∀ x ∈ b, x = 0 ∨ x = 1) : pb a n ^^^ pb b n = pb (addL a b) n := by
  refine pb_eq (Nat.xor_lt_two_pow (pb_lt a n) (pb_lt b n)) fun j hj => ?_
  rw [Nat.testBit_xor, pb_bit, pb_bit, nth_addL (by omega)]
  rcases bit_nth hba j with e1 | e1 <;> rcases bit_nth hbb j with e2 | e2 <;> rw [e1, e2] <;> simp [hj]
/-- How many are 1, bit by bit. -/
theorem pb_ones (l : List Int) : ∀ k, k ≤ l.length → ones (l.take k) = (List.range k).countP fun j => (pb l l.length).testBit j
  | 0, _ => rfl
  | k + 1, h => by
    rw [ones_take (by omega), pb_ones l k (by omega), List.range_succ, List.countP_append, List.countP_singleton, pb_bit]
    simp [show k < l.length by omega]
end Go.Proofs.YtkejcajboneniabDoor
