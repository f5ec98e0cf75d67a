/-
  Rings of bits (chapters 10 and 11) as plain lists and as numbers. No walk, and no statement is proved here.
-/
import Derived.Test.YtkejcajboneniabDoorC1a
namespace Go.Proofs.YtkejcajboneniabDoor
open Go.RowKit
set_option linter.unusedVariables false
set_option linter.unusedSimpArgs false

def bitsOk (l : List Int) : Bool := allIn l 0 1 && within l.length 1 16
theorem bitsOk_iff {l : List Int} : bitsOk l = true ↔ (∀ x ∈ l, x = 0 ∨ x = 1) ∧ 1 ≤ l.length ∧ l.length ≤ 16 := by
  simp only [bitsOk, allIn, within, Bool.and_eq_true, List.all_eq_true, decide_eq_true_eq]
  constructor
  · rintro ⟨h1, h2⟩
    exact ⟨fun x hx => by have := h1 x hx; omega, by omega⟩
  · rintro ⟨h1, h2⟩
    exact ⟨fun x hx => by have := h1 x hx; omega, by omega⟩
theorem bit_nth {l : List Int} (h : ∀ x ∈ l, x = 0 ∨ x = 1) (k : Nat) : nth l k = 0 ∨ nth l k = 1 := by
  by_cases hk : k < l.length
  · rw [nth_lt hk]; exact h _ (List.getElem_mem hk)
  · rw [nth_ge (by omega)]; exact .inl rfl

/-- How many are 1. -/
def ones (l : List Int) : Nat := l.countP fun x => x == 1
theorem ones_le (l : List Int) : ones l ≤ l.length := List.countP_le_length
theorem ones_take {l : List Int} {k : Nat} (h : k < l.length) : ones (l.take (k + 1)) = ones (l.take k) + (if nth l k = 1 then 1 else 0) := by
  unfold ones
  rw [take_nth h, List.countP_append]
  by_cases hx : nth l k = 1
  · simp [hx]
  · simp [hx]

/-- Each place of a ring from that on its left, itself, and that on its right. -/
def ringL (f : Int → Int → Int → Int) (l : List Int) : List Int :=
  (List.range l.length).map fun k => f (nth l ((k + l.length - 1) % l.length)) (nth l k) (nth l ((k + 1) % l.length))
theorem ringL_len (f : Int → Int → Int → Int) (l : List Int) : (ringL f l).length = l.length := by simp [ringL]
theorem nth_ringL {f : Int → Int → Int → Int} {l : List Int} {k : Nat} (h : k < l.length) :
    nth (ringL f l) k = f (nth l ((k + l.length - 1) % l.length)) (nth l k) (nth l ((k + 1) % l.length)) := by simp [nth, ringL, List.getD, h]
theorem list_ext {a b : List Int} (hl : a.length = b.length) (h : ∀ k, k < a.length → nth a k = nth b k) : a = b := by
  apply List.ext_getElem hl
  intro k h1 h2
  have := h k h1
  rwa [nth_lt h1, nth_lt h2] at this

/-- A ring as a number: bit k is place k. -/
def code : List Int → Nat
  | [] => 0
  | x :: t => (if x = 1 then 1 else 0) + 2 * code t
theorem code_lt : ∀ l : List Int, code l < 2 ^ l.length
  | [] => by simp [code]
  | x :: t => by
    have h := code_lt t
    simp only [code, List.length_cons, Nat.pow_succ]
    split <;> omega
theorem code_bit : ∀ (l : List Int) (k : Nat), (code l).testBit k = decide (nth l k = 1)
  | [], k => by simp [code, nth]
  | x :: t, 0 => by
    simp only [code, Nat.testBit_zero, nth, List.getD, List.getElem?_cons_zero, Option.getD_some]
    split
    · simp_all
    · simp_all
  | x :: t, k + 1 => by
    have h := code_bit t k
    have e : ((if x = 1 then 1 else 0) + 2 * code t) / 2 = code t := by split <;> omega
    simp only [code, Nat.testBit_succ, e, h]
    simp [nth]
theorem code_inj {a b : List Int} (ha : ∀ x ∈ a, x = 0 ∨ x = 1) (hb : ∀ x ∈ b, x = 0 ∨ x = 1) (hl : a.length = b.length) (h : code a = code b) : a = b := by
  refine list_ext hl fun k hk => ?_
  have h1 := code_bit a k
  have h2 := code_bit b k
  rw [h, h2] at h1
  rcases bit_nth ha k with e1 | e1 <;> rcases bit_nth hb k with e2 | e2 <;> simp_all

/-- Ones of a number, up to so many bits. -/
def pop : Nat → Nat → Nat
  | 0, _ => 0
  | f + 1, x => Nat.land x 1 + pop f (Nat.shiftRight x 1)
theorem pop_zero : ∀ n, pop n 0 = 0
  | 0 => rfl
  | n + 1 => by
    have h : Nat.shiftRight 0 1 = 0 := rfl
    rw [pop, h, pop_zero n]; rfl
theorem pop_split : ∀ (a b x : Nat), pop (a + b) x = pop a x + pop b (x >>> a)
  | 0, b, x => by simp [pop]
  | a + 1, b, x => by
    rw [show a + 1 + b = a + b + 1 by omega, pop, pop, pop_split a b]
    have : Nat.shiftRight x 1 >>> a = x >>> (a + 1) := by
      show x >>> 1 >>> a = _
      rw [← Nat.shiftRight_add, Nat.add_comm]
    rw [this]; omega
theorem pop_mod : ∀ (a x : Nat), pop a x = pop a (x % 2 ^ a)
  | 0, _ => rfl
  | a + 1, x => by
    have e1 : Nat.land (x % 2 ^ (a + 1)) 1 = Nat.land x 1 := by
      show x % 2 ^ (a + 1) &&& 1 = x &&& 1
      rw [Nat.and_one_is_mod, Nat.and_one_is_mod, Nat.pow_succ, Nat.mul_comm]
      exact Nat.mod_mul_right_mod x 2 (2 ^ a)
    have e2 : Nat.shiftRight (x % 2 ^ (a + 1)) 1 = Nat.shiftRight x 1 % 2 ^ a := by
      show (x % 2 ^ (a + 1)) >>> 1 = x >>> 1 % 2 ^ a
      rw [Nat.shiftRight_succ, Nat.shiftRight_zero, Nat.shiftRight_succ, Nat.shiftRight_zero, Nat.pow_succ, Nat.mul_comm]
      exact Nat.mod_mul_right_div_self x 2 (2 ^ a)
    rw [pop, pop, e1, e2, ← pop_mod a]
/-- Ones of four bits, from a table. -/
def nib (x : Nat) : Nat := Nat.land (Nat.shiftRight 0x4332322132212110 (Nat.mul 4 (Nat.land x 15))) 15
theorem nib_pop (x : Nat) : nib x = pop 4 x := by
  have h : ∀ y, y < 16 → nib y = pop 4 y := by decide
  have e : Nat.land x 15 = x % 16 := Nat.and_two_pow_sub_one_eq_mod x 4
  have e' : Nat.land (x % 16) 15 = x % 16 := (Nat.and_two_pow_sub_one_eq_mod (x % 16) 4).trans (Nat.mod_mod _ _)
  have h1 : nib x = nib (x % 16) := by unfold nib; rw [e, e']
  rw [h1, h _ (Nat.mod_lt _ (by omega)), pop_mod 4 x]
def pop16 (x : Nat) : Nat := nib x + (nib (Nat.shiftRight x 4) + (nib (Nat.shiftRight x 8) + nib (Nat.shiftRight x 12)))
theorem pop16_pop {n x : Nat} (hn : n ≤ 16) (hx : x < 2 ^ n) : pop16 x = pop n x := by
  have h1 : pop 16 x = pop16 x := by
    unfold pop16
    rw [nib_pop, nib_pop, nib_pop, nib_pop, show (16 : Nat) = 4 + (4 + (4 + 4)) from rfl, pop_split, pop_split, pop_split]
    have s1 : x >>> 4 >>> 4 = Nat.shiftRight x 8 := by rw [← Nat.shiftRight_add]; rfl
    have s2 : x >>> 4 >>> 4 >>> 4 = Nat.shiftRight x 12 := by rw [← Nat.shiftRight_add, ← Nat.shiftRight_add]; rfl
    rw [s2, s1]; rfl
  have h2 : pop 16 x = pop n x := by
    rw [show (16 : Nat) = n + (16 - n) by omega, pop_split, Nat.shiftRight_eq_zero x n hx, pop_zero, Nat.add_zero]
  rw [← h1, h2]
theorem code_pop : ∀ l : List Int, pop l.length (code l) = ones l
  | [] => rfl
  | x :: t => by
    have h := code_pop t
    have e1 : Nat.land ((if x = 1 then 1 else 0) + 2 * code t) 1 = if x = 1 then 1 else 0 := by
      show ((if x = 1 then 1 else 0) + 2 * code t) &&& 1 = _
      rw [Nat.and_one_is_mod]; split <;> omega
    have e2 : Nat.shiftRight ((if x = 1 then 1 else 0) + 2 * code t) 1 = code t := by
      show ((if x = 1 then 1 else 0) + 2 * code t) >>> 1 = _
      rw [Nat.shiftRight_succ, Nat.shiftRight_zero]; split <;> omega
    simp only [List.length_cons, pop, code, e1, e2, h, ones, List.countP_cons]
    by_cases hx : x = 1
    · simp [hx]; omega
    · simp [hx]

/-- Sums of integers. -/
def sumR (f : Nat → Int) : Nat → Int
  | 0 => 0
  | k + 1 => sumR f k + f k
theorem sumR_congr {f g : Nat → Int} : ∀ {n : Nat}, (∀ k, k < n → f k = g k) → sumR f n = sumR g n
  | 0, _ => rfl
  | n + 1, h => by simp only [sumR]; rw [sumR_congr (n := n) fun k hk => h k (by omega), h n (by omega)]
theorem sumR_le {f g : Nat → Int} : ∀ {n : Nat}, (∀ k, k < n → f k ≤ g k) → sumR f n ≤ sumR g n
  | 0, _ => Int.le_refl _
  | n + 1, h => by
    simp only [sumR]
    have h1 := sumR_le (n := n) fun k hk => h k (by omega)
    have h2 := h n (by omega)
    omega
theorem sumR_add (f g : Nat → Int) : ∀ n, sumR (fun k => f k + g k) n = sumR f n + sumR g n
  | 0 => rfl
  | n + 1 => by simp only [sumR]; rw [sumR_add f g n]; omega
theorem sumR_sub (f g : Nat → Int) : ∀ n, sumR (fun k => f k - g k) n = sumR f n - sumR g n
  | 0 => rfl
  | n + 1 => by simp only [sumR]; rw [sumR_sub f g n]; omega
theorem sumR_one (n : Nat) : sumR (fun _ => 1) n = n := by
  induction n with
  | zero => rfl
  | succ n ih => simp only [sumR]; rw [ih]; omega
theorem sumR_first (f : Nat → Int) : ∀ n, sumR f (n + 1) = f 0 + sumR (fun k => f (k + 1)) n
  | 0 => by simp [sumR]
  | n + 1 => by rw [sumR, sumR_first f n, sumR]; omega
/-- All round the ring from the next place on it is the same sum. -/
theorem sumR_next (f : Nat → Int) (n : Nat) : sumR (fun k => f ((k + 1) % n)) n = sumR f n := by
  cases n with
  | zero => rfl
  | succ n =>
    rw [sumR_first f n, sumR, Nat.mod_self, sumR_congr (g := fun k => f (k + 1)) fun k hk => by rw [Nat.mod_eq_of_lt (by omega)]]
    omega
theorem sumR_prev (f : Nat → Int) (n : Nat) : sumR (fun k => f ((k + n - 1) % n)) n = sumR f n := by
  rw [← sumR_next (fun k => f ((k + n - 1) % n)) n]
  refine sumR_congr fun k hk => ?_
  congr 1
  by_cases h : k + 1 = n
  · rw [h, Nat.mod_self, Nat.mod_eq_of_lt (by omega)]; omega
  · rw [Nat.mod_eq_of_lt (show k + 1 < n by omega), show k + 1 + n - 1 = k + n by omega, Nat.add_mod_right, Nat.mod_eq_of_lt hk]
theorem sumR_rev (f : Nat → Int) : ∀ n, sumR (fun k => f (n - 1 - k)) n = sumR f n
  | 0 => rfl
  | n + 1 => by
    rw [sumR_first, sumR]
    rw [sumR_congr (g := fun k => f (n - 1 - k)) fun k hk => by congr 1; omega, sumR_rev f n]
    simp
    omega
theorem ones_sum {l : List Int} (hl : ∀ x ∈ l, x = 0 ∨ x = 1) : (ones l : Int) = sumR (nth l) l.length := by
  have h : ∀ k, k ≤ l.length → (ones (l.take k) : Int) = sumR (nth l) k := by
    intro k
    induction k with
    | zero => intro _; simp [ones, sumR]
    | succ k ih =>
      intro hk
      rw [ones_take (by omega), sumR, ← ih (by omega)]
      rcases bit_nth hl k with h | h <;> simp [h]
  have h2 := h l.length (Nat.le_refl _)
  rwa [List.take_length] at h2

/-- All numbers of so many bits. -/
def all2 : Nat → (Nat → Bool) → Nat → Bool
  | 0, p, x => p x
  | k + 1, p, x => all2 k p (2 * x) && all2 k p (2 * x + 1)
theorem all2_at {p : Nat → Bool} : ∀ (k x y : Nat), all2 k p x = true → 2 ^ k * x ≤ y → y < 2 ^ k * (x + 1) → p y = true
  | 0, x, y, h, h1, h2 => by
    simp at h1 h2
    obtain rfl : y = x := by omega
    exact h
  | k + 1, x, y, h, h1, h2 => by
    simp only [all2, Bool.and_eq_true] at h
    rw [Nat.pow_succ] at h1 h2
    have e1 : 2 ^ k * (2 * x) = 2 ^ k * 2 * x := by rw [Nat.mul_assoc]
    have e2 : 2 ^ k * (2 * x + 1) = 2 ^ k * 2 * x + 2 ^ k := by rw [Nat.mul_add, e1, Nat.mul_one]
    have e3 : 2 ^ k * (2 * x + 1 + 1) = 2 ^ k * 2 * (x + 1) := by rw [Nat.mul_assoc]; congr 1
    by_cases hy : y < 2 ^ k * 2 * x + 2 ^ k
    · exact all2_at k (2 * x) y h.1 (by omega) (by omega)
    · exact all2_at k (2 * x + 1) y h.2 (by omega) (by omega)
theorem all2_lt {p : Nat → Bool} {k y : Nat} (h : all2 k p 0 = true) (hy : y < 2 ^ k) : p y = true := all2_at k 0 y h (by simp) (by simpa using hy)

def msk (n : Nat) : Nat := 2 ^ n - 1
/-- Place k becomes what k + 1 was. -/
def rotR (n x : Nat) : Nat := Nat.lor (Nat.shiftRight x 1) (Nat.shiftLeft (Nat.land x 1) (n - 1))
/-- Place k becomes what k - 1 was. -/
def rotL (n x : Nat) : Nat := Nat.land (Nat.lor (Nat.shiftLeft x 1) (Nat.shiftRight x (n - 1))) (msk n)
theorem bit_out {n x k : Nat} (h : x < 2 ^ n) (hk : n ≤ k) : x.testBit k = false := Nat.testBit_lt_two_pow (Nat.lt_of_lt_of_le h (Nat.pow_le_pow_right (by omega) hk))
theorem one_bit (j : Nat) : Nat.testBit 1 j = decide (j = 0) := by
  have h := Nat.testBit_two_pow (n := 0) (m := j)
  rw [Nat.pow_zero] at h
  rw [h]
  by_cases hj : j = 0 <;> simp [hj, eq_comm]
theorem rotR_bit {n x : Nat} (hn : 1 ≤ n) (hx : x < 2 ^ n) (k : Nat) : (rotR n x).testBit k = (decide (k < n) && x.testBit ((k + 1) % n)) := by
  show (x >>> 1 ||| (x &&& 1) <<< (n - 1)).testBit k = _
  rw [Nat.testBit_or, Nat.testBit_shiftRight, Nat.testBit_shiftLeft, Nat.testBit_and, one_bit]
  by_cases h1 : k + 1 < n
  · rw [Nat.mod_eq_of_lt h1]
    simp [show ¬ n - 1 ≤ k by omega, show k < n by omega, Nat.add_comm]
  · by_cases h2 : k + 1 = n
    · rw [h2, Nat.mod_self, bit_out hx (by omega)]
      simp [show n - 1 = k by omega, show k < n by omega]
    · rw [bit_out hx (by omega)]
      simp [show n - 1 ≤ k by omega, show ¬ k < n by omega, show k - (n - 1) ≠ 0 by omega]
theorem rotL_bit {n x : Nat} (hn : 1 ≤ n) (hx : x < 2 ^ n) (k : Nat) : (rotL n x).testBit k = (decide (k < n) && x.testBit ((k + n - 1) % n)) := by
  show ((x <<< 1 ||| x >>> (n - 1)) &&& (2 ^ n - 1)).testBit k = _
  rw [Nat.testBit_and, Nat.testBit_two_pow_sub_one, Nat.testBit_or, Nat.testBit_shiftRight, Nat.testBit_shiftLeft, Bool.and_comm]
  by_cases hk : k < n
  · simp only [hk, decide_true, Bool.true_and]
    by_cases h1 : 1 ≤ k
    · rw [show (k + n - 1) % n = k - 1 from by rw [show k + n - 1 = k - 1 + n by omega, Nat.add_mod_right, Nat.mod_eq_of_lt (by omega)], bit_out hx (show n ≤ n - 1 + k by omega)]
      simp [h1]
    · obtain rfl : k = 0 := by omega
      rw [show (0 + n - 1) % n = n - 1 from by rw [Nat.mod_eq_of_lt (by omega)]; omega]
      simp
  · simp [hk]
theorem msk_bit (n k : Nat) : (msk n).testBit k = decide (k < n) := Nat.testBit_two_pow_sub_one ..
end Go.Proofs.YtkejcajboneniabDoor
