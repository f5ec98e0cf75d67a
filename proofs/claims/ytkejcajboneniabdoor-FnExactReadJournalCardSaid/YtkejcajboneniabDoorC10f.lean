/-
  Walks of the program's rings of bits: BitsOk, a ring as a number of bits, sums by shifts. No statement is proved here.
-/
import Derived.Test.YtkejcajboneniabDoorC7h
import Derived.Test.YtkejcajboneniabDoorS10v
namespace Go.Proofs.YtkejcajboneniabDoor
open Go.RowKit
set_option linter.unusedVariables false
set_option linter.unusedSimpArgs false

section
variable {w w' : World} {b g x n : Nat}
end
theorem pk_pb (l : List Int) : ∀ k, pk l k = pb l k
  | 0 => rfl
  | k + 1 => by rw [pk, pb, pk_pb l k]

/-- Turned by a places, as the program has it. -/
def trn (x n a : Nat) : Nat := (x * 2 ^ a ||| x / 2 ^ (n - a)) &&& (2 ^ n - 1)
theorem trn_lt (x n a : Nat) : trn x n a < 2 ^ n := Nat.lt_of_le_of_lt Nat.and_le_right (by have := Nat.two_pow_pos n; omega)
theorem trn_bits {x n a m : Nat} (hn : n ≤ 16) (hx : x < 2 ^ n) (hm : a + m = n) :
    bits .and .u64 (bits .or .u64 (IntKind.u64.wrap ((x : Int) * 2 ^ a)) ((x : Int) / 2 ^ m)) ((2 ^ n - 1 : Nat) : Int) = (trn x n a : Nat) := by
  have hp := pow40 (show n ≤ 40 by omega)
  have h16 : 2 ^ n ≤ 65536 := by have := Nat.pow_le_pow_right (n := 2) (by omega) hn; simpa using this
  have ha : 2 ^ a ≤ 65536 := by have := Nat.pow_le_pow_right (n := 2) (by omega) (show a ≤ 16 by omega); simpa using this
  have hxa : x * 2 ^ a ≤ 65536 * 65536 := Nat.mul_le_mul (by omega) ha
  have hxm : x / 2 ^ m ≤ x := Nat.div_le_self _ _
  have hor : x * 2 ^ a ||| x / 2 ^ m < 2 ^ 40 := Nat.or_lt_two_pow (by omega) (by omega)
  rw [show (x : Int) * 2 ^ a = ((x * 2 ^ a : Nat) : Int) from by push_cast; rfl, u64_in _ (by omega), show (x : Int) / 2 ^ m = ((x / 2 ^ m : Nat) : Int) from by push_cast; rfl,
    bits_or_u64_nat _ _ (by omega) (by omega), bits_and_u64_nat _ _ (by omega) (by omega)]
  unfold trn
  rw [show n - a = m by omega]

theorem bits_and_i64_nat (a b : Nat) (ha : a < 9223372036854775808) (hb : b < 9223372036854775808) : bits .and .i64 (a : Int) (b : Int) = ((a &&& b : Nat) : Int) := by
  have h1 : (BitVec.ofInt 64 (a : Int)).toNat = a := by
    rw [BitVec.ofInt_natCast, BitVec.toNat_ofNat]; exact Nat.mod_eq_of_lt (by omega)
  have h2 : (BitVec.ofInt 64 (b : Int)).toNat = b := by
    rw [BitVec.ofInt_natCast, BitVec.toNat_ofNat]; exact Nat.mod_eq_of_lt (by omega)
  have hx : a &&& b ≤ a := Nat.and_le_left
  show IntKind.i64.wrap ((BitVec.ofInt 64 (a : Int) &&& BitVec.ofInt 64 (b : Int)).toNat : Int) = _
  rw [BitVec.toNat_and, h1, h2]
  exact IntWalk.i64_in _ (by omega)
theorem and_pow (s j : Nat) : s &&& 2 ^ j = if s / 2 ^ j % 2 = 1 then 2 ^ j else 0 := by
  apply Nat.eq_of_testBit_eq
  intro i
  rw [Nat.testBit_and, Nat.testBit_two_pow]
  by_cases hij : j = i
  · subst hij
    rw [Nat.testBit_eq_decide_div_mod_eq]
    by_cases h : s / 2 ^ j % 2 = 1
    · rw [if_pos h, Nat.testBit_two_pow]; simp [h]
    · rw [if_neg h]; simp [h]
  · split
    · rw [Nat.testBit_two_pow]; simp [hij]
    · simp [hij]

theorem trn_L {x n a : Nat} (hx : x < 2 ^ n) (ha : a ≤ n) : trn x n a = turnL x n a := by
  unfold trn turnL
  rw [Nat.and_or_distrib_right, Nat.and_two_pow_sub_one_of_lt_two_pow (x := x / 2 ^ (n - a)) (Nat.lt_of_le_of_lt (Nat.div_le_self _ _) hx)]
theorem trn_R {x n a : Nat} (hx : x < 2 ^ n) (ha : a ≤ n) : trn x n (n - a) = turnR x n a := by
  unfold trn turnR
  rw [Nat.and_or_distrib_right, show n - (n - a) = a by omega, Nat.and_two_pow_sub_one_of_lt_two_pow (x := x / 2 ^ a) (Nat.lt_of_le_of_lt (Nat.div_le_self _ _) hx), Nat.or_comm]
theorem trn_far {l : List Int} {n : Nat} (hl : l.length = n) (h0 : 0 < n) (hb : ∀ x ∈ l, x = 0 ∨ x = 1) (a : Nat) : trn (pb l n) n (a % n) ^^^ trn (pb l n) n (n - a % n) = pb (farL a l) n := by
  have := Nat.mod_lt a h0
  rw [trn_L (pb_lt l n) (by omega), trn_R (pb_lt l n) (by omega), pb_far hl h0 hb]

end Go.Proofs.YtkejcajboneniabDoor
