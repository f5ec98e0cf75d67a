/-
  Walks of the program's votes as a number of bits: votesOf, row, opposed. No statement is proved here.
-/
import Derived.Test.YtkejcajboneniabDoorC7g
import Derived.BigRegion
import Derived.Deep.RegionWith
namespace Go.Proofs.YtkejcajboneniabDoor
open Go.RowKit
set_option linter.unusedVariables false
set_option linter.unusedSimpArgs false

theorem pk_step {l : List Int} (hb : bitsL l) {k : Nat} (h40 : k < 40) : bits .or .u64 ((pk l k : Nat) : Int) (IntKind.u64.wrap (IntKind.u64.wrap (nth l k) * 2 ^ k)) = ((pk l (k + 1) : Nat) : Int) := by
  have hp := pow40 (show k ≤ 40 by omega)
  have hl := pk_lt l k
  rw [pk]
  rcases bits_nth hb k with e | e
  · rw [e, if_neg (by decide), Nat.or_zero, show IntKind.u64.wrap 0 = 0 from rfl, Int.zero_mul, show IntKind.u64.wrap 0 = ((0 : Nat) : Int) from rfl, bits_or_u64_nat _ _ (by omega) (by omega), Nat.or_zero]
  · rw [e, if_pos rfl, show IntKind.u64.wrap 1 = 1 from rfl, Int.one_mul, u64_pow (by omega), bits_or_u64_nat _ _ (by omega) (by omega)]

theorem row_at {l : List Int} {n k : Nat} (hb : bitsL l) (h40 : n ≤ 40) (hk : k < n) : bits .and .u64 (((pk l n : Nat) : Int) / 2 ^ k) 1 = nth l k := by
  have hp := pow40 h40
  have hl := pk_lt l n
  have hd : pk l n / 2 ^ k ≤ pk l n := Nat.div_le_self _ _
  rw [← pk_at hb hk, show (((pk l n : Nat) : Int) / 2 ^ k) = ((pk l n / 2 ^ k : Nat) : Int) from by simp, show (1 : Int) = ((1 : Nat) : Int) from rfl, bits_and_u64_nat _ _ (by omega) (by omega)]
/-- The list in the midst of being filled. -/
def midL (l : List Int) (n k : Nat) : List Int := l.take k ++ List.replicate (n - k) 0
theorem midL_set {l : List Int} {n k : Nat} (hl : l.length = n) (hk : k < n) : (midL l n k).set k (nth l k) = midL l n (k + 1) := by
  have e : n - k = (n - (k + 1)) + 1 := by omega
  unfold midL
  rw [e, List.replicate_succ, List.set_append_right _ _ (by rw [List.length_take]; omega), take_nth (by omega), List.length_take, show k - min k l.length = 0 from by have := Nat.min_le_left k l.length; rw [Nat.min_eq_left (by omega)]; omega, List.set_cons_zero, List.append_assoc]
  rfl
theorem midL_zero (l : List Int) (n : Nat) : midL l n 0 = List.replicate n 0 := by simp [midL]
theorem midL_all {l : List Int} {n : Nat} (hl : l.length = n) : midL l n n = l := by unfold midL; rw [List.take_of_length_le (by omega)]; simp

end Go.Proofs.YtkejcajboneniabDoor
