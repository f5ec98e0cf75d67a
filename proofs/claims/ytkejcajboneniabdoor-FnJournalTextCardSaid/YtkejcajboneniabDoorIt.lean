/-
  strconv.Itoa of a number that is not negative, in chapter 12's words. No statement is proved here.
-/
import Derived.Test.YtkejcajboneniabDoorShelf
import Derived.Test.YtkejcajboneniabDoorT12
import Derived.WalkSmall
namespace Go.Proofs.YtkejcajboneniabDoor
open Go.RowKit
set_option linter.unusedVariables false
set_option linter.unusedSimpArgs false

theorem dec_num (n : Nat) : Lib.decDigits n = numB n := by
  induction n using Nat.strongRecOn with
  | _ n ih =>
    by_cases h : n < 10
    · rw [Lib.decDigits, dif_pos h, numB_lt h]; rfl
    · rw [Lib.decDigits, dif_neg h, numB_ge h, ih _ (by omega)]; rfl
theorem below_grow (w : World) (k : Nat) (os : Array Obj) : Below w.heap.size w (Sort.grow (w.drewN k) os) :=
  ⟨rfl, rfl, rfl, by simp [Sort.grow, World.drewN], fun i hi => by simp [Sort.grow, World.drewN, Array.getElem?_append, hi]⟩
theorem itoa_any (n : Nat) (w : World) (hn : n ≤ 9223372036854775807) (hP : Lib.TabIs Tryd.prog w "internal/strconv.uint64pow10" .u64 Lib.pow10Tab) :
    Calls Tryd.prog 35 #[.int .i64 n] w fun e w' => e = .returned (encStr (numB n)) ∧ Below w.heap.size w w' := by
  refine (sh_strconv_Itoa (n : Int) (by omega) (by omega) w hP).mono ?_
  rintro e w' ⟨rfl, k, os, rfl⟩
  exact ⟨by rw [show Lib.itoa (n : Int) = numB n from by unfold Lib.itoa; rw [if_neg (by omega), Int.toNat_natCast, dec_num]], below_grow w k os⟩
theorem itoaS_any (n : Nat) (w : World) (hn : n < 100) :
    Calls Tryd.prog 35 #[.int .i64 n] w fun e w' => e = .returned (encStr (numB n)) ∧ w = w' := by
  refine (sh_strconv_Itoa_small n hn w).mono ?_
  rintro e w' ⟨rfl, rfl⟩
  exact ⟨by rw [dec_num], rfl⟩
end Go.Proofs.YtkejcajboneniabDoor
