/-
  Walks of the program's rings of bits: how many are 1. No statement is proved here.
-/
import Derived.Test.YtkejcajboneniabDoorC10f
namespace Go.Proofs.YtkejcajboneniabDoor
open Go.RowKit
set_option linter.unusedVariables false
set_option linter.unusedSimpArgs false

def cA (x : Nat) : Nat := Nat.add (Nat.land (Nat.div x 2) 6148914691236517205) (Nat.land x 6148914691236517205)
def cB (x : Nat) : Nat := Nat.add (Nat.land (Nat.div x 4) 3689348814741910323) (Nat.land x 3689348814741910323)
def cC (x : Nat) : Nat := Nat.land (Nat.add (Nat.div x 16) x) 1085102592571150095
def cD (x : Nat) : Nat := Nat.add x (Nat.div x 256)
def cE (x : Nat) : Nat := Nat.add x (Nat.div x 65536)
def cF (x : Nat) : Nat := Nat.add x (Nat.div x 4294967296)
def cnt (x : Nat) : Nat := Nat.land (cF (cE (cD (cC (cB (cA x)))))) 127
theorem cnt_all : all2 16 (fun x => Nat.beq (cnt x) (pop16 x)) 0 = true := by decide +kernel
theorem cnt_pop {x : Nat} (h : x < 2 ^ 16) : cnt x = pop 16 x := by
  rw [← pop16_pop (Nat.le_refl 16) h]
  have h2 := all2_lt (p := fun x => Nat.beq (cnt x) (pop16 x)) cnt_all h
  generalize cnt x = u at h2
  generalize pop16 x = v at h2
  exact Nat.eq_of_beq_eq_true h2

end Go.Proofs.YtkejcajboneniabDoor
