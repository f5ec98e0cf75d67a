/-
  Walks of the program's votes as a number of bits: VotesOk, what is heard from both sides, all. No statement is proved here.
-/
import Derived.Test.YtkejcajboneniaaDoorC1a
import Derived.Test.YtkejcajboneniaaDoorS7v
import Derived.Test.YtkejcajboneniaaDoorC7a
import Derived.Laws.Bits64b
import Derived.Laws.Rows
import Derived.OwnWalk
import Derived.IntWalk
import Derived.BigRegion
import Derived.Deep.RegionHeld3
namespace Go.Proofs.YtkejcajboneniaaDoor
open Go.RowKit
set_option linter.unusedVariables false
set_option linter.unusedSimpArgs false

/-- Votes as a value, and a block that holds them. -/
abbrev vot (x n : Nat) : Value := .agg #[.int .u64 x, .int .i64 n]
def Vb (w : World) (b x n : Nat) : Prop := w.heap[b]? = some (.cells #[.int .u64 x, .int .i64 n] 54 (0, 0))
section
variable {w w' : World} {b g x n : Nat}
theorem Vb.lt (h : Vb w b x n) : b < w.heap.size := by
  rcases Nat.lt_or_ge b w.heap.size with hlt | hge
  · exact hlt
  · unfold Vb at h; rw [Array.getElem?_eq_none hge] at h; cases h
theorem Vb.new (w : World) (x n : Nat) : Vb (w.alloc (.cells #[.int .u64 x, .int .i64 n] 54)) w.heap.size x n := heap_alloc_new w _
theorem Vb.on {row : Option Nat} (h : Vb w b x n) (hg : w.grownBy w' row) (hn : some b ≠ row) : Vb w' b x n := (hg.block b h.lt hn).trans h
theorem Vb.below {B : Nat} (h : Vb w b x n) (hb : Below B w w') (hB : b < B) : Vb w' b x n := (hb.block b hB).trans h
theorem Vb.c0 (h : Vb w b x n) : w.cell? ⟨b, 0, none⟩ = some (.int .u64 x) := cell_of_row w b 0 _ _ _ h
theorem Vb.c1 (h : Vb w b x n) : w.cell? ⟨b, 1, none⟩ = some (.int .i64 n) := cell_of_row w b 1 _ _ _ h
theorem Vb.fz (h : Vb w b x n) (i : Nat) : w.frozen? ⟨b, i, none⟩ = false := frozen_of_row w b i _ _ h
theorem Vb.set0 (h : Vb w b x n) (y : Nat) : Vb (w.setCell ⟨b, 0, none⟩ (.int .u64 y)) b y n := by
  have := heap_setCell_same w b 0 _ _ (.int .u64 y) h
  unfold Vb
  rw [this]
  rfl
theorem Vb.set1 (h : Vb w b x n) (m : Nat) : Vb (w.setCell ⟨b, 1, none⟩ (.int .i64 m)) b x m := by
  have := heap_setCell_same w b 1 _ _ (.int .i64 m) h
  unfold Vb
  rw [this]
  rfl
theorem Vb.set (h : Vb w b x n) (y m : Nat) : Vb ((w.setCell ⟨b, 0, none⟩ (.int .u64 y)).setCell ⟨b, 1, none⟩ (.int .i64 m)) b y m := (h.set0 y).set1 m
end
theorem drew_grown (w : World) : w.grownBy w.drew none := ⟨rfl, rfl, rfl, Nat.le_refl _, fun _ _ _ => rfl⟩
theorem size_vot : (Tryd.prog.info? 54).map (·.size) = some 2 := by kernel_rfl
theorem pow40 {n : Nat} (h : n ≤ 40) : 1 ≤ 2 ^ n ∧ 2 ^ n ≤ 1099511627776 := ⟨Nat.two_pow_pos n, by have := Nat.pow_le_pow_right (n := 2) (by omega) h; simpa using this⟩
theorem u64_in (x : Nat) (h : x < 18446744073709551616) : IntKind.u64.wrap (x : Int) = (x : Int) := by rw [IntKind.wrap_u64]; omega
theorem u64_pow {n : Nat} (h : n ≤ 40) : IntKind.u64.wrap (2 ^ n) = ((2 ^ n : Nat) : Int) := by
  have := pow40 h
  rw [show ((2 : Int) ^ n) = ((2 ^ n : Nat) : Int) from by simp, u64_in _ (by omega)]

end Go.Proofs.YtkejcajboneniaaDoor
