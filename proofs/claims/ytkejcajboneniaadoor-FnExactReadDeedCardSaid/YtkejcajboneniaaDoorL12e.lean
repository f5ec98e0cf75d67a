/-
  The walk of laws.FnExactReadDeed. No statement is proved here.
-/
import Derived.Test.YtkejcajboneniaaDoorT12x
import Derived.Test.YtkejcajboneniaaDoorT12i
namespace Go.Proofs.YtkejcajboneniaaDoor
open Go.RowKit
set_option linter.unusedVariables false
set_option linter.unusedSimpArgs false

/-- What ReadDeed gives, as a deed and a bool. -/
theorem readV_form (o : Option (Int × Int)) : ∃ (a : Int × Int) (b : Bool), readV o = .tuple #[deed a.1 a.2, .bool b] := by
  cases o with
  | none => exact ⟨(0, 0), false, rfl⟩
  | some a => exact ⟨a, true, rfl⟩

set_option maxHeartbeats 1600000 in
theorem fnExactReadDeed_walk (s : List UInt8) (w : World) (hm : s.length ≤ maxLen) (hT : TabsL w) :
    Calls Tryd.prog 8 #[encStr s] w fun e w' => e = .returned (.bool true) ∧ Below w.heap.size w w' := by
  have hsz : (⟨s.toArray⟩ : ByteArray).size = s.length := by show s.toArray.size = _; simp
  by_cases hbig : 1048576 < s.length
  · have hbi : (1048576 : Int) < (s.length : Int) := by omega
    go_enter Tryd.func8, Tryd.ntmps8
    go_wp2
    go_ret
    exact ⟨rfl, Below.refl _ _⟩
  have hbi : ¬ (1048576 : Int) < (s.length : Int) := by omega
  have CS := hid (fun W => specReadDeed_any s (by omega) W)
  have CI := hid (fun (W : World) (hW : Below w.heap.size w W) => implReadDeed_any s (by omega) W (hT.below hW))
  obtain ⟨a, b, hv⟩ := readV_form (readOut s)
  rw [hv] at CS CI
  clear hv
  have CE := hid (fun W => eqDeed_any a a W)
  rw [show decide (a = a) = true from decide_eq_true rfl] at CE
  go_enter Tryd.func8, Tryd.ntmps8
  go_wp2_with fail
  with_reducible refine Calls.mono (CS.out _) ?_
  rintro e w1 ⟨rfl, b1⟩
  obtain ⟨W2, hW2⟩ : ∃ W2, w1.alloc (.cells #[.int .i64 a.1, .int .i64 a.2] 33) = W2 := ⟨_, rfl⟩
  have B2 : Below w1.heap.size w1 W2 := by rw [← hW2]; exact (Below.refl _ _).alloc (Nat.le_refl _) _
  have c0 : W2.cell? ⟨w1.heap.size, 0, none⟩ = some (.int .i64 a.1) := by rw [← hW2]; simp
  have c1 : W2.cell? ⟨w1.heap.size, 1, none⟩ = some (.int .i64 a.2) := by rw [← hW2]; simp
  have hl : w1.heap.size < W2.heap.size := by rw [← hW2]; simp
  go_wp2_with fail
  with_reducible refine Calls.mono (CI.out _ (b1.trans (B2.mono b1.size))) ?_
  rintro e w3 ⟨rfl, b3⟩
  obtain ⟨W4, hW4⟩ : ∃ W4, w3.alloc (.cells #[.int .i64 a.1, .int .i64 a.2] 33) = W4 := ⟨_, rfl⟩
  have B4 : Below w3.heap.size w3 W4 := by rw [← hW4]; exact (Below.refl _ _).alloc (Nat.le_refl _) _
  have d0 : W4.cell? ⟨w3.heap.size, 0, none⟩ = some (.int .i64 a.1) := by rw [← hW4]; simp
  have d1 : W4.cell? ⟨w3.heap.size, 1, none⟩ = some (.int .i64 a.2) := by rw [← hW4]; simp
  have B24 := b3.trans (B4.mono b3.size)
  have c40 := (B24.cell (p := ⟨w1.heap.size, 0, none⟩) hl).trans c0
  have c41 := (B24.cell (p := ⟨w1.heap.size, 1, none⟩) hl).trans c1
  have hbb : (b != b) = false := by simp
  go_wp2_with fail
  with_reducible refine Calls.mono (CE.out _) ?_
  rintro e w5 ⟨rfl, b5⟩
  go_wp2
  go_ret
  have B12 := b1.trans (B2.mono b1.size)
  have B14 := B12.trans (B24.mono B12.size)
  exact ⟨rfl, B14.trans (b5.mono B14.size)⟩
end Go.Proofs.YtkejcajboneniaaDoor
