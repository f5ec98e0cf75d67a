/-
  The walk of laws.FnExactDeedText. No statement is proved here.
-/
import Derived.Test.YtkejcajboneniaaDoorT12x
import Derived.Test.YtkejcajboneniaaDoorT12i
namespace Go.Proofs.YtkejcajboneniaaDoor
open Go.RowKit
set_option linter.unusedVariables false
set_option linter.unusedSimpArgs false

set_option maxHeartbeats 1600000 in
theorem fnExactDeedText_walk (a b : Int) (w : World) (ha : (Lit.int .i64 a).wf = true) (hb : (Lit.int .i64 b).wf = true) (hT : TabsD w) :
    Calls Tryd.prog 6 #[deed a b] w fun e w' => e = .returned (.bool true) ∧ Below w.heap.size w w' := by
  have CT := hid (fun W => toDeed_any a b W)
  have CS := hid (fun W => specDeedText_any a b W)
  have CI := hid (fun (W : World) (hW : Below w.heap.size w W) => implDeedText_any a b W (hT.below hW))
  obtain ⟨v, hv⟩ : ∃ v, deedB a b = v := ⟨_, rfl⟩
  rw [hv] at CS CI
  clear hv
  obtain ⟨W0, hW0⟩ : ∃ W0, w.alloc (.cells #[.int .i64 a, .int .i64 b] 38) = W0 := ⟨_, rfl⟩
  have B0 : Below w.heap.size w W0 := by rw [← hW0]; exact (Below.refl _ _).alloc (Nat.le_refl _) _
  have c0 : W0.cell? ⟨w.heap.size, 0, none⟩ = some (.int .i64 a) := by rw [← hW0]; simp
  have c1 : W0.cell? ⟨w.heap.size, 1, none⟩ = some (.int .i64 b) := by rw [← hW0]; simp
  have hl : w.heap.size < W0.heap.size := by rw [← hW0]; simp
  go_enter Tryd.func6, Tryd.ntmps6
  go_wp2_with fail
  with_reducible refine Calls.mono (CT.out _) ?_
  rintro e w1 ⟨rfl, b1⟩
  go_wp2_with fail
  with_reducible refine Calls.mono (CS.out _) ?_
  rintro e w2 ⟨rfl, b2⟩
  have b02 := b1.trans (b2.mono b1.size)
  have c20 := (b02.cell (p := ⟨w.heap.size, 0, none⟩) hl).trans c0
  have c21 := (b02.cell (p := ⟨w.heap.size, 1, none⟩) hl).trans c1
  go_wp2_with fail
  with_reducible refine Calls.mono (CT.out _) ?_
  rintro e w3 ⟨rfl, b3⟩
  go_wp2_with fail
  with_reducible refine Calls.mono (CI.out _ (B0.trans ((b02.trans (b3.mono b02.size)).mono B0.size))) ?_
  rintro e w4 ⟨rfl, b4⟩
  go_wp2
  go_ret
  have b34 := b3.trans (b4.mono b3.size)
  exact ⟨rfl, B0.trans ((b02.trans (b34.mono b02.size)).mono B0.size)⟩
end Go.Proofs.YtkejcajboneniaaDoor
