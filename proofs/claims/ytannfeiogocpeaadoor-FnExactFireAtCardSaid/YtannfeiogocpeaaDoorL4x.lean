/-
  The walk of the exact law of FireAt. No statement is proved here.
-/
import Derived.Test.YtannfeiogocpeaaDoorC4f
import Derived.Test.YtannfeiogocpeaaDoorTab
import Derived.Test.YtannfeiogocpeaaDoorC4h
namespace Go.Proofs.YtannfeiogocpeaaDoor
open Go.RowKit
set_option linter.unusedVariables false
set_option linter.unusedSimpArgs false

set_option maxHeartbeats 1600000 in
theorem fnExactFireAt_walk (n : Int) (w : World) (hw1 : (Lit.int .i64 n).wf = true) (hT : Tabs w) :
    Calls Tryd.prog 3 #[.int .i64 n] w fun r w' => r = .returned (.bool true) ∧ Below w.heap.size w w' := by
  have CS := hid (fun W : World => specFireAt_any n W hw1)
  have CI := hid (fun (W : World) (hb : Below w.heap.size w W) => implFireAt_any n W hw1 (hT.below hb))
  obtain ⟨x, hv⟩ : ∃ x, fireOut n = x := ⟨_, rfl⟩
  rw [hv] at CS CI
  clear hv
  go_enter Tryd.func3, Tryd.ntmps3
  go_wp2_with fail
  with_reducible refine Calls.mono (CS.out _) ?_
  rintro r w1 ⟨rfl, g1⟩
  have HG := hid g1
  clear g1
  go_wp2_with fail
  with_reducible refine Calls.mono (CI.out _ HG.out) ?_
  rintro r w2 ⟨rfl, g2⟩
  replace HG := hid (HG.out.trans (g2.mono HG.out.size))
  clear g2
  go_wp2
  go_ret
  exact ⟨rfl, HG.out⟩
end Go.Proofs.YtannfeiogocpeaaDoor
