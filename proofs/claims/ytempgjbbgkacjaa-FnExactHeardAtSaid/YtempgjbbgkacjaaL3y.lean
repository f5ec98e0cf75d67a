/-
  The walk of the exact law of HeardAt. No statement is proved here.
-/
import Derived.Test.YtempgjbbgkacjaaC3h
import Derived.Test.YtempgjbbgkacjaaC3j
namespace Go.Proofs.Ytempgjbbgkacjaa
open Go.RowKit
set_option linter.unusedVariables false
set_option linter.unusedSimpArgs false

set_option maxHeartbeats 1600000 in
theorem fnExactHeardAt_walk (last p : Int) (w : World) (hw1 : (Lit.int .i64 last).wf = true) (hw2 : (Lit.int .i64 p).wf = true) :
    Calls Try.prog 4 #[.int .i64 last, .int .i64 p] w fun r w' => r = .returned (.bool true) ∧ Below w.heap.size w w' := by
  have CS := hid (fun W : World => specHeardAt_any last p W)
  have CI := hid (fun W : World => implHeardAt_any last p W)
  obtain ⟨x, hv⟩ : ∃ x, heardOut last p = x := ⟨_, rfl⟩
  rw [hv] at CS CI
  clear hv
  go_enter Try.func4, Try.ntmps4
  go_wp2_with fail
  with_reducible refine Calls.mono (CS.out _) ?_
  rintro r w1 ⟨rfl, g1⟩
  have HG := hid g1
  clear g1
  go_wp2_with fail
  with_reducible refine Calls.mono (CI.out _) ?_
  rintro r w2 ⟨rfl, g2⟩
  have HG := hid (HG.out.trans g2)
  clear g2
  go_wp2
  go_ret
  exact ⟨rfl, below_grown HG.out⟩
end Go.Proofs.Ytempgjbbgkacjaa
