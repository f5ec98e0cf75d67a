/-
  The walks of the exact laws of PartAt and MiddleAt. No statement is proved here.
-/
import Derived.Test.YtempgjbbgkacjaaDoorC3
import Derived.Test.YtempgjbbgkacjaaDoorC3i
namespace Go.Proofs.YtempgjbbgkacjaaDoor
open Go.RowKit
set_option linter.unusedVariables false
set_option linter.unusedSimpArgs false

set_option maxHeartbeats 1600000 in
theorem fnExactPartAt_walk (last p : Int) (w : World) (hw1 : (Lit.int .i64 last).wf = true) (hw2 : (Lit.int .i64 p).wf = true) (hT : Tabs w) :
    Calls Tryd.prog 6 #[.int .i64 last, .int .i64 p] w fun r w' => r = .returned (.bool true) ∧ Below w.heap.size w w' := by
  have CS := hid (fun W : World => specPartAt_any last p W)
  have CI := hid (fun (W : World) (hW : Tabs W) => implPartAt_any last p W hW)
  replace hT := hid hT
  obtain ⟨x, y, b, hv⟩ := partVal_form last p
  rw [hv] at CS CI
  clear hv
  cases b <;>
  · go_enter Tryd.func6, Tryd.ntmps6
    go_wp2_with fail
    with_reducible refine Calls.mono (CS.out _) ?_
    rintro r w1 ⟨rfl, g1⟩
    have HG := hid g1
    clear g1
    go_wp2_with fail
    with_reducible refine Calls.mono (CI.out _ (hT.out.on HG.out)) ?_
    rintro r w2 ⟨rfl, g2⟩
    have HG := hid (HG.out.trans g2)
    clear g2
    go_wp2
    go_ret
    exact ⟨rfl, below_grown HG.out⟩

set_option maxHeartbeats 1600000 in
theorem fnExactMiddleAt_walk (last : Int) (w : World) (hw1 : (Lit.int .i64 last).wf = true) (hT : Tabs w) :
    Calls Tryd.prog 7 #[.int .i64 last] w fun r w' => r = .returned (.bool true) ∧ Below w.heap.size w w' := by
  have CS := hid (fun W : World => specMiddleAt_any last W)
  have CI := hid (fun (W : World) (hW : Tabs W) => implMiddleAt_any last W hW)
  replace hT := hid hT
  obtain ⟨x, y, b, hv⟩ := partVal_form last 2
  rw [hv] at CS CI
  clear hv
  cases b <;>
  · go_enter Tryd.func7, Tryd.ntmps7
    go_wp2_with fail
    with_reducible refine Calls.mono (CS.out _) ?_
    rintro r w1 ⟨rfl, g1⟩
    have HG := hid g1
    clear g1
    go_wp2_with fail
    with_reducible refine Calls.mono (CI.out _ (hT.out.on HG.out)) ?_
    rintro r w2 ⟨rfl, g2⟩
    have HG := hid (HG.out.trans g2)
    clear g2
    go_wp2
    go_ret
    exact ⟨rfl, below_grown HG.out⟩
end Go.Proofs.YtempgjbbgkacjaaDoor
