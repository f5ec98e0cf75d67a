/-
  The walk of the program's MiddlesOf. No statement is proved here.
-/
import Derived.Test.YtannfeiogocpeaaDoorC3i
namespace Go.Proofs.YtannfeiogocpeaaDoor
open Go.RowKit
set_option linter.unusedVariables false
set_option linter.unusedSimpArgs false

set_option maxHeartbeats 1600000 in
theorem implMiddlesOf_any (last : Int) (w : World) (hT : Tabs w) :
    Calls Tryd.prog 59 #[.int .i64 last] w fun r w' => ∃ A2 m c2, r = .returned (.slice A2 m c2) ∧ w'.ownsRow w.heap.size 3 1 (.slice A2 m c2) m (ints (middles last)) ∧ m ≤ 2 ∧ Below w.heap.size w w' := by
  have CM := hid (implMiddleAt_any last w hT)
  by_cases h1 : within last 1 40 = true
  · have hl : 1 ≤ last ∧ last ≤ 40 := by simpa [within] using h1
    rw [partVal_yes (show partOk last 2 = true by unfold partOk; rw [h1]; rfl)] at CM
    have hd : last / 2 ≤ 20 := by omega
    have hd0 : 0 ≤ last / 2 := by omega
    by_cases h2 : last % 2 = 0
    · have HM := hid (show middles last = [last / 2] by unfold middles; rw [if_pos h1, if_pos h2])
      go_enter Tryd.func59, Tryd.ntmps59
      go_wp2_with fail
      with_reducible refine Calls.mono CM.out ?_
      rintro r w1 ⟨rfl, hg⟩
      have HG := hid hg
      clear hg
      go_wp2
      go_ret
      exact ⟨_, 1, 1, rfl, by rw [HM.out]; exact World.ownsRow_lit w1 #[.int .i64 (last / 2)] 1 HG.out.size (by simp [maxLen]) rfl, by omega, (below_grown HG.out).trans ((Below.refl _ _).alloc HG.out.size _)⟩
    · have h2' : decide (last % 2 = 0) = false := by simpa using h2
      have HM := hid (show middles last = [last / 2, last / 2 + 1] by unfold middles; rw [if_pos h1, if_neg h2])
      go_enter Tryd.func59, Tryd.ntmps59
      go_wp2_with fail
      with_reducible refine Calls.mono CM.out ?_
      rintro r w1 ⟨rfl, hg⟩
      have HG := hid hg
      clear hg
      go_wp2
      go_ret
      exact ⟨_, 2, 2, rfl, by rw [HM.out]; exact World.ownsRow_lit w1 #[.int .i64 (last / 2), .int .i64 (last / 2 + 1)] 2 HG.out.size (by simp [maxLen]) rfl, by omega, (below_grown HG.out).trans ((Below.refl _ _).alloc HG.out.size _)⟩
  · have h1' : within last 1 40 = false := by simpa using h1
    rw [partVal_no (show partOk last 2 = false by unfold partOk; rw [h1']; rfl)] at CM
    have HM := hid (show middles last = [] by unfold middles; rw [h1']; rfl)
    go_enter Tryd.func59, Tryd.ntmps59
    go_wp2_with fail
    with_reducible refine Calls.mono CM.out ?_
    rintro r w1 ⟨rfl, hg⟩
    have HG := hid hg
    clear hg
    go_wp2
    go_ret
    first
      | exact ⟨none, 0, 0, rfl, by rw [HM.out]; exact World.ownsRow_nil _ _ _ _, by omega, below_grown HG.out⟩
      | exact ⟨_, 0, 0, rfl, by rw [HM.out]; exact World.ownsRow_lit w1 #[] 0 HG.out.size (by simp [maxLen]) rfl, by omega, (below_grown HG.out).trans ((Below.refl _ _).alloc HG.out.size _)⟩
end Go.Proofs.YtannfeiogocpeaaDoor
