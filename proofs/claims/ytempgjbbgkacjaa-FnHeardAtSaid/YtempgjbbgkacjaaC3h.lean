/-
  The walk of the model's HeardAt. No statement is proved here.
-/
import Derived.Test.YtempgjbbgkacjaaC2b
import Derived.Test.YtempgjbbgkacjaaS3
import Derived.IntWalk
namespace Go.Proofs.Ytempgjbbgkacjaa
open Go.RowKit
set_option linter.unusedVariables false
set_option linter.unusedSimpArgs false

set_option maxHeartbeats 800000 in
theorem specHeardAt_any (last p : Int) (w : World) :
    Calls Try.prog 7 #[.int .i64 last, .int .i64 p] w fun r w' => r = .returned (.int .i64 (heardOut last p)) ∧ w.grownBy w' none := by
  have HP : Hid (heardOut last p = if (within last 1 40 && within p 0 last) = true then 2 * last - p else -1) := hid rfl
  by_cases h1 : within last 1 40 = true
  · have hl : 1 ≤ last ∧ last ≤ 40 := by simpa [within] using h1
    by_cases h2 : within p 0 last = true
    · have hp : 0 ≤ p ∧ p ≤ last := by simpa [within] using h2
      go_enter Try.func7, Try.ntmps7
      go_wp2_with (go_at_call 14; refine (l1In_any _ _ _ _).mono ?_; rintro e w' ⟨rfl, rfl⟩)
      go_ret
      exact ⟨ret_int (by rw [HP.out, h1, h2]; rfl), ⟨rfl, rfl, rfl, Nat.le_refl _, fun _ _ _ => rfl⟩⟩
    · have h2' : within p 0 last = false := by simpa using h2
      go_enter Try.func7, Try.ntmps7
      go_wp2_with (go_at_call 14; refine (l1In_any _ _ _ _).mono ?_; rintro e w' ⟨rfl, rfl⟩)
      go_ret
      exact ⟨ret_int (by rw [HP.out, h1, h2']; rfl), ⟨rfl, rfl, rfl, Nat.le_refl _, fun _ _ _ => rfl⟩⟩
  · have h1' : within last 1 40 = false := by simpa using h1
    go_enter Try.func7, Try.ntmps7
    go_wp2_with (go_at_call 14; refine (l1In_any _ _ _ _).mono ?_; rintro e w' ⟨rfl, rfl⟩)
    go_ret
    exact ⟨ret_int (by rw [HP.out, h1']; rfl), ⟨rfl, rfl, rfl, Nat.le_refl _, fun _ _ _ => rfl⟩⟩
end Go.Proofs.Ytempgjbbgkacjaa
