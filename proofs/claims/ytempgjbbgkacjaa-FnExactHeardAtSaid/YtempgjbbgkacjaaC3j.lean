/-
  The walk of the program's HeardAt. No statement is proved here.
-/
import Derived.Test.YtempgjbbgkacjaaC2h
import Derived.Test.YtempgjbbgkacjaaS3
import Derived.IntWalk
namespace Go.Proofs.Ytempgjbbgkacjaa
open Go.RowKit
set_option linter.unusedVariables false
set_option linter.unusedSimpArgs false

set_option maxHeartbeats 800000 in
theorem implHeardAt_any (last p : Int) (w : World) :
    Calls Try.prog 6 #[.int .i64 last, .int .i64 p] w fun r w' => r = .returned (.int .i64 (heardOut last p)) ∧ w.grownBy w' none := by
  have HP : Hid (heardOut last p = if (within last 1 40 && within p 0 last) = true then 2 * last - p else -1) := hid rfl
  by_cases h1 : within last 1 40 = true
  · have hl : 1 ≤ last ∧ last ≤ 40 := by simpa [within] using h1
    by_cases h2 : p < 0
    · have HV := hid (show heardOut last p = -1 from by rw [HP.out, if_neg (by simp [within]; omega)])
      go_enter Try.func6, Try.ntmps6
      go_wp2_with (go_at_call 13; refine (lastOk_any _ _).mono ?_; rintro e w' ⟨rfl, rfl⟩)
      go_ret
      exact ⟨ret_int HV.out.symm, ⟨rfl, rfl, rfl, Nat.le_refl _, fun _ _ _ => rfl⟩⟩
    · have h2' : decide (p < 0) = false := by simpa using h2
      by_cases h3 : last < p
      · have HV := hid (show heardOut last p = -1 from by rw [HP.out, if_neg (by simp [within]; omega)])
        go_enter Try.func6, Try.ntmps6
        go_wp2_with (go_at_call 13; refine (lastOk_any _ _).mono ?_; rintro e w' ⟨rfl, rfl⟩)
        go_ret
        exact ⟨ret_int HV.out.symm, ⟨rfl, rfl, rfl, Nat.le_refl _, fun _ _ _ => rfl⟩⟩
      · have h3' : decide (last < p) = false := by simpa using h3
        have HV := hid (show heardOut last p = 2 * last - p from by rw [HP.out, if_pos (by simp [within]; omega)])
        go_enter Try.func6, Try.ntmps6
        go_wp2_with (go_at_call 13; refine (lastOk_any _ _).mono ?_; rintro e w' ⟨rfl, rfl⟩)
        go_ret
        exact ⟨ret_int HV.out.symm, ⟨rfl, rfl, rfl, Nat.le_refl _, fun _ _ _ => rfl⟩⟩
  · have h1' : within last 1 40 = false := by simpa using h1
    go_enter Try.func6, Try.ntmps6
    go_wp2_with (go_at_call 13; refine (lastOk_any _ _).mono ?_; rintro e w' ⟨rfl, rfl⟩)
    go_ret
    exact ⟨ret_int (by rw [HP.out, h1']; rfl), ⟨rfl, rfl, rfl, Nat.le_refl _, fun _ _ _ => rfl⟩⟩
end Go.Proofs.Ytempgjbbgkacjaa
