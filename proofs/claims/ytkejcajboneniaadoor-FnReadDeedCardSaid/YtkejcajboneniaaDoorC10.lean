/-
  Walks of the model's BitsOk, l10Sum, SummedOf, SummedAfter, AddedOf, OnesOf. No statement is proved here.
-/
import Derived.Test.YtkejcajboneniaaDoorS10
import Derived.Test.YtkejcajboneniaaDoorEx0
import Derived.OwnWalk
import Derived.IntWalk
import Derived.BigQuiet
import Derived.Deep.QuietTactic
import Derived.Deep.RegionHeld3
namespace Go.Proofs.YtkejcajboneniaaDoor
open Go.RowKit
set_option linter.unusedVariables false
set_option linter.unusedSimpArgs false

theorem drewN_gA (w : World) (m : Nat) : w.grownBy (w.drewN m) none := ⟨rfl, rfl, rfl, Nat.le_refl _, fun _ _ _ => rfl⟩

set_option maxHeartbeats 800000 in
theorem specBitsOk_any (A : Option Addr) (n c : Nat) (l : List Int) (w : World) (B : Nat) (hs : Sl w B A n l) :
    Calls Tryd.prog 28 #[.slice A n c] w fun e w' => e = .returned (.bool (bitsOk l)) ∧ w = w' := by
  have hm := hs.max
  have HL := hid hs.len
  go_enter Tryd.func28, Tryd.ntmps28
  go_wp2
  go_loop [3] (fun i => ∃ k : Nat, k ≤ n ∧ i = .int .i64 k ∧ allIn (l.take k) 0 1 = true) (fun i => n - (intOf i).toNat)
  case atStart => exact ⟨0, Nat.zero_le _, rfl, rfl⟩
  case round =>
    obtain ⟨k, hk, rfl, hall⟩ := hrel
    have HA := hid hall; clear hall
    by_cases hlt : k < n
    · obtain ⟨b, off, rfl, _, hc⟩ := hs.2.2 (by omega)
      have hck := hc k hlt
      have hlti : (k : Int) < (n : Int) := by omega
      clear hc
      cases h1 : within (nth l k) 0 1 with
      | true =>
        have HA2 := hid (show allIn (l.take (k + 1)) 0 1 = true from by rw [take_nth (by rw [HL.out]; exact hlt), allIn_snoc, HA.out]; exact h1)
        go_wp2_with (go_at_call 37; refine (l1In_any _ _ _ _).mono ?_; rintro e w' ⟨rfl, rfl⟩)
        go_round
        case rel => exact ⟨k + 1, by omega, by go_num, HA2.out⟩
        case measure => simp [intOf]; omega
      | false =>
        have HF := hid (show bitsOk l = false from by
          unfold bitsOk
          rw [allIn_take_false (k := k + 1) (by rw [take_nth (by rw [HL.out]; exact hlt), allIn_snoc, HA.out]; exact h1)]; rfl)
        go_wp2_with (go_at_call 37; refine (l1In_any _ _ _ _).mono ?_; rintro e w' ⟨rfl, rfl⟩)
        go_ret
        exact ⟨ret_bool HF.out.symm, rfl⟩
    · have HT := hid (show bitsOk l = within (n : Int) 1 16 from by
        have := HA.out
        rw [List.take_of_length_le (by rw [HL.out]; omega)] at this
        unfold bitsOk
        rw [this, HL.out, Bool.true_and])
      go_wp2_with (go_at_call 37; refine (l1In_any _ _ _ _).mono ?_; rintro e w' ⟨rfl, rfl⟩)
      go_ret
      exact ⟨ret_bool HT.out.symm, rfl⟩

theorem far_take {l : List Int} {a k : Nat} (h : k < l.length) : (farL a l).take (k + 1) = (farL a l).take k ++ [nth (farL a l) k] := take_nth (by rw [farL_len]; exact h)

end Go.Proofs.YtkejcajboneniaaDoor
