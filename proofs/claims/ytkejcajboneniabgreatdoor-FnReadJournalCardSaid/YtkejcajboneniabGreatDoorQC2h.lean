/-
  Texts put together: C2h. No statement is proved here.
-/
import Derived.Test.YtkejcajboneniabGreatDoorQMh
import Derived.Deep.RegionWith
import Derived.BigRegion
import Derived.IntWalk
set_option linter.unusedVariables false
set_option linter.unusedSimpArgs false
namespace Go.Proofs.YtkejcajboneniabGreatDoor
open Go.RowKit

set_option maxHeartbeats 400000 in
theorem lastOk_any (s : Int) (w : World) :
    Calls Tryz.prog 223 #[.int .i64 s] w fun e w' => e = .returned (.bool (within s 1 40)) ∧ w = w' := by
  by_cases h1 : 1 ≤ s
  · go_enter Tryz.func223, Tryz.ntmps223
    go_wp2
    go_ret
    exact ⟨ret_bool (by simp [within, h1]), rfl⟩
  · have h1' : decide (1 ≤ s) = false := by simpa using h1
    go_enter Tryz.func223, Tryz.ntmps223
    go_wp2
    go_ret
    exact ⟨ret_bool (by simp [within]; omega), rfl⟩

set_option maxHeartbeats 800000 in
theorem slowness_any (f e : Int) (w : World) (h1 : -100 ≤ e) (h2 : e ≤ 100) :
    Calls Tryz.prog 226 #[sig f e] w fun r w' => r = .returned (.int .i64 (slow e)) ∧ w.grownBy w' none := by
  by_cases hp : e < 0
  · have HS := hid (slow_neg hp)
    go_enter Tryz.func226, Tryz.ntmps226
    go_wp2
    go_ret
    exact ⟨ret_int (by rw [HS.out]), grown_alloc _ _ _⟩
  · have HS := hid (slow_pos (show 0 ≤ e by omega))
    go_enter Tryz.func226, Tryz.ntmps226
    go_wp2
    go_ret
    exact ⟨ret_int (by rw [HS.out]), grown_alloc _ _ _⟩
set_option maxHeartbeats 1600000 in
theorem placeAfter_any (f e last t : Int) (w : World) (h : sigOk f e last = true) (t0 : 0 ≤ t) (t1 : t ≤ 3000) :
    Calls Tryz.prog 225 #[sig f e, .int .i64 last, .int .i64 t] w fun r w' => r = .returned (.int .i64 (at2 f e last t)) ∧ w.grownBy w' none := by
  have h' := sigOk_iff.1 h
  have hs := slow_bd h
  obtain ⟨⟨l1, l2⟩, ⟨f1, f2⟩, he⟩ := h'
  have HA := hid (show at2 f e last t = fold last (starts f e last + t / slow e) from rfl)
  clear h
  have CS := hid (fun W : World => slowness_any f e W (by omega) (by omega))
  obtain ⟨q, hq⟩ : ∃ q, slow e = q := ⟨_, rfl⟩
  rw [hq] at hs HA CS
  clear hq
  have q0 : 0 ≤ t / q := Int.ediv_nonneg t0 (by omega)
  have q1 : t / q ≤ 3000 := Int.le_trans (Int.ediv_le_self _ t0) t1
  by_cases hp : e < 0
  · have HS := hid (show starts f e last = 2 * last - f from by unfold starts; rw [if_pos hp])
    have r0 := Int.emod_nonneg (2 * last - f + t / q) (show 2 * last ≠ 0 by omega)
    have r1 := Int.emod_lt_of_pos (2 * last - f + t / q) (show 0 < 2 * last by omega)
    go_enter Tryz.func225, Tryz.ntmps225
    go_wp2_with fail
    with_reducible refine Calls.mono (CS.out _) ?_
    rintro r w1 ⟨rfl, hg1⟩
    have HG := hid ((grown_alloc w (.cells #[.int .i64 f, .int .i64 e] 158) none).trans hg1)
    have HV := hid (show at2 f e last t = min ((2 * last - f + t / q) % (2 * last)) (2 * last - (2 * last - f + t / q) % (2 * last)) from by rw [HA.out, HS.out]; unfold fold; split <;> omega)
    clear hg1
    go_wp2
    · go_ret
      exact ⟨ret_int (by rw [HV.out, Int.min_eq_right (by omega)]), HG.out⟩
    · go_ret
      exact ⟨ret_int (by rw [HV.out, Int.min_eq_left (by omega)]), HG.out⟩
  · have HS := hid (show starts f e last = f from by unfold starts; rw [if_neg hp])
    have r0 := Int.emod_nonneg (f + t / q) (show 2 * last ≠ 0 by omega)
    have r1 := Int.emod_lt_of_pos (f + t / q) (show 0 < 2 * last by omega)
    go_enter Tryz.func225, Tryz.ntmps225
    go_wp2_with fail
    with_reducible refine Calls.mono (CS.out _) ?_
    rintro r w1 ⟨rfl, hg1⟩
    have HG := hid ((grown_alloc w (.cells #[.int .i64 f, .int .i64 e] 158) none).trans hg1)
    have HV := hid (show at2 f e last t = min ((f + t / q) % (2 * last)) (2 * last - (f + t / q) % (2 * last)) from by rw [HA.out, HS.out]; unfold fold; split <;> omega)
    clear hg1
    go_wp2
    · go_ret
      exact ⟨ret_int (by rw [HV.out, Int.min_eq_right (by omega)]), HG.out⟩
    · go_ret
      exact ⟨ret_int (by rw [HV.out, Int.min_eq_left (by omega)]), HG.out⟩

end Go.Proofs.YtkejcajboneniabGreatDoor
