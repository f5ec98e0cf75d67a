/-
  The walk of the model's l2At. No statement is proved here.
-/
import Derived.Test.YtannfeiogocpeaaDoorC2b
namespace Go.Proofs.YtannfeiogocpeaaDoor
open Go.RowKit
set_option linter.unusedVariables false
set_option linter.unusedSimpArgs false

set_option maxHeartbeats 1600000 in
theorem l2At_any (f e last t : Int) (w : World) (h : sigOk f e last = true) (t0 : 0 ≤ t) (t1 : t ≤ 3000) :
    Calls Tryd.prog 54 #[sig f e, .int .i64 last, .int .i64 t] w fun r w' => r = .returned (.int .i64 (at2 f e last t)) ∧ w.grownBy w' none := by
  have h' := sigOk_iff.1 h
  obtain ⟨⟨l1, l2⟩, ⟨f1, f2⟩, he⟩ := h'
  have HA := hid (show at2 f e last t = fold last (starts f e last + t / slow e) from rfl)
  clear h
  by_cases hp : e < 0
  · obtain ⟨a, rfl⟩ : ∃ a, e = -a := ⟨-e, by omega⟩
    have a1 : 1 ≤ a := by omega
    have a9 : a ≤ 9 := by omega
    have HA := hid (show at2 f (-a) last t = fold last (2 * last - f + t / a) from by
      rw [HA.out, slow_neg hp, Int.neg_neg]
      unfold starts
      rw [if_pos hp])
    have q0 : 0 ≤ t / a := Int.ediv_nonneg t0 (by omega)
    have q1 : t / a ≤ 3000 := Int.le_trans (Int.ediv_le_self _ t0) t1
    have r0 := Int.emod_nonneg (2 * last - f + t / a) (show 2 * last ≠ 0 by omega)
    have r1 := Int.emod_lt_of_pos (2 * last - f + t / a) (show 0 < 2 * last by omega)
    by_cases hr : last < (2 * last - f + t / a) % (2 * last)
    · have hv : fold last (2 * last - f + t / a) = 2 * last - (2 * last - f + t / a) % (2 * last) := by unfold fold; rw [if_pos hr]
      have HV := hid hv; clear hv
      go_enter Tryd.func54, Tryd.ntmps54
      go_wp2
      go_ret
      exact ⟨ret_int (by rw [HA.out, HV.out]), grown_alloc _ _ _⟩
    · have hv : fold last (2 * last - f + t / a) = (2 * last - f + t / a) % (2 * last) := by unfold fold; rw [if_neg hr]
      have HV := hid hv; clear hv
      go_enter Tryd.func54, Tryd.ntmps54
      go_wp2
      go_ret
      exact ⟨ret_int (by rw [HA.out, HV.out]), grown_alloc _ _ _⟩
  · have a1 : 1 ≤ e := by omega
    have a9 : e ≤ 9 := by omega
    have HA := hid (show at2 f e last t = fold last (f + t / e) from by
      rw [HA.out, slow_pos (by omega)]
      unfold starts
      rw [if_neg hp])
    have q0 : 0 ≤ t / e := Int.ediv_nonneg t0 (by omega)
    have q1 : t / e ≤ 3000 := Int.le_trans (Int.ediv_le_self _ t0) t1
    have r0 := Int.emod_nonneg (f + t / e) (show 2 * last ≠ 0 by omega)
    have r1 := Int.emod_lt_of_pos (f + t / e) (show 0 < 2 * last by omega)
    by_cases hr : last < (f + t / e) % (2 * last)
    · have hv : fold last (f + t / e) = 2 * last - (f + t / e) % (2 * last) := by unfold fold; rw [if_pos hr]
      have HV := hid hv; clear hv
      go_enter Tryd.func54, Tryd.ntmps54
      go_wp2
      go_ret
      exact ⟨ret_int (by rw [HA.out, HV.out]), grown_alloc _ _ _⟩
    · have hv : fold last (f + t / e) = (f + t / e) % (2 * last) := by unfold fold; rw [if_neg hr]
      have HV := hid hv; clear hv
      go_enter Tryd.func54, Tryd.ntmps54
      go_wp2
      go_ret
      exact ⟨ret_int (by rw [HA.out, HV.out]), grown_alloc _ _ _⟩
end Go.Proofs.YtannfeiogocpeaaDoor
