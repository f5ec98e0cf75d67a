/-
  Walks of the program's signals: SignalOk, slowness, placeAfter, PlaceAt. No statement is proved here.
-/
import Derived.Test.YtempgjbbgkacjaaDoorC2b
import Derived.Deep.RegionWith
import Derived.BigRegion
import Derived.IntWalk
namespace Go.Proofs.YtempgjbbgkacjaaDoor
open Go.RowKit
set_option linter.unusedVariables false
set_option linter.unusedSimpArgs false

set_option maxHeartbeats 400000 in
theorem lastOk_any (s : Int) (w : World) :
    Calls Tryd.prog 26 #[.int .i64 s] w fun e w' => e = .returned (.bool (within s 1 40)) ∧ w = w' := by
  by_cases h1 : 1 ≤ s
  · go_enter Tryd.func26, Tryd.ntmps26
    go_wp2
    go_ret
    exact ⟨ret_bool (by simp [within, h1]), rfl⟩
  · have h1' : decide (1 ≤ s) = false := by simpa using h1
    go_enter Tryd.func26, Tryd.ntmps26
    go_wp2
    go_ret
    exact ⟨ret_bool (by simp [within]; omega), rfl⟩

/-- The program's order of the same questions. -/
theorem sigOk_impl (f e last : Int) : sigOk f e last = ((decide (-9 ≤ e) && (decide (e ≤ 9) && !decide (e = 0))) && (within last 1 40 && (decide (0 ≤ f) && decide (f ≤ last)))) := by
  rw [Bool.eq_iff_iff, sigOk_iff]
  simp [within]
  omega

set_option maxHeartbeats 800000 in
theorem implSignalOk_any (f e last : Int) (w : World) :
    Calls Tryd.prog 32 #[sig f e, .int .i64 last] w fun r w' => r = .returned (.bool (sigOk f e last)) ∧ w.grownBy w' none := by
  have HS := hid (sigOk_impl f e last)
  by_cases hb : (decide (-9 ≤ e) && (decide (e ≤ 9) && !decide (e = 0))) = true
  · have hb' : (-9 ≤ e ∧ e ≤ 9) ∧ e ≠ 0 := by simp at hb; omega
    obtain ⟨⟨h1, h2⟩, h3⟩ := hb'
    have h3' : decide (e = 0) = false := by simpa using h3
    have HB := hid hb; clear hb
    by_cases h4 : within last 1 40 = true
    · by_cases h5 : 0 ≤ f
      · go_enter Tryd.func32, Tryd.ntmps32
        go_wp2_with (go_at_call 26; refine (lastOk_any _ _).mono ?_; rintro e w' ⟨rfl, rfl⟩)
        go_ret
        exact ⟨ret_bool (by rw [HS.out, HB.out, h4]; simp [h5, h3]), grown_alloc _ _ _⟩
      · have h5' : decide (0 ≤ f) = false := by simpa using h5
        go_enter Tryd.func32, Tryd.ntmps32
        go_wp2_with (go_at_call 26; refine (lastOk_any _ _).mono ?_; rintro e w' ⟨rfl, rfl⟩)
        go_ret
        exact ⟨ret_bool (by rw [HS.out, h5']; simp), grown_alloc _ _ _⟩
    · have h4' : within last 1 40 = false := by simpa using h4
      go_enter Tryd.func32, Tryd.ntmps32
      go_wp2_with (go_at_call 26; refine (lastOk_any _ _).mono ?_; rintro e w' ⟨rfl, rfl⟩)
      go_ret
      exact ⟨ret_bool (by rw [HS.out, h4']; simp), grown_alloc _ _ _⟩
  · have hb0 : (decide (-9 ≤ e) && (decide (e ≤ 9) && !decide (e = 0))) = false := by simpa using hb
    have HB := hid hb0; clear hb0
    by_cases h1 : -9 ≤ e
    · by_cases h2 : e ≤ 9
      · have h3 : e = 0 := by simp at hb; omega
        clear hb
        subst h3
        go_enter Tryd.func32, Tryd.ntmps32
        go_wp2
        go_ret
        exact ⟨ret_bool (by rw [HS.out, HB.out]; rfl), grown_alloc _ _ _⟩
      · clear hb
        have h2' : decide (e ≤ 9) = false := by simpa using h2
        go_enter Tryd.func32, Tryd.ntmps32
        go_wp2
        go_ret
        exact ⟨ret_bool (by rw [HS.out, HB.out]; rfl), grown_alloc _ _ _⟩
    · clear hb
      have h1' : decide (-9 ≤ e) = false := by simpa using h1
      go_enter Tryd.func32, Tryd.ntmps32
      go_wp2
      go_ret
      exact ⟨ret_bool (by rw [HS.out, HB.out]; rfl), grown_alloc _ _ _⟩

set_option maxHeartbeats 800000 in
theorem slowness_any (f e : Int) (w : World) (h1 : -100 ≤ e) (h2 : e ≤ 100) :
    Calls Tryd.prog 33 #[sig f e] w fun r w' => r = .returned (.int .i64 (slow e)) ∧ w.grownBy w' none := by
  by_cases hp : e < 0
  · have HS := hid (slow_neg hp)
    go_enter Tryd.func33, Tryd.ntmps33
    go_wp2
    go_ret
    exact ⟨ret_int (by rw [HS.out]), grown_alloc _ _ _⟩
  · have HS := hid (slow_pos (show 0 ≤ e by omega))
    go_enter Tryd.func33, Tryd.ntmps33
    go_wp2
    go_ret
    exact ⟨ret_int (by rw [HS.out]), grown_alloc _ _ _⟩
set_option maxHeartbeats 1600000 in
theorem placeAfter_any (f e last t : Int) (w : World) (h : sigOk f e last = true) (t0 : 0 ≤ t) (t1 : t ≤ 3000) :
    Calls Tryd.prog 28 #[sig f e, .int .i64 last, .int .i64 t] w fun r w' => r = .returned (.int .i64 (at2 f e last t)) ∧ w.grownBy w' none := by
  have h' := sigOk_iff.1 h
  have hs := slow_bd h
  obtain ⟨⟨l1, l2⟩, ⟨f1, f2⟩, he⟩ := h'
  have HA := hid (show at2 f e last t = fold last (starts f e last + t / slow e) from rfl)
  clear h
  have CS := hid (fun W : World => slowness_any f e W (by omega) (by omega))
  obtain ⟨q, hq⟩ : ∃ q, slow e = q := ⟨_, rfl⟩
  rw [hq] at hs HA CS
  clear hq
  have q0 : 0 ≤ t / q := Int.ediv_nonneg t0 (by omega)
  have q1 : t / q ≤ 3000 := Int.le_trans (Int.ediv_le_self _ t0) t1
  by_cases hp : e < 0
  · have HS := hid (show starts f e last = 2 * last - f from by unfold starts; rw [if_pos hp])
    have r0 := Int.emod_nonneg (2 * last - f + t / q) (show 2 * last ≠ 0 by omega)
    have r1 := Int.emod_lt_of_pos (2 * last - f + t / q) (show 0 < 2 * last by omega)
    go_enter Tryd.func28, Tryd.ntmps28
    go_wp2_with fail
    with_reducible refine Calls.mono (CS.out _) ?_
    rintro r w1 ⟨rfl, hg1⟩
    have HG := hid ((grown_alloc w (.cells #[.int .i64 f, .int .i64 e] 30) none).trans hg1)
    have HV := hid (show at2 f e last t = min ((2 * last - f + t / q) % (2 * last)) (2 * last - (2 * last - f + t / q) % (2 * last)) from by rw [HA.out, HS.out]; unfold fold; split <;> omega)
    clear hg1
    go_wp2
    · go_ret
      exact ⟨ret_int (by rw [HV.out, Int.min_eq_right (by omega)]), HG.out⟩
    · go_ret
      exact ⟨ret_int (by rw [HV.out, Int.min_eq_left (by omega)]), HG.out⟩
  · have HS := hid (show starts f e last = f from by unfold starts; rw [if_neg hp])
    have r0 := Int.emod_nonneg (f + t / q) (show 2 * last ≠ 0 by omega)
    have r1 := Int.emod_lt_of_pos (f + t / q) (show 0 < 2 * last by omega)
    go_enter Tryd.func28, Tryd.ntmps28
    go_wp2_with fail
    with_reducible refine Calls.mono (CS.out _) ?_
    rintro r w1 ⟨rfl, hg1⟩
    have HG := hid ((grown_alloc w (.cells #[.int .i64 f, .int .i64 e] 30) none).trans hg1)
    have HV := hid (show at2 f e last t = min ((f + t / q) % (2 * last)) (2 * last - (f + t / q) % (2 * last)) from by rw [HA.out, HS.out]; unfold fold; split <;> omega)
    clear hg1
    go_wp2
    · go_ret
      exact ⟨ret_int (by rw [HV.out, Int.min_eq_right (by omega)]), HG.out⟩
    · go_ret
      exact ⟨ret_int (by rw [HV.out, Int.min_eq_left (by omega)]), HG.out⟩

set_option maxHeartbeats 800000 in
theorem implPlaceAt_any (f e last t : Int) (w : World) :
    Calls Tryd.prog 13 #[sig f e, .int .i64 last, .int .i64 t] w fun r w' => r = .returned (.int .i64 (placeOut f e last t)) ∧ w.grownBy w' none := by
  have HP : Hid (placeOut f e last t = if (sigOk f e last && decide (0 ≤ t ∧ t ≤ 2000)) = true then at2 f e last t else -1) := hid rfl
  by_cases h1 : sigOk f e last = true
  · by_cases h2 : t < 0
    · have HV := hid (show placeOut f e last t = -1 from by rw [HP.out, if_neg (by simp; omega)])
      go_enter Tryd.func13, Tryd.ntmps13
      go_wp2_with fail
      refine (implSignalOk_any _ _ _ _).mono ?_
      rintro r w1 ⟨rfl, hg⟩
      have HG := hid ((grown_alloc w (.cells #[.int .i64 f, .int .i64 e] 30) none).trans hg)
      clear hg
      go_wp2
      go_ret
      exact ⟨ret_int HV.out.symm, HG.out⟩
    · have h2' : decide (t < 0) = false := by simpa using h2
      by_cases h3 : 2000 < t
      · have HV := hid (show placeOut f e last t = -1 from by rw [HP.out, if_neg (by simp; omega)])
        go_enter Tryd.func13, Tryd.ntmps13
        go_wp2_with fail
        refine (implSignalOk_any _ _ _ _).mono ?_
        rintro r w1 ⟨rfl, hg⟩
        have HG := hid ((grown_alloc w (.cells #[.int .i64 f, .int .i64 e] 30) none).trans hg)
        clear hg
        go_wp2
        go_ret
        exact ⟨ret_int HV.out.symm, HG.out⟩
      · have h3' : decide (2000 < t) = false := by simpa using h3
        have HV := hid (show placeOut f e last t = at2 f e last t from by rw [HP.out, if_pos (by rw [h1]; simp; omega)])
        have CP := hid (fun W : World => placeAfter_any f e last t W h1 (by omega) (by omega))
        go_enter Tryd.func13, Tryd.ntmps13
        go_wp2_with fail
        refine (implSignalOk_any _ _ _ _).mono ?_
        rintro r w1 ⟨rfl, hg⟩
        have c0 : w1.cell? ⟨w.heap.size, 0, none⟩ = some (.int .i64 f) := hg.cell (by simp) (by simp)
        have c1 : w1.cell? ⟨w.heap.size, 1, none⟩ = some (.int .i64 e) := hg.cell (by simp) (by simp)
        have HG := hid ((grown_alloc w (.cells #[.int .i64 f, .int .i64 e] 30) none).trans hg)
        clear hg
        go_wp2_with fail
        with_reducible refine Calls.mono (CP.out _) ?_
        rintro r w2 ⟨rfl, hg2⟩
        have HG := hid (HG.out.trans hg2)
        clear hg2
        go_wp2
        go_ret
        exact ⟨ret_int HV.out.symm, HG.out⟩
  · have h1' : sigOk f e last = false := by simpa using h1
    go_enter Tryd.func13, Tryd.ntmps13
    go_wp2_with fail
    refine (implSignalOk_any _ _ _ _).mono ?_
    rintro r w1 ⟨rfl, hg⟩
    have HG := hid ((grown_alloc w (.cells #[.int .i64 f, .int .i64 e] 30) none).trans hg)
    clear hg
    go_wp2
    go_ret
    exact ⟨ret_int (by rw [HP.out, h1']; rfl), HG.out⟩
end Go.Proofs.YtempgjbbgkacjaaDoor
