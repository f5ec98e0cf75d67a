/-
  Walks of the model's PlaceAt and RoundOf. No statement is proved here.
-/
import Derived.Test.YtajjmhfbdknlfaaC2s
namespace Go.Proofs.Ytajjmhfbdknlfaa
open Go.RowKit
set_option linter.unusedVariables false
set_option linter.unusedSimpArgs false

set_option maxHeartbeats 800000 in
theorem specPlaceAt_any (f e last t : Int) (w : World) :
    Calls Try.prog 19 #[sig f e, .int .i64 last, .int .i64 t] w fun r w' => r = .returned (.int .i64 (placeOut f e last t)) ∧ w.grownBy w' none := by
  have HP : Hid (placeOut f e last t = if (sigOk f e last && within t 0 2000) = true then at2 f e last t else -1) := hid rfl
  by_cases h1 : sigOk f e last = true
  · by_cases h2 : within t 0 2000 = true
    · have h2' : 0 ≤ t ∧ t ≤ 2000 := by simpa [within] using h2
      go_enter Try.func19, Try.ntmps19
      go_wp2_with fail
      refine (specSignalOk_any _ _ _ _).mono ?_
      rintro r w1 ⟨rfl, hg⟩
      have c0 : w1.cell? ⟨w.heap.size, 0, none⟩ = some (.int .i64 f) := hg.cell (by simp) (by simp)
      have c1 : w1.cell? ⟨w.heap.size, 1, none⟩ = some (.int .i64 e) := hg.cell (by simp) (by simp)
      go_wp2_with (go_at_call 40; refine (l1In_any _ _ _ _).mono ?_; rintro e w' ⟨rfl, rfl⟩)
      refine (l2At_any _ _ _ _ _ h1 h2'.1 (by omega)).mono ?_
      rintro r w2 ⟨rfl, hg2⟩
      go_wp2
      go_ret
      exact ⟨ret_int (by rw [HP.out, h1, h2]; rfl), ((grown_alloc _ _ _).trans hg).trans hg2⟩
    · have h2' : within t 0 2000 = false := by simpa using h2
      go_enter Try.func19, Try.ntmps19
      go_wp2_with fail
      refine (specSignalOk_any _ _ _ _).mono ?_
      rintro r w1 ⟨rfl, hg⟩
      have c0 : w1.cell? ⟨w.heap.size, 0, none⟩ = some (.int .i64 f) := hg.cell (by simp) (by simp)
      have c1 : w1.cell? ⟨w.heap.size, 1, none⟩ = some (.int .i64 e) := hg.cell (by simp) (by simp)
      go_wp2_with (go_at_call 40; refine (l1In_any _ _ _ _).mono ?_; rintro e w' ⟨rfl, rfl⟩)
      go_ret
      exact ⟨ret_int (by rw [HP.out, h1, h2']; rfl), (grown_alloc _ _ _).trans hg⟩
  · have h1' : sigOk f e last = false := by simpa using h1
    go_enter Try.func19, Try.ntmps19
    go_wp2_with fail
    refine (specSignalOk_any _ _ _ _).mono ?_
    rintro r w1 ⟨rfl, hg⟩
    have c0 : w1.cell? ⟨w.heap.size, 0, none⟩ = some (.int .i64 f) := hg.cell (by simp) (by simp)
    have c1 : w1.cell? ⟨w.heap.size, 1, none⟩ = some (.int .i64 e) := hg.cell (by simp) (by simp)
    go_wp2_with (go_at_call 40; refine (l1In_any _ _ _ _).mono ?_; rintro e w' ⟨rfl, rfl⟩)
    go_ret
    exact ⟨ret_int (by rw [HP.out, h1']; rfl), (grown_alloc _ _ _).trans hg⟩

set_option maxHeartbeats 1600000 in
theorem specRoundOf_any (f e last : Int) (w : World) :
    Calls Try.prog 22 #[sig f e, .int .i64 last] w fun r w' => r = .returned (.int .i64 (roundOut f e last)) ∧ w.grownBy w' none := by
  have HP : Hid (roundOut f e last = if sigOk f e last = true then 2 * last * slow e else -1) := hid rfl
  by_cases h1 : sigOk f e last = true
  · have h' := sigOk_iff.1 h1
    have hb := round_bd h1
    obtain ⟨⟨l1, l2⟩, ⟨f1, f2⟩, he⟩ := h'
    by_cases hp : e < 0
    · obtain ⟨a, rfl⟩ : ∃ a, e = -a := ⟨-e, by omega⟩
      have a1 : 1 ≤ a := by omega
      have a9 : a ≤ 9 := by omega
      have hs : slow (-a) = a := by rw [slow_neg hp, Int.neg_neg]
      rw [hs] at hb
      have HP := hid (show roundOut f (-a) last = 2 * last * a from by rw [HP.out, if_pos h1, hs])
      clear hs
      go_enter Try.func22, Try.ntmps22
      go_wp2_with fail
      refine (specSignalOk_any _ _ _ _).mono ?_
      rintro r w1 ⟨rfl, hg⟩
      have c0 : w1.cell? ⟨w.heap.size, 0, none⟩ = some (.int .i64 f) := hg.cell (by simp) (by simp)
      have c1 : w1.cell? ⟨w.heap.size, 1, none⟩ = some (.int .i64 (-a)) := hg.cell (by simp) (by simp)
      go_wp2
      go_ret
      exact ⟨ret_int HP.out.symm, (grown_alloc _ _ _).trans hg⟩
    · have a1 : 1 ≤ e := by omega
      have a9 : e ≤ 9 := by omega
      have hs : slow e = e := slow_pos (by omega)
      rw [hs] at hb
      have HP := hid (show roundOut f e last = 2 * last * e from by rw [HP.out, if_pos h1, hs])
      clear hs
      go_enter Try.func22, Try.ntmps22
      go_wp2_with fail
      refine (specSignalOk_any _ _ _ _).mono ?_
      rintro r w1 ⟨rfl, hg⟩
      have c0 : w1.cell? ⟨w.heap.size, 0, none⟩ = some (.int .i64 f) := hg.cell (by simp) (by simp)
      have c1 : w1.cell? ⟨w.heap.size, 1, none⟩ = some (.int .i64 e) := hg.cell (by simp) (by simp)
      go_wp2
      go_ret
      exact ⟨ret_int HP.out.symm, (grown_alloc _ _ _).trans hg⟩
  · have h1' : sigOk f e last = false := by simpa using h1
    go_enter Try.func22, Try.ntmps22
    go_wp2_with fail
    refine (specSignalOk_any _ _ _ _).mono ?_
    rintro r w1 ⟨rfl, hg⟩
    have c0 : w1.cell? ⟨w.heap.size, 0, none⟩ = some (.int .i64 f) := hg.cell (by simp) (by simp)
    have c1 : w1.cell? ⟨w.heap.size, 1, none⟩ = some (.int .i64 e) := hg.cell (by simp) (by simp)
    go_wp2
    go_ret
    exact ⟨ret_int (by rw [HP.out, h1']; rfl), (grown_alloc _ _ _).trans hg⟩
end Go.Proofs.Ytajjmhfbdknlfaa
