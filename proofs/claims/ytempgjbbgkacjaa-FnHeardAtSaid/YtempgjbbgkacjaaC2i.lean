/-
  The walk of the program's RoundOf. No statement is proved here.
-/
import Derived.Test.YtempgjbbgkacjaaC2h
namespace Go.Proofs.Ytempgjbbgkacjaa
open Go.RowKit
set_option linter.unusedVariables false
set_option linter.unusedSimpArgs false

set_option maxHeartbeats 1600000 in
theorem implRoundOf_any (f e last : Int) (w : World) :
    Calls Try.prog 10 #[sig f e, .int .i64 last] w fun r w' => r = .returned (.int .i64 (roundOut f e last)) ∧ w.grownBy w' none := by
  have HP : Hid (roundOut f e last = if sigOk f e last = true then 2 * last * slow e else -1) := hid rfl
  by_cases h1 : sigOk f e last = true
  · have h' := sigOk_iff.1 h1
    have hb := round_bd h1
    have hs := slow_bd h1
    obtain ⟨⟨l1, l2⟩, ⟨f1, f2⟩, he⟩ := h'
    have CS := hid (fun W : World => slowness_any f e W (by omega) (by omega))
    obtain ⟨q, hq⟩ : ∃ q, slow e = q := ⟨_, rfl⟩
    rw [hq] at hs HP CS hb
    clear hq
    go_enter Try.func10, Try.ntmps10
    go_wp2_with fail
    refine (implSignalOk_any _ _ _ _).mono ?_
    rintro r w1 ⟨rfl, hg⟩
    have c0 : w1.cell? ⟨w.heap.size, 0, none⟩ = some (.int .i64 f) := hg.cell (by simp) (by simp)
    have c1 : w1.cell? ⟨w.heap.size, 1, none⟩ = some (.int .i64 e) := hg.cell (by simp) (by simp)
    have HG := hid ((grown_alloc w (.cells #[.int .i64 f, .int .i64 e] 28) none).trans hg)
    clear hg
    go_wp2_with fail
    with_reducible refine Calls.mono (CS.out _) ?_
    rintro r w2 ⟨rfl, hg2⟩
    have HG := hid (HG.out.trans hg2)
    clear hg2
    go_wp2
    go_ret
    exact ⟨ret_int (by rw [HP.out, if_pos h1]), HG.out⟩
  · have h1' : sigOk f e last = false := by simpa using h1
    go_enter Try.func10, Try.ntmps10
    go_wp2_with fail
    refine (implSignalOk_any _ _ _ _).mono ?_
    rintro r w1 ⟨rfl, hg⟩
    have HG := hid ((grown_alloc w (.cells #[.int .i64 f, .int .i64 e] 28) none).trans hg)
    clear hg
    go_wp2
    go_ret
    exact ⟨ret_int (by rw [HP.out, h1']; rfl), HG.out⟩
end Go.Proofs.Ytempgjbbgkacjaa
