/-
  The walk of the program's TimesAt. No statement is proved here.
-/
import Derived.Test.YtajjmhfbdknlfaaC2t
import Derived.Test.YtajjmhfbdknlfaaC2i
import Derived.OwnWalk
namespace Go.Proofs.Ytajjmhfbdknlfaa
open Go.RowKit
set_option linter.unusedVariables false
set_option linter.unusedSimpArgs false

set_option maxRecDepth 100000 in
set_option maxHeartbeats 3200000 in
theorem implTimesAt_any (f e last p : Int) (w : World) :
    Calls Try.prog 27 #[sig f e, .int .i64 last, .int .i64 p] w fun r w' => ∃ A2 m c2, r = .returned (.slice A2 m c2) ∧ w'.ownsRow w.heap.size 3 1 (.slice A2 m c2) m (ints (timesOut f e last p)) ∧ m ≤ 720 ∧ Below w.heap.size w w' := by
  obtain ⟨i0, hi, hz0, hz1, hz2⟩ := info_parts info_int
  by_cases h1 : sigOk f e last = true
  · by_cases h2 : p < 0
    · have HO := hid (timesOut_not (f := f) (e := e) (last := last) (p := p) (by rw [h1]; simp [within]; omega))
      go_enter Try.func27, Try.ntmps27
      go_wp2_with fail
      refine (implSignalOk_any _ _ _ _).mono ?_
      rintro r w1 ⟨rfl, hg⟩
      have HG := hid ((grown_alloc w (.cells #[.int .i64 f, .int .i64 e] 24) none).trans hg)
      clear hg
      go_wp2
      go_ret
      exact ⟨_, 0, 0, rfl, by rw [HO.out]; exact World.ownsRow_nil _ _ _ _, by omega, below_grown HG.out⟩
    · have h2' : decide (p < 0) = false := by simpa using h2
      by_cases h3 : last < p
      · have HO := hid (timesOut_not (f := f) (e := e) (last := last) (p := p) (by rw [h1]; simp [within]; omega))
        go_enter Try.func27, Try.ntmps27
        go_wp2_with fail
        refine (implSignalOk_any _ _ _ _).mono ?_
        rintro r w1 ⟨rfl, hg⟩
        have HG := hid ((grown_alloc w (.cells #[.int .i64 f, .int .i64 e] 24) none).trans hg)
        clear hg
        go_wp2
        go_ret
        exact ⟨_, 0, 0, rfl, by rw [HO.out]; exact World.ownsRow_nil _ _ _ _, by omega, below_grown HG.out⟩
      · have h3' : decide (last < p) = false := by simpa using h3
        have hok : (sigOk f e last && within p 0 last) = true := by rw [h1]; simp [within]; omega
        have HOK := hid hok; clear hok
        have hr := round_bd h1
        have hro : roundOut f e last = 2 * last * slow e := by unfold roundOut; rw [if_pos h1]
        obtain ⟨R, hR⟩ : ∃ R : Nat, 2 * last * slow e = R := Int.eq_ofNat_of_zero_le (by omega)
        have HO := hid (timesTo_all f e last p)
        have HZ : Hid (timesTo f e last p 0 = []) := hid (by unfold timesTo; split <;> rfl)
        rw [hR] at hr hro HO
        clear hR
        have hr2 : R ≤ 720 := by omega
        have hmin : (R : Int) < 2001 := by omega
        have CR := hid (fun W : World => implRoundOf_any f e last W)
        rw [hro] at CR
        clear hro hr
        have CP := hid (fun (k : Nat) (W : World) (hk : k ≤ 2001) => placeAfter_any f e last k W h1 (by omega) (by omega))
        go_enter Try.func27, Try.ntmps27
        go_wp2_with fail
        refine (implSignalOk_any _ _ _ _).mono ?_
        rintro r w1 ⟨rfl, g1⟩
        have K : Hid (One w w1 f e) := hid ⟨g1.cell (by simp) (by simp), g1.cell (by simp) (by simp), (grown_alloc _ _ _).trans g1, Nat.le_trans (by simp) g1.size⟩
        clear g1
        obtain ⟨a0, a1, _, _⟩ := K.out
        go_wp2_with fail
        with_reducible refine Calls.mono (CR.out _) ?_
        rintro r w2 ⟨rfl, g2⟩
        have K := hid (K.out.on g2)
        clear g2 a0 a1
        obtain ⟨a0, a1, _, _⟩ := K.out
        go_wp2_with fail
        go_loopw [7, 26] (fun v kk wr => ∃ (A : Option Addr) (i c k : Nat), v = .slice A i c ∧ kk = .int .i64 k ∧ k ≤ R ∧ wr.ownsRow (w.heap.size + 1) 3 1 (.slice A i c) i (ints (timesTo f e last p k)) ∧ Hid (One w wr f e)) (fun _ kk _ => R - (intOf kk).toNat)
        case atStart => exact ⟨none, 0, 0, 0, rfl, rfl, Nat.zero_le _, by rw [HZ.out]; exact World.ownsRow_nil _ _ _ _, K⟩
        case round =>
          clear K a0 a1
          obtain ⟨A, i, c, k, rfl, rfl, hk, hown, K⟩ := hrel
          obtain ⟨a0, a1, _, _⟩ := K.out
          by_cases hlt : k < R
          · have hi1 : i ≤ k := by
              have := hown.1
              have h3 := timesTo_len f e last p k
              simp at this
              omega
            by_cases hq : at2 f e last k = p
            · have HT := hid (timesTo_yes HOK.out hq)
              go_wp2_with fail
              with_reducible refine Calls.mono (CP.out k _ (by omega)) ?_
              rintro r w3 ⟨rfl, hg3⟩
              have K5 := hid (K.out.on hg3)
              have hown3 := own_kept_none hown hg3
              clear hg3 hown a0 a1
              have hsz3 := K5.out.hs
              go_wp2_with (at_builtin; refine wpList_append_own _ rfl (.tmp 35) (.tmp 37) 38 rfl (w.heap.size + 1) 3 i0 (.int .i64 0) 1 8 Try.underlying38 hi hz0 hz1 hz2 rfl (by decide) (.slice A i c) _ _ rfl (hown3.alloc _) ⟨w3.heap.size, 0, none⟩ 1 1 [.int .i64 k] rfl rfl (cell_one_new _ _ _) (by simp [Value.oneCell']) (by simp only [maxLen]; omega) (by omega) (by simp; omega) ?_; intro v2 w4 hown4 hgrow4 _)
              obtain ⟨g2, c2, rfl, _, _⟩ := own_shape hown4
              have K6 := hid ((K5.out.on (grown_alloc w3 (.cells #[.int .i64 k] 3) none)).onRow hgrow4 (own_lo hown3))
              have HN := hid hown4
              clear hown4 hgrow4 hown3 hsz3
              go_wp2
              go_roundw
              case rel => exact ⟨_, i + 1, c2, k + 1, rfl, by go_num, by omega, by rw [HT.out, show ints (timesTo f e last p k ++ [(k : Int)]) = ints (timesTo f e last p k) ++ [.int .i64 k] from by simp [ints]]; exact HN.out, K6⟩
              case measure => simp [intOf]; omega
            · have hq' : decide (at2 f e last k = p) = false := by simpa using hq
              have HT := hid (timesTo_no HOK.out hq)
              go_wp2_with fail
              with_reducible refine Calls.mono (CP.out k _ (by omega)) ?_
              rintro r w3 ⟨rfl, hg3⟩
              have K5 := hid (K.out.on hg3)
              have HN := hid (own_kept_none hown hg3)
              clear hg3 hown a0 a1
              go_wp2
              go_roundw
              case rel => exact ⟨_, i, c, k + 1, rfl, by go_num, by omega, by rw [HT.out]; exact HN.out, K5⟩
              case measure => simp [intOf]; omega
          · obtain rfl : k = R := by omega
            have hi1 : i ≤ k := by
              have := hown.1
              have h3 := timesTo_len f e last p k
              simp at this
              omega
            rw [show k = (k : Int).toNat from rfl, HO.out] at hown
            have HN := hid hown; clear hown
            go_wp2
            go_ret
            exact ⟨_, _, _, rfl, own_mono HN.out (by omega), by omega, below_one K.out⟩
  · have h1' : sigOk f e last = false := by simpa using h1
    have HO := hid (timesOut_not (f := f) (e := e) (last := last) (p := p) (by rw [h1']; rfl))
    go_enter Try.func27, Try.ntmps27
    go_wp2_with fail
    refine (implSignalOk_any _ _ _ _).mono ?_
    rintro r w1 ⟨rfl, hg⟩
    have HG := hid ((grown_alloc w (.cells #[.int .i64 f, .int .i64 e] 24) none).trans hg)
    clear hg
    go_wp2
    go_ret
    exact ⟨_, 0, 0, rfl, by rw [HO.out]; exact World.ownsRow_nil _ _ _ _, by omega, below_grown HG.out⟩
end Go.Proofs.Ytajjmhfbdknlfaa
