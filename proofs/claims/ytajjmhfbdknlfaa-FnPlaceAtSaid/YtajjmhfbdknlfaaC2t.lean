/-
  The walk of the model's TimesAt. No statement is proved here.
-/
import Derived.Test.YtajjmhfbdknlfaaC2p
import Derived.Deep.RegionWith
import Derived.BigRegion
namespace Go.Proofs.Ytajjmhfbdknlfaa
open Go.RowKit
set_option linter.unusedVariables false
set_option linter.unusedSimpArgs false

/-- A boxed signal in a later world. -/
structure One (w wr : World) (f e : Int) : Prop where
  a0 : wr.cell? ⟨w.heap.size, 0, none⟩ = some (.int .i64 f)
  a1 : wr.cell? ⟨w.heap.size, 1, none⟩ = some (.int .i64 e)
  hg : w.grownBy wr none
  hs : w.heap.size + 1 ≤ wr.heap.size
theorem One.on {w w1 w2 : World} {f e : Int} (h : One w w1 f e) (hg : w1.grownBy w2 none) : One w w2 f e :=
  ⟨hg.cell h.a0 (by simp), hg.cell h.a1 (by simp), h.hg.trans hg, Nat.le_trans h.hs hg.size⟩
theorem One.onRow {w w1 w2 : World} {f e : Int} {row : Option Nat} (h : One w w1 f e) (hg : w1.grownBy w2 row) (hr : ∀ k, row = some k → w.heap.size + 1 ≤ k) : One w w2 f e :=
  ⟨hg.cell h.a0 (by intro h'; have := hr w.heap.size h'.symm; omega), hg.cell h.a1 (by intro h'; have := hr w.heap.size h'.symm; omega), h.hg.andThen hg (fun k hk => .inl (by have := hr k hk; omega)), Nat.le_trans h.hs hg.size⟩

def timesTo (f e last p : Int) (k : Nat) : List Int := if (sigOk f e last && within p 0 last) = true then allAt (fun t => decide (at2 f e last t = p)) k else []
theorem timesTo_all (f e last p : Int) : timesTo f e last p (2 * last * slow e).toNat = timesOut f e last p := rfl
theorem timesTo_not {f e last p : Int} (h : (sigOk f e last && within p 0 last) = false) (k : Nat) : timesTo f e last p k = [] := by unfold timesTo; rw [h]; rfl
theorem timesOut_not {f e last p : Int} (h : (sigOk f e last && within p 0 last) = false) : timesOut f e last p = [] := timesTo_not h _
theorem timesTo_yes {f e last p : Int} {k : Nat} (h : (sigOk f e last && within p 0 last) = true) (hp : at2 f e last k = p) : timesTo f e last p (k + 1) = timesTo f e last p k ++ [(k : Int)] := by
  unfold timesTo; rw [if_pos h, if_pos h]; exact allAt_yes (by simpa using hp)
theorem timesTo_no {f e last p : Int} {k : Nat} (h : (sigOk f e last && within p 0 last) = true) (hp : at2 f e last k ≠ p) : timesTo f e last p (k + 1) = timesTo f e last p k := by
  unfold timesTo; rw [if_pos h, if_pos h]; exact allAt_no (by simpa using hp)
theorem timesTo_len (f e last p : Int) (k : Nat) : (timesTo f e last p k).length ≤ k := by
  unfold timesTo
  split
  · exact allAt_len _ _
  · simp
theorem below_one {w w1 : World} {f e : Int} (h : One w w1 f e) : Below w.heap.size w w1 := below_grown h.hg

set_option maxHeartbeats 3200000 in
theorem specTimesAt_any (f e last p : Int) (w : World) :
    Calls Try.prog 29 #[sig f e, .int .i64 last, .int .i64 p] w fun r w' => ∃ A2 m c2, r = .returned (.slice A2 m c2) ∧ w'.ownsRow w.heap.size 3 1 (.slice A2 m c2) m (ints (timesOut f e last p)) ∧ m ≤ 720 ∧ Below w.heap.size w w' := by
  obtain ⟨i0, hi, hz0, hz1, hz2⟩ := info_parts info_int
  have ho0 : ((w.alloc (.cells #[.int .i64 f, .int .i64 e] 24)).alloc (.cells #[] 3)).ownsRow (w.heap.size + 1) 3 1 (.slice (some ⟨w.heap.size + 1, 0, none⟩) 0 0) 0 (ints []) := by
    have := World.ownsRow_lit (base := w.heap.size + 1) (e := 3) (size := 1) (w.alloc (.cells #[.int .i64 f, .int .i64 e] 24)) #[] 0 (by simp) (by simp [maxLen]) rfl
    simpa using this
  have hz : timesTo f e last p 0 = [] := by
    unfold timesTo
    split <;> rfl
  have HZ := hid hz; clear hz
  go_enter Try.func29, Try.ntmps29
  go_wp2
  go_loopw [7, 8] (fun v kk wr => ∃ (A : Option Addr) (i c k : Nat), v = .slice A i c ∧ kk = .int .i64 k ∧ k ≤ 2001 ∧ Hid ((sigOk f e last && within p 0 last) = true → (k : Int) ≤ 2 * last * slow e) ∧ wr.ownsRow (w.heap.size + 1) 3 1 (.slice A i c) i (ints (timesTo f e last p k)) ∧ One w wr f e) (fun _ kk _ => 2001 - (intOf kk).toNat)
  case atStart => exact ⟨_, 0, 0, 0, rfl, rfl, Nat.zero_le _, hid (fun h => by
      rw [Bool.and_eq_true] at h
      have := round_bd h.1
      omega), by rw [HZ.out]; exact ho0, by simp, by simp, (grown_alloc _ _ _).trans (grown_alloc _ _ _), by simp⟩
  case round =>
    obtain ⟨A, i, c, k, rfl, rfl, hk, HK, hown, H2⟩ := hrel
    clear ho0
    have K2 := hid H2
    obtain ⟨a0, a1, hg, _⟩ := H2
    clear hg
    by_cases h1 : sigOk f e last = true
    · by_cases h2 : within p 0 last = true
      · have hr := round_bd h1
        have hok : (sigOk f e last && within p 0 last) = true := by rw [h1, h2]; rfl
        have hkr := HK.out hok
        have hro : roundOut f e last = 2 * last * slow e := by unfold roundOut; rw [if_pos h1]
        obtain ⟨R, hR⟩ : ∃ R : Nat, 2 * last * slow e = R := Int.eq_ofNat_of_zero_le (by omega)
        have HO := hid (timesTo_all f e last p)
        rw [hR] at hr hkr hro HO
        have HR := hid hR; clear hR
        have HRO := hid hro; clear hro
        have hlt : k < 2001 := by omega
        have hi1 : i ≤ k := by
          have := hown.1
          have h3 := timesTo_len f e last p k
          simp at this
          omega
        go_wp2_with fail
        refine (specSignalOk_any _ _ _ _).mono ?_
        rintro r w1 ⟨rfl, hg1⟩
        have K3 := hid (K2.out.on hg1)
        have hown1 := own_kept_none hown hg1
        obtain ⟨a0, a1, hg, _⟩ := K3.out
        clear hg1 hg hown
        go_wp2_with (go_at_call 40; refine (l1In_any _ _ _ _).mono ?_; rintro e w' ⟨rfl, rfl⟩)
        refine (specRoundOf_any _ _ _ _).mono ?_
        rintro r w2 ⟨rfl, hg2⟩
        have K4 := hid (K3.out.on hg2)
        have hown2 := own_kept_none hown1 hg2
        obtain ⟨a0, a1, hg, _⟩ := K4.out
        rw [HRO.out]
        clear hg2 hg hown1
        by_cases hkr2 : k < R
        · by_cases hq : at2 f e last k = p
          · have HT := hid (timesTo_yes hok hq)
            go_wp2_with fail
            with_reducible refine Calls.mono (l2At_any f e last k _ h1 (by omega) (by omega)) ?_
            rintro r w3 ⟨rfl, hg3⟩
            have K5 := hid (K4.out.on hg3)
            have hown3 := own_kept_none hown2 hg3
            clear hg3 hown2
            have hsz3 := K5.out.hs
            go_wp2_with (at_builtin; refine wpList_append_own _ rfl (.tmp 37) (.tmp 39) 38 rfl (w.heap.size + 1) 3 i0 (.int .i64 0) 1 8 Try.underlying38 hi hz0 hz1 hz2 rfl (by decide) (.slice A i c) _ _ rfl (hown3.alloc _) ⟨w3.heap.size, 0, none⟩ 1 1 [.int .i64 k] rfl rfl (cell_one_new _ _ _) (by simp [Value.oneCell']) (by simp only [maxLen]; omega) (by omega) (by simp; omega) ?_; intro v2 w4 hown4 hgrow4 _)
            obtain ⟨g2, c2, rfl, _, _⟩ := own_shape hown4
            have K6 := hid ((K5.out.on (grown_alloc w3 (.cells #[.int .i64 k] 3) none)).onRow hgrow4 (own_lo hown3))
            have HN := hid hown4
            clear hown4 hgrow4 hown3 hsz3
            go_wp2
            go_roundw
            case rel => exact ⟨_, i + 1, c2, k + 1, rfl, by go_num, by omega, hid (fun _ => by rw [HR.out]; omega), by rw [HT.out, show ints (timesTo f e last p k ++ [(k : Int)]) = ints (timesTo f e last p k) ++ [.int .i64 k] from by simp [ints]]; exact HN.out, K6.out⟩
            case measure => simp [intOf]; omega
          · have hq' : decide (at2 f e last k = p) = false := by simpa using hq
            have HT := hid (timesTo_no hok hq)
            go_wp2_with fail
            with_reducible refine Calls.mono (l2At_any f e last k _ h1 (by omega) (by omega)) ?_
            rintro r w3 ⟨rfl, hg3⟩
            have K5 := hid (K4.out.on hg3)
            have HN := hid (own_kept_none hown2 hg3)
            clear hg3 hown2
            go_wp2
            go_roundw
            case rel => exact ⟨_, i, c, k + 1, rfl, by go_num, by omega, hid (fun _ => by rw [HR.out]; omega), by rw [HT.out]; exact HN.out, K5.out⟩
            case measure => simp [intOf]; omega
        · obtain rfl : k = R := by omega
          rw [show k = (k : Int).toNat from rfl, HO.out] at hown2
          have HN := hid hown2; clear hown2
          go_wp2
          go_ret
          exact ⟨_, _, _, rfl, own_mono HN.out (by omega), by omega, below_one K4.out⟩
      · have h2' : within p 0 last = false := by simpa using h2
        rw [timesTo_not (by rw [h1, h2']; rfl)] at hown
        have HO := hid (timesOut_not (f := f) (e := e) (last := last) (p := p) (by rw [h1, h2']; rfl))
        have hi0 : i = 0 := by have := hown.1; simpa using this.symm
        have HI := hid hi0; clear hi0
        by_cases hk1 : k < 2001
        · go_wp2_with fail
          refine (specSignalOk_any _ _ _ _).mono ?_
          rintro r w1 ⟨rfl, hg1⟩
          have K3 := hid (K2.out.on hg1)
          have hown1 := own_kept_none hown hg1
          obtain ⟨a0, a1, hg, _⟩ := K3.out
          clear hg1 hg hown
          go_wp2_with (go_at_call 40; refine (l1In_any _ _ _ _).mono ?_; rintro e w' ⟨rfl, rfl⟩)
          have HN := hid hown1; clear hown1
          go_ret
          exact ⟨_, _, _, rfl, by rw [HO.out]; exact own_mono HN.out (by omega), by rw [HI.out]; omega, below_one K3.out⟩
        · obtain rfl : k = 2001 := by omega
          have HN := hid hown; clear hown
          go_wp2
          go_ret
          exact ⟨_, _, _, rfl, by rw [HO.out]; exact own_mono HN.out (by omega), by rw [HI.out]; omega, below_one K2.out⟩
    · have h1' : sigOk f e last = false := by simpa using h1
      rw [timesTo_not (by rw [h1']; rfl)] at hown
      have HO := hid (timesOut_not (f := f) (e := e) (last := last) (p := p) (by rw [h1']; rfl))
      have hi0 : i = 0 := by have := hown.1; simpa using this.symm
      have HI := hid hi0; clear hi0
      by_cases hk1 : k < 2001
      · go_wp2_with fail
        refine (specSignalOk_any _ _ _ _).mono ?_
        rintro r w1 ⟨rfl, hg1⟩
        have K3 := hid (K2.out.on hg1)
        have hown1 := own_kept_none hown hg1
        obtain ⟨a0, a1, hg, _⟩ := K3.out
        clear hg1 hg hown
        have HN := hid hown1; clear hown1
        go_wp2
        go_ret
        exact ⟨_, _, _, rfl, by rw [HO.out]; exact own_mono HN.out (by omega), by rw [HI.out]; omega, below_one K3.out⟩
      · obtain rfl : k = 2001 := by omega
        have HN := hid hown; clear hown
        go_wp2
        go_ret
        exact ⟨_, _, _, rfl, by rw [HO.out]; exact own_mono HN.out (by omega), by rw [HI.out]; omega, below_one K2.out⟩
end Go.Proofs.Ytajjmhfbdknlfaa
