/-
  The walk of the program's MeetAt and of the function that it asks step by step. No statement is proved here.
-/
import Derived.Test.YtajjmhfbdknlfaaC2m
import Derived.Test.YtajjmhfbdknlfaaC2i
import Derived.Deep.RegionHeld3
namespace Go.Proofs.Ytajjmhfbdknlfaa
open Go.RowKit
set_option linter.unusedVariables false
set_option linter.unusedSimpArgs false

/-- Two boxed signals and a boxed last place. -/
structure Fr3 (w : World) (pa pl pb : Nat) (f e g d last : Int) : Prop where
  a0 : w.cell? ⟨pa, 0, none⟩ = some (.int .i64 f)
  a1 : w.cell? ⟨pa, 1, none⟩ = some (.int .i64 e)
  l0 : w.cell? ⟨pl, 0, none⟩ = some (.int .i64 last)
  b0 : w.cell? ⟨pb, 0, none⟩ = some (.int .i64 g)
  b1 : w.cell? ⟨pb, 1, none⟩ = some (.int .i64 d)
theorem Fr3.on {w w' : World} {pa pl pb : Nat} {f e g d last : Int} (h : Fr3 w pa pl pb f e g d last) (hg : w.grownBy w' none) : Fr3 w' pa pl pb f e g d last :=
  ⟨hg.cell h.a0 (by simp), hg.cell h.a1 (by simp), hg.cell h.l0 (by simp), hg.cell h.b0 (by simp), hg.cell h.b1 (by simp)⟩

set_option maxHeartbeats 3200000 in
theorem together_any (pa pl pb : Nat) (f e g d last t : Int) (w : World) (h1 : sigOk f e last = true) (h2 : sigOk g d last = true) (t0 : 0 ≤ t) (t1 : t ≤ 3000) (K : Fr3 w pa pl pb f e g d last) :
    Calls Try.prog 45 #[.int .i64 t, .pointer (some ⟨pa, 0, none⟩), .pointer (some ⟨pl, 0, none⟩), .pointer (some ⟨pb, 0, none⟩)] w fun r w' => r = .returned (.bool (decide (at2 f e last t = at2 g d last t))) ∧ w.grownBy w' none := by
  have CF := hid (fun W : World => placeAfter_any f e last t W h1 t0 t1)
  have CG := hid (fun W : World => placeAfter_any g d last t W h2 t0 t1)
  clear h1 h2
  have K2 := hid K
  obtain ⟨a0, a1, l0, b0, b1⟩ := K
  go_enter Try.func45, Try.ntmps45
  go_wp2_with fail
  go_region_held3 (fun w' => w'.cell? ⟨pa, 0, none⟩ = some (.int .i64 f) ∧ w'.cell? ⟨pa, 1, none⟩ = some (.int .i64 e) ∧ w'.cell? ⟨pl, 0, none⟩ = some (.int .i64 last) ∧ w'.cell? ⟨pb, 0, none⟩ = some (.int .i64 g) ∧ w'.cell? ⟨pb, 1, none⟩ = some (.int .i64 d))
    (first
      | go_keep
      | (go_split_ands
         refine ⟨?_, ?_, ?_, ?_, ?_⟩ <;> exact hg4.cell (by assumption) (by simp))
      | (go_split_ands
         refine ⟨?_, ?_, ?_, ?_, ?_⟩ <;> exact hg3.cell (by assumption) (by simp)))
    (first
      | (go_at_call 42; with_reducible refine Calls.mono (CF.out _) ?_; rintro r w3 ⟨rfl, hg3⟩)
      | (go_at_call 42; with_reducible refine Calls.mono (CG.out _) ?_; rintro r w4 ⟨rfl, hg4⟩))
  have HG := hid (((drew_grown w).trans hg3).trans hg4)
  clear hg3 hg4
  go_wp2
  go_ret
  exact ⟨rfl, HG.out⟩

set_option maxRecDepth 100000 in
set_option maxHeartbeats 3200000 in
theorem implMeetAt_any (f e g d last : Int) (w : World) :
    Calls Try.prog 24 #[sig f e, sig g d, .int .i64 last] w fun r w' => r = .returned (meetVal f e g d last) ∧ w.grownBy w' none := by
  by_cases h1 : sigOk f e last = true
  · by_cases h2 : sigOk g d last = true
    · have CF := hid (fun (k : Nat) (W : World) (hk : k ≤ 2001) => placeAfter_any f e last k W h1 (by omega) (by omega))
      have CT := hid (fun (k : Nat) (W : World) (hk : k ≤ 2001) (K : Fr3 W w.heap.size (w.heap.size + 2) (w.heap.size + 1) f e g d last) => together_any w.heap.size (w.heap.size + 2) (w.heap.size + 1) f e g d last k W h1 h2 (by omega) (by omega) K)
      go_enter Try.func24, Try.ntmps24
      go_wp2_with fail
      refine (implSignalOk_any _ _ _ _).mono ?_
      rintro r w1 ⟨rfl, hg1⟩
      have a0 : w1.cell? ⟨w.heap.size, 0, none⟩ = some (.int .i64 f) := hg1.cell (by simp [go_sem]) (by simp)
      have a1 : w1.cell? ⟨w.heap.size, 1, none⟩ = some (.int .i64 e) := hg1.cell (by simp [go_sem]) (by simp)
      have b0 : w1.cell? ⟨w.heap.size + 1, 0, none⟩ = some (.int .i64 g) := hg1.cell (by simp [go_sem]) (by simp)
      have b1 : w1.cell? ⟨w.heap.size + 1, 1, none⟩ = some (.int .i64 d) := hg1.cell (by simp [go_sem]) (by simp)
      have l0 : w1.cell? ⟨w.heap.size + 2, 0, none⟩ = some (.int .i64 last) := hg1.cell (by simp [go_sem]) (by simp)
      have K : Hid (Fr3 w1 w.heap.size (w.heap.size + 2) (w.heap.size + 1) f e g d last ∧ w.grownBy w1 none) := hid ⟨⟨a0, a1, l0, b0, b1⟩, (((grown_alloc _ _ _).trans (grown_alloc _ _ _)).trans (grown_alloc _ _ _)).trans hg1⟩
      clear hg1
      go_wp2_with fail
      refine (implSignalOk_any _ _ _ _).mono ?_
      rintro r w2 ⟨rfl, hg1⟩
      have K : Hid (Fr3 w2 w.heap.size (w.heap.size + 2) (w.heap.size + 1) f e g d last ∧ w.grownBy w2 none) := hid ⟨K.out.1.on hg1, K.out.2.trans hg1⟩
      clear hg1 a0 a1 l0 b0 b1
      obtain ⟨⟨a0, a1, l0, b0, b1⟩, _⟩ := K.out
      go_wp2_with fail
      go_loopw [22] (fun i wr => ∃ k : Nat, i = .int .i64 k ∧ k ≤ 2001 ∧ Hid (∀ j : Nat, j < k → at2 f e last j ≠ at2 g d last j) ∧ Hid (Fr3 wr w.heap.size (w.heap.size + 2) (w.heap.size + 1) f e g d last ∧ w.grownBy wr none)) (fun i _ => 2001 - (intOf i).toNat)
      case atStart => exact ⟨0, rfl, Nat.zero_le _, hid (fun j hj => by omega), K⟩
      case round =>
        clear a0 a1 l0 b0 b1 K
        obtain ⟨k, rfl, hk, HJ, K⟩ := hrel
        obtain ⟨⟨a0, a1, l0, b0, b1⟩, _⟩ := K.out
        by_cases hlt : k < 2001
        · by_cases hq : at2 f e last k = at2 g d last k
          · have HM : Hid (meetVal f e g d last = .tuple #[.int .i64 k, .int .i64 (at2 f e last k), .bool true]) := hid (meetVal_at h1 h2 (by omega) hq HJ.out)
            have hqd : decide (at2 f e last k = at2 g d last k) = true := decide_eq_true hq
            have CT' := hid (CT.out k)
            rw [hqd] at CT'
            have CF' := hid (CF.out k)
            clear hq hqd
            go_wp2_with fail
            with_reducible refine Calls.mono (CT'.out _ (by omega) K.out.1) ?_
            rintro r w3 ⟨rfl, hg3⟩
            have K : Hid (Fr3 w3 w.heap.size (w.heap.size + 2) (w.heap.size + 1) f e g d last ∧ w.grownBy w3 none) := hid ⟨K.out.1.on hg3, K.out.2.trans hg3⟩
            clear hg3 a0 a1 l0 b0 b1
            obtain ⟨⟨a0, a1, l0, b0, b1⟩, _⟩ := K.out
            go_wp2_with fail
            with_reducible refine Calls.mono (CF'.out _ (by omega)) ?_
            rintro r w4 ⟨rfl, hg4⟩
            have HG := hid (K.out.2.trans hg4)
            clear hg4
            go_wp2
            go_ret3
            exact ⟨congrArg Ending.returned HM.out.symm, HG.out⟩
          · have hqd : decide (at2 f e last k = at2 g d last k) = false := decide_eq_false hq
            have CT' := hid (CT.out k)
            rw [hqd] at CT'
            go_wp2_with fail
            with_reducible refine Calls.mono (CT'.out _ (by omega) K.out.1) ?_
            rintro r w3 ⟨rfl, hg3⟩
            have K : Hid (Fr3 w3 w.heap.size (w.heap.size + 2) (w.heap.size + 1) f e g d last ∧ w.grownBy w3 none) := hid ⟨K.out.1.on hg3, K.out.2.trans hg3⟩
            clear hg3 a0 a1 l0 b0 b1
            go_wp2
            go_roundw
            case rel => exact ⟨k + 1, by go_num, by omega, hid (fun j hj => by
              rcases Nat.lt_or_eq_of_le (Nat.le_of_lt_succ hj) with h | rfl
              · exact HJ.out j h
              · exact hq), K⟩
            case measure => simp [intOf]; omega
        · obtain rfl : k = 2001 := by omega
          have HM := hid (meetVal_never HJ.out)
          go_wp2
          go_ret3
          exact ⟨congrArg Ending.returned HM.out.symm, K.out.2⟩
    · have HM := hid (meetVal_none (f := f) (e := e) (g := g) (d := d) (last := last) (by rw [h1]; simpa using h2))
      have h2' : sigOk g d last = false := by simpa using h2
      go_enter Try.func24, Try.ntmps24
      go_wp2_with fail
      refine (implSignalOk_any _ _ _ _).mono ?_
      rintro r w1 ⟨rfl, hg1⟩
      have b0 : w1.cell? ⟨w.heap.size + 1, 0, none⟩ = some (.int .i64 g) := hg1.cell (by simp [go_sem]) (by simp)
      have b1 : w1.cell? ⟨w.heap.size + 1, 1, none⟩ = some (.int .i64 d) := hg1.cell (by simp [go_sem]) (by simp)
      have l0 : w1.cell? ⟨w.heap.size + 2, 0, none⟩ = some (.int .i64 last) := hg1.cell (by simp [go_sem]) (by simp)
      have HG := hid ((((grown_alloc w (.cells #[.int .i64 f, .int .i64 e] 24) none).trans (grown_alloc _ (.cells #[.int .i64 g, .int .i64 d] 24) none)).trans (grown_alloc _ (.cells #[.int .i64 last] 3) none)).trans hg1)
      clear hg1
      go_wp2_with fail
      refine (implSignalOk_any _ _ _ _).mono ?_
      rintro r w2 ⟨rfl, hg1⟩
      have HG := hid (HG.out.trans hg1)
      clear hg1
      go_wp2
      go_ret3
      exact ⟨congrArg Ending.returned HM.out.symm, HG.out⟩
  · have h1' : sigOk f e last = false := by simpa using h1
    have HM := hid (meetVal_none (f := f) (e := e) (g := g) (d := d) (last := last) (by rw [h1']; rfl))
    go_enter Try.func24, Try.ntmps24
    go_wp2_with fail
    refine (implSignalOk_any _ _ _ _).mono ?_
    rintro r w1 ⟨rfl, hg1⟩
    have HG := hid ((((grown_alloc w (.cells #[.int .i64 f, .int .i64 e] 24) none).trans (grown_alloc _ (.cells #[.int .i64 g, .int .i64 d] 24) none)).trans (grown_alloc _ (.cells #[.int .i64 last] 3) none)).trans hg1)
    clear hg1
    go_wp2
    go_ret3
    exact ⟨congrArg Ending.returned HM.out.symm, HG.out⟩
end Go.Proofs.Ytajjmhfbdknlfaa
