/-
  The walk of the model's MeetAt. No statement is proved here.
-/
import Derived.Test.YtajjmhfbdknlfaaC2p
import Derived.Deep.RegionWith
import Derived.BigRegion
import Derived.OwnWalk
namespace Go.Proofs.Ytajjmhfbdknlfaa
open Go.RowKit
set_option linter.unusedVariables false
set_option linter.unusedSimpArgs false

/-- What MeetAt answers. -/
def meetVal (f e g d last : Int) : Value := match meetOut f e g d last with
  | some m => .tuple #[.int .i64 m, .int .i64 (at2 f e last m), .bool true]
  | none => .tuple #[.int .i64 (-1), .int .i64 (-1), .bool false]

theorem firstAt_upTo {P : Nat → Bool} {n : Nat} (h : ∀ j, j < n → P j = false) : firstAt P n 0 = none := firstAt_none fun j _ hj => h j (by omega)
theorem meetVal_at {f e g d last : Int} {m : Nat} (h1 : sigOk f e last = true) (h2 : sigOk g d last = true) (hm : m ≤ 2000) (h3 : at2 f e last m = at2 g d last m) (h4 : ∀ j : Nat, j < m → at2 f e last j ≠ at2 g d last j) :
    meetVal f e g d last = .tuple #[.int .i64 m, .int .i64 (at2 f e last m), .bool true] := by
  have : meetOut f e g d last = some m := by
    unfold meetOut
    rw [h1, h2]
    exact firstAt_some (Nat.zero_le _) (by omega) (fun j _ hj => by simpa using h4 j hj) (by simpa using h3)
  unfold meetVal
  rw [this]
theorem meetVal_never {f e g d last : Int} (h : ∀ j : Nat, j < 2001 → at2 f e last j ≠ at2 g d last j) : meetVal f e g d last = .tuple #[.int .i64 (-1), .int .i64 (-1), .bool false] := by
  have : meetOut f e g d last = none := by
    unfold meetOut
    split
    · exact firstAt_none (fun j _ hj => by simpa using h j (by omega))
    · rfl
  unfold meetVal
  rw [this]
theorem meetVal_none {f e g d last : Int} (h : (sigOk f e last && sigOk g d last) = false) : meetVal f e g d last = .tuple #[.int .i64 (-1), .int .i64 (-1), .bool false] := by
  unfold meetVal meetOut
  rw [h]
  rfl

/-- Two boxed signals in a later world. -/
structure Two (w wr : World) (f e g d : Int) : Prop where
  a0 : wr.cell? ⟨w.heap.size, 0, none⟩ = some (.int .i64 f)
  a1 : wr.cell? ⟨w.heap.size, 1, none⟩ = some (.int .i64 e)
  b0 : wr.cell? ⟨w.heap.size + 1, 0, none⟩ = some (.int .i64 g)
  b1 : wr.cell? ⟨w.heap.size + 1, 1, none⟩ = some (.int .i64 d)
  hg : w.grownBy wr none
theorem Two.on {w w1 w2 : World} {f e g d : Int} (h : Two w w1 f e g d) (hg : w1.grownBy w2 none) : Two w w2 f e g d :=
  ⟨hg.cell h.a0 (by simp), hg.cell h.a1 (by simp), hg.cell h.b0 (by simp), hg.cell h.b1 (by simp), h.hg.trans hg⟩
theorem drew_grown (w : World) : w.grownBy w.drew none := ⟨rfl, rfl, rfl, Nat.le_refl _, fun _ _ _ => rfl⟩

set_option maxHeartbeats 3200000 in
theorem specMeetAt_any (f e g d last : Int) (w : World) :
    Calls Try.prog 25 #[sig f e, sig g d, .int .i64 last] w fun r w' => r = .returned (meetVal f e g d last) ∧ w.grownBy w' none := by
  go_enter Try.func25, Try.ntmps25
  go_wp2
  go_loopw [9] (fun i wr => ∃ k : Nat, i = .int .i64 k ∧ k ≤ 2001 ∧ Hid (∀ j : Nat, j < k → at2 f e last j ≠ at2 g d last j) ∧ Two w wr f e g d) (fun i _ => 2001 - (intOf i).toNat)
  case atStart => exact ⟨0, rfl, Nat.zero_le _, hid (fun j hj => by omega), by simp, by simp, by simp, by simp, (grown_alloc _ _ _).trans (grown_alloc _ _ _)⟩
  case round =>
    obtain ⟨k, rfl, hk, HJ, H2⟩ := hrel
    have K2 := hid H2
    obtain ⟨a0, a1, b0, b1, hg⟩ := H2
    have HG := hid hg; clear hg
    by_cases hlt : k < 2001
    · by_cases h1 : sigOk f e last = true
      · by_cases h2 : sigOk g d last = true
        · go_wp2_with fail
          refine (specSignalOk_any _ _ _ _).mono ?_
          rintro r w1 ⟨rfl, hg1⟩
          have K3 := hid (K2.out.on hg1)
          obtain ⟨a0, a1, b0, b1, hg⟩ := K3.out
          clear hg1 hg
          go_wp2_with fail
          refine (specSignalOk_any _ _ _ _).mono ?_
          rintro r w2 ⟨rfl, hg1⟩
          have K4 := hid (K3.out.on hg1)
          obtain ⟨a0, a1, b0, b1, hg⟩ := K4.out
          clear hg1 hg
          have CF := hid (fun W : World => l2At_any f e last k W h1 (by omega) (by omega))
          have CG := hid (fun W : World => l2At_any g d last k W h2 (by omega) (by omega))
          by_cases hq : at2 f e last k = at2 g d last k
          · have HM : Hid (meetVal f e g d last = .tuple #[.int .i64 k, .int .i64 (at2 g d last k), .bool true]) := hid (by rw [← hq]; exact meetVal_at h1 h2 (by omega) hq HJ.out)
            go_wp2
            go_region_with (first | (go_at_call 43; with_reducible refine Calls.mono (CF.out _) ?_; rintro r w3 ⟨rfl, hg3⟩; have K5 := hid (K4.out.on ((drew_grown _).trans hg3)); obtain ⟨a0, a1, b0, b1, hg⟩ := K5.out; clear hg3 hg) | (go_at_call 43; with_reducible refine Calls.mono (CG.out _) ?_; rintro r w4 ⟨rfl, hg3⟩; have K6 := hid (K5.out.on hg3); obtain ⟨a0, a1, b0, b1, hg⟩ := K6.out; clear hg3 hg))
            all_goals
              go_wp2_with fail
              with_reducible refine Calls.mono (CF.out _) ?_
              rintro r w5 ⟨rfl, hg3⟩
              have HW := hid (K6.out.hg.trans hg3)
              go_wp2
              go_ret3
              exact ⟨congrArg Ending.returned HM.out.symm, HW.out⟩
          · have hq' : decide (at2 f e last k = at2 g d last k) = false := by simpa using hq
            go_wp2
            go_region_with (first | (go_at_call 43; with_reducible refine Calls.mono (CF.out _) ?_; rintro r w3 ⟨rfl, hg3⟩; have K5 := hid (K4.out.on ((drew_grown _).trans hg3)); obtain ⟨a0, a1, b0, b1, hg⟩ := K5.out; clear hg3 hg) | (go_at_call 43; with_reducible refine Calls.mono (CG.out _) ?_; rintro r w4 ⟨rfl, hg3⟩; have K6 := hid (K5.out.on hg3); obtain ⟨a0, a1, b0, b1, hg⟩ := K6.out; clear hg3 hg))
            all_goals
              go_wp2
              go_roundw
              case rel => exact ⟨k + 1, by go_num, by omega, hid (fun j hj => by
                rcases Nat.lt_or_eq_of_le (Nat.le_of_lt_succ hj) with h | rfl
                · exact HJ.out j h
                · exact hq), K6.out⟩
              case measure => simp [intOf]; omega
        · have HM := hid (meetVal_none (f := f) (e := e) (g := g) (d := d) (last := last) (by rw [h1]; simpa using h2))
          have h2' : sigOk g d last = false := by simpa using h2
          go_wp2_with fail
          refine (specSignalOk_any _ _ _ _).mono ?_
          rintro r w1 ⟨rfl, hg1⟩
          have K3 := hid (K2.out.on hg1)
          obtain ⟨a0, a1, b0, b1, hg⟩ := K3.out
          clear hg1 hg
          go_wp2_with fail
          refine (specSignalOk_any _ _ _ _).mono ?_
          rintro r w2 ⟨rfl, hg1⟩
          have HW := hid (K3.out.hg.trans hg1)
          go_wp2
          go_ret3
          exact ⟨congrArg Ending.returned HM.out.symm, HW.out⟩
      · have h1' : sigOk f e last = false := by simpa using h1
        have HM := hid (meetVal_none (f := f) (e := e) (g := g) (d := d) (last := last) (by rw [h1']; rfl))
        go_wp2_with fail
        refine (specSignalOk_any _ _ _ _).mono ?_
        rintro r w1 ⟨rfl, hg1⟩
        have HW := hid (K2.out.hg.trans hg1)
        go_wp2
        go_ret3
        exact ⟨congrArg Ending.returned HM.out.symm, HW.out⟩
    · obtain rfl : k = 2001 := by omega
      have HM := hid (meetVal_never HJ.out)
      have HW := hid K2.out.hg
      go_wp2
      go_ret3
      exact ⟨congrArg Ending.returned HM.out.symm, HW.out⟩
end Go.Proofs.Ytajjmhfbdknlfaa
