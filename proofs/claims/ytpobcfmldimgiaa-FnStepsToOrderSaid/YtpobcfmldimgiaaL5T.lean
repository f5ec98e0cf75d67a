/-
  The walk of laws.FnStepsToOrder, written by program (law5.py). No statement is proved here.
-/
import Derived.Test.YtpobcfmldimgiaaC5a
import Derived.Test.YtpobcfmldimgiaaC5i
import Derived.Test.YtpobcfmldimgiaaDr9
namespace Go.Proofs.Ytpobcfmldimgiaa
open Go.RowKit
set_option linter.unusedVariables false
set_option linter.unusedSimpArgs false

set_option maxRecDepth 100000 in
set_option maxHeartbeats 6400000 in
theorem fnStepsToOrder_walk (A : Option Addr) (n c : Nat) (w : World) (hs : By w w.heap.size A n) (hc : n ≤ c) :
    Calls Try.prog 7 #[.slice A n c] w fun e w' => e = .returned (.bool true) ∧ Below w.heap.size w w' := by
  have hm : n ≤ 9223372036854775807 := hs.1
  by_cases hbig : 1048576 < n
  · go_enter Try.func7, Try.ntmps7
    go_wp2
    go_ret
    exact ⟨rfl, Below.refl _ _⟩
  go_enter Try.func7, Try.ntmps7
  go_wp2_with fail
  refine (drawStepsToOrder_any A n c _ hs hc).mono ?_
  rintro e w1 ⟨A1, n1, c1, l1, rfl, o1, hn1, hb1⟩
  have HB := hid hb1
  clear hs hc hb1 hbig hm
  replace o1 := own_mono (base' := 0) o1 (Nat.zero_le _)
  have HL := hid (show l1.length = n1 from by have := o1.1; simpa using this)
  have CI := hid (fun (W : World) (hs : Sl W W.heap.size A1 n1 l1) => implStepsToOrder_any A1 n1 c1 l1 W hs)
  have CS := hid (fun (W : World) (hs : Sl W W.heap.size A1 n1 l1) => specStepsToOrder_any A1 n1 c1 l1 W hs)
  cases hk : keptOk l1 with
  | false =>
    rw [stepsOut_no hk] at CI CS
    clear hk
    go_wp2_with fail
    with_reducible refine Calls.mono (CI.out _ (Sl.of_own o1)) ?_
    rintro e w2 ⟨rfl, st2⟩
    replace o1 := own_on o1 st2
    replace HB := hid (HB.out.trans (st2.mono HB.out.size))
    clear st2
    go_wp2_with fail
    with_reducible refine Calls.mono (CS.out _ (Sl.of_own o1)) ?_
    rintro e w3 ⟨rfl, st3⟩
    replace o1 := own_on o1 st3
    replace HB := hid (HB.out.trans (st3.mono HB.out.size))
    clear st3
    go_wp2_with fail
    refine (alive_any _).mono ?_
    rintro e w4 ⟨rfl, st4⟩
    replace o1 := own_on o1 st4
    replace HB := hid (HB.out.trans (st4.mono HB.out.size))
    clear st4
    go_wp2
    go_ret
    exact ⟨rfl, HB.out⟩
  | true =>
    obtain ⟨S, _, hS1, hS2, hS3⟩ := steps_have hk
    have hk2 := (keptOk_iff.1 hk).2
    rw [HL.out] at hS1 hk2
    rw [stepsOut_at hk (by omega) hS2 hS3] at CI CS
    have CA := hid (fun (W : World) (hs : Sl W W.heap.size A1 n1 l1) => implAfterSteps_any A1 n1 c1 l1 (S : Int) W hs)
    rw [show afterOut l1 (S : Int) = afterS ltZ l1 S from by rw [afterOut_yes hk (within_iff.2 (by omega)), Int.toNat_natCast]] at CA
    have ho : orderOk (afterS ltZ l1 S) = true := by unfold orderOk; rw [hS3, kept_after hk S]; rfl
    have hle : (S : Int) ≤ (n1 : Int) := by omega
    by_cases h0 : S = 0
    · subst h0
      clear hS2 hS3 hk
      go_wp2_with fail
      with_reducible refine Calls.mono (CI.out _ (Sl.of_own o1)) ?_
      rintro e w2 ⟨rfl, st2⟩
      replace o1 := own_on o1 st2
      replace HB := hid (HB.out.trans (st2.mono HB.out.size))
      clear st2
      go_wp2_with fail
      with_reducible refine Calls.mono (CS.out _ (Sl.of_own o1)) ?_
      rintro e w3 ⟨rfl, st3⟩
      replace o1 := own_on o1 st3
      replace HB := hid (HB.out.trans (st3.mono HB.out.size))
      clear st3
      go_wp2_with fail
      with_reducible refine Calls.mono (CA.out _ (Sl.of_own o1)) ?_
      rintro e w4 ⟨AP, nP, cP, rfl, oP, hnP, st4⟩
      replace o1 := own_on o1 st4
      replace HB := hid (HB.out.trans (st4.mono HB.out.size))
      clear st4
      replace oP := own_mono (base' := 0) oP (Nat.zero_le _)
      go_wp2_with fail
      with_reducible refine Calls.mono (implInOrderOk_any AP nP cP _ _ (Sl.of_own oP)) ?_
      rintro e w5 ⟨rfl, st5⟩
      replace o1 := own_on o1 st5
      replace oP := own_on oP st5
      replace HB := hid (HB.out.trans (st5.mono HB.out.size))
      clear st5
      rw [ho]
      clear oP
      go_wp2_with fail
      refine (alive_any _).mono ?_
      rintro e w6 ⟨rfl, st6⟩
      replace o1 := own_on o1 st6
      replace HB := hid (HB.out.trans (st6.mono HB.out.size))
      clear st6
      go_wp2
      go_ret
      exact ⟨rfl, HB.out⟩
    · obtain ⟨T, rfl⟩ : ∃ T, S = T + 1 := ⟨S - 1, by omega⟩
      have CB := hid (fun (W : World) (hs : Sl W W.heap.size A1 n1 l1) => implAfterSteps_any A1 n1 c1 l1 (T : Int) W hs)
      rw [show afterOut l1 (T : Int) = afterS ltZ l1 T from by rw [afterOut_yes hk (within_iff.2 (by omega)), Int.toNat_natCast]] at CB
      have ho2 : orderOk (afterS ltZ l1 T) = false := by unfold orderOk; rw [hS2 T (by omega)]; rfl
      have hz1 : decide ((T : Int) + 1 = 0) = false := by simp; omega
      have hz2 : ((T : Int) + 1 == 0) = false := by simp; omega
      rw [show ((T + 1 : Nat) : Int) = (T : Int) + 1 from by omega] at CA CI CS hle
      clear hS2 hS3 hk h0
      go_wp2_with fail
      with_reducible refine Calls.mono (CI.out _ (Sl.of_own o1)) ?_
      rintro e w2 ⟨rfl, st2⟩
      replace o1 := own_on o1 st2
      replace HB := hid (HB.out.trans (st2.mono HB.out.size))
      clear st2
      go_wp2_with fail
      with_reducible refine Calls.mono (CS.out _ (Sl.of_own o1)) ?_
      rintro e w3 ⟨rfl, st3⟩
      replace o1 := own_on o1 st3
      replace HB := hid (HB.out.trans (st3.mono HB.out.size))
      clear st3
      go_wp2_with fail
      with_reducible refine Calls.mono (CA.out _ (Sl.of_own o1)) ?_
      rintro e w4 ⟨AP, nP, cP, rfl, oP, hnP, st4⟩
      replace o1 := own_on o1 st4
      replace HB := hid (HB.out.trans (st4.mono HB.out.size))
      clear st4
      replace oP := own_mono (base' := 0) oP (Nat.zero_le _)
      go_wp2_with fail
      with_reducible refine Calls.mono (implInOrderOk_any AP nP cP _ _ (Sl.of_own oP)) ?_
      rintro e w5 ⟨rfl, st5⟩
      replace o1 := own_on o1 st5
      replace oP := own_on oP st5
      replace HB := hid (HB.out.trans (st5.mono HB.out.size))
      clear st5
      rw [ho]
      clear oP
      go_wp2_with fail
      with_reducible refine Calls.mono (CB.out _ (Sl.of_own o1)) ?_
      rintro e w6 ⟨AQ, nQ, cQ, rfl, oQ, hnQ, st6⟩
      replace o1 := own_on o1 st6
      replace HB := hid (HB.out.trans (st6.mono HB.out.size))
      clear st6
      replace oQ := own_mono (base' := 0) oQ (Nat.zero_le _)
      go_wp2_with fail
      with_reducible refine Calls.mono (implInOrderOk_any AQ nQ cQ _ _ (Sl.of_own oQ)) ?_
      rintro e w7 ⟨rfl, st7⟩
      replace o1 := own_on o1 st7
      replace oQ := own_on oQ st7
      replace HB := hid (HB.out.trans (st7.mono HB.out.size))
      clear st7
      rw [ho2]
      clear oQ
      go_wp2_with fail
      refine (alive_any _).mono ?_
      rintro e w8 ⟨rfl, st8⟩
      replace o1 := own_on o1 st8
      replace HB := hid (HB.out.trans (st8.mono HB.out.size))
      clear st8
      go_wp2
      go_ret
      exact ⟨rfl, HB.out⟩
end Go.Proofs.Ytpobcfmldimgiaa
