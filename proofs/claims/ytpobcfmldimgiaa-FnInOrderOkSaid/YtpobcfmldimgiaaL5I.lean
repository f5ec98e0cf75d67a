/-
  The walk of laws.FnInOrderOk, written by program (law5.py). No statement is proved here.
-/
import Derived.Test.YtpobcfmldimgiaaC5a
import Derived.Test.YtpobcfmldimgiaaC5i
import Derived.Test.YtpobcfmldimgiaaDr9
import Derived.Test.YtpobcfmldimgiaaExS
namespace Go.Proofs.Ytpobcfmldimgiaa
open Go.RowKit
set_option linter.unusedVariables false
set_option linter.unusedSimpArgs false

set_option maxRecDepth 100000 in
set_option maxHeartbeats 6400000 in
theorem fnInOrderOk_walk (A : Option Addr) (n c : Nat) (w : World) (hs : By w w.heap.size A n) (hc : n ≤ c) :
    Calls Try.prog 6 #[.slice A n c] w fun e w' => e = .returned (.bool true) ∧ Below w.heap.size w w' := by
  have hm : n ≤ 9223372036854775807 := hs.1
  by_cases hbig : 1048576 < n
  · go_enter Try.func6, Try.ntmps6
    go_wp2
    go_ret
    exact ⟨rfl, Below.refl _ _⟩
  go_enter Try.func6, Try.ntmps6
  go_wp2_with fail
  refine (drawInOrderOk_any A n c _ hs hc).mono ?_
  rintro e w1 ⟨A1, n1, c1, l1, rfl, o1, hn1, hb1⟩
  have HB := hid hb1
  clear hs hc hb1 hbig hm
  replace o1 := own_mono (base' := 0) o1 (Nat.zero_le _)
  have CI := hid (fun (W : World) (hs : Sl W W.heap.size A1 n1 l1) => implInOrderOk_any A1 n1 c1 l1 W hs)
  have CS := hid (fun (W : World) (hs : Sl W W.heap.size A1 n1 l1) => specInOrderOk_any A1 n1 c1 l1 W hs)
  have CK := hid (fun (W : World) (B : Nat) (hs : Sl W B A1 n1 l1) => specKeptOk_any A1 n1 c1 l1 W B hs)
  have hcap := own_caps o1
  have CA := hid (fun (W : World) (hs : Sl W W.heap.size A1 n1 l1) => implAstrayOf_any A1 n1 c1 l1 W hs hcap.1 hcap.2)
  clear hcap
  have C0 := hid (fun (W : World) (hs : Sl W W.heap.size A1 n1 l1) => implSwappedAt_any A1 n1 c1 l1 0 W hs)
  have C1 := hid (fun (W : World) (hs : Sl W W.heap.size A1 n1 l1) => implSwappedAt_any A1 n1 c1 l1 1 W hs)
  cases hk : keptOk l1 with
  | false =>
    have ho : orderOk l1 = false := by unfold orderOk; rw [hk, Bool.and_false]
    rw [ho] at CI CS
    rw [hk] at CK
    clear hk ho
    go_wp2_with fail
    with_reducible refine Calls.mono (CI.out _ (Sl.of_own o1)) ?_
    rintro e w2 ⟨rfl, st2⟩
    replace o1 := own_on o1 st2
    replace HB := hid (HB.out.trans (st2.mono HB.out.size))
    clear st2
    go_wp2_with fail
    with_reducible refine Calls.mono (CS.out _ (Sl.of_own o1)) ?_
    rintro e w3 ⟨rfl, st3⟩
    replace st3 := below_grown st3
    replace o1 := own_on o1 st3
    replace HB := hid (HB.out.trans (st3.mono HB.out.size))
    clear st3
    go_wp2_with fail
    with_reducible refine Calls.mono (CK.out _ _ (Sl.of_own o1)) ?_
    rintro e w' ⟨rfl, rfl⟩
    go_wp2_with fail
    refine (alive_any _).mono ?_
    rintro e w4 ⟨rfl, st4⟩
    replace o1 := own_on o1 st4
    replace HB := hid (HB.out.trans (st4.mono HB.out.size))
    clear st4
    go_wp2
    go_ret
    exact ⟨rfl, HB.out⟩
  | true =>
    have hA : astrayOut l1 = astray l1 := by unfold astrayOut; rw [if_pos hk]
    have h0 : swapOut l1 0 = stepS ltZ 0 l1 := swapOut_yes hk rfl
    have h1 : swapOut l1 1 = stepS ltZ 1 l1 := swapOut_yes hk rfl
    rw [hA] at CA
    rw [h0] at C0
    rw [h1] at C1
    rw [hk] at CK
    clear hA h0 h1
    cases ho : ordS ltZ l1 with
    | true =>
      have hoo : orderOk l1 = true := by unfold orderOk; rw [ho, hk]; rfl
      rw [(astray_zero l1).2 ho] at CA
      rw [ordS_step 0 ho] at C0
      rw [ordS_step 1 ho] at C1
      rw [hoo] at CI CS
      clear ho hoo hk
      go_wp2_with fail
      with_reducible refine Calls.mono (CI.out _ (Sl.of_own o1)) ?_
      rintro e w2 ⟨rfl, st2⟩
      replace o1 := own_on o1 st2
      replace HB := hid (HB.out.trans (st2.mono HB.out.size))
      clear st2
      go_wp2_with fail
      with_reducible refine Calls.mono (CS.out _ (Sl.of_own o1)) ?_
      rintro e w3 ⟨rfl, st3⟩
      replace st3 := below_grown st3
      replace o1 := own_on o1 st3
      replace HB := hid (HB.out.trans (st3.mono HB.out.size))
      clear st3
      go_wp2_with fail
      with_reducible refine Calls.mono (CK.out _ _ (Sl.of_own o1)) ?_
      rintro e w' ⟨rfl, rfl⟩
      go_wp2_with fail
      with_reducible refine Calls.mono (CA.out _ (Sl.of_own o1)) ?_
      rintro e w4 ⟨rfl, st4⟩
      replace o1 := own_on o1 st4
      replace HB := hid (HB.out.trans (st4.mono HB.out.size))
      clear st4
      go_wp2_with fail
      with_reducible refine Calls.mono (C0.out _ (Sl.of_own o1)) ?_
      rintro e w5 ⟨AP, nP, cP, rfl, oP, hnP, st5⟩
      replace o1 := own_on o1 st5
      replace HB := hid (HB.out.trans (st5.mono HB.out.size))
      clear st5
      replace oP := own_mono (base' := 0) oP (Nat.zero_le _)
      go_wp2_with fail
      refine (sameInts_b _ _ _ _ _ _ _ _ _ _ _ (Sl.of_own oP) (Sl.of_own o1)).mono ?_
      rintro e w6 ⟨rfl, st6⟩
      rw [decide_eq_true rfl]
      replace o1 := own_on o1 st6
      replace oP := own_on oP st6
      replace HB := hid (HB.out.trans (st6.mono HB.out.size))
      clear st6
      clear oP
      go_wp2_with fail
      with_reducible refine Calls.mono (C1.out _ (Sl.of_own o1)) ?_
      rintro e w7 ⟨AQ, nQ, cQ, rfl, oQ, hnQ, st7⟩
      replace o1 := own_on o1 st7
      replace HB := hid (HB.out.trans (st7.mono HB.out.size))
      clear st7
      replace oQ := own_mono (base' := 0) oQ (Nat.zero_le _)
      go_wp2_with fail
      refine (sameInts_b _ _ _ _ _ _ _ _ _ _ _ (Sl.of_own oQ) (Sl.of_own o1)).mono ?_
      rintro e w8 ⟨rfl, st8⟩
      rw [decide_eq_true rfl]
      replace o1 := own_on o1 st8
      replace oQ := own_on oQ st8
      replace HB := hid (HB.out.trans (st8.mono HB.out.size))
      clear st8
      clear oQ
      go_wp2
      go_ret
      exact ⟨rfl, HB.out⟩
    | false =>
      have hoo : orderOk l1 = false := by unfold orderOk; rw [ho]; rfl
      have hne : astray l1 ≠ 0 := fun h => by rw [(astray_zero l1).1 h] at ho; cases ho
      have hst : stepS ltZ 0 l1 = l1 → stepS ltZ 1 l1 ≠ l1 := fun h h' => by rw [ord_of_steps (lt := ltZ) (fun a b h => by simp [ltZ] at *; omega) 0 h h'] at ho; cases ho
      rw [hoo] at CI CS
      obtain ⟨a, ha⟩ : ∃ a, astray l1 = a := ⟨_, rfl⟩
      rw [ha] at CA hne
      have hn1 : ((a : Int) == 0) = false := by simp; omega
      have hn2 : decide ((a : Int) = 0) = false := by simp; omega
      clear ho hoo hk ha hne
      go_wp2_with fail
      with_reducible refine Calls.mono (CI.out _ (Sl.of_own o1)) ?_
      rintro e w2 ⟨rfl, st2⟩
      replace o1 := own_on o1 st2
      replace HB := hid (HB.out.trans (st2.mono HB.out.size))
      clear st2
      go_wp2_with fail
      with_reducible refine Calls.mono (CS.out _ (Sl.of_own o1)) ?_
      rintro e w3 ⟨rfl, st3⟩
      replace st3 := below_grown st3
      replace o1 := own_on o1 st3
      replace HB := hid (HB.out.trans (st3.mono HB.out.size))
      clear st3
      go_wp2_with fail
      with_reducible refine Calls.mono (CK.out _ _ (Sl.of_own o1)) ?_
      rintro e w' ⟨rfl, rfl⟩
      go_wp2_with fail
      with_reducible refine Calls.mono (CA.out _ (Sl.of_own o1)) ?_
      rintro e w4 ⟨rfl, st4⟩
      replace o1 := own_on o1 st4
      replace HB := hid (HB.out.trans (st4.mono HB.out.size))
      clear st4
      go_wp2_with fail
      with_reducible refine Calls.mono (C0.out _ (Sl.of_own o1)) ?_
      rintro e w5 ⟨AP, nP, cP, rfl, oP, hnP, st5⟩
      replace o1 := own_on o1 st5
      replace HB := hid (HB.out.trans (st5.mono HB.out.size))
      clear st5
      replace oP := own_mono (base' := 0) oP (Nat.zero_le _)
      by_cases h0 : stepS ltZ 0 l1 = l1
      · have h1 := hst h0
        clear hst
        go_wp2_with fail
        refine (sameInts_b _ _ _ _ _ _ _ _ _ _ _ (Sl.of_own oP) (Sl.of_own o1)).mono ?_
        rintro e w6 ⟨rfl, st6⟩
        rw [decide_eq_true h0]
        replace o1 := own_on o1 st6
        replace oP := own_on oP st6
        replace HB := hid (HB.out.trans (st6.mono HB.out.size))
        clear st6
        clear oP
        clear h0
        go_wp2_with fail
        with_reducible refine Calls.mono (C1.out _ (Sl.of_own o1)) ?_
        rintro e w7 ⟨AQ, nQ, cQ, rfl, oQ, hnQ, st7⟩
        replace o1 := own_on o1 st7
        replace HB := hid (HB.out.trans (st7.mono HB.out.size))
        clear st7
        replace oQ := own_mono (base' := 0) oQ (Nat.zero_le _)
        go_wp2_with fail
        refine (sameInts_b _ _ _ _ _ _ _ _ _ _ _ (Sl.of_own oQ) (Sl.of_own o1)).mono ?_
        rintro e w8 ⟨rfl, st8⟩
        rw [decide_eq_false h1]
        replace o1 := own_on o1 st8
        replace oQ := own_on oQ st8
        replace HB := hid (HB.out.trans (st8.mono HB.out.size))
        clear st8
        clear oQ
        go_wp2
        go_ret
        exact ⟨rfl, HB.out⟩
      · clear hst
        go_wp2_with fail
        refine (sameInts_b _ _ _ _ _ _ _ _ _ _ _ (Sl.of_own oP) (Sl.of_own o1)).mono ?_
        rintro e w6 ⟨rfl, st6⟩
        rw [decide_eq_false h0]
        replace o1 := own_on o1 st6
        replace oP := own_on oP st6
        replace HB := hid (HB.out.trans (st6.mono HB.out.size))
        clear st6
        clear oP
        go_wp2
        go_ret
        exact ⟨rfl, HB.out⟩
end Go.Proofs.Ytpobcfmldimgiaa
