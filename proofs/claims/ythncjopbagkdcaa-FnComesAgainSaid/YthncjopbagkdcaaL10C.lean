/-
  The walk of laws.FnComesAgain, written by program (law10.py). No statement is proved here.
-/
import Derived.Test.YthncjopbagkdcaaC10c
import Derived.Test.YthncjopbagkdcaaC10d
import Derived.Test.YthncjopbagkdcaaC10i
import Derived.Test.YthncjopbagkdcaaDrX
import Derived.Test.YthncjopbagkdcaaExS
import Derived.Test.YthncjopbagkdcaaC1a
import Derived.IntWalk
import Derived.Deep.RegionHeld3
import Derived.BigQuiet
import Derived.Deep.QuietTactic
namespace Go.Proofs.Ythncjopbagkdcaa
open Go.RowKit
set_option linter.unusedVariables false
set_option linter.unusedSimpArgs false

set_option maxRecDepth 100000 in
set_option maxHeartbeats 6400000 in
theorem fnComesAgain_walk (A : Option Addr) (n c : Nat) (w : World) (hs : By w w.heap.size A n) (hc : n ≤ c) :
    Calls Try.prog 7 #[.slice A n c] w fun e w' => e = .returned (.bool true) ∧ Below w.heap.size w w' := by
  have hm : n ≤ 9223372036854775807 := hs.1
  by_cases hbig : 1048576 < n
  · go_enter Try.func7, Try.ntmps7
    go_wp2
    go_ret
    exact ⟨rfl, Below.refl _ _⟩
  go_enter Try.func7, Try.ntmps7
  go_wp2_with fail
  refine (drawComesAgain_any A n c _ hs hc).mono ?_
  rintro e w1 ⟨A1, n1, c1, l1, rfl, s1, hn1, hb1⟩
  have HB := hid hb1
  clear hs hc hb1 hbig hm
  have hl1 := s1.len
  have CI := hid (fun (W : World) (hs : Sl W W.heap.size A1 n1 l1) => implComesAgain_any A1 n1 c1 l1 W hs)
  have CS := hid (fun (W : World) (hs : Sl W W.heap.size A1 n1 l1) => specComesOut_any A1 n1 c1 l1 W hs)
  have CF := hid (fun (F : Nat) (W : World) (hs : Sl W W.heap.size A1 n1 l1) => implSummedAfter_any A1 n1 c1 l1 (F : Int) W hs)
  cases hk : bitsOk l1 with
  | false =>
    rw [show comesOut l1 = .tuple #[.int .i64 (-1), .int .i64 (-1), .bool false] from by unfold comesOut; rw [hk, (comes_no hk).1, (comes_no hk).2]] at CI CS
    clear hk CF
    go_wp2_with fail
    with_reducible refine Calls.mono (CI.out _ s1) ?_
    rintro e w2 ⟨rfl, st2⟩
    replace s1 := s1.on st2
    replace HB := hid (HB.out.trans (st2.mono HB.out.size))
    clear st2
    go_wp2_with fail
    with_reducible refine Calls.mono (CS.out _ s1) ?_
    rintro e w3 ⟨rfl, st3⟩
    replace s1 := s1.on st3
    replace HB := hid (HB.out.trans (st3.mono HB.out.size))
    clear st3
    go_wp2_with fail
    refine (alive_any _).mono ?_
    rintro e w4 ⟨rfl, st4⟩
    replace s1 := s1.on st4
    replace HB := hid (HB.out.trans (st4.mono HB.out.size))
    clear st4
    go_wp2
    go_ret
    exact ⟨rfl, HB.out⟩
  | true =>
    obtain ⟨N, M, eN, eM, hag, hN16⟩ := comes_ex hk
    obtain ⟨_, h1, h2⟩ := bitsOk_iff.1 hk
    rw [show comesOut l1 = .tuple #[.int .i64 (N : Int), .int .i64 (M : Int), .bool true] from by unfold comesOut; rw [hk, eN, eM]] at CI CS
    have HFA := hid (fun (F : Nat) (hF : F ≤ 1000) => show sumAft l1 (F : Int) = sumI F l1 from by unfold sumAft; rw [if_pos (by rw [hk]; simp [within]; omega), Int.toNat_natCast])
    have HSE := hid hag.2.1
    have HOD := hid (show l1.length % 2 = 1 → M ≤ 1 from fun h => again_odd hk h hag)
    have HRS := hid (show (l1.length = 1 ∨ l1.length = 2 ∨ l1.length = 4 ∨ l1.length = 8) → onesOut (sumI ((l1.length + 1) / 2) l1) = 0 from fun h => by
      unfold onesOut; rw [if_pos (sumI_ok hk _), rest_1248 h]; rfl)
    have hMN := hag.1
    have HSL := hid (fun k => show (sumI k l1).length = n1 from by rw [sumI_len, hl1])
    rw [hl1] at h1 h2 HOD HRS
    clear hk hag eN eM hl1
    go_wp2_with fail
    with_reducible refine Calls.mono (CI.out _ s1) ?_
    rintro e w2 ⟨rfl, st2⟩
    replace s1 := s1.on st2
    replace HB := hid (HB.out.trans (st2.mono HB.out.size))
    clear st2
    go_wp2_with fail
    with_reducible refine Calls.mono (CS.out _ s1) ?_
    rintro e w3 ⟨rfl, st3⟩
    replace s1 := s1.on st3
    replace HB := hid (HB.out.trans (st3.mono HB.out.size))
    clear st3
    clear CI CS
    obtain ⟨Q, hQ⟩ : ∃ Q, (n1 + 1) / 2 = Q := ⟨_, rfl⟩
    rw [hQ] at HRS
    have wQ : IntKind.i64.wrap ((n1 : Int) + 1) = (n1 : Int) + 1 := IntWalk.i64_in _ (by omega)
    have mQ : ((n1 : Int) + 1).tdiv 2 = (Q : Int) := by rw [Int.tdiv_eq_ediv_of_nonneg (by omega), ← hQ]; omega
    have wQ2 : IntKind.i64.wrap (Q : Int) = (Q : Int) := IntWalk.i64_in _ (by omega)
    obtain ⟨R, hR⟩ : ∃ R, n1 % 2 = R := ⟨_, rfl⟩
    have mR : (n1 : Int).tmod 2 = (R : Int) := by rw [Int.tmod_eq_emod_of_nonneg (by omega), ← hR]; omega
    have wR : IntKind.i64.wrap (R : Int) = (R : Int) := IntWalk.i64_in _ (by omega)
    have hmn : (M : Int) < (N : Int) := by omega
    have hm0 : (0 : Int) ≤ (M : Int) := by omega
    have hnb : (N : Int) ≤ 65536 := by omega
    have hnn1 : ((N : Int) != (N : Int)) = false := by simp
    have hmm1 : ((M : Int) != (M : Int)) = false := by simp
    have hRR : R = 0 ∨ R = 1 := by omega
    rw [hR] at HOD
    have hQ9 : Q ≤ 9 := by omega
    have CQ := hid (CF.out Q)
    rw [HFA.out Q (by omega)] at CQ
    clear hQ hR
    by_cases hs : n1 = 1 ∨ n1 = 2 ∨ n1 = 4 ∨ n1 = 8
    · have HR0 := hid (HRS.out hs)
      have HSS := hid hs
      clear hs HRS
      rcases HSS.out with hv | hv | hv | hv
      · have e0 : ((n1 : Int) == 1) = true := by simp; omega
        clear hv HSS
        go_wp2_with fail
        refine (CQ.out _ s1).mono ?_
        rintro e w4 ⟨Aq, nq, cq, rfl, oq, hnq, st4⟩
        replace s1 := s1.on st4
        replace HB := hid (HB.out.trans (st4.mono HB.out.size))
        clear st4
        replace oq := own_mono (base' := 0) oq (Nat.zero_le _)
        have CO := hid (fun (W : World) (hs : Sl W W.heap.size Aq nq (sumI Q l1)) => implOnesOf_any Aq nq cq (sumI Q l1) W hs)
        rw [HR0.out] at CO
        go_wp2_with fail
        with_reducible refine Calls.mono (CO.out _ (Sl.of_own oq)) ?_
        rintro e w5 ⟨rfl, st5⟩
        replace s1 := s1.on st5
        replace oq := own_on oq st5
        replace HB := hid (HB.out.trans (st5.mono HB.out.size))
        clear st5
        clear oq CO CQ
        rcases hRR with hR0 | hR1
        · subst hR0
          by_cases hN : N ≤ 1000
          · have hNi : decide ((1000 : Int) < (N : Int)) = false := by simp; omega
            have hNj : ¬ (1000 : Int) < (N : Int) := by omega
            have CN := hid (CF.out N)
            have CM := hid (CF.out M)
            rw [HFA.out N hN] at CN
            rw [HFA.out M (by omega), ← HSE.out] at CM
            go_wp2_with fail
            refine (CN.out _ s1).mono ?_
            rintro e w6 ⟨Ax, nx, cx, rfl, ox, hnx, st6⟩
            replace s1 := s1.on st6
            replace HB := hid (HB.out.trans (st6.mono HB.out.size))
            clear st6
            replace ox := own_mono (base' := 0) ox (Nat.zero_le _)
            go_wp2_with fail
            refine (CM.out _ s1).mono ?_
            rintro e w7 ⟨Ay, ny, cy, rfl, oy, hny, st7⟩
            replace s1 := s1.on st7
            replace ox := own_on ox st7
            replace HB := hid (HB.out.trans (st7.mono HB.out.size))
            clear st7
            replace oy := own_mono (base' := 0) oy (Nat.zero_le _)
            go_wp2_with fail
            refine (sameInts_b _ _ _ _ _ _ _ _ _ _ _ (Sl.of_own ox) (Sl.of_own oy)).mono ?_
            rintro e w8 ⟨rfl, st8⟩
            rw [decide_eq_true rfl]
            replace s1 := s1.on st8
            replace ox := own_on ox st8
            replace oy := own_on oy st8
            replace HB := hid (HB.out.trans (st8.mono HB.out.size))
            clear st8
            go_wp2_with fail
            refine (alive_any _).mono ?_
            rintro e w9 ⟨rfl, st9⟩
            replace s1 := s1.on st9
            replace ox := own_on ox st9
            replace oy := own_on oy st9
            replace HB := hid (HB.out.trans (st9.mono HB.out.size))
            clear st9
            go_wp2
            go_ret
            exact ⟨rfl, HB.out⟩
          · have hNi : decide ((1000 : Int) < (N : Int)) = true := by simp; omega
            have hNj : (1000 : Int) < (N : Int) := by omega
            go_wp2_with fail
            refine (alive_any _).mono ?_
            rintro e w6 ⟨rfl, st6⟩
            replace s1 := s1.on st6
            replace HB := hid (HB.out.trans (st6.mono HB.out.size))
            clear st6
            go_wp2
            go_ret
            exact ⟨rfl, HB.out⟩
        · have hM1 := HOD.out hR1
          subst hR1
          have hM1i : (M : Int) ≤ 1 := by omega
          by_cases hN : N ≤ 1000
          · have hNi : decide ((1000 : Int) < (N : Int)) = false := by simp; omega
            have hNj : ¬ (1000 : Int) < (N : Int) := by omega
            have CN := hid (CF.out N)
            have CM := hid (CF.out M)
            rw [HFA.out N hN] at CN
            rw [HFA.out M (by omega), ← HSE.out] at CM
            go_wp2_with fail
            refine (CN.out _ s1).mono ?_
            rintro e w6 ⟨Ax, nx, cx, rfl, ox, hnx, st6⟩
            replace s1 := s1.on st6
            replace HB := hid (HB.out.trans (st6.mono HB.out.size))
            clear st6
            replace ox := own_mono (base' := 0) ox (Nat.zero_le _)
            go_wp2_with fail
            refine (CM.out _ s1).mono ?_
            rintro e w7 ⟨Ay, ny, cy, rfl, oy, hny, st7⟩
            replace s1 := s1.on st7
            replace ox := own_on ox st7
            replace HB := hid (HB.out.trans (st7.mono HB.out.size))
            clear st7
            replace oy := own_mono (base' := 0) oy (Nat.zero_le _)
            go_wp2_with fail
            refine (sameInts_b _ _ _ _ _ _ _ _ _ _ _ (Sl.of_own ox) (Sl.of_own oy)).mono ?_
            rintro e w8 ⟨rfl, st8⟩
            rw [decide_eq_true rfl]
            replace s1 := s1.on st8
            replace ox := own_on ox st8
            replace oy := own_on oy st8
            replace HB := hid (HB.out.trans (st8.mono HB.out.size))
            clear st8
            go_wp2_with fail
            refine (alive_any _).mono ?_
            rintro e w9 ⟨rfl, st9⟩
            replace s1 := s1.on st9
            replace ox := own_on ox st9
            replace oy := own_on oy st9
            replace HB := hid (HB.out.trans (st9.mono HB.out.size))
            clear st9
            go_wp2
            go_ret
            exact ⟨rfl, HB.out⟩
          · have hNi : decide ((1000 : Int) < (N : Int)) = true := by simp; omega
            have hNj : (1000 : Int) < (N : Int) := by omega
            go_wp2_with fail
            refine (alive_any _).mono ?_
            rintro e w6 ⟨rfl, st6⟩
            replace s1 := s1.on st6
            replace HB := hid (HB.out.trans (st6.mono HB.out.size))
            clear st6
            go_wp2
            go_ret
            exact ⟨rfl, HB.out⟩
      · have e0 : ((n1 : Int) == 1) = false := by simp; omega
        have e1 : ((n1 : Int) == 2) = true := by simp; omega
        have f0 : ¬ (n1 : Int) = 1 := by omega
        clear hv HSS
        go_wp2_with fail
        refine (CQ.out _ s1).mono ?_
        rintro e w4 ⟨Aq, nq, cq, rfl, oq, hnq, st4⟩
        replace s1 := s1.on st4
        replace HB := hid (HB.out.trans (st4.mono HB.out.size))
        clear st4
        replace oq := own_mono (base' := 0) oq (Nat.zero_le _)
        have CO := hid (fun (W : World) (hs : Sl W W.heap.size Aq nq (sumI Q l1)) => implOnesOf_any Aq nq cq (sumI Q l1) W hs)
        rw [HR0.out] at CO
        go_wp2_with fail
        with_reducible refine Calls.mono (CO.out _ (Sl.of_own oq)) ?_
        rintro e w5 ⟨rfl, st5⟩
        replace s1 := s1.on st5
        replace oq := own_on oq st5
        replace HB := hid (HB.out.trans (st5.mono HB.out.size))
        clear st5
        clear oq CO CQ
        rcases hRR with hR0 | hR1
        · subst hR0
          by_cases hN : N ≤ 1000
          · have hNi : decide ((1000 : Int) < (N : Int)) = false := by simp; omega
            have hNj : ¬ (1000 : Int) < (N : Int) := by omega
            have CN := hid (CF.out N)
            have CM := hid (CF.out M)
            rw [HFA.out N hN] at CN
            rw [HFA.out M (by omega), ← HSE.out] at CM
            go_wp2_with fail
            refine (CN.out _ s1).mono ?_
            rintro e w6 ⟨Ax, nx, cx, rfl, ox, hnx, st6⟩
            replace s1 := s1.on st6
            replace HB := hid (HB.out.trans (st6.mono HB.out.size))
            clear st6
            replace ox := own_mono (base' := 0) ox (Nat.zero_le _)
            go_wp2_with fail
            refine (CM.out _ s1).mono ?_
            rintro e w7 ⟨Ay, ny, cy, rfl, oy, hny, st7⟩
            replace s1 := s1.on st7
            replace ox := own_on ox st7
            replace HB := hid (HB.out.trans (st7.mono HB.out.size))
            clear st7
            replace oy := own_mono (base' := 0) oy (Nat.zero_le _)
            go_wp2_with fail
            refine (sameInts_b _ _ _ _ _ _ _ _ _ _ _ (Sl.of_own ox) (Sl.of_own oy)).mono ?_
            rintro e w8 ⟨rfl, st8⟩
            rw [decide_eq_true rfl]
            replace s1 := s1.on st8
            replace ox := own_on ox st8
            replace oy := own_on oy st8
            replace HB := hid (HB.out.trans (st8.mono HB.out.size))
            clear st8
            go_wp2_with fail
            refine (alive_any _).mono ?_
            rintro e w9 ⟨rfl, st9⟩
            replace s1 := s1.on st9
            replace ox := own_on ox st9
            replace oy := own_on oy st9
            replace HB := hid (HB.out.trans (st9.mono HB.out.size))
            clear st9
            go_wp2
            go_ret
            exact ⟨rfl, HB.out⟩
          · have hNi : decide ((1000 : Int) < (N : Int)) = true := by simp; omega
            have hNj : (1000 : Int) < (N : Int) := by omega
            go_wp2_with fail
            refine (alive_any _).mono ?_
            rintro e w6 ⟨rfl, st6⟩
            replace s1 := s1.on st6
            replace HB := hid (HB.out.trans (st6.mono HB.out.size))
            clear st6
            go_wp2
            go_ret
            exact ⟨rfl, HB.out⟩
        · have hM1 := HOD.out hR1
          subst hR1
          have hM1i : (M : Int) ≤ 1 := by omega
          by_cases hN : N ≤ 1000
          · have hNi : decide ((1000 : Int) < (N : Int)) = false := by simp; omega
            have hNj : ¬ (1000 : Int) < (N : Int) := by omega
            have CN := hid (CF.out N)
            have CM := hid (CF.out M)
            rw [HFA.out N hN] at CN
            rw [HFA.out M (by omega), ← HSE.out] at CM
            go_wp2_with fail
            refine (CN.out _ s1).mono ?_
            rintro e w6 ⟨Ax, nx, cx, rfl, ox, hnx, st6⟩
            replace s1 := s1.on st6
            replace HB := hid (HB.out.trans (st6.mono HB.out.size))
            clear st6
            replace ox := own_mono (base' := 0) ox (Nat.zero_le _)
            go_wp2_with fail
            refine (CM.out _ s1).mono ?_
            rintro e w7 ⟨Ay, ny, cy, rfl, oy, hny, st7⟩
            replace s1 := s1.on st7
            replace ox := own_on ox st7
            replace HB := hid (HB.out.trans (st7.mono HB.out.size))
            clear st7
            replace oy := own_mono (base' := 0) oy (Nat.zero_le _)
            go_wp2_with fail
            refine (sameInts_b _ _ _ _ _ _ _ _ _ _ _ (Sl.of_own ox) (Sl.of_own oy)).mono ?_
            rintro e w8 ⟨rfl, st8⟩
            rw [decide_eq_true rfl]
            replace s1 := s1.on st8
            replace ox := own_on ox st8
            replace oy := own_on oy st8
            replace HB := hid (HB.out.trans (st8.mono HB.out.size))
            clear st8
            go_wp2_with fail
            refine (alive_any _).mono ?_
            rintro e w9 ⟨rfl, st9⟩
            replace s1 := s1.on st9
            replace ox := own_on ox st9
            replace oy := own_on oy st9
            replace HB := hid (HB.out.trans (st9.mono HB.out.size))
            clear st9
            go_wp2
            go_ret
            exact ⟨rfl, HB.out⟩
          · have hNi : decide ((1000 : Int) < (N : Int)) = true := by simp; omega
            have hNj : (1000 : Int) < (N : Int) := by omega
            go_wp2_with fail
            refine (alive_any _).mono ?_
            rintro e w6 ⟨rfl, st6⟩
            replace s1 := s1.on st6
            replace HB := hid (HB.out.trans (st6.mono HB.out.size))
            clear st6
            go_wp2
            go_ret
            exact ⟨rfl, HB.out⟩
      · have e0 : ((n1 : Int) == 1) = false := by simp; omega
        have e1 : ((n1 : Int) == 2) = false := by simp; omega
        have e2 : ((n1 : Int) == 4) = true := by simp; omega
        have f0 : ¬ (n1 : Int) = 1 := by omega
        have f1 : ¬ (n1 : Int) = 2 := by omega
        clear hv HSS
        go_wp2_with fail
        refine (CQ.out _ s1).mono ?_
        rintro e w4 ⟨Aq, nq, cq, rfl, oq, hnq, st4⟩
        replace s1 := s1.on st4
        replace HB := hid (HB.out.trans (st4.mono HB.out.size))
        clear st4
        replace oq := own_mono (base' := 0) oq (Nat.zero_le _)
        have CO := hid (fun (W : World) (hs : Sl W W.heap.size Aq nq (sumI Q l1)) => implOnesOf_any Aq nq cq (sumI Q l1) W hs)
        rw [HR0.out] at CO
        go_wp2_with fail
        with_reducible refine Calls.mono (CO.out _ (Sl.of_own oq)) ?_
        rintro e w5 ⟨rfl, st5⟩
        replace s1 := s1.on st5
        replace oq := own_on oq st5
        replace HB := hid (HB.out.trans (st5.mono HB.out.size))
        clear st5
        clear oq CO CQ
        rcases hRR with hR0 | hR1
        · subst hR0
          by_cases hN : N ≤ 1000
          · have hNi : decide ((1000 : Int) < (N : Int)) = false := by simp; omega
            have hNj : ¬ (1000 : Int) < (N : Int) := by omega
            have CN := hid (CF.out N)
            have CM := hid (CF.out M)
            rw [HFA.out N hN] at CN
            rw [HFA.out M (by omega), ← HSE.out] at CM
            go_wp2_with fail
            refine (CN.out _ s1).mono ?_
            rintro e w6 ⟨Ax, nx, cx, rfl, ox, hnx, st6⟩
            replace s1 := s1.on st6
            replace HB := hid (HB.out.trans (st6.mono HB.out.size))
            clear st6
            replace ox := own_mono (base' := 0) ox (Nat.zero_le _)
            go_wp2_with fail
            refine (CM.out _ s1).mono ?_
            rintro e w7 ⟨Ay, ny, cy, rfl, oy, hny, st7⟩
            replace s1 := s1.on st7
            replace ox := own_on ox st7
            replace HB := hid (HB.out.trans (st7.mono HB.out.size))
            clear st7
            replace oy := own_mono (base' := 0) oy (Nat.zero_le _)
            go_wp2_with fail
            refine (sameInts_b _ _ _ _ _ _ _ _ _ _ _ (Sl.of_own ox) (Sl.of_own oy)).mono ?_
            rintro e w8 ⟨rfl, st8⟩
            rw [decide_eq_true rfl]
            replace s1 := s1.on st8
            replace ox := own_on ox st8
            replace oy := own_on oy st8
            replace HB := hid (HB.out.trans (st8.mono HB.out.size))
            clear st8
            go_wp2_with fail
            refine (alive_any _).mono ?_
            rintro e w9 ⟨rfl, st9⟩
            replace s1 := s1.on st9
            replace ox := own_on ox st9
            replace oy := own_on oy st9
            replace HB := hid (HB.out.trans (st9.mono HB.out.size))
            clear st9
            go_wp2
            go_ret
            exact ⟨rfl, HB.out⟩
          · have hNi : decide ((1000 : Int) < (N : Int)) = true := by simp; omega
            have hNj : (1000 : Int) < (N : Int) := by omega
            go_wp2_with fail
            refine (alive_any _).mono ?_
            rintro e w6 ⟨rfl, st6⟩
            replace s1 := s1.on st6
            replace HB := hid (HB.out.trans (st6.mono HB.out.size))
            clear st6
            go_wp2
            go_ret
            exact ⟨rfl, HB.out⟩
        · have hM1 := HOD.out hR1
          subst hR1
          have hM1i : (M : Int) ≤ 1 := by omega
          by_cases hN : N ≤ 1000
          · have hNi : decide ((1000 : Int) < (N : Int)) = false := by simp; omega
            have hNj : ¬ (1000 : Int) < (N : Int) := by omega
            have CN := hid (CF.out N)
            have CM := hid (CF.out M)
            rw [HFA.out N hN] at CN
            rw [HFA.out M (by omega), ← HSE.out] at CM
            go_wp2_with fail
            refine (CN.out _ s1).mono ?_
            rintro e w6 ⟨Ax, nx, cx, rfl, ox, hnx, st6⟩
            replace s1 := s1.on st6
            replace HB := hid (HB.out.trans (st6.mono HB.out.size))
            clear st6
            replace ox := own_mono (base' := 0) ox (Nat.zero_le _)
            go_wp2_with fail
            refine (CM.out _ s1).mono ?_
            rintro e w7 ⟨Ay, ny, cy, rfl, oy, hny, st7⟩
            replace s1 := s1.on st7
            replace ox := own_on ox st7
            replace HB := hid (HB.out.trans (st7.mono HB.out.size))
            clear st7
            replace oy := own_mono (base' := 0) oy (Nat.zero_le _)
            go_wp2_with fail
            refine (sameInts_b _ _ _ _ _ _ _ _ _ _ _ (Sl.of_own ox) (Sl.of_own oy)).mono ?_
            rintro e w8 ⟨rfl, st8⟩
            rw [decide_eq_true rfl]
            replace s1 := s1.on st8
            replace ox := own_on ox st8
            replace oy := own_on oy st8
            replace HB := hid (HB.out.trans (st8.mono HB.out.size))
            clear st8
            go_wp2_with fail
            refine (alive_any _).mono ?_
            rintro e w9 ⟨rfl, st9⟩
            replace s1 := s1.on st9
            replace ox := own_on ox st9
            replace oy := own_on oy st9
            replace HB := hid (HB.out.trans (st9.mono HB.out.size))
            clear st9
            go_wp2
            go_ret
            exact ⟨rfl, HB.out⟩
          · have hNi : decide ((1000 : Int) < (N : Int)) = true := by simp; omega
            have hNj : (1000 : Int) < (N : Int) := by omega
            go_wp2_with fail
            refine (alive_any _).mono ?_
            rintro e w6 ⟨rfl, st6⟩
            replace s1 := s1.on st6
            replace HB := hid (HB.out.trans (st6.mono HB.out.size))
            clear st6
            go_wp2
            go_ret
            exact ⟨rfl, HB.out⟩
      · have e0 : ((n1 : Int) == 1) = false := by simp; omega
        have e1 : ((n1 : Int) == 2) = false := by simp; omega
        have e2 : ((n1 : Int) == 4) = false := by simp; omega
        have e3 : ((n1 : Int) == 8) = true := by simp; omega
        have f0 : ¬ (n1 : Int) = 1 := by omega
        have f1 : ¬ (n1 : Int) = 2 := by omega
        have f2 : ¬ (n1 : Int) = 4 := by omega
        clear hv HSS
        go_wp2_with fail
        refine (CQ.out _ s1).mono ?_
        rintro e w4 ⟨Aq, nq, cq, rfl, oq, hnq, st4⟩
        replace s1 := s1.on st4
        replace HB := hid (HB.out.trans (st4.mono HB.out.size))
        clear st4
        replace oq := own_mono (base' := 0) oq (Nat.zero_le _)
        have CO := hid (fun (W : World) (hs : Sl W W.heap.size Aq nq (sumI Q l1)) => implOnesOf_any Aq nq cq (sumI Q l1) W hs)
        rw [HR0.out] at CO
        go_wp2_with fail
        with_reducible refine Calls.mono (CO.out _ (Sl.of_own oq)) ?_
        rintro e w5 ⟨rfl, st5⟩
        replace s1 := s1.on st5
        replace oq := own_on oq st5
        replace HB := hid (HB.out.trans (st5.mono HB.out.size))
        clear st5
        clear oq CO CQ
        rcases hRR with hR0 | hR1
        · subst hR0
          by_cases hN : N ≤ 1000
          · have hNi : decide ((1000 : Int) < (N : Int)) = false := by simp; omega
            have hNj : ¬ (1000 : Int) < (N : Int) := by omega
            have CN := hid (CF.out N)
            have CM := hid (CF.out M)
            rw [HFA.out N hN] at CN
            rw [HFA.out M (by omega), ← HSE.out] at CM
            go_wp2_with fail
            refine (CN.out _ s1).mono ?_
            rintro e w6 ⟨Ax, nx, cx, rfl, ox, hnx, st6⟩
            replace s1 := s1.on st6
            replace HB := hid (HB.out.trans (st6.mono HB.out.size))
            clear st6
            replace ox := own_mono (base' := 0) ox (Nat.zero_le _)
            go_wp2_with fail
            refine (CM.out _ s1).mono ?_
            rintro e w7 ⟨Ay, ny, cy, rfl, oy, hny, st7⟩
            replace s1 := s1.on st7
            replace ox := own_on ox st7
            replace HB := hid (HB.out.trans (st7.mono HB.out.size))
            clear st7
            replace oy := own_mono (base' := 0) oy (Nat.zero_le _)
            go_wp2_with fail
            refine (sameInts_b _ _ _ _ _ _ _ _ _ _ _ (Sl.of_own ox) (Sl.of_own oy)).mono ?_
            rintro e w8 ⟨rfl, st8⟩
            rw [decide_eq_true rfl]
            replace s1 := s1.on st8
            replace ox := own_on ox st8
            replace oy := own_on oy st8
            replace HB := hid (HB.out.trans (st8.mono HB.out.size))
            clear st8
            go_wp2_with fail
            refine (alive_any _).mono ?_
            rintro e w9 ⟨rfl, st9⟩
            replace s1 := s1.on st9
            replace ox := own_on ox st9
            replace oy := own_on oy st9
            replace HB := hid (HB.out.trans (st9.mono HB.out.size))
            clear st9
            go_wp2
            go_ret
            exact ⟨rfl, HB.out⟩
          · have hNi : decide ((1000 : Int) < (N : Int)) = true := by simp; omega
            have hNj : (1000 : Int) < (N : Int) := by omega
            go_wp2_with fail
            refine (alive_any _).mono ?_
            rintro e w6 ⟨rfl, st6⟩
            replace s1 := s1.on st6
            replace HB := hid (HB.out.trans (st6.mono HB.out.size))
            clear st6
            go_wp2
            go_ret
            exact ⟨rfl, HB.out⟩
        · have hM1 := HOD.out hR1
          subst hR1
          have hM1i : (M : Int) ≤ 1 := by omega
          by_cases hN : N ≤ 1000
          · have hNi : decide ((1000 : Int) < (N : Int)) = false := by simp; omega
            have hNj : ¬ (1000 : Int) < (N : Int) := by omega
            have CN := hid (CF.out N)
            have CM := hid (CF.out M)
            rw [HFA.out N hN] at CN
            rw [HFA.out M (by omega), ← HSE.out] at CM
            go_wp2_with fail
            refine (CN.out _ s1).mono ?_
            rintro e w6 ⟨Ax, nx, cx, rfl, ox, hnx, st6⟩
            replace s1 := s1.on st6
            replace HB := hid (HB.out.trans (st6.mono HB.out.size))
            clear st6
            replace ox := own_mono (base' := 0) ox (Nat.zero_le _)
            go_wp2_with fail
            refine (CM.out _ s1).mono ?_
            rintro e w7 ⟨Ay, ny, cy, rfl, oy, hny, st7⟩
            replace s1 := s1.on st7
            replace ox := own_on ox st7
            replace HB := hid (HB.out.trans (st7.mono HB.out.size))
            clear st7
            replace oy := own_mono (base' := 0) oy (Nat.zero_le _)
            go_wp2_with fail
            refine (sameInts_b _ _ _ _ _ _ _ _ _ _ _ (Sl.of_own ox) (Sl.of_own oy)).mono ?_
            rintro e w8 ⟨rfl, st8⟩
            rw [decide_eq_true rfl]
            replace s1 := s1.on st8
            replace ox := own_on ox st8
            replace oy := own_on oy st8
            replace HB := hid (HB.out.trans (st8.mono HB.out.size))
            clear st8
            go_wp2_with fail
            refine (alive_any _).mono ?_
            rintro e w9 ⟨rfl, st9⟩
            replace s1 := s1.on st9
            replace ox := own_on ox st9
            replace oy := own_on oy st9
            replace HB := hid (HB.out.trans (st9.mono HB.out.size))
            clear st9
            go_wp2
            go_ret
            exact ⟨rfl, HB.out⟩
          · have hNi : decide ((1000 : Int) < (N : Int)) = true := by simp; omega
            have hNj : (1000 : Int) < (N : Int) := by omega
            go_wp2_with fail
            refine (alive_any _).mono ?_
            rintro e w6 ⟨rfl, st6⟩
            replace s1 := s1.on st6
            replace HB := hid (HB.out.trans (st6.mono HB.out.size))
            clear st6
            go_wp2
            go_ret
            exact ⟨rfl, HB.out⟩
    · have e0 : ((n1 : Int) == 1) = false := by simp; omega
      have f0 : ¬ (n1 : Int) = 1 := by omega
      have e1 : ((n1 : Int) == 2) = false := by simp; omega
      have f1 : ¬ (n1 : Int) = 2 := by omega
      have e2 : ((n1 : Int) == 4) = false := by simp; omega
      have f2 : ¬ (n1 : Int) = 4 := by omega
      have e3 : ((n1 : Int) == 8) = false := by simp; omega
      have f3 : ¬ (n1 : Int) = 8 := by omega
      clear hs HRS CQ
      rcases hRR with hR0 | hR1
      · subst hR0
        by_cases hN : N ≤ 1000
        · have hNi : decide ((1000 : Int) < (N : Int)) = false := by simp; omega
          have hNj : ¬ (1000 : Int) < (N : Int) := by omega
          have CN := hid (CF.out N)
          have CM := hid (CF.out M)
          rw [HFA.out N hN] at CN
          rw [HFA.out M (by omega), ← HSE.out] at CM
          go_wp2_with fail
          refine (CN.out _ s1).mono ?_
          rintro e w4 ⟨Ax, nx, cx, rfl, ox, hnx, st4⟩
          replace s1 := s1.on st4
          replace HB := hid (HB.out.trans (st4.mono HB.out.size))
          clear st4
          replace ox := own_mono (base' := 0) ox (Nat.zero_le _)
          go_wp2_with fail
          refine (CM.out _ s1).mono ?_
          rintro e w5 ⟨Ay, ny, cy, rfl, oy, hny, st5⟩
          replace s1 := s1.on st5
          replace ox := own_on ox st5
          replace HB := hid (HB.out.trans (st5.mono HB.out.size))
          clear st5
          replace oy := own_mono (base' := 0) oy (Nat.zero_le _)
          go_wp2_with fail
          refine (sameInts_b _ _ _ _ _ _ _ _ _ _ _ (Sl.of_own ox) (Sl.of_own oy)).mono ?_
          rintro e w6 ⟨rfl, st6⟩
          rw [decide_eq_true rfl]
          replace s1 := s1.on st6
          replace ox := own_on ox st6
          replace oy := own_on oy st6
          replace HB := hid (HB.out.trans (st6.mono HB.out.size))
          clear st6
          go_wp2_with fail
          refine (alive_any _).mono ?_
          rintro e w7 ⟨rfl, st7⟩
          replace s1 := s1.on st7
          replace ox := own_on ox st7
          replace oy := own_on oy st7
          replace HB := hid (HB.out.trans (st7.mono HB.out.size))
          clear st7
          go_wp2
          go_ret
          exact ⟨rfl, HB.out⟩
        · have hNi : decide ((1000 : Int) < (N : Int)) = true := by simp; omega
          have hNj : (1000 : Int) < (N : Int) := by omega
          go_wp2_with fail
          refine (alive_any _).mono ?_
          rintro e w4 ⟨rfl, st4⟩
          replace s1 := s1.on st4
          replace HB := hid (HB.out.trans (st4.mono HB.out.size))
          clear st4
          go_wp2
          go_ret
          exact ⟨rfl, HB.out⟩
      · have hM1 := HOD.out hR1
        subst hR1
        have hM1i : (M : Int) ≤ 1 := by omega
        by_cases hN : N ≤ 1000
        · have hNi : decide ((1000 : Int) < (N : Int)) = false := by simp; omega
          have hNj : ¬ (1000 : Int) < (N : Int) := by omega
          have CN := hid (CF.out N)
          have CM := hid (CF.out M)
          rw [HFA.out N hN] at CN
          rw [HFA.out M (by omega), ← HSE.out] at CM
          go_wp2_with fail
          refine (CN.out _ s1).mono ?_
          rintro e w4 ⟨Ax, nx, cx, rfl, ox, hnx, st4⟩
          replace s1 := s1.on st4
          replace HB := hid (HB.out.trans (st4.mono HB.out.size))
          clear st4
          replace ox := own_mono (base' := 0) ox (Nat.zero_le _)
          go_wp2_with fail
          refine (CM.out _ s1).mono ?_
          rintro e w5 ⟨Ay, ny, cy, rfl, oy, hny, st5⟩
          replace s1 := s1.on st5
          replace ox := own_on ox st5
          replace HB := hid (HB.out.trans (st5.mono HB.out.size))
          clear st5
          replace oy := own_mono (base' := 0) oy (Nat.zero_le _)
          go_wp2_with fail
          refine (sameInts_b _ _ _ _ _ _ _ _ _ _ _ (Sl.of_own ox) (Sl.of_own oy)).mono ?_
          rintro e w6 ⟨rfl, st6⟩
          rw [decide_eq_true rfl]
          replace s1 := s1.on st6
          replace ox := own_on ox st6
          replace oy := own_on oy st6
          replace HB := hid (HB.out.trans (st6.mono HB.out.size))
          clear st6
          go_wp2_with fail
          refine (alive_any _).mono ?_
          rintro e w7 ⟨rfl, st7⟩
          replace s1 := s1.on st7
          replace ox := own_on ox st7
          replace oy := own_on oy st7
          replace HB := hid (HB.out.trans (st7.mono HB.out.size))
          clear st7
          go_wp2
          go_ret
          exact ⟨rfl, HB.out⟩
        · have hNi : decide ((1000 : Int) < (N : Int)) = true := by simp; omega
          have hNj : (1000 : Int) < (N : Int) := by omega
          go_wp2_with fail
          refine (alive_any _).mono ?_
          rintro e w4 ⟨rfl, st4⟩
          replace s1 := s1.on st4
          replace HB := hid (HB.out.trans (st4.mono HB.out.size))
          clear st4
          go_wp2
          go_ret
          exact ⟨rfl, HB.out⟩
end Go.Proofs.Ythncjopbagkdcaa
