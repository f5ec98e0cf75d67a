/-
  The walk of laws.FnOnesOf, written by program (law10.py). No statement is proved here.
-/
import Derived.Test.YthncjopbagkdcaaC10c
import Derived.Test.YthncjopbagkdcaaC10d
import Derived.Test.YthncjopbagkdcaaC10i
import Derived.Test.YthncjopbagkdcaaDrX
import Derived.Test.YthncjopbagkdcaaExS
import Derived.Test.YthncjopbagkdcaaC1a
import Derived.IntWalk
import Derived.Deep.RegionHeld3
import Derived.BigQuiet
import Derived.Deep.QuietTactic
namespace Go.Proofs.Ythncjopbagkdcaa
open Go.RowKit
set_option linter.unusedVariables false
set_option linter.unusedSimpArgs false

set_option maxRecDepth 100000 in
set_option maxHeartbeats 6400000 in
theorem fnOnesOf_walk (A : Option Addr) (n c : Nat) (w : World) (hs : By w w.heap.size A n) (hc : n ≤ c) :
    Calls Try.prog 8 #[.slice A n c] w fun e w' => e = .returned (.bool true) ∧ Below w.heap.size w w' := by
  have hm : n ≤ 9223372036854775807 := hs.1
  by_cases hbig : 1048576 < n
  · go_enter Try.func8, Try.ntmps8
    go_wp2
    go_ret
    exact ⟨rfl, Below.refl _ _⟩
  go_enter Try.func8, Try.ntmps8
  go_wp2_with fail
  refine (drawOnesOf_any A n c _ hs hc).mono ?_
  rintro e w1 ⟨A1, n1, c1, l1, rfl, o1, hn1, hb1⟩
  have HB := hid hb1
  clear hs hc hb1 hbig hm
  replace o1 := own_mono (base' := 0) o1 (Nat.zero_le _)
  have hl1 : l1.length = n1 := by have := o1.1; simpa using this
  have CI := hid (fun (W : World) (hs : Sl W W.heap.size A1 n1 l1) => implOnesOf_any A1 n1 c1 l1 W hs)
  have CS := hid (fun (W : World) (B : Nat) (hs : Sl W B A1 n1 l1) => specOnesOf_any A1 n1 c1 l1 W B hs)
  have CN := hid (fun (W : World) (hs : Sl W W.heap.size A1 n1 l1) => implSummedOf_any A1 n1 c1 l1 W hs)
  cases hk : bitsOk l1 with
  | false =>
    rw [show onesOut l1 = -1 from by unfold onesOut; rw [hk]; rfl] at CI CS
    clear hk CN
    go_wp2_with fail
    with_reducible refine Calls.mono (CI.out _ (Sl.of_own o1)) ?_
    rintro e w2 ⟨rfl, st2⟩
    replace o1 := own_on o1 st2
    replace HB := hid (HB.out.trans (st2.mono HB.out.size))
    clear st2
    go_wp2_with fail
    with_reducible refine Calls.mono (CS.out _ _ (Sl.of_own o1)) ?_
    rintro e w' ⟨rfl, rfl⟩
    go_wp2_with fail
    refine (alive_any _).mono ?_
    rintro e w3 ⟨rfl, st3⟩
    replace o1 := own_on o1 st3
    replace HB := hid (HB.out.trans (st3.mono HB.out.size))
    clear st3
    go_wp2
    go_ret
    exact ⟨rfl, HB.out⟩
  | true =>
    obtain ⟨hb, h1, h2⟩ := bitsOk_iff.1 hk
    have hle := ones_le l1
    have hls := sumL_len l1
    have hsk := sumL_ok hk
    have hadd := ones_add hb (sumL_bits (l := l1)) hls.symm
    have hok : addOut l1 (sumL l1) = addL l1 (sumL l1) := by unfold addOut; rw [if_pos (by rw [hk, hsk, hls]; simp)]
    have hak : bitsOk (addL l1 (sumL l1)) = true := bitsOk_iff.2 ⟨addL_bits, by rw [addL_len]; omega, by rw [addL_len]; omega⟩
    have hln := ones_le (sumL l1)
    have hla := ones_le (addL l1 (sumL l1))
    rw [addL_len] at hla
    rw [show onesOut l1 = (ones l1 : Int) from by unfold onesOut; rw [if_pos hk]] at CI CS
    rw [show sumOut l1 = sumL l1 from by unfold sumOut; rw [if_pos hk]] at CN
    have HA := hid (show onesOut (addL l1 (sumL l1)) = (ones (addL l1 (sumL l1)) : Int) from by unfold onesOut; rw [if_pos hak])
    have HS := hid (show onesOut (sumL l1) = (ones (sumL l1) : Int) from by unfold onesOut; rw [if_pos hsk])
    rw [hls] at hln
    rw [hl1] at h1 h2 hle hln hla hls
    obtain ⟨N, hN⟩ : ∃ N, sumL l1 = N := ⟨_, rfl⟩
    rw [hN] at CN HA HS hok hadd hls hln hla
    obtain ⟨M, hM⟩ : ∃ M, addL l1 N = M := ⟨_, rfl⟩
    rw [hM] at HA hok hadd hla
    obtain ⟨q, hq⟩ : ∃ q, ones l1 = q := ⟨_, rfl⟩
    obtain ⟨r, hr⟩ : ∃ r, ones N = r := ⟨_, rfl⟩
    obtain ⟨t, ht⟩ : ∃ t, ones M = t := ⟨_, rfl⟩
    rw [hq] at CI CS hadd hle
    rw [hr] at HS hadd hln
    rw [ht] at HA hadd hla
    have HOK := hid hok
    have HLS := hid hls
    have d1 : decide ((q : Int) < 0) = false := by simp
    have d1' : ¬ (q : Int) < 0 := by omega
    have d2 : decide ((q : Int) ≤ (n1 : Int)) = true := by simp; omega
    have d2' : (q : Int) ≤ (n1 : Int) := by omega
    have d3 : (0 : Int) ≤ (t : Int) := by omega
    have d4 : (t : Int) ≤ (q : Int) + (r : Int) := by omega
    have w1 : IntKind.i64.wrap ((q : Int) + (r : Int)) = (q : Int) + (r : Int) := IntWalk.i64_in _ (by omega)
    clear hk hb hsk hak hN hM hq hr ht hok hls
    go_wp2_with fail
    with_reducible refine Calls.mono (CI.out _ (Sl.of_own o1)) ?_
    rintro e w2 ⟨rfl, st2⟩
    replace o1 := own_on o1 st2
    replace HB := hid (HB.out.trans (st2.mono HB.out.size))
    clear st2
    go_wp2_with fail
    with_reducible refine Calls.mono (CS.out _ _ (Sl.of_own o1)) ?_
    rintro e w' ⟨rfl, rfl⟩
    clear CI CS
    go_wp2_with fail
    refine (CN.out _ (Sl.of_own o1)).mono ?_
    rintro e w3 ⟨Ax, nx, cx, rfl, ox, hnx, st3⟩
    replace o1 := own_on o1 st3
    replace HB := hid (HB.out.trans (st3.mono HB.out.size))
    clear st3
    replace ox := own_mono (base' := 0) ox (Nat.zero_le _)
    have CA := hid (fun (W : World) (hs : Sl W W.heap.size A1 n1 l1) (hs1 : Sl W W.heap.size Ax nx N) => implAddedOf_any A1 n1 c1 l1 Ax nx cx N W hs hs1)
    have CX := hid (fun (W : World) (hs : Sl W W.heap.size Ax nx N) => implOnesOf_any Ax nx cx N W hs)
    rw [HOK.out] at CA
    rw [HS.out] at CX
    go_wp2_with fail
    refine (CA.out _ (Sl.of_own o1) (Sl.of_own ox)).mono ?_
    rintro e w4 ⟨Ay, ny, cy, rfl, oy, hny, st4⟩
    replace o1 := own_on o1 st4
    replace ox := own_on ox st4
    replace HB := hid (HB.out.trans (st4.mono HB.out.size))
    clear st4
    replace oy := own_mono (base' := 0) oy (Nat.zero_le _)
    have CY := hid (fun (W : World) (hs : Sl W W.heap.size Ay ny M) => implOnesOf_any Ay ny cy M W hs)
    rw [HA.out] at CY
    go_wp2_with fail
    with_reducible refine Calls.mono (CY.out _ (Sl.of_own oy)) ?_
    rintro e w5 ⟨rfl, st5⟩
    replace o1 := own_on o1 st5
    replace ox := own_on ox st5
    replace oy := own_on oy st5
    replace HB := hid (HB.out.trans (st5.mono HB.out.size))
    clear st5
    go_wp2_with fail
    with_reducible refine Calls.mono (CX.out _ (Sl.of_own ox)) ?_
    rintro e w6 ⟨rfl, st6⟩
    replace o1 := own_on o1 st6
    replace ox := own_on ox st6
    replace oy := own_on oy st6
    replace HB := hid (HB.out.trans (st6.mono HB.out.size))
    clear st6
    go_wp2_with fail
    refine (alive_any _).mono ?_
    rintro e w7 ⟨rfl, st7⟩
    replace o1 := own_on o1 st7
    replace ox := own_on ox st7
    replace oy := own_on oy st7
    replace HB := hid (HB.out.trans (st7.mono HB.out.size))
    clear st7
    go_wp2
    go_ret
    exact ⟨rfl, HB.out⟩
end Go.Proofs.Ythncjopbagkdcaa
