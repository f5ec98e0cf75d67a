/-
  The walk of laws.FnAddedOf, written by program (law10.py). No statement is proved here.
-/
import Derived.Test.YthncjopbagkdcaaC10c
import Derived.Test.YthncjopbagkdcaaC10d
import Derived.Test.YthncjopbagkdcaaC10i
import Derived.Test.YthncjopbagkdcaaDrX
import Derived.Test.YthncjopbagkdcaaExS
import Derived.Test.YthncjopbagkdcaaC1a
import Derived.IntWalk
import Derived.Deep.RegionHeld3
import Derived.BigQuiet
import Derived.Deep.QuietTactic
namespace Go.Proofs.Ythncjopbagkdcaa
open Go.RowKit
set_option linter.unusedVariables false
set_option linter.unusedSimpArgs false

set_option maxRecDepth 100000 in
set_option maxHeartbeats 6400000 in
theorem fnAddedOf_walk (A : Option Addr) (n c : Nat) (w : World) (hs : By w w.heap.size A n) (hc : n ≤ c) :
    Calls Try.prog 6 #[.slice A n c] w fun e w' => e = .returned (.bool true) ∧ Below w.heap.size w w' := by
  have hm : n ≤ 9223372036854775807 := hs.1
  by_cases hbig : 1048576 < n
  · go_enter Try.func6, Try.ntmps6
    go_wp2
    go_ret
    exact ⟨rfl, Below.refl _ _⟩
  go_enter Try.func6, Try.ntmps6
  go_wp2_with fail
  refine (drawAddedOf_any A n c _ hs hc).mono ?_
  rintro e w1 ⟨A1, n1, c1, l1, A2, n2, c2, l2, rfl, o1, hn1, o2, hn2, hb1⟩
  have HB := hid hb1
  clear hs hc hb1 hbig hm
  replace o1 := own_mono (base' := 0) o1 (Nat.zero_le _)
  have hl1 : l1.length = n1 := by have := o1.1; simpa using this
  replace o2 := own_mono (base' := 0) o2 (Nat.zero_le _)
  have hl2 : l2.length = n2 := by have := o2.1; simpa using this
  have CI := hid (fun (W : World) (hs : Sl W W.heap.size A1 n1 l1) (hs1 : Sl W W.heap.size A2 n2 l2) => implAddedOf_any A1 n1 c1 l1 A2 n2 c2 l2 W hs hs1)
  have CS := hid (fun (W : World) (hs : Sl W W.heap.size A1 n1 l1) (hs1 : Sl W W.heap.size A2 n2 l2) => specAddedOf_any A1 n1 c1 l1 A2 n2 c2 l2 W hs hs1)
  have CB := hid (fun (W : World) (hs : Sl W W.heap.size A2 n2 l2) (hs1 : Sl W W.heap.size A1 n1 l1) => implAddedOf_any A2 n2 c2 l2 A1 n1 c1 l1 W hs hs1)
  have CO := hid (fun (W : World) (hs : Sl W W.heap.size A1 n1 l1) (hs1 : Sl W W.heap.size A1 n1 l1) => implAddedOf_any A1 n1 c1 l1 A1 n1 c1 l1 W hs hs1)
  have C1 := hid (fun (W : World) (hs : Sl W W.heap.size A1 n1 l1) => implSummedOf_any A1 n1 c1 l1 W hs)
  have C2 := hid (fun (W : World) (hs : Sl W W.heap.size A2 n2 l2) => implSummedOf_any A2 n2 c2 l2 W hs)
  cases hk : (bitsOk l1 && (bitsOk l2 && decide (l1.length = l2.length))) with
  | false =>
    rw [show addOut l1 l2 = [] from by unfold addOut; rw [hk]; rfl] at CI CS
    clear hk CB CO C1 C2
    go_wp2_with fail
    refine (CI.out _ (Sl.of_own o1) (Sl.of_own o2)).mono ?_
    rintro e w2 ⟨Ax, nx, cx, rfl, ox, hnx, st2⟩
    replace o1 := own_on o1 st2
    replace o2 := own_on o2 st2
    replace HB := hid (HB.out.trans (st2.mono HB.out.size))
    clear st2
    replace ox := own_mono (base' := 0) ox (Nat.zero_le _)
    go_wp2_with fail
    refine (CS.out _ (Sl.of_own o1) (Sl.of_own o2)).mono ?_
    rintro e w3 ⟨Ay, ny, cy, rfl, oy, hny, st3⟩
    replace o1 := own_on o1 st3
    replace o2 := own_on o2 st3
    replace ox := own_on ox st3
    replace HB := hid (HB.out.trans (st3.mono HB.out.size))
    clear st3
    replace oy := own_mono (base' := 0) oy (Nat.zero_le _)
    go_wp2_with fail
    refine (sameInts_b _ _ _ _ _ _ _ _ _ _ _ (Sl.of_own ox) (Sl.of_own oy)).mono ?_
    rintro e w4 ⟨rfl, st4⟩
    rw [decide_eq_true rfl]
    replace o1 := own_on o1 st4
    replace o2 := own_on o2 st4
    replace ox := own_on ox st4
    replace oy := own_on oy st4
    replace HB := hid (HB.out.trans (st4.mono HB.out.size))
    clear st4
    clear oy
    obtain rfl : nx = 0 := by have := ox.1; simpa using this.symm
    go_wp2_with fail
    refine (alive_any _).mono ?_
    rintro e w5 ⟨rfl, st5⟩
    replace o1 := own_on o1 st5
    replace o2 := own_on o2 st5
    replace ox := own_on ox st5
    replace HB := hid (HB.out.trans (st5.mono HB.out.size))
    clear st5
    go_wp2
    go_ret
    exact ⟨rfl, HB.out⟩
  | true =>
    have hk2 : bitsOk l1 = true ∧ bitsOk l2 = true ∧ l1.length = l2.length := by simpa using hk
    obtain ⟨ka, kb, hll⟩ := hk2
    obtain ⟨hb, h1, h2⟩ := bitsOk_iff.1 ka
    have hls := addL_len l1 l2
    have hsk : bitsOk (addL l1 l2) = true := bitsOk_iff.2 ⟨addL_bits, by rw [addL_len]; omega, by rw [addL_len]; omega⟩
    rw [show addOut l1 l2 = addL l1 l2 from by unfold addOut; rw [if_pos hk]] at CI CS
    rw [show addOut l2 l1 = addL l1 l2 from by unfold addOut; rw [if_pos (by rw [ka, kb, hll]; simp), add_comm' hll.symm]] at CB
    rw [show addOut l1 l1 = addL l1 l1 from by unfold addOut; rw [if_pos (by rw [ka]; simp)]] at CO
    rw [show sumOut l1 = sumL l1 from by unfold sumOut; rw [if_pos ka]] at C1
    rw [show sumOut l2 = sumL l2 from by unfold sumOut; rw [if_pos kb]] at C2
    have HZ := hid (show onesOut (addL l1 l1) = 0 from by
      have hak : bitsOk (addL l1 l1) = true := bitsOk_iff.2 ⟨addL_bits, by rw [addL_len]; omega, by rw [addL_len]; omega⟩
      unfold onesOut; rw [if_pos hak, add_self]; rfl)
    have HSS := hid (show sumOut (addL l1 l2) = addL (sumL l1) (sumL l2) from by unfold sumOut; rw [if_pos hsk, add_sum hll])
    have HSA := hid (show addOut (sumL l1) (sumL l2) = addL (sumL l1) (sumL l2) from by unfold addOut; rw [if_pos (by rw [sumL_ok ka, sumL_ok kb, sumL_len, sumL_len, hll]; simp)])
    rw [hl1] at h1 h2 hls
    obtain ⟨M, hM⟩ : ∃ M, addL l1 l2 = M := ⟨_, rfl⟩
    obtain ⟨Z, hZ⟩ : ∃ Z, addL l1 l1 = Z := ⟨_, rfl⟩
    obtain ⟨P, hP⟩ : ∃ P, sumL l1 = P := ⟨_, rfl⟩
    obtain ⟨Q, hQ⟩ : ∃ Q, sumL l2 = Q := ⟨_, rfl⟩
    rw [hM] at CI CS CB HSS hls
    rw [hZ] at CO HZ
    rw [hP] at C1 HSS HSA
    rw [hQ] at C2 HSS HSA
    obtain ⟨R, hR⟩ : ∃ R, addL P Q = R := ⟨_, rfl⟩
    rw [hR] at HSS HSA
    have HLS := hid hls
    clear hk ka kb hll hb hsk hls hM hZ hP hQ hR
    go_wp2_with fail
    refine (CI.out _ (Sl.of_own o1) (Sl.of_own o2)).mono ?_
    rintro e w2 ⟨Ax, nx, cx, rfl, ox, hnx, st2⟩
    replace o1 := own_on o1 st2
    replace o2 := own_on o2 st2
    replace HB := hid (HB.out.trans (st2.mono HB.out.size))
    clear st2
    replace ox := own_mono (base' := 0) ox (Nat.zero_le _)
    go_wp2_with fail
    refine (CS.out _ (Sl.of_own o1) (Sl.of_own o2)).mono ?_
    rintro e w3 ⟨Ay, ny, cy, rfl, oy, hny, st3⟩
    replace o1 := own_on o1 st3
    replace o2 := own_on o2 st3
    replace ox := own_on ox st3
    replace HB := hid (HB.out.trans (st3.mono HB.out.size))
    clear st3
    replace oy := own_mono (base' := 0) oy (Nat.zero_le _)
    go_wp2_with fail
    refine (sameInts_b _ _ _ _ _ _ _ _ _ _ _ (Sl.of_own ox) (Sl.of_own oy)).mono ?_
    rintro e w4 ⟨rfl, st4⟩
    rw [decide_eq_true rfl]
    replace o1 := own_on o1 st4
    replace o2 := own_on o2 st4
    replace ox := own_on ox st4
    replace oy := own_on oy st4
    replace HB := hid (HB.out.trans (st4.mono HB.out.size))
    clear st4
    clear oy
    have hnx : nx = n1 := by have := ox.1; simp [HLS.out] at this; omega
    subst hnx
    have hne : ((nx : Int) == 0) = false := by simp; omega
    have hne' : ¬ (nx : Int) = 0 := by omega
    clear CI CS
    go_wp2_with fail
    refine (CO.out _ (Sl.of_own o1) (Sl.of_own o1)).mono ?_
    rintro e w5 ⟨Az, nz, cz, rfl, oz, hnz, st5⟩
    replace o1 := own_on o1 st5
    replace o2 := own_on o2 st5
    replace ox := own_on ox st5
    replace HB := hid (HB.out.trans (st5.mono HB.out.size))
    clear st5
    replace oz := own_mono (base' := 0) oz (Nat.zero_le _)
    have CZ := hid (fun (W : World) (hs : Sl W W.heap.size Az nz Z) => implOnesOf_any Az nz cz Z W hs)
    rw [HZ.out] at CZ
    have CM := hid (fun (W : World) (hs : Sl W W.heap.size Ax nx M) => implSummedOf_any Ax nx cx M W hs)
    rw [HSS.out] at CM
    clear CO
    go_wp2_with fail
    refine (CM.out _ (Sl.of_own ox)).mono ?_
    rintro e w6 ⟨Am, nm, cm, rfl, om, hnm, st6⟩
    replace o1 := own_on o1 st6
    replace o2 := own_on o2 st6
    replace ox := own_on ox st6
    replace oz := own_on oz st6
    replace HB := hid (HB.out.trans (st6.mono HB.out.size))
    clear st6
    replace om := own_mono (base' := 0) om (Nat.zero_le _)
    go_wp2_with fail
    refine (C1.out _ (Sl.of_own o1)).mono ?_
    rintro e w7 ⟨Ap, np, cp, rfl, op, hnp, st7⟩
    replace o1 := own_on o1 st7
    replace o2 := own_on o2 st7
    replace ox := own_on ox st7
    replace oz := own_on oz st7
    replace om := own_on om st7
    replace HB := hid (HB.out.trans (st7.mono HB.out.size))
    clear st7
    replace op := own_mono (base' := 0) op (Nat.zero_le _)
    go_wp2_with fail
    refine (C2.out _ (Sl.of_own o2)).mono ?_
    rintro e w8 ⟨Aq, nq, cq, rfl, oq, hnq, st8⟩
    replace o1 := own_on o1 st8
    replace o2 := own_on o2 st8
    replace ox := own_on ox st8
    replace oz := own_on oz st8
    replace om := own_on om st8
    replace op := own_on op st8
    replace HB := hid (HB.out.trans (st8.mono HB.out.size))
    clear st8
    replace oq := own_mono (base' := 0) oq (Nat.zero_le _)
    have CR := hid (fun (W : World) (hs : Sl W W.heap.size Ap np P) (hs1 : Sl W W.heap.size Aq nq Q) => implAddedOf_any Ap np cp P Aq nq cq Q W hs hs1)
    rw [HSA.out] at CR
    go_wp2_with fail
    refine (CR.out _ (Sl.of_own op) (Sl.of_own oq)).mono ?_
    rintro e w9 ⟨Ar, nr, cr, rfl, or, hnr, st9⟩
    replace o1 := own_on o1 st9
    replace o2 := own_on o2 st9
    replace ox := own_on ox st9
    replace oz := own_on oz st9
    replace om := own_on om st9
    replace op := own_on op st9
    replace oq := own_on oq st9
    replace HB := hid (HB.out.trans (st9.mono HB.out.size))
    clear st9
    replace or := own_mono (base' := 0) or (Nat.zero_le _)
    go_wp2_with fail
    refine (sameInts_b _ _ _ _ _ _ _ _ _ _ _ (Sl.of_own om) (Sl.of_own or)).mono ?_
    rintro e w10 ⟨rfl, st10⟩
    rw [decide_eq_true rfl]
    replace o1 := own_on o1 st10
    replace o2 := own_on o2 st10
    replace ox := own_on ox st10
    replace oz := own_on oz st10
    replace om := own_on om st10
    replace op := own_on op st10
    replace oq := own_on oq st10
    replace or := own_on or st10
    replace HB := hid (HB.out.trans (st10.mono HB.out.size))
    clear st10
    clear om
    clear or
    clear op
    clear oq
    go_wp2_with fail
    refine (CB.out _ (Sl.of_own o2) (Sl.of_own o1)).mono ?_
    rintro e w11 ⟨Ab, nb, cb, rfl, ob, hnb, st11⟩
    replace o1 := own_on o1 st11
    replace o2 := own_on o2 st11
    replace ox := own_on ox st11
    replace oz := own_on oz st11
    replace HB := hid (HB.out.trans (st11.mono HB.out.size))
    clear st11
    replace ob := own_mono (base' := 0) ob (Nat.zero_le _)
    go_wp2_with fail
    refine (sameInts_b _ _ _ _ _ _ _ _ _ _ _ (Sl.of_own ob) (Sl.of_own ox)).mono ?_
    rintro e w12 ⟨rfl, st12⟩
    rw [decide_eq_true rfl]
    replace o1 := own_on o1 st12
    replace o2 := own_on o2 st12
    replace ox := own_on ox st12
    replace oz := own_on oz st12
    replace ob := own_on ob st12
    replace HB := hid (HB.out.trans (st12.mono HB.out.size))
    clear st12
    go_wp2_with fail
    with_reducible refine Calls.mono (CZ.out _ (Sl.of_own oz)) ?_
    rintro e w13 ⟨rfl, st13⟩
    replace o1 := own_on o1 st13
    replace o2 := own_on o2 st13
    replace ox := own_on ox st13
    replace oz := own_on oz st13
    replace ob := own_on ob st13
    replace HB := hid (HB.out.trans (st13.mono HB.out.size))
    clear st13
    go_wp2_with fail
    refine (alive_any _).mono ?_
    rintro e w14 ⟨rfl, st14⟩
    replace o1 := own_on o1 st14
    replace o2 := own_on o2 st14
    replace ox := own_on ox st14
    replace oz := own_on oz st14
    replace ob := own_on ob st14
    replace HB := hid (HB.out.trans (st14.mono HB.out.size))
    clear st14
    go_wp2
    go_ret
    exact ⟨rfl, HB.out⟩
end Go.Proofs.Ythncjopbagkdcaa
