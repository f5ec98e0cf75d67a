/-
  The walk of laws.FnVotedAfter, written by program (law7.py). No statement is proved here.
-/
import Derived.Test.YtfmlekcdjjkolaaC7b
import Derived.Test.YtfmlekcdjjkolaaC7i
import Derived.Test.YtfmlekcdjjkolaaDrW
import Derived.Test.YtfmlekcdjjkolaaExS
import Derived.Test.YtfmlekcdjjkolaaC1a
namespace Go.Proofs.Ytfmlekcdjjkolaa
open Go.RowKit
set_option linter.unusedVariables false
set_option linter.unusedSimpArgs false

set_option maxRecDepth 100000 in
set_option maxHeartbeats 6400000 in
theorem fnVotedAfter_walk (A : Option Addr) (n c : Nat) (w : World) (hs : By w w.heap.size A n) (hc : n ≤ c) :
    Calls Try.prog 4 #[.slice A n c] w fun e w' => e = .returned (.bool true) ∧ Below w.heap.size w w' := by
  have hm : n ≤ 9223372036854775807 := hs.1
  by_cases hbig : 1048576 < n
  · go_enter Try.func4, Try.ntmps4
    go_wp2
    go_ret
    exact ⟨rfl, Below.refl _ _⟩
  go_enter Try.func4, Try.ntmps4
  go_wp2_with fail
  refine (drawVotedAfter_any A n c _ hs hc).mono ?_
  rintro e w1 ⟨A1, n1, c1, l1, s1, rfl, o1, hn1, s10, s11, hb1⟩
  have HB := hid hb1
  clear hs hc hb1 hbig hm
  replace o1 := own_mono (base' := 0) o1 (Nat.zero_le _)
  have hl1 : l1.length = n1 := by have := o1.1; simpa using this
  have CI := hid (fun (W : World) (hs : Sl W W.heap.size A1 n1 l1) => implVotedAfter_any A1 n1 c1 l1 s1 W hs)
  have CS := hid (fun (W : World) (hs : Sl W W.heap.size A1 n1 l1) => specVotedAfter_any A1 n1 c1 l1 s1 W hs)
  have CM := hid (fun (W : World) (hs : Sl W W.heap.size A1 n1 l1) => implVotedAfter_any A1 n1 c1 l1 (s1 + 1) W hs)
  cases hk : (votesOk l1 && within s1 0 60) with
  | false =>
    have hz : votedN l1 s1 = [] := by unfold votedN; rw [hk]; rfl
    rw [hz] at CI CS
    clear hk hz
    go_wp2_with fail
    refine (CI.out _ (Sl.of_own o1)).mono ?_
    rintro e w2 ⟨Ax, nx, cx, rfl, ox, hnx, st2⟩
    replace o1 := own_on o1 st2
    replace HB := hid (HB.out.trans (st2.mono HB.out.size))
    clear st2
    replace ox := own_mono (base' := 0) ox (Nat.zero_le _)
    go_wp2_with fail
    refine (CS.out _ (Sl.of_own o1)).mono ?_
    rintro e w3 ⟨Ay, ny, cy, rfl, oy, hny, st3⟩
    replace o1 := own_on o1 st3
    replace ox := own_on ox st3
    replace HB := hid (HB.out.trans (st3.mono HB.out.size))
    clear st3
    replace oy := own_mono (base' := 0) oy (Nat.zero_le _)
    go_wp2_with fail
    refine (sameInts_b _ _ _ _ _ _ _ _ _ _ _ (Sl.of_own ox) (Sl.of_own oy)).mono ?_
    rintro e w4 ⟨rfl, st4⟩
    rw [decide_eq_true rfl]
    replace o1 := own_on o1 st4
    replace ox := own_on ox st4
    replace oy := own_on oy st4
    replace HB := hid (HB.out.trans (st4.mono HB.out.size))
    clear st4
    clear oy
    obtain rfl : nx = 0 := by have := ox.1; simpa using this.symm
    go_wp2_with fail
    refine (alive_any _).mono ?_
    rintro e w5 ⟨rfl, st5⟩
    replace o1 := own_on o1 st5
    replace ox := own_on ox st5
    replace HB := hid (HB.out.trans (st5.mono HB.out.size))
    clear st5
    go_wp2
    go_ret
    exact ⟨rfl, HB.out⟩
  | true =>
    have hk2 : votesOk l1 = true ∧ within s1 0 60 = true := by simpa using hk
    have hsb := within_iff.1 hk2.2
    obtain ⟨S, rfl⟩ : ∃ S : Nat, s1 = S := Int.eq_ofNat_of_zero_le hsb.1
    have hz : votedN l1 S = voteN S l1 := by unfold votedN; rw [if_pos hk, Int.toNat_natCast]
    have hb := (votesOk_iff.1 hk2.1).2
    have h5 := (votesOk_iff.1 hk2.1).1
    have hv : votedOut (voteN S l1) = voteN (S + 1) l1 := by unfold votedOut; rw [if_pos (votesOk_iff.2 ⟨by rw [voteN_len]; exact h5, voteN_bits hb S⟩), voteN_succ]
    have hst : ¬ 2 * S < n1 → voteN (S + 1) l1 = voteN S l1 := fun h => by rw [voteN_succ]; exact voteN_still hb (by omega)
    rw [hz] at CI CS
    rw [hl1] at h5
    have HV := hid hv
    have HST := hid hst
    have HK := hid hk2.1
    clear hz hv hst hb hk hk2
    go_wp2_with fail
    refine (CI.out _ (Sl.of_own o1)).mono ?_
    rintro e w2 ⟨Ax, nx, cx, rfl, ox, hnx, st2⟩
    replace o1 := own_on o1 st2
    replace HB := hid (HB.out.trans (st2.mono HB.out.size))
    clear st2
    replace ox := own_mono (base' := 0) ox (Nat.zero_le _)
    go_wp2_with fail
    refine (CS.out _ (Sl.of_own o1)).mono ?_
    rintro e w3 ⟨Ay, ny, cy, rfl, oy, hny, st3⟩
    replace o1 := own_on o1 st3
    replace ox := own_on ox st3
    replace HB := hid (HB.out.trans (st3.mono HB.out.size))
    clear st3
    replace oy := own_mono (base' := 0) oy (Nat.zero_le _)
    go_wp2_with fail
    refine (sameInts_b _ _ _ _ _ _ _ _ _ _ _ (Sl.of_own ox) (Sl.of_own oy)).mono ?_
    rintro e w4 ⟨rfl, st4⟩
    rw [decide_eq_true rfl]
    replace o1 := own_on o1 st4
    replace ox := own_on ox st4
    replace oy := own_on oy st4
    replace HB := hid (HB.out.trans (st4.mono HB.out.size))
    clear st4
    clear oy
    have hnx0 : (voteN S l1).length = nx := by have := ox.1; simpa using this
    rw [voteN_len, hl1] at hnx0
    subst hnx0
    have hne : ((n1 : Int) == 0) = false := by simp; omega
    have hne' : ¬ (n1 : Int) = 0 := by omega
    have DV := hid (fun (W : World) (hs : Sl W W.heap.size Ax n1 (voteN S l1)) => implVotedOf_any Ax n1 cx (voteN S l1) W hs)
    rw [HV.out] at DV
    clear CI CS
    have w1 : IntKind.i64.wrap ((S : Int) + 1) = (S : Int) + 1 := IntWalk.i64_in _ (by omega)
    have w2 : IntKind.i64.wrap (2 * (S : Int)) = 2 * (S : Int) := IntWalk.i64_in _ (by omega)
    go_wp2_with fail
    refine (DV.out _ (Sl.of_own ox)).mono ?_
    rintro e w5 ⟨Ap, np, cp, rfl, op, hnp, st5⟩
    replace o1 := own_on o1 st5
    replace ox := own_on ox st5
    replace HB := hid (HB.out.trans (st5.mono HB.out.size))
    clear st5
    replace op := own_mono (base' := 0) op (Nat.zero_le _)
    by_cases h60 : S + 1 ≤ 60
    · have hm : votedN l1 ((S : Int) + 1) = voteN (S + 1) l1 := by
        unfold votedN
        rw [if_pos (by rw [HK.out, within_iff.2 ⟨by omega, by omega⟩]; rfl)]
        congr 1
      rw [hm] at CM
      clear hm
      go_wp2_with fail
      refine (CM.out _ (Sl.of_own o1)).mono ?_
      rintro e w6 ⟨Am, nm, cm, rfl, om, hnm, st6⟩
      replace o1 := own_on o1 st6
      replace ox := own_on ox st6
      replace op := own_on op st6
      replace HB := hid (HB.out.trans (st6.mono HB.out.size))
      clear st6
      replace om := own_mono (base' := 0) om (Nat.zero_le _)
      have hnm : (voteN (S + 1) l1).length = nm := by have := om.1; simpa using this
      rw [voteN_len, hl1] at hnm
      subst hnm
      by_cases h2 : 2 * S < n1
      · have e2 : decide (2 * (S : Int) < (n1 : Int)) = true := by simp; omega
        go_wp2_with fail
        refine (sameInts_b _ _ _ _ _ _ _ _ _ _ _ (Sl.of_own om) (Sl.of_own op)).mono ?_
        rintro e w7 ⟨rfl, st7⟩
        rw [decide_eq_true rfl]
        replace o1 := own_on o1 st7
        replace ox := own_on ox st7
        replace op := own_on op st7
        replace om := own_on om st7
        replace HB := hid (HB.out.trans (st7.mono HB.out.size))
        clear st7
        go_wp2_with fail
        refine (alive_any _).mono ?_
        rintro e w8 ⟨rfl, st8⟩
        replace o1 := own_on o1 st8
        replace ox := own_on ox st8
        replace op := own_on op st8
        replace om := own_on om st8
        replace HB := hid (HB.out.trans (st8.mono HB.out.size))
        clear st8
        go_wp2
        go_ret
        exact ⟨rfl, HB.out⟩
      · have e2 : decide (2 * (S : Int) < (n1 : Int)) = false := by simp; omega
        go_wp2_with fail
        refine (sameInts_b _ _ _ _ _ _ _ _ _ _ _ (Sl.of_own om) (Sl.of_own op)).mono ?_
        rintro e w7 ⟨rfl, st7⟩
        rw [decide_eq_true rfl]
        replace o1 := own_on o1 st7
        replace ox := own_on ox st7
        replace op := own_on op st7
        replace om := own_on om st7
        replace HB := hid (HB.out.trans (st7.mono HB.out.size))
        clear st7
        have HE := hid (HST.out h2)
        rw [HE.out] at op
        go_wp2_with fail
        refine (sameInts_b _ _ _ _ _ _ _ _ _ _ _ (Sl.of_own op) (Sl.of_own ox)).mono ?_
        rintro e w8 ⟨rfl, st8⟩
        rw [decide_eq_true rfl]
        replace o1 := own_on o1 st8
        replace ox := own_on ox st8
        replace op := own_on op st8
        replace om := own_on om st8
        replace HB := hid (HB.out.trans (st8.mono HB.out.size))
        clear st8
        go_wp2_with fail
        refine (alive_any _).mono ?_
        rintro e w9 ⟨rfl, st9⟩
        replace o1 := own_on o1 st9
        replace ox := own_on ox st9
        replace op := own_on op st9
        replace om := own_on om st9
        replace HB := hid (HB.out.trans (st9.mono HB.out.size))
        clear st9
        go_wp2
        go_ret
        exact ⟨rfl, HB.out⟩
    · have hm : votedN l1 ((S : Int) + 1) = [] := by
        unfold votedN
        rw [if_neg (by simp [within]; omega)]
      rw [hm] at CM
      clear hm
      go_wp2_with fail
      refine (CM.out _ (Sl.of_own o1)).mono ?_
      rintro e w6 ⟨Am, nm, cm, rfl, om, hnm, st6⟩
      replace o1 := own_on o1 st6
      replace ox := own_on ox st6
      replace op := own_on op st6
      replace HB := hid (HB.out.trans (st6.mono HB.out.size))
      clear st6
      replace om := own_mono (base' := 0) om (Nat.zero_le _)
      obtain rfl : nm = 0 := by have := om.1; simpa using this.symm
      by_cases h2 : 2 * S < n1
      · have e2 : decide (2 * (S : Int) < (n1 : Int)) = true := by simp; omega
        go_wp2_with fail
        refine (alive_any _).mono ?_
        rintro e w7 ⟨rfl, st7⟩
        replace o1 := own_on o1 st7
        replace ox := own_on ox st7
        replace op := own_on op st7
        replace om := own_on om st7
        replace HB := hid (HB.out.trans (st7.mono HB.out.size))
        clear st7
        go_wp2
        go_ret
        exact ⟨rfl, HB.out⟩
      · have e2 : decide (2 * (S : Int) < (n1 : Int)) = false := by simp; omega
        have HE := hid (HST.out h2)
        rw [HE.out] at op
        go_wp2_with fail
        refine (sameInts_b _ _ _ _ _ _ _ _ _ _ _ (Sl.of_own op) (Sl.of_own ox)).mono ?_
        rintro e w7 ⟨rfl, st7⟩
        rw [decide_eq_true rfl]
        replace o1 := own_on o1 st7
        replace ox := own_on ox st7
        replace op := own_on op st7
        replace om := own_on om st7
        replace HB := hid (HB.out.trans (st7.mono HB.out.size))
        clear st7
        go_wp2_with fail
        refine (alive_any _).mono ?_
        rintro e w8 ⟨rfl, st8⟩
        replace o1 := own_on o1 st8
        replace ox := own_on ox st8
        replace op := own_on op st8
        replace om := own_on om st8
        replace HB := hid (HB.out.trans (st8.mono HB.out.size))
        clear st8
        go_wp2
        go_ret
        exact ⟨rfl, HB.out⟩
end Go.Proofs.Ytfmlekcdjjkolaa
