/-
  The walk of laws.FnAfterSteps, written by program (law5.py). No statement is proved here.
-/
import Derived.Test.YtpobcfmldimgiaaC5a
import Derived.Test.YtpobcfmldimgiaaC5i
import Derived.Test.YtpobcfmldimgiaaDr9
import Derived.Test.YtpobcfmldimgiaaExS
namespace Go.Proofs.Ytpobcfmldimgiaa
open Go.RowKit
set_option linter.unusedVariables false
set_option linter.unusedSimpArgs false

set_option maxRecDepth 100000 in
set_option maxHeartbeats 6400000 in
theorem fnAfterSteps_walk (A : Option Addr) (n c : Nat) (w : World) (hs : By w w.heap.size A n) (hc : n ≤ c) :
    Calls Try.prog 5 #[.slice A n c] w fun e w' => e = .returned (.bool true) ∧ Below w.heap.size w w' := by
  have hm : n ≤ 9223372036854775807 := hs.1
  by_cases hbig : 1048576 < n
  · go_enter Try.func5, Try.ntmps5
    go_wp2
    go_ret
    exact ⟨rfl, Below.refl _ _⟩
  go_enter Try.func5, Try.ntmps5
  go_wp2_with fail
  refine (drawAfterSteps_any A n c _ hs hc).mono ?_
  rintro e w1 ⟨A1, n1, c1, l1, z, rfl, o1, hn1, z0, z1, hb1⟩
  have HB := hid hb1
  clear hs hc hb1 hbig hm
  go_wp2_with fail
  refine (implAfterSteps_any A1 n1 c1 l1 z _ (Sl.of_own o1)).mono ?_
  rintro e w2 ⟨AG, nG, cG, rfl, oG, hnG, st2⟩
  replace o1 := own_on o1 st2
  replace HB := hid (HB.out.trans (st2.mono HB.out.size))
  clear st2
  replace oG := own_mono (base' := 0) oG (Nat.zero_le _)
  go_wp2_with fail
  refine (specAfterSteps_any A1 n1 c1 l1 z _ (Sl.of_own o1)).mono ?_
  rintro e w3 ⟨AW, nW, cW, rfl, oW, hnW, st3⟩
  replace o1 := own_on o1 st3
  replace oG := own_on oG st3
  replace HB := hid (HB.out.trans (st3.mono HB.out.size))
  clear st3
  replace oW := own_mono (base' := 0) oW (Nat.zero_le _)
  go_wp2_with fail
  refine (sameInts_b _ _ _ _ _ _ _ _ _ _ _ (Sl.of_own oG) (Sl.of_own oW)).mono ?_
  rintro e w4 ⟨rfl, st4⟩
  rw [decide_eq_true rfl]
  replace o1 := own_on o1 st4
  replace oG := own_on oG st4
  replace oW := own_on oW st4
  replace HB := hid (HB.out.trans (st4.mono HB.out.size))
  clear st4
  clear oW
  have HL := hid (show l1.length = n1 from by have := o1.1; simpa using this)
  have HLG := hid (show (afterOut l1 z).length = nG from by have := oG.1; simpa using this)
  replace o1 := own_mono (base' := 0) o1 (Nat.zero_le _)
  by_cases hok : keptOk l1 = true ∧ within z 0 60 = true
  · obtain ⟨hk, hz⟩ := hok
    have hk2 := (keptOk_iff.1 hk).2
    have hsd := fun (k : Nat) (h : l1.length ≤ k) => sorted_after hk2.1 hk2.2 h
    rw [HL.out] at hk2 hsd
    have hzb := within_iff.1 hz
    obtain ⟨K, rfl⟩ : ∃ K : Nat, z = K := Int.eq_ofNat_of_zero_le hzb.1
    have hso : afterOut l1 (K : Int) = afterS ltZ l1 K := by rw [afterOut_yes hk hz, Int.toNat_natCast]
    rw [hso] at oG HLG
    have hsx : swapOut (afterS ltZ l1 K) (K : Int) = afterS ltZ l1 (K + 1) := by rw [swapOut_yes (kept_after hk K) hz, Int.toNat_natCast]; rfl
    have hmore : K + 1 ≤ 60 → afterOut l1 ((K : Int) + 1) = afterS ltZ l1 (K + 1) := fun h => by rw [afterOut_yes hk (within_iff.2 (by omega))]; rfl
    have hnone : ¬ K + 1 ≤ 60 → afterOut l1 ((K : Int) + 1) = [] := fun h => afterOut_no (by simp [within]; omega)
    have hor : n1 ≤ K → orderOk (afterS ltZ l1 K) = true := fun h => by unfold orderOk; rw [hsd K h, kept_after hk K]; rfl
    have hl3 : (afterS ltZ l1 (K + 1)).length = n1 := by rw [afterS_len, HL.out]
    rw [afterS_len, HL.out] at HLG
    obtain rfl : n1 = nG := HLG.out
    obtain ⟨l2, hl2⟩ : ∃ l2, afterS ltZ l1 K = l2 := ⟨_, rfl⟩
    obtain ⟨l3, hl3e⟩ : ∃ l3, afterS ltZ l1 (K + 1) = l3 := ⟨_, rfl⟩
    rw [hl2] at oG hsx hor
    rw [hl3e] at hsx hmore hl3
    have CM := hid (fun (W : World) (hs : Sl W W.heap.size A1 n1 l1) => implAfterSteps_any A1 n1 c1 l1 ((K : Int) + 1) W hs)
    have CS := hid (fun (W : World) (hs : Sl W W.heap.size AG n1 l2) => implSwappedAt_any AG n1 cG l2 K W hs)
    have CO := hid (fun (W : World) (hs : Sl W W.heap.size AG n1 l2) => implInOrderOk_any AG n1 cG l2 W hs)
    rw [hsx] at CS
    have hnz : ((n1 : Int) == 0) = false := by simp; omega
    have hnz2 : decide ((n1 : Int) = 0) = false := by simp; omega
    have HL3 := hid hl3
    clear hso hsx hl2 hl3e hsd hk hz hl3
    by_cases h60 : K + 1 ≤ 60
    · rw [hmore h60] at CM
      go_wp2_with fail
      with_reducible refine Calls.mono (CM.out _ (Sl.of_own o1)) ?_
      rintro e w5 ⟨AM, nM, cM, rfl, oM, hnM, st5⟩
      replace o1 := own_on o1 st5
      replace oG := own_on oG st5
      replace HB := hid (HB.out.trans (st5.mono HB.out.size))
      clear st5
      replace oM := own_mono (base' := 0) oM (Nat.zero_le _)
      obtain rfl : nM = n1 := by have := oM.1; simp at this; rw [HL3.out] at this; omega
      by_cases hKn : nM ≤ K
      · have hd : decide ((K : Int) < (nM : Int)) = false := by simp; omega
        rw [hor hKn] at CO
        clear hor hmore hnone
        go_wp2_with fail
        with_reducible refine Calls.mono (CS.out _ (Sl.of_own oG)) ?_
        rintro e w6 ⟨AS, nS, cS, rfl, oS, hnS, st6⟩
        replace o1 := own_on o1 st6
        replace oG := own_on oG st6
        replace oM := own_on oM st6
        replace HB := hid (HB.out.trans (st6.mono HB.out.size))
        clear st6
        replace oS := own_mono (base' := 0) oS (Nat.zero_le _)
        go_wp2_with fail
        refine (sameInts_b _ _ _ _ _ _ _ _ _ _ _ (Sl.of_own oM) (Sl.of_own oS)).mono ?_
        rintro e w7 ⟨rfl, st7⟩
        rw [decide_eq_true rfl]
        replace o1 := own_on o1 st7
        replace oG := own_on oG st7
        replace oM := own_on oM st7
        replace oS := own_on oS st7
        replace HB := hid (HB.out.trans (st7.mono HB.out.size))
        clear st7
        clear oS
        go_wp2_with fail
        with_reducible refine Calls.mono (CO.out _ (Sl.of_own oG)) ?_
        rintro e w8 ⟨rfl, st8⟩
        replace o1 := own_on o1 st8
        replace oG := own_on oG st8
        replace oM := own_on oM st8
        replace HB := hid (HB.out.trans (st8.mono HB.out.size))
        clear st8
        go_wp2_with fail
        refine (alive_any _).mono ?_
        rintro e w9 ⟨rfl, st9⟩
        replace o1 := own_on o1 st9
        replace oG := own_on oG st9
        replace oM := own_on oM st9
        replace HB := hid (HB.out.trans (st9.mono HB.out.size))
        clear st9
        go_wp2
        go_ret
        exact ⟨rfl, HB.out⟩
      · have hd : (K : Int) < (nM : Int) := by omega
        clear hor hmore hnone
        go_wp2_with fail
        with_reducible refine Calls.mono (CS.out _ (Sl.of_own oG)) ?_
        rintro e w6 ⟨AS, nS, cS, rfl, oS, hnS, st6⟩
        replace o1 := own_on o1 st6
        replace oG := own_on oG st6
        replace oM := own_on oM st6
        replace HB := hid (HB.out.trans (st6.mono HB.out.size))
        clear st6
        replace oS := own_mono (base' := 0) oS (Nat.zero_le _)
        go_wp2_with fail
        refine (sameInts_b _ _ _ _ _ _ _ _ _ _ _ (Sl.of_own oM) (Sl.of_own oS)).mono ?_
        rintro e w7 ⟨rfl, st7⟩
        rw [decide_eq_true rfl]
        replace o1 := own_on o1 st7
        replace oG := own_on oG st7
        replace oM := own_on oM st7
        replace oS := own_on oS st7
        replace HB := hid (HB.out.trans (st7.mono HB.out.size))
        clear st7
        clear oS
        go_wp2_with fail
        refine (alive_any _).mono ?_
        rintro e w8 ⟨rfl, st8⟩
        replace o1 := own_on o1 st8
        replace oG := own_on oG st8
        replace oM := own_on oM st8
        replace HB := hid (HB.out.trans (st8.mono HB.out.size))
        clear st8
        go_wp2
        go_ret
        exact ⟨rfl, HB.out⟩
    · rw [hnone h60] at CM
      go_wp2_with fail
      with_reducible refine Calls.mono (CM.out _ (Sl.of_own o1)) ?_
      rintro e w5 ⟨AM, nM, cM, rfl, oM, hnM, st5⟩
      replace o1 := own_on o1 st5
      replace oG := own_on oG st5
      replace HB := hid (HB.out.trans (st5.mono HB.out.size))
      clear st5
      replace oM := own_mono (base' := 0) oM (Nat.zero_le _)
      obtain rfl : nM = 0 := by have := oM.1; simpa using this.symm
      by_cases hKn : n1 ≤ K
      · have hd : decide ((K : Int) < (n1 : Int)) = false := by simp; omega
        rw [hor hKn] at CO
        clear hor hmore hnone
        go_wp2_with fail
        with_reducible refine Calls.mono (CO.out _ (Sl.of_own oG)) ?_
        rintro e w6 ⟨rfl, st6⟩
        replace o1 := own_on o1 st6
        replace oG := own_on oG st6
        replace oM := own_on oM st6
        replace HB := hid (HB.out.trans (st6.mono HB.out.size))
        clear st6
        go_wp2_with fail
        refine (alive_any _).mono ?_
        rintro e w7 ⟨rfl, st7⟩
        replace o1 := own_on o1 st7
        replace oG := own_on oG st7
        replace oM := own_on oM st7
        replace HB := hid (HB.out.trans (st7.mono HB.out.size))
        clear st7
        go_wp2
        go_ret
        exact ⟨rfl, HB.out⟩
      · have hd : (K : Int) < (n1 : Int) := by omega
        clear hor hmore hnone
        go_wp2_with fail
        refine (alive_any _).mono ?_
        rintro e w6 ⟨rfl, st6⟩
        replace o1 := own_on o1 st6
        replace oG := own_on oG st6
        replace oM := own_on oM st6
        replace HB := hid (HB.out.trans (st6.mono HB.out.size))
        clear st6
        go_wp2
        go_ret
        exact ⟨rfl, HB.out⟩
  · rw [afterOut_no hok] at oG HLG
    obtain rfl : nG = 0 := by simpa using HLG.out.symm
    clear hok
    go_wp2_with fail
    refine (alive_any _).mono ?_
    rintro e w5 ⟨rfl, st5⟩
    replace o1 := own_on o1 st5
    replace oG := own_on oG st5
    replace HB := hid (HB.out.trans (st5.mono HB.out.size))
    clear st5
    go_wp2
    go_ret
    exact ⟨rfl, HB.out⟩
end Go.Proofs.Ytpobcfmldimgiaa
