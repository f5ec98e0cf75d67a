/-
  The walk of laws.FnToldAfter. No statement is proved here.
-/
import Derived.Test.YtannfeiogocpeaaDoorC4t
import Derived.Test.YtannfeiogocpeaaDoorTab
import Derived.Test.YtannfeiogocpeaaDoorC4j
import Derived.Test.YtannfeiogocpeaaDoorC4i
import Derived.Test.YtannfeiogocpeaaDoorS4v
import Derived.Test.YtannfeiogocpeaaDoorExS
import Derived.Test.YtannfeiogocpeaaDoorExA
import Derived.Test.YtannfeiogocpeaaDoorExH
import Derived.Test.YtannfeiogocpeaaDoorDr7t
import Derived.IntWalk
namespace Go.Proofs.YtannfeiogocpeaaDoor
open Go.RowKit
set_option linter.unusedVariables false
set_option linter.unusedSimpArgs false

set_option maxRecDepth 100000 in
set_option maxHeartbeats 3200000 in
theorem fnToldAfter_walk (A : Option Addr) (n c : Nat) (w : World) (hs : By w w.heap.size A n) (hc : n ≤ c) (hT : Tabs2 w) :
    Calls Tryd.prog 8 #[.slice A n c] w fun e w' => e = .returned (.bool true) ∧ Below w.heap.size w w' := by
  have hm : n ≤ 9223372036854775807 := hs.1
  by_cases hbig : 1048576 < n
  · go_enter Tryd.func8, Tryd.ntmps8
    go_wp2
    go_ret
    exact ⟨rfl, Below.refl _ _⟩
  go_enter Tryd.func8, Tryd.ntmps8
  go_wp2_with fail
  refine (drawToldAfter_any A n c _ hs hc).mono ?_
  rintro e w1 ⟨a, b, rfl, a0, a1, b0, b1, hb1⟩
  clear hs
  have CS := hid (fun W : World => specToldAfter_any a b W (WalkArith.wf_i64 (by omega)) (WalkArith.wf_i64 (by omega)))
  have CI := hid (fun (W : World) (hb : Below w.heap.size w W) => implToldAfter_any a b W (WalkArith.wf_i64 (by omega)) (WalkArith.wf_i64 (by omega)) (hT.below hb))
  have CN := hid (fun (W : World) (hb : Below w.heap.size w W) => implToldAfter_any a (b + 1) W (WalkArith.wf_i64 (by omega)) (WalkArith.wf_i64 (by omega)) (hT.below hb))
  have CR := hid (fun W : World => implRoundsOf_any a W (WalkArith.wf_i64 (by omega)))
  have HPW := hid (toldOut_pw a b)
  have BB := hid hb1
  clear hb1
  go_wp2_with fail
  with_reducible refine Calls.mono (CI.out _ BB.out) ?_
  rintro e w2 ⟨AG, mG, cG, rfl, oG, hmG, b2⟩
  replace BB := hid (BB.out.trans (b2.mono BB.out.size))
  clear b2
  go_wp2_with fail
  with_reducible refine Calls.mono (CS.out _) ?_
  rintro e w3 ⟨AW, mW, cW, rfl, oW, hmW, b3⟩
  replace oG := own_on oG b3
  replace BB := hid (BB.out.trans (b3.mono BB.out.size))
  clear b3 CS CI
  go_wp2_with fail
  refine (sameInts_b _ _ _ _ _ _ _ _ _ _ _ (Sl.of_own oG) (Sl.of_own oW)).mono ?_
  rintro r w4 ⟨rfl, st4⟩
  rw [decide_eq_true rfl]
  replace BB := hid (BB.out.trans (st4.mono BB.out.size))
  replace oG := own_on oG st4
  clear st4 oW
  replace oG := own_mono (base' := 0) oG (Nat.zero_le _)
  have hlen : (toldOut a b).length = mG := by have := oG.1; simpa using this
  by_cases hok : partsOk a b = true
  · have hbd := partsOk_bd hok
    have hks := partsOk_iff.1 hok
    obtain ⟨N, rfl⟩ : ∃ N : Nat, a = N := Int.eq_ofNat_of_zero_le (by omega)
    obtain ⟨K, rfl⟩ : ∃ K : Nat, b = K := Int.eq_ofNat_of_zero_le (by omega)
    have hro : roundsOut (N : Int) = roundsN N := by rw [roundsOut_yes hbd.1, Int.toNat_natCast]
    rw [hro] at hks CR
    have hL := told_law (n := N) (k := K) (by omega) (by omega) (by omega)
    have hnext : K + 1 ≤ (roundsN N).length → toldOut (N : Int) ((K : Int) + 1) = toldN N (K + 1) := fun h => by
      rw [show ((K : Int) + 1) = ((K + 1 : Nat) : Int) from by omega]
      exact toldOut_N (partsOk_iff.2 ⟨hbd.1, by omega, by rw [hro]; omega⟩)
    have hstop : ¬ K + 1 ≤ (roundsN N).length → toldOut (N : Int) ((K : Int) + 1) = [] := fun h => toldOut_no (by
      cases hp : partsOk (N : Int) ((K : Int) + 1) with
      | false => rfl
      | true => have := (partsOk_iff.1 hp).2.2; rw [hro] at this; omega)
    rw [toldOut_N hok] at oG hlen HPW
    have hks2 := hks.2.2
    have hr6 := roundsN_len N (by omega)
    generalize toldN N K = l at oG hlen HPW hL
    obtain ⟨l2, hl2⟩ : ∃ l2, toldOut (N : Int) ((K : Int) + 1) = l2 := ⟨_, rfl⟩
    rw [hl2] at CN hnext hstop
    have hsub : l2 = [] ∨ ∀ x ∈ l, x ∈ l2 := by
      by_cases h : K + 1 ≤ (roundsN N).length
      · right; rw [hnext h]; exact hL.2.2 h
      · left; exact hstop h
    obtain ⟨L1, L2, _⟩ := hL
    generalize roundsN N = rl at CR L1 hks2 hr6 hnext hstop
    have P1 := hid L1
    have P2 := hid L2
    have HS := hid hsub
    have HL := hid hlen
    have hm1 : 1 ≤ mG := by have := List.length_pos_of_mem L2; omega
    have hks3 := hid hks2
    clear L1 L2 hsub hlen hnext hstop hks hok hro hl2 hks2 hr6
    have hnz : ((mG : Int) == 0) = false := by simp; omega
    go_wp2_with fail
    with_reducible refine Calls.mono (CN.out _ BB.out) ?_
    rintro e w5 ⟨AM, mM, cM, rfl, oM, hmM, b5⟩
    replace BB := hid (BB.out.trans (b5.mono BB.out.size))
    replace oG := own_on oG b5
    replace oM := own_mono (base' := 0) oM (Nat.zero_le _)
    have hlm : l2.length = mM := by have := oM.1; simpa using this
    have HLM := hid hlm
    clear b5 CN hlm
    go_wp2_with fail
    go_loopw [7] (fun kk wr => ∃ k : Nat, kk = .int .i64 k ∧ k ≤ mG ∧ wr.ownsRow 0 3 1 (.slice AG mG cG) mG (ints l) ∧ wr.ownsRow 0 3 1 (.slice AM mM cM) mM (ints l2) ∧ Hid (Below w.heap.size w wr)) (fun kk _ => mG - (intOf kk).toNat)
    case atStart => exact ⟨0, rfl, Nat.zero_le _, oG, oM, BB⟩
    case round =>
      clear oG oM BB
      obtain ⟨k, rfl, hk, oG, oM, BB⟩ := hrel
      by_cases hz : mM = 0
      · subst hz
        by_cases hkm : k < mG
        · have hkmi : (k : Int) < (mG : Int) := by omega
          clear oM
          go_wp2_with fail
          with_reducible refine Calls.mono (CR.out _) ?_
          rintro e w6 ⟨AR, mR, cR, rfl, oR, hmR, b6⟩
          have hrl : rl.length = mR := by have := oR.1; simpa using this
          replace BB := hid (BB.out.trans (b6.mono BB.out.size))
          replace oG := own_on oG b6
          have hiff : (mG = N) ↔ (K = mR) := by
            have h := P1.out
            rw [HL.out, hrl] at h
            simpa using h
          clear b6 oR CR hrl
          go_wp2_with fail
          refine (ascend_any _ _ _ _ _ _ (Sl.of_own oG) HPW.out).mono ?_
          rintro r w7 ⟨rfl, b7⟩
          replace BB := hid (BB.out.trans (b7.mono BB.out.size))
          replace oG := own_on oG b7
          clear b7
          by_cases hx : mG = N
          · have hA : ((mG : Int) == (N : Int)) = true := by simp [hx]
            have hB : ((K : Int) == (mR : Int)) = true := by simp [hiff.1 hx]
            clear hx hiff
            go_wp2_with fail
            refine (hasInt_any _ _ _ _ _ _ _ (Sl.of_own oG)).mono ?_
            rintro r w8 ⟨rfl, b8⟩
            rw [decide_eq_true P2.out]
            replace BB := hid (BB.out.trans (b8.mono BB.out.size))
            clear b8 oG
            go_wp2
            go_ret
            exact ⟨rfl, BB.out⟩
          · have hA : ((mG : Int) == (N : Int)) = false := by simp; omega
            have hB : ((K : Int) == (mR : Int)) = false := by
              have : ¬ K = mR := fun h => hx (hiff.2 h)
              simp
              omega
            clear hx hiff
            go_wp2_with fail
            refine (hasInt_any _ _ _ _ _ _ _ (Sl.of_own oG)).mono ?_
            rintro r w8 ⟨rfl, b8⟩
            rw [decide_eq_true P2.out]
            replace BB := hid (BB.out.trans (b8.mono BB.out.size))
            clear b8 oG
            go_wp2
            go_ret
            exact ⟨rfl, BB.out⟩
        · have hkmi : decide ((k : Int) < (mG : Int)) = false := by simp; omega
          clear oM
          go_wp2_with fail
          with_reducible refine Calls.mono (CR.out _) ?_
          rintro e w6 ⟨AR, mR, cR, rfl, oR, hmR, b6⟩
          have hrl : rl.length = mR := by have := oR.1; simpa using this
          replace BB := hid (BB.out.trans (b6.mono BB.out.size))
          replace oG := own_on oG b6
          have hiff : (mG = N) ↔ (K = mR) := by
            have h := P1.out
            rw [HL.out, hrl] at h
            simpa using h
          clear b6 oR CR hrl
          go_wp2_with fail
          refine (ascend_any _ _ _ _ _ _ (Sl.of_own oG) HPW.out).mono ?_
          rintro r w7 ⟨rfl, b7⟩
          replace BB := hid (BB.out.trans (b7.mono BB.out.size))
          replace oG := own_on oG b7
          clear b7
          by_cases hx : mG = N
          · have hA : ((mG : Int) == (N : Int)) = true := by simp [hx]
            have hB : ((K : Int) == (mR : Int)) = true := by simp [hiff.1 hx]
            clear hx hiff
            go_wp2_with fail
            refine (hasInt_any _ _ _ _ _ _ _ (Sl.of_own oG)).mono ?_
            rintro r w8 ⟨rfl, b8⟩
            rw [decide_eq_true P2.out]
            replace BB := hid (BB.out.trans (b8.mono BB.out.size))
            clear b8 oG
            go_wp2
            go_ret
            exact ⟨rfl, BB.out⟩
          · have hA : ((mG : Int) == (N : Int)) = false := by simp; omega
            have hB : ((K : Int) == (mR : Int)) = false := by
              have : ¬ K = mR := fun h => hx (hiff.2 h)
              simp
              omega
            clear hx hiff
            go_wp2_with fail
            refine (hasInt_any _ _ _ _ _ _ _ (Sl.of_own oG)).mono ?_
            rintro r w8 ⟨rfl, b8⟩
            rw [decide_eq_true P2.out]
            replace BB := hid (BB.out.trans (b8.mono BB.out.size))
            clear b8 oG
            go_wp2
            go_ret
            exact ⟨rfl, BB.out⟩
      · have hz1 : (0 : Int) < (mM : Int) := by omega
        have hz2 : 0 < mM := by omega
        by_cases hkm : k < mG
        · have hkmi : (k : Int) < (mG : Int) := by omega
          have hin : nth l k ∈ l2 := by
            rcases HS.out with h | h
            · have h1 := HLM.out
              rw [h] at h1
              simp at h1
              omega
            · exact h _ (by rw [nth_lt (by rw [HL.out]; exact hkm)]; exact List.getElem_mem _)
          have HIN := hid hin
          clear hin
          obtain ⟨j0, hj0⟩ : ∃ j, mG = j + 1 := ⟨mG - 1, by omega⟩
          obtain ⟨g, hga⟩ : ∃ g, AG = some ⟨g, 0, none⟩ := by
            subst hj0
            obtain ⟨g, cg, hs0, _, _⟩ := own_shape oG
            injection hs0 with e1 e2 e3
            exact ⟨g, e1⟩
          subst hga
          have hck := own_cell oG HL.out hkm
          clear hj0
          go_wp2_with fail
          refine (hasInt_any _ _ _ _ _ _ _ (Sl.of_own oM)).mono ?_
          rintro r w7 ⟨rfl, b7⟩
          rw [decide_eq_true HIN.out]
          replace BB := hid (BB.out.trans (b7.mono BB.out.size))
          replace oG := own_on oG b7
          replace oM := own_on oM b7
          clear b7 hck
          go_wp2
          go_roundw
          case rel => exact ⟨k + 1, by go_num, by omega, oG, oM, BB⟩
          case measure => simp [intOf]; omega
        · have hkmi : decide ((k : Int) < (mG : Int)) = false := by simp; omega
          clear oM
          go_wp2_with fail
          with_reducible refine Calls.mono (CR.out _) ?_
          rintro e w6 ⟨AR, mR, cR, rfl, oR, hmR, b6⟩
          have hrl : rl.length = mR := by have := oR.1; simpa using this
          replace BB := hid (BB.out.trans (b6.mono BB.out.size))
          replace oG := own_on oG b6
          have hiff : (mG = N) ↔ (K = mR) := by
            have h := P1.out
            rw [HL.out, hrl] at h
            simpa using h
          clear b6 oR CR hrl
          go_wp2_with fail
          refine (ascend_any _ _ _ _ _ _ (Sl.of_own oG) HPW.out).mono ?_
          rintro r w7 ⟨rfl, b7⟩
          replace BB := hid (BB.out.trans (b7.mono BB.out.size))
          replace oG := own_on oG b7
          clear b7
          by_cases hx : mG = N
          · have hA : ((mG : Int) == (N : Int)) = true := by simp [hx]
            have hB : ((K : Int) == (mR : Int)) = true := by simp [hiff.1 hx]
            clear hx hiff
            go_wp2_with fail
            refine (hasInt_any _ _ _ _ _ _ _ (Sl.of_own oG)).mono ?_
            rintro r w8 ⟨rfl, b8⟩
            rw [decide_eq_true P2.out]
            replace BB := hid (BB.out.trans (b8.mono BB.out.size))
            clear b8 oG
            go_wp2
            go_ret
            exact ⟨rfl, BB.out⟩
          · have hA : ((mG : Int) == (N : Int)) = false := by simp; omega
            have hB : ((K : Int) == (mR : Int)) = false := by
              have : ¬ K = mR := fun h => hx (hiff.2 h)
              simp
              omega
            clear hx hiff
            go_wp2_with fail
            refine (hasInt_any _ _ _ _ _ _ _ (Sl.of_own oG)).mono ?_
            rintro r w8 ⟨rfl, b8⟩
            rw [decide_eq_true P2.out]
            replace BB := hid (BB.out.trans (b8.mono BB.out.size))
            clear b8 oG
            go_wp2
            go_ret
            exact ⟨rfl, BB.out⟩
  · rw [toldOut_no (by simpa using hok)] at hlen
    obtain rfl : mG = 0 := by simpa using hlen.symm
    clear hlen oG CN CR HPW hok
    go_wp2_with fail
    refine (alive_any _).mono ?_
    rintro r w5 ⟨rfl, hb2⟩
    replace BB := hid (BB.out.trans (hb2.mono BB.out.size))
    clear hb2
    go_wp2
    go_ret
    exact ⟨rfl, BB.out⟩
end Go.Proofs.YtannfeiogocpeaaDoor
