/-
  The walk of laws.FnDrivenAfter, written by program (law11.py). No statement is proved here.
-/
import Derived.Test.YtmjcefidhigppaaC11
import Derived.Test.YtmjcefidhigppaaC11i
import Derived.Test.YtmjcefidhigppaaDrX
import Derived.Test.YtmjcefidhigppaaExS
import Derived.Test.YtmjcefidhigppaaC1a
import Derived.IntWalk
import Derived.BigQuiet
import Derived.Deep.QuietTactic
namespace Go.Proofs.Ytmjcefidhigppaa
open Go.RowKit
set_option linter.unusedVariables false
set_option linter.unusedSimpArgs false

set_option maxRecDepth 100000 in
set_option maxHeartbeats 6400000 in
theorem fnDrivenAfter_walk (A : Option Addr) (n c : Nat) (w : World) (hs : By w w.heap.size A n) (hc : n ≤ c) :
    Calls Try.prog 5 #[.slice A n c] w fun e w' => e = .returned (.bool true) ∧ Below w.heap.size w w' := by
  have hm : n ≤ 9223372036854775807 := hs.1
  by_cases hbig : 1048576 < n
  · go_enter Try.func5, Try.ntmps5
    go_wp2
    go_ret
    exact ⟨rfl, Below.refl _ _⟩
  go_enter Try.func5, Try.ntmps5
  go_wp2_with fail
  refine (drawDrivenAfter_any A n c _ hs hc).mono ?_
  rintro e w1 ⟨A1, n1, c1, l1, s1, rfl, o1, hn1, s10, s11, hb1⟩
  have HB := hid hb1
  clear hs hc hb1 hbig hm
  replace o1 := own_mono (base' := 0) o1 (Nat.zero_le _)
  have hl1 : l1.length = n1 := by have := o1.1; simpa using this
  have CI := hid (fun (W : World) (hs : Sl W W.heap.size A1 n1 l1) => implDrivenAfter_any A1 n1 c1 l1 s1 W hs)
  have CS := hid (fun (W : World) (hs : Sl W W.heap.size A1 n1 l1) => specDrivenAfter_any A1 n1 c1 l1 s1 W hs)
  have CM := hid (fun (W : World) (hs : Sl W W.heap.size A1 n1 l1) => implDrivenAfter_any A1 n1 c1 l1 (s1 + 1) W hs)
  have CE := hid (fun (W : World) (hs : Sl W W.heap.size A1 n1 l1) => implEndFlow_any A1 n1 c1 l1 W hs)
  cases hk : (bitsOk l1 && within s1 0 60) with
  | false =>
    rw [show drivenAft l1 s1 = [] from by unfold drivenAft; rw [hk]; rfl] at CI CS
    clear hk
    go_wp2_with fail
    refine (CI.out _ (Sl.of_own o1)).mono ?_
    rintro e w2 ⟨Ax, nx, cx, rfl, ox, hnx, st2⟩
    replace o1 := own_on o1 st2
    replace HB := hid (HB.out.trans (st2.mono HB.out.size))
    clear st2
    replace ox := own_mono (base' := 0) ox (Nat.zero_le _)
    go_wp2_with fail
    refine (CS.out _ (Sl.of_own o1)).mono ?_
    rintro e w3 ⟨Ay, ny, cy, rfl, oy, hny, st3⟩
    replace o1 := own_on o1 st3
    replace ox := own_on ox st3
    replace HB := hid (HB.out.trans (st3.mono HB.out.size))
    clear st3
    replace oy := own_mono (base' := 0) oy (Nat.zero_le _)
    go_wp2_with fail
    refine (sameInts_b _ _ _ _ _ _ _ _ _ _ _ (Sl.of_own ox) (Sl.of_own oy)).mono ?_
    rintro e w4 ⟨rfl, st4⟩
    rw [decide_eq_true rfl]
    replace o1 := own_on o1 st4
    replace ox := own_on ox st4
    replace oy := own_on oy st4
    replace HB := hid (HB.out.trans (st4.mono HB.out.size))
    clear st4
    clear oy
    obtain rfl : nx = 0 := by have := ox.1; simpa using this.symm
    go_wp2_with fail
    refine (alive_any _).mono ?_
    rintro e w5 ⟨rfl, st5⟩
    replace o1 := own_on o1 st5
    replace ox := own_on ox st5
    replace HB := hid (HB.out.trans (st5.mono HB.out.size))
    clear st5
    go_wp2
    go_ret
    exact ⟨rfl, HB.out⟩
  | true =>
    have hk2 : bitsOk l1 = true ∧ within s1 0 60 = true := by simpa using hk
    obtain ⟨ka, hw⟩ := hk2
    have hwb := within_iff.1 hw
    obtain ⟨S, rfl⟩ : ∃ S : Nat, s1 = S := Int.eq_ofNat_of_zero_le hwb.1
    obtain ⟨hb, h1, h2⟩ := bitsOk_iff.1 ka
    rw [show drivenAft l1 (S : Int) = driveI S l1 from by unfold drivenAft; rw [if_pos hk, Int.toNat_natCast]] at CI CS
    rw [show endOut l1 = (endN l1 : Int) from by unfold endOut; rw [if_pos ka]] at CE
    have HMO := hid (show (S < 60 → drivenAft l1 ((S : Int) + 1) = driveI (S + 1) l1) ∧ (S = 60 → drivenAft l1 ((S : Int) + 1) = []) from
      ⟨fun h => by rw [show (S : Int) + 1 = ((S + 1 : Nat) : Int) by omega]; unfold drivenAft; rw [if_pos (by rw [ka]; simp [within]; omega), Int.toNat_natCast], fun h => by unfold drivenAft; rw [if_neg (by simp [within]; omega)]⟩)
    have HNX := hid (show drivenOut (driveI S l1) = driveI (S + 1) l1 from by unfold drivenOut; rw [if_pos (driveI_ok ka S), driveI_last])
    have HFL := hid (show flowOut (driveI S l1) = (flowN (driveI S l1) : Int) from by unfold flowOut; rw [if_pos (driveI_ok ka S)])
    have HLT := hid (fun (h : n1 / 2 ≤ S) => flow_late ka S (by rw [hl1]; exact h))
    have HSL := hid (fun k => show (driveI k l1).length = n1 from by rw [driveI_len, hl1])
    rw [hl1] at h1 h2
    have hS := hwb.2
    clear hk ka hw hwb hb hl1
    go_wp2_with fail
    refine (CI.out _ (Sl.of_own o1)).mono ?_
    rintro e w2 ⟨Ax, nx, cx, rfl, ox, hnx, st2⟩
    replace o1 := own_on o1 st2
    replace HB := hid (HB.out.trans (st2.mono HB.out.size))
    clear st2
    replace ox := own_mono (base' := 0) ox (Nat.zero_le _)
    go_wp2_with fail
    refine (CS.out _ (Sl.of_own o1)).mono ?_
    rintro e w3 ⟨Ay, ny, cy, rfl, oy, hny, st3⟩
    replace o1 := own_on o1 st3
    replace ox := own_on ox st3
    replace HB := hid (HB.out.trans (st3.mono HB.out.size))
    clear st3
    replace oy := own_mono (base' := 0) oy (Nat.zero_le _)
    go_wp2_with fail
    refine (sameInts_b _ _ _ _ _ _ _ _ _ _ _ (Sl.of_own ox) (Sl.of_own oy)).mono ?_
    rintro e w4 ⟨rfl, st4⟩
    rw [decide_eq_true rfl]
    replace o1 := own_on o1 st4
    replace ox := own_on ox st4
    replace oy := own_on oy st4
    replace HB := hid (HB.out.trans (st4.mono HB.out.size))
    clear st4
    clear oy
    have hnx : nx = n1 := by have := ox.1; simp [HSL.out] at this; omega
    subst hnx
    have hne : ((nx : Int) == 0) = false := by simp; omega
    have hne' : ¬ (nx : Int) = 0 := by omega
    have CX := hid (fun (W : World) (hs : Sl W W.heap.size Ax nx (driveI S l1)) => implDrivenOf_any Ax nx cx (driveI S l1) W hs)
    have CF := hid (fun (W : World) (hs : Sl W W.heap.size Ax nx (driveI S l1)) => implFlowOf_any Ax nx cx (driveI S l1) W hs)
    rw [HNX.out] at CX
    rw [HFL.out] at CF
    clear CI CS
    have wS : IntKind.i64.wrap ((S : Int) + 1) = (S : Int) + 1 := IntWalk.i64_in _ (by omega)
    have w2 : IntKind.i64.wrap (2 * (S : Int)) = 2 * (S : Int) := IntWalk.i64_in _ (by omega)
    by_cases hS2 : S < 60
    · rw [HMO.out.1 hS2] at CM
      go_wp2_with fail
      refine (CM.out _ (Sl.of_own o1)).mono ?_
      rintro e w5 ⟨Am, nm, cm, rfl, om, hnm, st5⟩
      replace o1 := own_on o1 st5
      replace ox := own_on ox st5
      replace HB := hid (HB.out.trans (st5.mono HB.out.size))
      clear st5
      replace om := own_mono (base' := 0) om (Nat.zero_le _)
      have hnm : nm = nx := by have := om.1; simp [HSL.out] at this; omega
      subst hnm
      go_wp2_with fail
      refine (CX.out _ (Sl.of_own ox)).mono ?_
      rintro e w6 ⟨Az, nz, cz, rfl, oz, hnz, st6⟩
      replace o1 := own_on o1 st6
      replace ox := own_on ox st6
      replace om := own_on om st6
      replace HB := hid (HB.out.trans (st6.mono HB.out.size))
      clear st6
      replace oz := own_mono (base' := 0) oz (Nat.zero_le _)
      go_wp2_with fail
      refine (sameInts_b _ _ _ _ _ _ _ _ _ _ _ (Sl.of_own om) (Sl.of_own oz)).mono ?_
      rintro e w7 ⟨rfl, st7⟩
      rw [decide_eq_true rfl]
      replace o1 := own_on o1 st7
      replace ox := own_on ox st7
      replace om := own_on om st7
      replace oz := own_on oz st7
      replace HB := hid (HB.out.trans (st7.mono HB.out.size))
      clear st7
      clear om
      clear oz
      by_cases hlate : 2 * S < nm
      · have hli : decide (2 * (S : Int) < (nm : Int)) = true := by simp; omega
        have hlj : 2 * (S : Int) < (nm : Int) := by omega
        go_wp2_with fail
        refine (alive_any _).mono ?_
        rintro e w8 ⟨rfl, st8⟩
        replace o1 := own_on o1 st8
        replace ox := own_on ox st8
        replace HB := hid (HB.out.trans (st8.mono HB.out.size))
        clear st8
        go_wp2
        go_ret
        exact ⟨rfl, HB.out⟩
      · have hli : decide (2 * (S : Int) < (nm : Int)) = false := by simp; omega
        have hlj : ¬ 2 * (S : Int) < (nm : Int) := by omega
        have hfe := HLT.out (by omega)
        rw [hfe] at CF
        have hee : ((endN l1 : Int) == (endN l1 : Int)) = true := by simp
        clear hfe
        go_wp2_with fail
        with_reducible refine Calls.mono (CF.out _ (Sl.of_own ox)) ?_
        rintro e w8 ⟨rfl, st8⟩
        replace o1 := own_on o1 st8
        replace ox := own_on ox st8
        replace HB := hid (HB.out.trans (st8.mono HB.out.size))
        clear st8
        go_wp2_with fail
        with_reducible refine Calls.mono (CE.out _ (Sl.of_own o1)) ?_
        rintro e w9 ⟨rfl, st9⟩
        replace o1 := own_on o1 st9
        replace ox := own_on ox st9
        replace HB := hid (HB.out.trans (st9.mono HB.out.size))
        clear st9
        go_wp2_with fail
        refine (alive_any _).mono ?_
        rintro e w10 ⟨rfl, st10⟩
        replace o1 := own_on o1 st10
        replace ox := own_on ox st10
        replace HB := hid (HB.out.trans (st10.mono HB.out.size))
        clear st10
        go_wp2
        go_ret
        exact ⟨rfl, HB.out⟩
    · rw [HMO.out.2 (by omega)] at CM
      go_wp2_with fail
      refine (CM.out _ (Sl.of_own o1)).mono ?_
      rintro e w5 ⟨Am, nm, cm, rfl, om, hnm, st5⟩
      replace o1 := own_on o1 st5
      replace ox := own_on ox st5
      replace HB := hid (HB.out.trans (st5.mono HB.out.size))
      clear st5
      replace om := own_mono (base' := 0) om (Nat.zero_le _)
      obtain rfl : nm = 0 := by have := om.1; simpa using this.symm
      clear om
      by_cases hlate : 2 * S < nx
      · have hli : decide (2 * (S : Int) < (nx : Int)) = true := by simp; omega
        have hlj : 2 * (S : Int) < (nx : Int) := by omega
        go_wp2_with fail
        refine (alive_any _).mono ?_
        rintro e w6 ⟨rfl, st6⟩
        replace o1 := own_on o1 st6
        replace ox := own_on ox st6
        replace HB := hid (HB.out.trans (st6.mono HB.out.size))
        clear st6
        go_wp2
        go_ret
        exact ⟨rfl, HB.out⟩
      · have hli : decide (2 * (S : Int) < (nx : Int)) = false := by simp; omega
        have hlj : ¬ 2 * (S : Int) < (nx : Int) := by omega
        have hfe := HLT.out (by omega)
        rw [hfe] at CF
        have hee : ((endN l1 : Int) == (endN l1 : Int)) = true := by simp
        clear hfe
        go_wp2_with fail
        with_reducible refine Calls.mono (CF.out _ (Sl.of_own ox)) ?_
        rintro e w6 ⟨rfl, st6⟩
        replace o1 := own_on o1 st6
        replace ox := own_on ox st6
        replace HB := hid (HB.out.trans (st6.mono HB.out.size))
        clear st6
        go_wp2_with fail
        with_reducible refine Calls.mono (CE.out _ (Sl.of_own o1)) ?_
        rintro e w7 ⟨rfl, st7⟩
        replace o1 := own_on o1 st7
        replace ox := own_on ox st7
        replace HB := hid (HB.out.trans (st7.mono HB.out.size))
        clear st7
        go_wp2_with fail
        refine (alive_any _).mono ?_
        rintro e w8 ⟨rfl, st8⟩
        replace o1 := own_on o1 st8
        replace ox := own_on ox st8
        replace HB := hid (HB.out.trans (st8.mono HB.out.size))
        clear st8
        go_wp2
        go_ret
        exact ⟨rfl, HB.out⟩
end Go.Proofs.Ytmjcefidhigppaa
