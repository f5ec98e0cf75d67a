/-
  The walk of laws.FnFreeAs, written by program (law11.py). No statement is proved here.
-/
import Derived.Test.YtmjcefidhigppaaC11
import Derived.Test.YtmjcefidhigppaaC11i
import Derived.Test.YtmjcefidhigppaaDrX
import Derived.Test.YtmjcefidhigppaaExS
import Derived.Test.YtmjcefidhigppaaC1a
import Derived.IntWalk
import Derived.BigQuiet
import Derived.Deep.QuietTactic
namespace Go.Proofs.Ytmjcefidhigppaa
open Go.RowKit
set_option linter.unusedVariables false
set_option linter.unusedSimpArgs false

set_option maxRecDepth 100000 in
set_option maxHeartbeats 6400000 in
theorem fnFreeAs_walk (A : Option Addr) (n c : Nat) (w : World) (hs : By w w.heap.size A n) (hc : n ≤ c) :
    Calls Try.prog 11 #[.slice A n c] w fun e w' => e = .returned (.bool true) ∧ Below w.heap.size w w' := by
  have hm : n ≤ 9223372036854775807 := hs.1
  by_cases hbig : 1048576 < n
  · go_enter Try.func11, Try.ntmps11
    go_wp2
    go_ret
    exact ⟨rfl, Below.refl _ _⟩
  go_enter Try.func11, Try.ntmps11
  go_wp2_with fail
  refine (drawFreeAs_any A n c _ hs hc).mono ?_
  rintro e w1 ⟨A1, n1, c1, l1, rfl, o1, hn1, hb1⟩
  have HB := hid hb1
  clear hs hc hb1 hbig hm
  replace o1 := own_mono (base' := 0) o1 (Nat.zero_le _)
  have hl1 : l1.length = n1 := by have := o1.1; simpa using this
  have CI := hid (fun (W : World) (hs : Sl W W.heap.size A1 n1 l1) => implFreeAs_any A1 n1 c1 l1 W hs)
  have CS := hid (fun (W : World) (hs : Sl W W.heap.size A1 n1 l1) => specFreeAs_any A1 n1 c1 l1 W hs)
  have CK := hid (fun (W : World) (hs : Sl W W.heap.size A1 n1 l1) => implBitsOk_any A1 n1 c1 l1 W hs)
  have CD := hid (fun (W : World) (hs : Sl W W.heap.size A1 n1 l1) => implDrivenOf_any A1 n1 c1 l1 W hs)
  have CF := hid (fun (W : World) (hs : Sl W W.heap.size A1 n1 l1) => implFlowOf_any A1 n1 c1 l1 W hs)
  cases hk : (bitsOk l1) with
  | false =>
    rw [show freeOut l1 = [] from by unfold freeOut; rw [hk]; rfl] at CI CS
    rw [hk] at CK
    clear hk
    go_wp2_with fail
    refine (CI.out _ (Sl.of_own o1)).mono ?_
    rintro e w2 ⟨Ax, nx, cx, rfl, ox, hnx, st2⟩
    replace o1 := own_on o1 st2
    replace HB := hid (HB.out.trans (st2.mono HB.out.size))
    clear st2
    replace ox := own_mono (base' := 0) ox (Nat.zero_le _)
    go_wp2_with fail
    refine (CS.out _ (Sl.of_own o1)).mono ?_
    rintro e w3 ⟨Ay, ny, cy, rfl, oy, hny, st3⟩
    replace o1 := own_on o1 st3
    replace ox := own_on ox st3
    replace HB := hid (HB.out.trans (st3.mono HB.out.size))
    clear st3
    replace oy := own_mono (base' := 0) oy (Nat.zero_le _)
    go_wp2_with fail
    refine (sameInts_b _ _ _ _ _ _ _ _ _ _ _ (Sl.of_own ox) (Sl.of_own oy)).mono ?_
    rintro e w4 ⟨rfl, st4⟩
    rw [decide_eq_true rfl]
    replace o1 := own_on o1 st4
    replace ox := own_on ox st4
    replace oy := own_on oy st4
    replace HB := hid (HB.out.trans (st4.mono HB.out.size))
    clear st4
    clear oy
    obtain rfl : nx = 0 := by have := ox.1; simpa using this.symm
    go_wp2_with fail
    with_reducible refine Calls.mono (CK.out _ (Sl.of_own o1)) ?_
    rintro e w5 ⟨rfl, st5⟩
    replace o1 := own_on o1 st5
    replace ox := own_on ox st5
    replace HB := hid (HB.out.trans (st5.mono HB.out.size))
    clear st5
    go_wp2_with fail
    refine (alive_any _).mono ?_
    rintro e w6 ⟨rfl, st6⟩
    replace o1 := own_on o1 st6
    replace ox := own_on ox st6
    replace HB := hid (HB.out.trans (st6.mono HB.out.size))
    clear st6
    go_wp2
    go_ret
    exact ⟨rfl, HB.out⟩
  | true =>
    obtain ⟨hb, h1, h2⟩ := bitsOk_iff.1 hk
    rw [show freeOut l1 = freeL l1 from by unfold freeOut; rw [if_pos hk]] at CI CS
    rw [show drivenOut l1 = driveL l1 from by unfold drivenOut; rw [if_pos hk]] at CD
    rw [show flowOut l1 = (flowN l1 : Int) from by unfold flowOut; rw [if_pos hk]] at CF
    have HDX := hid (show drivenOut (freeL l1) = freeL (driveL l1) from by unfold drivenOut; rw [if_pos (freeL_ok hk), drive_free hb])
    have HFD := hid (show freeOut (driveL l1) = freeL (driveL l1) from by unfold freeOut; rw [if_pos (driveL_ok hk)])
    have HFX := hid (show flowOut (freeL l1) = (flowN l1 : Int) from by unfold flowOut; rw [if_pos (freeL_ok hk), flow_free hb])
    have HFF := hid (show freeOut (freeL l1) = l1 from by unfold freeOut; rw [if_pos (freeL_ok hk), free_free])
    have hls := (freeL_len l1).trans hl1
    rw [hl1] at h1 h2
    obtain ⟨N, hN⟩ : ∃ N, freeL l1 = N := ⟨_, rfl⟩
    rw [hN] at CI CS HDX HFX HFF hls
    obtain ⟨P, hP⟩ : ∃ P, driveL l1 = P := ⟨_, rfl⟩
    rw [hP] at CD HDX HFD
    obtain ⟨R, hR⟩ : ∃ R, freeL P = R := ⟨_, rfl⟩
    rw [hR] at HDX HFD
    obtain ⟨F, hF⟩ : ∃ F, flowN l1 = F := ⟨_, rfl⟩
    rw [hF] at CF HFX
    have HL3 := hid hls
    have d3 : ((F : Int) == (F : Int)) = true := by simp
    clear hk hb hN hP hR hF hls hl1 CK
    go_wp2_with fail
    refine (CI.out _ (Sl.of_own o1)).mono ?_
    rintro e w2 ⟨Ax, nx, cx, rfl, ox, hnx, st2⟩
    replace o1 := own_on o1 st2
    replace HB := hid (HB.out.trans (st2.mono HB.out.size))
    clear st2
    replace ox := own_mono (base' := 0) ox (Nat.zero_le _)
    go_wp2_with fail
    refine (CS.out _ (Sl.of_own o1)).mono ?_
    rintro e w3 ⟨Ay, ny, cy, rfl, oy, hny, st3⟩
    replace o1 := own_on o1 st3
    replace ox := own_on ox st3
    replace HB := hid (HB.out.trans (st3.mono HB.out.size))
    clear st3
    replace oy := own_mono (base' := 0) oy (Nat.zero_le _)
    go_wp2_with fail
    refine (sameInts_b _ _ _ _ _ _ _ _ _ _ _ (Sl.of_own ox) (Sl.of_own oy)).mono ?_
    rintro e w4 ⟨rfl, st4⟩
    rw [decide_eq_true rfl]
    replace o1 := own_on o1 st4
    replace ox := own_on ox st4
    replace oy := own_on oy st4
    replace HB := hid (HB.out.trans (st4.mono HB.out.size))
    clear st4
    clear oy
    have hnx : nx = n1 := by have := ox.1; simp [HL3.out] at this; omega
    subst hnx
    have hne : ((nx : Int) == 0) = false := by simp; omega
    have hne' : ¬ (nx : Int) = 0 := by omega
    have DX := hid (fun (W : World) (hs : Sl W W.heap.size Ax nx N) => implDrivenOf_any Ax nx cx N W hs)
    have FX := hid (fun (W : World) (hs : Sl W W.heap.size Ax nx N) => implFlowOf_any Ax nx cx N W hs)
    have FF := hid (fun (W : World) (hs : Sl W W.heap.size Ax nx N) => implFreeAs_any Ax nx cx N W hs)
    rw [HDX.out] at DX
    rw [HFX.out] at FX
    rw [HFF.out] at FF
    clear CI CS
    go_wp2_with fail
    refine (DX.out _ (Sl.of_own ox)).mono ?_
    rintro e w5 ⟨Ad, nd, cd, rfl, od, hnd, st5⟩
    replace o1 := own_on o1 st5
    replace ox := own_on ox st5
    replace HB := hid (HB.out.trans (st5.mono HB.out.size))
    clear st5
    replace od := own_mono (base' := 0) od (Nat.zero_le _)
    go_wp2_with fail
    refine (CD.out _ (Sl.of_own o1)).mono ?_
    rintro e w6 ⟨Ap, np, cp, rfl, op, hnp, st6⟩
    replace o1 := own_on o1 st6
    replace ox := own_on ox st6
    replace od := own_on od st6
    replace HB := hid (HB.out.trans (st6.mono HB.out.size))
    clear st6
    replace op := own_mono (base' := 0) op (Nat.zero_le _)
    have FP := hid (fun (W : World) (hs : Sl W W.heap.size Ap np P) => implFreeAs_any Ap np cp P W hs)
    rw [HFD.out] at FP
    go_wp2_with fail
    refine (FP.out _ (Sl.of_own op)).mono ?_
    rintro e w7 ⟨Ar, nr, cr, rfl, or, hnr, st7⟩
    replace o1 := own_on o1 st7
    replace ox := own_on ox st7
    replace od := own_on od st7
    replace op := own_on op st7
    replace HB := hid (HB.out.trans (st7.mono HB.out.size))
    clear st7
    replace or := own_mono (base' := 0) or (Nat.zero_le _)
    go_wp2_with fail
    refine (sameInts_b _ _ _ _ _ _ _ _ _ _ _ (Sl.of_own od) (Sl.of_own or)).mono ?_
    rintro e w8 ⟨rfl, st8⟩
    rw [decide_eq_true rfl]
    replace o1 := own_on o1 st8
    replace ox := own_on ox st8
    replace od := own_on od st8
    replace op := own_on op st8
    replace or := own_on or st8
    replace HB := hid (HB.out.trans (st8.mono HB.out.size))
    clear st8
    clear od
    clear or
    clear op
    go_wp2_with fail
    with_reducible refine Calls.mono (FX.out _ (Sl.of_own ox)) ?_
    rintro e w9 ⟨rfl, st9⟩
    replace o1 := own_on o1 st9
    replace ox := own_on ox st9
    replace HB := hid (HB.out.trans (st9.mono HB.out.size))
    clear st9
    go_wp2_with fail
    with_reducible refine Calls.mono (CF.out _ (Sl.of_own o1)) ?_
    rintro e w10 ⟨rfl, st10⟩
    replace o1 := own_on o1 st10
    replace ox := own_on ox st10
    replace HB := hid (HB.out.trans (st10.mono HB.out.size))
    clear st10
    go_wp2_with fail
    refine (FF.out _ (Sl.of_own ox)).mono ?_
    rintro e w11 ⟨Az, nz, cz, rfl, oz, hnz, st11⟩
    replace o1 := own_on o1 st11
    replace ox := own_on ox st11
    replace HB := hid (HB.out.trans (st11.mono HB.out.size))
    clear st11
    replace oz := own_mono (base' := 0) oz (Nat.zero_le _)
    go_wp2_with fail
    refine (sameInts_b _ _ _ _ _ _ _ _ _ _ _ (Sl.of_own oz) (Sl.of_own o1)).mono ?_
    rintro e w12 ⟨rfl, st12⟩
    rw [decide_eq_true rfl]
    replace o1 := own_on o1 st12
    replace ox := own_on ox st12
    replace oz := own_on oz st12
    replace HB := hid (HB.out.trans (st12.mono HB.out.size))
    clear st12
    go_wp2
    go_ret
    exact ⟨rfl, HB.out⟩
end Go.Proofs.Ytmjcefidhigppaa
