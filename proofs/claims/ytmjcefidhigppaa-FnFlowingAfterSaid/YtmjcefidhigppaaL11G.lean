/-
  The walk of laws.FnFlowingAfter, written by program (law11.py). No statement is proved here.
-/
import Derived.Test.YtmjcefidhigppaaC11
import Derived.Test.YtmjcefidhigppaaC11i
import Derived.Test.YtmjcefidhigppaaDrX
import Derived.Test.YtmjcefidhigppaaExS
import Derived.Test.YtmjcefidhigppaaC1a
import Derived.IntWalk
import Derived.BigQuiet
import Derived.Deep.QuietTactic
namespace Go.Proofs.Ytmjcefidhigppaa
open Go.RowKit
set_option linter.unusedVariables false
set_option linter.unusedSimpArgs false

set_option maxRecDepth 100000 in
set_option maxHeartbeats 6400000 in
theorem fnFlowingAfter_walk (A : Option Addr) (n c : Nat) (w : World) (hs : By w w.heap.size A n) (hc : n ≤ c) :
    Calls Try.prog 13 #[.slice A n c] w fun e w' => e = .returned (.bool true) ∧ Below w.heap.size w w' := by
  have hm : n ≤ 9223372036854775807 := hs.1
  by_cases hbig : 1048576 < n
  · go_enter Try.func13, Try.ntmps13
    go_wp2
    go_ret
    exact ⟨rfl, Below.refl _ _⟩
  go_enter Try.func13, Try.ntmps13
  go_wp2_with fail
  refine (drawFlowingAfter_any A n c _ hs hc).mono ?_
  rintro e w1 ⟨A1, n1, c1, l1, rfl, o1, hn1, hb1⟩
  have HB := hid hb1
  clear hs hc hb1 hbig hm
  replace o1 := own_mono (base' := 0) o1 (Nat.zero_le _)
  have hl1 : l1.length = n1 := by have := o1.1; simpa using this
  have CI := hid (fun (W : World) (hs : Sl W W.heap.size A1 n1 l1) => implFlowingAfter_any A1 n1 c1 l1 W hs)
  have CS := hid (fun (W : World) (hs : Sl W W.heap.size A1 n1 l1) => specFlowingAfter_any A1 n1 c1 l1 W hs)
  have CD := hid (fun (W : World) (hs : Sl W W.heap.size A1 n1 l1) => implFreeAs_any A1 n1 c1 l1 W hs)
  cases hk : bitsOk l1 with
  | false =>
    rw [show flowingOut l1 = -1 from by unfold flowingOut; rw [hk]; rfl] at CI CS
    clear hk
    go_wp2_with fail
    with_reducible refine Calls.mono (CI.out _ (Sl.of_own o1)) ?_
    rintro e w2 ⟨rfl, st2⟩
    replace o1 := own_on o1 st2
    replace HB := hid (HB.out.trans (st2.mono HB.out.size))
    clear st2
    go_wp2_with fail
    with_reducible refine Calls.mono (CS.out _ (Sl.of_own o1)) ?_
    rintro e w3 ⟨rfl, st3⟩
    replace o1 := own_on o1 st3
    replace HB := hid (HB.out.trans (st3.mono HB.out.size))
    clear st3
    go_wp2_with fail
    refine (alive_any _).mono ?_
    rintro e w4 ⟨rfl, st4⟩
    replace o1 := own_on o1 st4
    replace HB := hid (HB.out.trans (st4.mono HB.out.size))
    clear st4
    go_wp2
    go_ret
    exact ⟨rfl, HB.out⟩
  | true =>
    obtain ⟨hb, h1, h2⟩ := bitsOk_iff.1 hk
    have hen := (flowK_spec hk).2.2
    rw [show flowingOut l1 = (flowK l1 : Int) from by unfold flowingOut; rw [if_pos hk]] at CI CS
    rw [show freeOut l1 = freeL l1 from by unfold freeOut; rw [if_pos hk]] at CD
    have HFD := hid (show flowingOut (freeL l1) = (flowK l1 : Int) from by unfold flowingOut; rw [if_pos (freeL_ok hk), flowK_free hk])
    obtain ⟨F, hF⟩ : ∃ F, flowK l1 = F := ⟨_, rfl⟩
    rw [hF] at CI CS HFD hen
    obtain ⟨N, hN⟩ : ∃ N, freeL l1 = N := ⟨_, rfl⟩
    rw [hN] at CD HFD
    rw [hl1] at hen
    have d1 : decide ((F : Int) < 0) = false := by simp
    have d1' : ¬ (F : Int) < 0 := by omega
    have w1 : IntKind.i64.wrap (2 * (F : Int)) = 2 * (F : Int) := IntWalk.i64_in _ (by omega)
    have d2 : 2 * (F : Int) ≤ (n1 : Int) := by omega
    have d3 : ((F : Int) == (F : Int)) = true := by simp
    clear hk hb hF hN hl1
    go_wp2_with fail
    with_reducible refine Calls.mono (CI.out _ (Sl.of_own o1)) ?_
    rintro e w2 ⟨rfl, st2⟩
    replace o1 := own_on o1 st2
    replace HB := hid (HB.out.trans (st2.mono HB.out.size))
    clear st2
    go_wp2_with fail
    with_reducible refine Calls.mono (CS.out _ (Sl.of_own o1)) ?_
    rintro e w3 ⟨rfl, st3⟩
    replace o1 := own_on o1 st3
    replace HB := hid (HB.out.trans (st3.mono HB.out.size))
    clear st3
    clear CI CS
    go_wp2_with fail
    refine (CD.out _ (Sl.of_own o1)).mono ?_
    rintro e w4 ⟨Ax, nx, cx, rfl, ox, hnx, st4⟩
    replace o1 := own_on o1 st4
    replace HB := hid (HB.out.trans (st4.mono HB.out.size))
    clear st4
    replace ox := own_mono (base' := 0) ox (Nat.zero_le _)
    have CX := hid (fun (W : World) (hs : Sl W W.heap.size Ax nx N) => implFlowingAfter_any Ax nx cx N W hs)
    rw [HFD.out] at CX
    go_wp2_with fail
    with_reducible refine Calls.mono (CX.out _ (Sl.of_own ox)) ?_
    rintro e w5 ⟨rfl, st5⟩
    replace o1 := own_on o1 st5
    replace ox := own_on ox st5
    replace HB := hid (HB.out.trans (st5.mono HB.out.size))
    clear st5
    go_wp2_with fail
    refine (alive_any _).mono ?_
    rintro e w6 ⟨rfl, st6⟩
    replace o1 := own_on o1 st6
    replace ox := own_on ox st6
    replace HB := hid (HB.out.trans (st6.mono HB.out.size))
    clear st6
    go_wp2
    go_ret
    exact ⟨rfl, HB.out⟩
end Go.Proofs.Ytmjcefidhigppaa
