/-
  The walks of laws.FnPartAt and FnMiddleAt. No statement is proved here.
-/
import Derived.Test.YtempgjbbgkacjaaDoorC3
import Derived.Test.YtempgjbbgkacjaaDoorC3i
import Derived.Test.YtempgjbbgkacjaaDoorC2h
import Derived.Test.YtempgjbbgkacjaaDoorDr6
import Derived.Deep.RegionHeld3
namespace Go.Proofs.YtempgjbbgkacjaaDoor
open Go.RowKit
set_option linter.unusedVariables false
set_option linter.unusedSimpArgs false

set_option maxRecDepth 100000 in
set_option maxHeartbeats 3200000 in
theorem fnPartAt_walk (A : Option Addr) (n c : Nat) (w : World) (hs : By w w.heap.size A n) (hc : n ≤ c) (hT : Tabs w) :
    Calls Tryd.prog 3 #[.slice A n c] w fun e w' => e = .returned (.bool true) ∧ Below w.heap.size w w' := by
  have hm : n ≤ 9223372036854775807 := hs.1
  by_cases hbig : 1048576 < n
  · go_enter Tryd.func3, Tryd.ntmps3
    go_wp2
    go_ret
    exact ⟨rfl, Below.refl _ _⟩
  go_enter Tryd.func3, Tryd.ntmps3
  go_wp2_with fail
  refine (drawPartAt_any A n c _ hs hc).mono ?_
  rintro r w1 ⟨l, p, rfl, l0, l1, p0, p1, hb1⟩
  clear hs
  have CS := hid (fun W : World => specPartAt_any l p W)
  replace hT := hid (hT.below hb1)
  have CI := hid (fun (W : World) (hW : Tabs W) => implPartAt_any l p W hW)
  by_cases hok : partOk l p = true
  · have hb := part_bd hok
    have hm2 := part_meet hok
    have hf := part_form hok
    have hr := partOk_iff.1 hok
    have CF := hid (fun W : World => implPlaceAt_any 0 1 l (partTime l p) W)
    have CG := hid (fun W : World => implPlaceAt_any 0 (2 * p - 1) l (partTime l p) W)
    rw [placeOut_at (fast_ok hok) (by omega) (by omega), hm2.1] at CF
    rw [placeOut_at (slow_ok hok) (by omega) (by omega), hm2.2] at CG
    rw [partVal_yes hok] at CS CI
    obtain ⟨T, hT⟩ : ∃ T, partTime l p = T := ⟨_, rfl⟩
    rw [hT] at CS CI CF CG hb hf
    clear hT hm2 hok
    obtain ⟨hl, hp⟩ := hr
    rcases part_cases hp with rfl | rfl | rfl | rfl <;>
    · simp only [Int.reduceMul, Int.reduceSub] at CG hf
      subst hf
      go_wp2_with fail
      with_reducible refine Calls.mono (CI.out _ hT.out) ?_
      rintro r w2 ⟨rfl, g2⟩
      have HG := hid g2
      clear g2
      go_wp2_with fail
      with_reducible refine Calls.mono (CS.out _) ?_
      rintro r w3 ⟨rfl, g3⟩
      replace HG := hid (HG.out.trans g3)
      clear g3
      go_wp2_with fail
      with_reducible refine Calls.mono (CF.out _) ?_
      rintro r w4 ⟨rfl, g4⟩
      replace HG := hid (HG.out.trans g4)
      clear g4
      go_wp2_with fail
      with_reducible refine Calls.mono (CG.out _) ?_
      rintro r w5 ⟨rfl, g5⟩
      replace HG := hid (HG.out.trans g5)
      clear g5
      go_wp2
      go_ret
      exact ⟨rfl, hb1.trans ((below_grown HG.out).mono hb1.size)⟩
  · rw [partVal_no (by simpa using hok)] at CS CI
    clear hok
    go_wp2_with fail
    with_reducible refine Calls.mono (CI.out _ hT.out) ?_
    rintro r w2 ⟨rfl, g2⟩
    have HG := hid g2
    clear g2
    go_wp2_with fail
    with_reducible refine Calls.mono (CS.out _) ?_
    rintro r w3 ⟨rfl, g3⟩
    have HG := hid (HG.out.trans g3)
    clear g3
    go_wp2_with fail
    refine (alive_any _).mono ?_
    rintro r w4 ⟨rfl, hb2⟩
    have HB := hid (hb1.trans ((Below.trans (below_grown HG.out) (hb2.mono HG.out.size)).mono hb1.size))
    clear hb2
    go_wp2
    go_ret
    exact ⟨rfl, HB.out⟩

set_option maxRecDepth 100000 in
set_option maxHeartbeats 3200000 in
theorem fnMiddleAt_walk (A : Option Addr) (n c : Nat) (w : World) (hs : By w w.heap.size A n) (hc : n ≤ c) (hT : Tabs w) :
    Calls Tryd.prog 4 #[.slice A n c] w fun e w' => e = .returned (.bool true) ∧ Below w.heap.size w w' := by
  have hm : n ≤ 9223372036854775807 := hs.1
  by_cases hbig : 1048576 < n
  · go_enter Tryd.func4, Tryd.ntmps4
    go_wp2
    go_ret
    exact ⟨rfl, Below.refl _ _⟩
  go_enter Tryd.func4, Tryd.ntmps4
  go_wp2_with fail
  refine (drawMiddleAt_any A n c _ hs hc).mono ?_
  rintro r w1 ⟨l, rfl, l0, l1, hb1⟩
  clear hs
  have CS := hid (fun W : World => specMiddleAt_any l W)
  replace hT := hid (hT.below hb1)
  have CI := hid (fun (W : World) (hW : Tabs W) => implMiddleAt_any l W hW)
  by_cases hok : partOk l 2 = true
  · have hf := part_form hok
    have hr := (partOk_iff.1 hok).1
    rw [partVal_yes hok, hf] at CS CI
    simp only [Int.reduceMul, Int.reduceSub] at CS CI
    clear hf hok
    go_wp2_with fail
    with_reducible refine Calls.mono (CI.out _ hT.out) ?_
    rintro r w2 ⟨rfl, g2⟩
    have HG := hid g2
    clear g2
    go_wp2_with fail
    with_reducible refine Calls.mono (CS.out _) ?_
    rintro r w3 ⟨rfl, g3⟩
    replace HG := hid (HG.out.trans g3)
    clear g3
    go_wp2
    go_ret
    exact ⟨rfl, hb1.trans ((below_grown HG.out).mono hb1.size)⟩
  · have hno : l < 1 ∨ 40 < l := by
      have h := hok
      rw [partOk_iff] at h
      omega
    rw [partVal_no (by simpa using hok)] at CS CI
    clear hok
    rcases hno with hno | hno
    · skip
      go_wp2_with fail
      with_reducible refine Calls.mono (CI.out _ hT.out) ?_
      rintro r w2 ⟨rfl, g2⟩
      have HG := hid g2
      clear g2
      go_wp2_with fail
      with_reducible refine Calls.mono (CS.out _) ?_
      rintro r w3 ⟨rfl, g3⟩
      replace HG := hid (HG.out.trans g3)
      clear g3
      go_wp2_with fail
      refine (alive_any _).mono ?_
      rintro r w4 ⟨rfl, hb2⟩
      have HB := hid (hb1.trans ((Below.trans (below_grown HG.out) (hb2.mono HG.out.size)).mono hb1.size))
      clear hb2
      go_wp2
      go_ret
      exact ⟨rfl, HB.out⟩
    · have hno2 : decide (l < 1) = false := by simp; omega
      go_wp2_with fail
      with_reducible refine Calls.mono (CI.out _ hT.out) ?_
      rintro r w2 ⟨rfl, g2⟩
      have HG := hid g2
      clear g2
      go_wp2_with fail
      with_reducible refine Calls.mono (CS.out _) ?_
      rintro r w3 ⟨rfl, g3⟩
      replace HG := hid (HG.out.trans g3)
      clear g3
      go_wp2_with fail
      refine (alive_any _).mono ?_
      rintro r w4 ⟨rfl, hb2⟩
      have HB := hid (hb1.trans ((Below.trans (below_grown HG.out) (hb2.mono HG.out.size)).mono hb1.size))
      clear hb2
      go_wp2
      go_ret
      exact ⟨rfl, HB.out⟩
end Go.Proofs.YtempgjbbgkacjaaDoor
