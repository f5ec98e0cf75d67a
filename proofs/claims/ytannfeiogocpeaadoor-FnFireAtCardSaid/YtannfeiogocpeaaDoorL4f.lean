/-
  The walk of laws.FnFireAt. No statement is proved here.
-/
import Derived.Test.YtannfeiogocpeaaDoorC4f
import Derived.Test.YtannfeiogocpeaaDoorTab
import Derived.Test.YtannfeiogocpeaaDoorC4h
import Derived.Test.YtannfeiogocpeaaDoorC3i
import Derived.Test.YtannfeiogocpeaaDoorDr7f
import Derived.IntWalk
namespace Go.Proofs.YtannfeiogocpeaaDoor
open Go.RowKit
set_option linter.unusedVariables false
set_option linter.unusedSimpArgs false

set_option maxRecDepth 100000 in
set_option maxHeartbeats 3200000 in
theorem fnFireAt_walk (A : Option Addr) (n c : Nat) (w : World) (hs : By w w.heap.size A n) (hc : n ≤ c) (hT : Tabs w) :
    Calls Tryd.prog 6 #[.slice A n c] w fun e w' => e = .returned (.bool true) ∧ Below w.heap.size w w' := by
  have hm : n ≤ 9223372036854775807 := hs.1
  by_cases hbig : 1048576 < n
  · go_enter Tryd.func6, Tryd.ntmps6
    go_wp2
    go_ret
    exact ⟨rfl, Below.refl _ _⟩
  go_enter Tryd.func6, Tryd.ntmps6
  go_wp2_with fail
  refine (drawFireAt_any A n c _ hs hc).mono ?_
  rintro r w1 ⟨n0, rfl, l0, l1, hb1⟩
  clear hs
  have HB := hid hb1
  clear hb1
  have CS := hid (fun W : World => specFireAt_any n0 W (WalkArith.wf_i64 (by omega)))
  have CI := hid (fun (W : World) (hb : Below w.heap.size w W) => implFireAt_any n0 W (WalkArith.wf_i64 (by omega)) (hT.below hb))
  by_cases hok : 2 ≤ n0 ∧ n0 ≤ 40
  · obtain ⟨N, rfl⟩ : ∃ N : Nat, n0 = N := Int.eq_ofNat_of_zero_le (by omega)
    have hF := fire_law N (by omega) (by omega)
    have CM := hid (fun (W : World) (hb : Below w.heap.size w W) => implMiddleAt_any ((N : Int) - 1) W (hT.below hb))
    rw [partVal_yes (by rw [partOk_iff]; omega)] at CM
    have C2 := hid (fun (W : World) (hb : Below w.heap.size w W) => implFireAt_any (((N : Int) + 1) / 2) W (WalkArith.wf_i64 (by omega)) (hT.below hb))
    have hq : ((N : Int) + 1) / 2 = (((N + 1) / 2 : Nat) : Int) := by omega
    have hb2 := part_bd (last := (N : Int) - 1) (p := 2) (by rw [partOk_iff]; omega)
    rw [show fireOut (((N : Int) + 1) / 2) = fires (roundsN ((N + 1) / 2)) from by rw [hq]; unfold fireOut; rw [if_pos (by simp [within]; omega), roundsOut_yes (by omega), Int.toNat_natCast]] at C2
    rw [show fireOut (N : Int) = fires (roundsN N) from by unfold fireOut; rw [if_pos (by simp [within]; omega), roundsOut_yes (by omega), Int.toNat_natCast]] at CS CI
    obtain ⟨T, hT⟩ : ∃ T, fires (roundsN N) = T := ⟨_, rfl⟩
    obtain ⟨M, hM⟩ : ∃ M, partTime ((N : Int) - 1) 2 = M := ⟨_, rfl⟩
    obtain ⟨F, hFe⟩ : ∃ F, fires (roundsN ((N + 1) / 2)) = F := ⟨_, rfl⟩
    rw [hT] at CS CI hF
    rw [hM] at CM hF hb2
    rw [hFe] at C2 hF
    clear hT hM hFe hq
    obtain ⟨F1, F2, F3⟩ := hF
    subst F1
    have hn1 : ((N : Int) == 1) = false := by simp; omega
    have hn2 : decide ((N : Int) = 1) = false := by simp; omega
    go_wp2_with fail
    with_reducible refine Calls.mono (CI.out _ HB.out) ?_
    rintro r w2 ⟨rfl, st2⟩
    replace HB := hid (HB.out.trans ((st2).mono HB.out.size))
    clear st2
    go_wp2_with fail
    with_reducible refine Calls.mono (CS.out _) ?_
    rintro r w3 ⟨rfl, st3⟩
    replace HB := hid (HB.out.trans ((st3).mono HB.out.size))
    clear st3
    go_wp2_with fail
    with_reducible refine Calls.mono (CM.out _ HB.out) ?_
    rintro r w4 ⟨rfl, st4⟩
    replace HB := hid (HB.out.trans ((below_grown st4).mono HB.out.size))
    clear st4
    go_wp2_with fail
    with_reducible refine Calls.mono (C2.out _ HB.out) ?_
    rintro r w5 ⟨rfl, st5⟩
    replace HB := hid (HB.out.trans ((st5).mono HB.out.size))
    clear st5
    go_wp2
    go_ret
    exact ⟨rfl, HB.out⟩
  · by_cases h1 : n0 = 1
    · subst h1
      rw [show fireOut 1 = 0 from by decide] at CS CI
      clear hok
      go_wp2_with fail
      with_reducible refine Calls.mono (CI.out _ HB.out) ?_
      rintro r w2 ⟨rfl, st2⟩
      replace HB := hid (HB.out.trans ((st2).mono HB.out.size))
      clear st2
      go_wp2_with fail
      with_reducible refine Calls.mono (CS.out _) ?_
      rintro r w3 ⟨rfl, st3⟩
      replace HB := hid (HB.out.trans ((st3).mono HB.out.size))
      clear st3
      go_wp2_with fail
      refine (alive_any _).mono ?_
      rintro r w4 ⟨rfl, hb2⟩
      replace HB := hid (HB.out.trans (hb2.mono HB.out.size))
      clear hb2
      go_wp2
      go_ret
      exact ⟨rfl, HB.out⟩
    · rw [show fireOut n0 = -1 from by unfold fireOut; rw [if_neg (by simp [within]; omega)]] at CS CI
      clear hok
      go_wp2_with fail
      with_reducible refine Calls.mono (CI.out _ HB.out) ?_
      rintro r w2 ⟨rfl, st2⟩
      replace HB := hid (HB.out.trans ((st2).mono HB.out.size))
      clear st2
      go_wp2_with fail
      with_reducible refine Calls.mono (CS.out _) ?_
      rintro r w3 ⟨rfl, st3⟩
      replace HB := hid (HB.out.trans ((st3).mono HB.out.size))
      clear st3
      go_wp2_with fail
      refine (alive_any _).mono ?_
      rintro r w4 ⟨rfl, hb2⟩
      replace HB := hid (HB.out.trans (hb2.mono HB.out.size))
      clear hb2
      go_wp2
      go_ret
      exact ⟨rfl, HB.out⟩
end Go.Proofs.YtannfeiogocpeaaDoor
