/-
  The walk of laws.FnMiddlesOf, written by program (law3.py). No statement is proved here.
-/
import Derived.Test.YtempgjbbgkacjaaDoorC3
import Derived.Test.YtempgjbbgkacjaaDoorC3i
import Derived.Test.YtempgjbbgkacjaaDoorDr6
import Derived.Test.YtempgjbbgkacjaaDoorExS
import Derived.IntWalk
namespace Go.Proofs.YtempgjbbgkacjaaDoor
open Go.RowKit
set_option linter.unusedVariables false
set_option linter.unusedSimpArgs false

set_option maxRecDepth 100000 in
set_option maxHeartbeats 3200000 in
theorem fnMiddlesOf_walk (A : Option Addr) (n c : Nat) (w : World) (hs : By w w.heap.size A n) (hc : n ≤ c) (hT : Tabs w) :
    Calls Tryd.prog 5 #[.slice A n c] w fun e w' => e = .returned (.bool true) ∧ Below w.heap.size w w' := by
  have hm : n ≤ 9223372036854775807 := hs.1
  by_cases hbig : 1048576 < n
  · go_enter Tryd.func5, Tryd.ntmps5
    go_wp2
    go_ret
    exact ⟨rfl, Below.refl _ _⟩
  go_enter Tryd.func5, Tryd.ntmps5
  go_wp2_with fail
  refine (drawMiddlesOf_any A n c _ hs hc).mono ?_
  rintro r w1 ⟨l, rfl, l0, l1, hb1⟩
  clear hs
  have CS := hid (fun W : World => specMiddlesOf_any l W)
  replace hT := hid (hT.below hb1)
  have CI := hid (fun (W : World) (hW : Tabs W) => implMiddlesOf_any l W hW)
  go_wp2_with fail
  with_reducible refine Calls.mono (CI.out _ hT.out) ?_
  rintro r w2 ⟨AG, nG, cG, rfl, oG, hnG, st2⟩
  replace hb1 := hb1.trans (st2.mono hb1.size)
  clear st2
  go_wp2_with fail
  with_reducible refine Calls.mono (CS.out _) ?_
  rintro r w3 ⟨AW, nW, cW, rfl, oW, hnW, st3⟩
  replace hb1 := hb1.trans (st3.mono hb1.size)
  replace oG := own_on oG st3
  clear st3
  go_wp2_with fail
  refine (sameInts_b _ _ _ _ _ _ _ _ _ _ _ (Sl.of_own oG) (Sl.of_own oW)).mono ?_
  rintro r w4 ⟨rfl, st4⟩
  rw [decide_eq_true rfl]
  replace hb1 := hb1.trans (st4.mono hb1.size)
  replace oG := own_on oG st4
  clear st4 oW CS CI
  have hlen : (middles l).length = nG := by have := oG.1; simpa using this
  by_cases hok : within l 1 40 = true
  · have hl : 1 ≤ l ∧ l ≤ 40 := by simpa [within] using hok
    by_cases h2 : l % 2 = 0
    · rw [show middles l = [l / 2] by unfold middles; rw [if_pos hok, if_pos h2]] at oG hlen
      obtain rfl : nG = 1 := by simpa using hlen.symm
      obtain ⟨g, cg, hs0, _, _⟩ := own_shape oG
      injection hs0 with e1 e2 e3
      subst e1
      have hc0 := own_cell oG rfl (show 0 < 1 by omega)
      rw [show nth [l / 2] 0 = l / 2 from rfl] at hc0
      have HB := hid hb1
      clear hb1 oG hlen hok e3
      have m1 : l.tmod 2 = 0 := by rw [Int.tmod_eq_emod_of_nonneg (by omega)]; exact h2
      have m2 : (l / 2 == l - l / 2) = true := by simp; omega
      have m3 : IntKind.i64.wrap (l - l / 2) = l - l / 2 := IntWalk.i64_in _ (by omega)
      have z0 : IntKind.i64.wrap 0 = 0 := rfl
      have z1 : IntKind.i64.wrap 1 = 1 := rfl
      have z2 : IntKind.i64.wrap 2 = 2 := rfl
      clear h2
      go_wp2
      go_quiet (fail)
      go_wp2
      go_ret
      exact ⟨rfl, HB.out.trans (below_drewN (Below.refl _ _) _)⟩
    · rw [show middles l = [l / 2, l / 2 + 1] by unfold middles; rw [if_pos hok, if_neg h2]] at oG hlen
      obtain rfl : nG = 2 := by simpa using hlen.symm
      obtain ⟨g, cg, hs0, _, _⟩ := own_shape oG
      injection hs0 with e1 e2 e3
      subst e1
      have hc0 := own_cell oG rfl (show 0 < 2 by omega)
      have hc1 := own_cell oG rfl (show 1 < 2 by omega)
      rw [show nth [l / 2, l / 2 + 1] 0 = l / 2 from rfl] at hc0
      rw [show nth [l / 2, l / 2 + 1] 1 = l / 2 + 1 from rfl] at hc1
      have HB := hid hb1
      clear hb1 oG hlen hok e3
      have m1 : l.tmod 2 = 1 := by rw [Int.tmod_eq_emod_of_nonneg (by omega)]; omega
      have m2 : (l / 2 == l - (l / 2 + 1)) = true := by simp; omega
      have m3 : IntKind.i64.wrap (l - (l / 2 + 1)) = l - (l / 2 + 1) := IntWalk.i64_in _ (by omega)
      have z0 : IntKind.i64.wrap 0 = 0 := rfl
      have z1 : IntKind.i64.wrap 1 = 1 := rfl
      have z2 : IntKind.i64.wrap 2 = 2 := rfl
      clear h2
      go_wp2
      go_quiet (fail)
      go_wp2
      go_ret
      exact ⟨rfl, HB.out.trans (below_drewN (Below.refl _ _) _)⟩
  · have hno : l < 1 ∨ 40 < l := by
      have h := hok
      simp [within] at h
      omega
    rw [show middles l = [] by unfold middles; rw [if_neg hok]] at oG hlen
    obtain rfl : nG = 0 := by simpa using hlen.symm
    clear hok hlen oG
    rcases hno with hno | hno
    · go_wp2_with fail
      refine (alive_any _).mono ?_
      rintro r w5 ⟨rfl, hb2⟩
      have HB := hid (hb1.trans (hb2.mono hb1.size))
      clear hb2 hb1
      go_wp2
      go_ret
      exact ⟨rfl, HB.out⟩
    · have hno2 : decide (l < 1) = false := by simp; omega
      go_wp2_with fail
      refine (alive_any _).mono ?_
      rintro r w5 ⟨rfl, hb2⟩
      have HB := hid (hb1.trans (hb2.mono hb1.size))
      clear hb2 hb1
      go_wp2
      go_ret
      exact ⟨rfl, HB.out⟩
end Go.Proofs.YtempgjbbgkacjaaDoor
