/-
  The walk of laws.FnHeardAt. No statement is proved here.
-/
import Derived.Test.YtempgjbbgkacjaaC3h
import Derived.Test.YtempgjbbgkacjaaC3j
import Derived.Test.YtempgjbbgkacjaaC2i
import Derived.Test.YtempgjbbgkacjaaDr6h
import Derived.Deep.RegionHeld3
namespace Go.Proofs.Ytempgjbbgkacjaa
open Go.RowKit
set_option linter.unusedVariables false
set_option linter.unusedSimpArgs false

set_option maxRecDepth 100000 in
set_option maxHeartbeats 3200000 in
theorem fnHeardAt_walk (A : Option Addr) (n c : Nat) (w : World) (hs : By w w.heap.size A n) (hc : n ≤ c) :
    Calls Try.prog 3 #[.slice A n c] w fun e w' => e = .returned (.bool true) ∧ Below w.heap.size w w' := by
  have hm : n ≤ 9223372036854775807 := hs.1
  by_cases hbig : 1048576 < n
  · go_enter Try.func3, Try.ntmps3
    go_wp2
    go_ret
    exact ⟨rfl, Below.refl _ _⟩
  go_enter Try.func3, Try.ntmps3
  go_wp2_with fail
  refine (drawHeardAt_any A n c _ hs hc).mono ?_
  rintro r w1 ⟨l, p, rfl, l0, l1, p0, p1, hb1⟩
  clear hs
  have CS := hid (fun W : World => specHeardAt_any l p W)
  have CI := hid (fun W : World => implHeardAt_any l p W)
  have CZ := hid (fun W : World => implHeardAt_any l 0 W)
  have CR := hid (fun W : World => implRoundOf_any 0 1 l W)
  by_cases hok : (within l 1 40 && within p 0 l) = true
  · have hl : (1 ≤ l ∧ l ≤ 40) ∧ (0 ≤ p ∧ p ≤ l) := by simpa [within] using hok
    have h1 : sigOk 0 1 l = true := by rw [sigOk_iff]; omega
    have CP := hid (fun W : World => implPlaceAt_any 0 1 l (2 * l - p) W)
    rw [placeOut_at h1 (by omega) (by omega), fast_at hl.1.1 (by omega) (by omega), show 2 * l - (2 * l - p) = p from by omega] at CP
    rw [show heardOut l 0 = 2 * l from by unfold heardOut; rw [if_pos (by simp [within]; omega)]; omega] at CZ
    rw [show roundOut 0 1 l = 2 * l from by unfold roundOut; rw [if_pos h1, slow_pos (by omega)]; omega] at CR
    rw [show heardOut l p = 2 * l - p from by unfold heardOut; rw [if_pos hok]] at CS CI
    obtain ⟨⟨l2, l3⟩, p2, p3⟩ := hl
    clear hok h1
    go_wp2_with fail
    with_reducible refine Calls.mono (CI.out _) ?_
    rintro r w2 ⟨rfl, g2⟩
    have HG := hid g2
    clear g2
    go_wp2_with fail
    with_reducible refine Calls.mono (CS.out _) ?_
    rintro r w3 ⟨rfl, g3⟩
    replace HG := hid (HG.out.trans g3)
    clear g3
    go_wp2_with fail
    have hq1 : decide (l ≤ 2 * l - p) = true := by simp; omega
    have a0 : (w3.alloc (.cells #[.int .i64 0, .int .i64 1] 28)).cell? ⟨w3.heap.size, 0, none⟩ = some (.int .i64 0) := by simp
    have a1 : (w3.alloc (.cells #[.int .i64 0, .int .i64 1] 28)).cell? ⟨w3.heap.size, 1, none⟩ = some (.int .i64 1) := by simp
    replace HG := hid (HG.out.trans (grown_alloc w3 (.cells #[.int .i64 0, .int .i64 1] 28) none))
    go_region_held3 (fun w' => w'.cell? ⟨w3.heap.size, 0, none⟩ = some (.int .i64 0) ∧ w'.cell? ⟨w3.heap.size, 1, none⟩ = some (.int .i64 1))
      (first
        | go_keep
        | (go_split_ands
           refine ⟨?_, ?_⟩ <;> exact hg6.cell (by assumption) (by simp))
        | (go_split_ands
           refine ⟨?_, ?_⟩ <;> exact hg5.cell (by assumption) (by simp))
        | (go_split_ands
           refine ⟨?_, ?_⟩ <;> exact hg4.cell (by assumption) (by simp)))
      (first
        | (go_at_call 9; with_reducible refine Calls.mono (CP.out _) ?_; rintro r w4 ⟨rfl, hg4⟩)
        | (go_at_call 6; with_reducible refine Calls.mono (CZ.out _) ?_; rintro r w5 ⟨rfl, hg5⟩)
        | (go_at_call 10; with_reducible refine Calls.mono (CR.out _) ?_; rintro r w6 ⟨rfl, hg6⟩))
    replace HG := hid (HG.out.trans ((((drew_grown _).trans hg4).trans hg5).trans hg6))
    clear hg4 hg5 hg6
    go_wp2
    go_ret
    exact ⟨rfl, hb1.trans ((below_grown HG.out).mono hb1.size)⟩
  · rw [show heardOut l p = -1 from by unfold heardOut; rw [if_neg hok]] at CS CI
    clear hok CZ CR
    go_wp2_with fail
    with_reducible refine Calls.mono (CI.out _) ?_
    rintro r w2 ⟨rfl, g2⟩
    have HG := hid g2
    clear g2
    go_wp2_with fail
    with_reducible refine Calls.mono (CS.out _) ?_
    rintro r w3 ⟨rfl, g3⟩
    replace HG := hid (HG.out.trans g3)
    clear g3
    go_wp2_with fail
    refine (alive_any _).mono ?_
    rintro r w4 ⟨rfl, hb2⟩
    have HB := hid (hb1.trans ((Below.trans (below_grown HG.out) (hb2.mono HG.out.size)).mono hb1.size))
    clear hb2
    go_wp2
    go_ret
    exact ⟨rfl, HB.out⟩
end Go.Proofs.Ytempgjbbgkacjaa
