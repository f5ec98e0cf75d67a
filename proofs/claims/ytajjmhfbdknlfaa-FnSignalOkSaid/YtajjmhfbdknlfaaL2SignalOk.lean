/-
  The walk of laws.FnSignalOk, written by program (lawsig.py). No statement is proved here.
-/
import Derived.Test.YtajjmhfbdknlfaaC2i
import Derived.Test.YtajjmhfbdknlfaaC2t
import Derived.Test.YtajjmhfbdknlfaaDr4
import Derived.Test.YtajjmhfbdknlfaaC1a
import Derived.Deep.RegionHeld3
namespace Go.Proofs.Ytajjmhfbdknlfaa
open Go.RowKit
set_option linter.unusedVariables false
set_option linter.unusedSimpArgs false

set_option maxRecDepth 100000 in
set_option maxHeartbeats 3200000 in
theorem fnSignalOk_walk (A : Option Addr) (n c : Nat) (w : World) (hs : By w w.heap.size A n) (hc : n ≤ c) :
    Calls Try.prog 3 #[.slice A n c] w fun e w' => e = .returned (.bool true) ∧ Below w.heap.size w w' := by
  have hm : n ≤ 9223372036854775807 := hs.1
  by_cases hbig : 1048576 < n
  · go_enter Try.func3, Try.ntmps3
    go_wp2
    go_ret
    exact ⟨rfl, Below.refl _ _⟩
  go_enter Try.func3, Try.ntmps3
  go_wp2_with fail
  refine (drawSignalOk_any A n c _ hs hc).mono ?_
  rintro r w1 ⟨f, d, z, rfl, f0, f1, d0, d1, z0, z1, hb1⟩
  clear hs
  have CS := hid (fun W : World => specSignalOk_any f d z W)
  have C1 := hid (fun W : World => implSignalOk_any f d z W)
  have C2 := hid (fun W : World => implSignalOk_any f (-d) z W)
  have C3 := hid (fun W : World => implSignalOk_any (z - f) d z W)
  have C4 := hid (fun W : World => implSignalOk_any 0 1 1 W)
  rw [sigOk_neg] at C2
  rw [sigOk_side] at C3
  rw [show sigOk 0 1 1 = true from by decide] at C4
  obtain ⟨b, hb⟩ : ∃ b, sigOk f d z = b := ⟨_, rfl⟩
  rw [hb] at CS C1 C2 C3
  clear hb
  cases b with
  | false =>
    go_wp2_with fail
    with_reducible refine Calls.mono (C1.out _) ?_
    rintro r w2 ⟨rfl, g2⟩
    have K : Hid (One w1 w2 f d) := hid ⟨g2.cell (by simp) (by simp), g2.cell (by simp) (by simp), (grown_alloc _ _ _).trans g2, Nat.le_trans (by simp) g2.size⟩
    clear g2
    obtain ⟨a0, a1, _, _⟩ := K.out
    go_wp2_with fail
    with_reducible refine Calls.mono (CS.out _) ?_
    rintro r w3 ⟨rfl, g3⟩
    have K := hid (K.out.on g3)
    clear a0 a1
    clear g3
    obtain ⟨a0, a1, _, _⟩ := K.out
    go_wp2_with fail
    with_reducible refine Calls.mono (C2.out _) ?_
    rintro r w4 ⟨rfl, g4⟩
    have K := hid (K.out.on g4)
    clear a0 a1
    clear g4
    obtain ⟨a0, a1, _, _⟩ := K.out
    go_wp2_with fail
    with_reducible refine Calls.mono (C3.out _) ?_
    rintro r w5 ⟨rfl, g5⟩
    have K := hid (K.out.on g5)
    clear a0 a1
    clear g5
    obtain ⟨a0, a1, _, _⟩ := K.out
    go_wp2_with fail
    with_reducible refine Calls.mono (C4.out _) ?_
    rintro r w6 ⟨rfl, g6⟩
    have K := hid (K.out.on g6)
    clear a0 a1
    clear g6
    obtain ⟨a0, a1, _, _⟩ := K.out
    go_wp2_with fail
    refine (alive_any _).mono ?_
    rintro r w7 ⟨rfl, hb2⟩
    have HB := hid (hb1.trans ((Below.trans (below_one K.out) (hb2.mono K.out.hg.size)).mono hb1.size))
    clear hb2 a0 a1
    go_wp2
    go_ret
    exact ⟨rfl, HB.out⟩
  | true =>
    go_wp2_with fail
    with_reducible refine Calls.mono (C1.out _) ?_
    rintro r w2 ⟨rfl, g2⟩
    have K : Hid (One w1 w2 f d) := hid ⟨g2.cell (by simp) (by simp), g2.cell (by simp) (by simp), (grown_alloc _ _ _).trans g2, Nat.le_trans (by simp) g2.size⟩
    clear g2
    obtain ⟨a0, a1, _, _⟩ := K.out
    go_wp2_with fail
    with_reducible refine Calls.mono (CS.out _) ?_
    rintro r w3 ⟨rfl, g3⟩
    have K := hid (K.out.on g3)
    clear a0 a1
    clear g3
    obtain ⟨a0, a1, _, _⟩ := K.out
    go_wp2_with fail
    with_reducible refine Calls.mono (C2.out _) ?_
    rintro r w4 ⟨rfl, g4⟩
    have K := hid (K.out.on g4)
    clear a0 a1
    clear g4
    obtain ⟨a0, a1, _, _⟩ := K.out
    go_wp2_with fail
    with_reducible refine Calls.mono (C3.out _) ?_
    rintro r w5 ⟨rfl, g5⟩
    have K := hid (K.out.on g5)
    clear a0 a1
    clear g5
    obtain ⟨a0, a1, _, _⟩ := K.out
    go_wp2_with fail
    with_reducible refine Calls.mono (C4.out _) ?_
    rintro r w6 ⟨rfl, g6⟩
    have K := hid (K.out.on g6)
    clear a0 a1
    clear g6
    obtain ⟨a0, a1, _, _⟩ := K.out
    go_wp2_with fail
    refine (alive_any _).mono ?_
    rintro r w7 ⟨rfl, hb2⟩
    have HB := hid (hb1.trans ((Below.trans (below_one K.out) (hb2.mono K.out.hg.size)).mono hb1.size))
    clear hb2 a0 a1
    go_wp2
    go_ret
    exact ⟨rfl, HB.out⟩
end Go.Proofs.Ytajjmhfbdknlfaa
