/-
  The walks of the exact laws of SignalOk, PlaceAt and RoundOf, and of the laws' toSignal.
-/
import Derived.Test.YtajjmhfbdknlfaaC2t
import Derived.Test.YtajjmhfbdknlfaaDr3
import Derived.Test.YtajjmhfbdknlfaaC2i
namespace Go.Proofs.Ytajjmhfbdknlfaa
open Go.RowKit
set_option linter.unusedVariables false
set_option linter.unusedSimpArgs false

set_option maxHeartbeats 800000 in
theorem toSignal_any (f e : Int) (w : World) :
    Calls Try.prog 31 #[sig f e] w fun r w' => r = .returned (sig f e) ∧ w.grownBy w' none := by
  have HB := hid (show Bx (((w.alloc (.cells #[.int .i64 f, .int .i64 e] 42)).alloc (.cells #[.int .i64 f, .int .i64 e] 24)).alloc (.cells #[.int .i64 f, .int .i64 e] 24)) (w.heap.size + 1) f e from by
    have h := Bx.new (w.alloc (.cells #[.int .i64 f, .int .i64 e] 42)) f e
    rw [show (w.alloc (.cells #[.int .i64 f, .int .i64 e] 42)).heap.size = w.heap.size + 1 from by simp] at h
    exact h.on (grown_alloc _ _ none) (by simp))
  go_enter Try.func31, Try.ntmps31
  go_wp2
  (try simp only [Exit.inBlock, Exit.then])
  refine bodyPost_ret (results_cell_row rfl _ _ (w.heap.size + 1) 24 _ (0, 0) _ (by simp) HB.out Try.underlying24 rfl size_sig) rfl ?_
  exact ⟨rfl, ((grown_alloc _ _ _).trans (grown_alloc _ _ _)).trans (grown_alloc _ _ _)⟩

set_option maxHeartbeats 1600000 in
theorem fnExactSignalOk_walk (f e last : Int) (w : World) (wf : (Lit.int .i64 f).wf = true) (we : (Lit.int .i64 e).wf = true) (wlast : (Lit.int .i64 last).wf = true) :
    Calls Try.prog 8 #[sig f e, .int .i64 last] w fun r w' => r = .returned (.bool true) ∧ Below w.heap.size w w' := by
  have CT := hid (fun W : World => toSignal_any f e W)
  have CS := hid (fun W : World => specSignalOk_any f e last W)
  have CI := hid (fun W : World => implSignalOk_any f e last W)
  obtain ⟨v, hv⟩ : ∃ v, sigOk f e last = v := ⟨_, rfl⟩
  rw [hv] at CS CI
  clear hv
  cases v with
  | false =>
    go_enter Try.func8, Try.ntmps8
    go_wp2_with fail
    with_reducible refine Calls.mono (CT.out _) ?_
    rintro r w1 ⟨rfl, g1⟩
    have K : Hid (One w w1 f e) := hid ⟨g1.cell (by simp) (by simp), g1.cell (by simp) (by simp), (grown_alloc _ _ _).trans g1, Nat.le_trans (by simp) g1.size⟩
    clear g1
    obtain ⟨a0, a1, _, _⟩ := K.out
    go_wp2_with fail
    with_reducible refine Calls.mono (CS.out _) ?_
    rintro r w2 ⟨rfl, g2⟩
    have K := hid (K.out.on g2)
    clear g2 a0 a1
    obtain ⟨a0, a1, _, _⟩ := K.out
    go_wp2_with fail
    with_reducible refine Calls.mono (CT.out _) ?_
    rintro r w3 ⟨rfl, g3⟩
    have K := hid (K.out.on g3)
    clear g3 a0 a1
    obtain ⟨a0, a1, _, _⟩ := K.out
    go_wp2_with fail
    with_reducible refine Calls.mono (CI.out _) ?_
    rintro r w4 ⟨rfl, g4⟩
    have K := hid (K.out.on g4)
    clear g4 a0 a1
    go_wp2
    go_ret
    exact ⟨rfl, below_one K.out⟩
  | true =>
    go_enter Try.func8, Try.ntmps8
    go_wp2_with fail
    with_reducible refine Calls.mono (CT.out _) ?_
    rintro r w1 ⟨rfl, g1⟩
    have K : Hid (One w w1 f e) := hid ⟨g1.cell (by simp) (by simp), g1.cell (by simp) (by simp), (grown_alloc _ _ _).trans g1, Nat.le_trans (by simp) g1.size⟩
    clear g1
    obtain ⟨a0, a1, _, _⟩ := K.out
    go_wp2_with fail
    with_reducible refine Calls.mono (CS.out _) ?_
    rintro r w2 ⟨rfl, g2⟩
    have K := hid (K.out.on g2)
    clear g2 a0 a1
    obtain ⟨a0, a1, _, _⟩ := K.out
    go_wp2_with fail
    with_reducible refine Calls.mono (CT.out _) ?_
    rintro r w3 ⟨rfl, g3⟩
    have K := hid (K.out.on g3)
    clear g3 a0 a1
    obtain ⟨a0, a1, _, _⟩ := K.out
    go_wp2_with fail
    with_reducible refine Calls.mono (CI.out _) ?_
    rintro r w4 ⟨rfl, g4⟩
    have K := hid (K.out.on g4)
    clear g4 a0 a1
    go_wp2
    go_ret
    exact ⟨rfl, below_one K.out⟩

set_option maxHeartbeats 1600000 in
theorem fnExactPlaceAt_walk (f e last t : Int) (w : World) (wf : (Lit.int .i64 f).wf = true) (we : (Lit.int .i64 e).wf = true) (wlast : (Lit.int .i64 last).wf = true) (wt : (Lit.int .i64 t).wf = true) :
    Calls Try.prog 9 #[sig f e, .int .i64 last, .int .i64 t] w fun r w' => r = .returned (.bool true) ∧ Below w.heap.size w w' := by
  have CT := hid (fun W : World => toSignal_any f e W)
  have CS := hid (fun W : World => specPlaceAt_any f e last t W)
  have CI := hid (fun W : World => implPlaceAt_any f e last t W)
  obtain ⟨v, hv⟩ : ∃ v, placeOut f e last t = v := ⟨_, rfl⟩
  rw [hv] at CS CI
  clear hv
  go_enter Try.func9, Try.ntmps9
  go_wp2_with fail
  with_reducible refine Calls.mono (CT.out _) ?_
  rintro r w1 ⟨rfl, g1⟩
  have K : Hid (One w w1 f e) := hid ⟨g1.cell (by simp) (by simp), g1.cell (by simp) (by simp), (grown_alloc _ _ _).trans g1, Nat.le_trans (by simp) g1.size⟩
  clear g1
  obtain ⟨a0, a1, _, _⟩ := K.out
  go_wp2_with fail
  with_reducible refine Calls.mono (CS.out _) ?_
  rintro r w2 ⟨rfl, g2⟩
  have K := hid (K.out.on g2)
  clear g2 a0 a1
  obtain ⟨a0, a1, _, _⟩ := K.out
  go_wp2_with fail
  with_reducible refine Calls.mono (CT.out _) ?_
  rintro r w3 ⟨rfl, g3⟩
  have K := hid (K.out.on g3)
  clear g3 a0 a1
  obtain ⟨a0, a1, _, _⟩ := K.out
  go_wp2_with fail
  with_reducible refine Calls.mono (CI.out _) ?_
  rintro r w4 ⟨rfl, g4⟩
  have K := hid (K.out.on g4)
  clear g4 a0 a1
  go_wp2
  go_ret
  exact ⟨rfl, below_one K.out⟩

set_option maxHeartbeats 1600000 in
theorem fnExactRoundOf_walk (f e last : Int) (w : World) (wf : (Lit.int .i64 f).wf = true) (we : (Lit.int .i64 e).wf = true) (wlast : (Lit.int .i64 last).wf = true) :
    Calls Try.prog 10 #[sig f e, .int .i64 last] w fun r w' => r = .returned (.bool true) ∧ Below w.heap.size w w' := by
  have CT := hid (fun W : World => toSignal_any f e W)
  have CS := hid (fun W : World => specRoundOf_any f e last W)
  have CI := hid (fun W : World => implRoundOf_any f e last W)
  obtain ⟨v, hv⟩ : ∃ v, roundOut f e last = v := ⟨_, rfl⟩
  rw [hv] at CS CI
  clear hv
  go_enter Try.func10, Try.ntmps10
  go_wp2_with fail
  with_reducible refine Calls.mono (CT.out _) ?_
  rintro r w1 ⟨rfl, g1⟩
  have K : Hid (One w w1 f e) := hid ⟨g1.cell (by simp) (by simp), g1.cell (by simp) (by simp), (grown_alloc _ _ _).trans g1, Nat.le_trans (by simp) g1.size⟩
  clear g1
  obtain ⟨a0, a1, _, _⟩ := K.out
  go_wp2_with fail
  with_reducible refine Calls.mono (CS.out _) ?_
  rintro r w2 ⟨rfl, g2⟩
  have K := hid (K.out.on g2)
  clear g2 a0 a1
  obtain ⟨a0, a1, _, _⟩ := K.out
  go_wp2_with fail
  with_reducible refine Calls.mono (CT.out _) ?_
  rintro r w3 ⟨rfl, g3⟩
  have K := hid (K.out.on g3)
  clear g3 a0 a1
  obtain ⟨a0, a1, _, _⟩ := K.out
  go_wp2_with fail
  with_reducible refine Calls.mono (CI.out _) ?_
  rintro r w4 ⟨rfl, g4⟩
  have K := hid (K.out.on g4)
  clear g4 a0 a1
  go_wp2
  go_ret
  exact ⟨rfl, below_one K.out⟩
end Go.Proofs.Ytajjmhfbdknlfaa
