/-
  The walk of laws.FnExactEndFlow, written by program (exactv.py). No statement is proved here.
-/
import Derived.Test.YtmjcefidhigppaaC11
import Derived.Test.YtmjcefidhigppaaC11i
import Derived.Test.YtmjcefidhigppaaExE
import Derived.Test.YtmjcefidhigppaaExT
namespace Go.Proofs.Ytmjcefidhigppaa
open Go.RowKit
set_option linter.unusedVariables false
set_option linter.unusedSimpArgs false

set_option maxHeartbeats 1600000 in
theorem fnExactEndFlow_walk (A0 : Option Addr) (n0 c0 : Nat) (l0 : List Int) (w : World) (hs0 : Sl w w.heap.size A0 n0 l0) :
    Calls Try.prog 10 #[.slice A0 n0 c0] w fun e w' => e = .returned (.bool true) ∧ Below w.heap.size w w' := by
  have hmax0 := hs0.max
  by_cases hbig0 : 1048576 < n0
  · go_enter Try.func10, Try.ntmps10
    go_wp2
    go_ret
    exact ⟨rfl, Below.refl _ _⟩
  have CS := hid (fun (A : Option Addr) (n c : Nat) (W : World) (hb : Below w.heap.size w W) (hs : Sl W W.heap.size A n l0) => specEndFlow_any A n c l0 W _ hs)
  have CI := hid (fun (A : Option Addr) (n c : Nat) (W : World) (hb : Below w.heap.size w W) (hs : Sl W W.heap.size A n l0) => implEndFlow_any A n c l0 W hs)
  obtain ⟨v, hv⟩ : ∃ v, endOut l0 = v := ⟨_, rfl⟩
  rw [hv] at CS CI
  clear hv
  go_enter Try.func10, Try.ntmps10
  have hb0 : Below w.heap.size w w := Below.refl _ _
  go_wp2_with fail
  refine (toIntS_any A0 n0 c0 l0 _ (hs0.on hb0) (by omega)).mono ?_
  rintro e w1 ⟨gC, rfl, oC, st1⟩
  have z1 := st1.size
  have hb1 := below_tr hb0 st1
  go_wp2_with fail
  with_reducible refine Calls.mono (CS.out _ _ _ _ hb1 (Sl.of_own oC)) ?_
  rintro e w' ⟨rfl, rfl⟩
  clear oC
  go_wp2_with fail
  refine (toIntS_any A0 n0 c0 l0 _ (hs0.on hb1) (by omega)).mono ?_
  rintro e w2 ⟨gX, rfl, oX, st2⟩
  have z2 := st2.size
  have hb2 := below_tr hb1 st2
  go_wp2_with fail
  with_reducible refine Calls.mono (CI.out _ _ _ _ hb2 (Sl.of_own oX)) ?_
  rintro e w3 ⟨rfl, st3⟩
  have z3 := st3.size
  have oX := own_on oX st3
  have hb3 := below_tr hb2 st3
  go_wp2_with fail
  refine (toIntS_any A0 n0 c0 l0 _ (hs0.on hb3) (by omega)).mono ?_
  rintro e w4 ⟨gD, rfl, oD, st4⟩
  have z4 := st4.size
  have oX := own_on oX st4
  have hb4 := below_tr hb3 st4
  go_wp2_with fail
  refine (eqIntS_b _ _ _ _ _ _ _ _ _ _ _ (Sl.of_own oX) (Sl.of_own oD)).mono ?_
  rintro e w5 ⟨rfl, st5⟩
  rw [decide_eq_true rfl]
  have z5 := st5.size
  have oX := own_on oX st5
  have oD := own_on oD st5
  have hb5 := below_tr hb4 st5
  go_wp2
  go_ret
  exact ⟨rfl, hb5⟩
end Go.Proofs.Ytmjcefidhigppaa
