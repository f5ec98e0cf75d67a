/-
  The walk of laws.FnExactRowText, written by program (exactv.py, then by hand). No statement is proved here.
-/
import Derived.Test.YtkejcajboneniaaDoorT12a
import Derived.Test.YtkejcajboneniaaDoorT12i
import Derived.Test.YtkejcajboneniaaDoorExE
import Derived.Test.YtkejcajboneniaaDoorExT
namespace Go.Proofs.YtkejcajboneniaaDoor
open Go.RowKit
set_option linter.unusedVariables false
set_option linter.unusedSimpArgs false

set_option maxHeartbeats 1600000 in
theorem fnExactRowText_walk (A0 : Option Addr) (n0 c0 : Nat) (l0 : List Int) (w : World) (hs0 : Sl w w.heap.size A0 n0 l0) (hT : TabsP w) :
    Calls Tryd.prog 4 #[.slice A0 n0 c0] w fun e w' => e = .returned (.bool true) ∧ Below w.heap.size w w' := by
  have hmax0 := hs0.max
  by_cases hbig0 : 1048576 < n0
  · go_enter Tryd.func4, Tryd.ntmps4
    go_wp2
    go_ret
    exact ⟨rfl, Below.refl _ _⟩
  have CS := hid (fun (A : Option Addr) (n c : Nat) (W : World) (hb : Below w.heap.size w W) (hs : Sl W W.heap.size A n l0) => specRowText_any A n c l0 W hs)
  have CI := hid (fun (A : Option Addr) (n c : Nat) (W : World) (hb : Below w.heap.size w W) (hs : Sl W W.heap.size A n l0) => implRowText_any A n c l0 W hs (hT.below hb))
  obtain ⟨v, hv⟩ : ∃ v, rowTextOut l0 = v := ⟨_, rfl⟩
  rw [hv] at CS CI
  clear hv
  go_enter Tryd.func4, Tryd.ntmps4
  have hb0 : Below w.heap.size w w := Below.refl _ _
  go_wp2_with fail
  refine (toIntS_any A0 n0 c0 l0 _ (hs0.on hb0) (by omega)).mono ?_
  rintro e w1 ⟨gC, rfl, oC, st1⟩
  have z1 := st1.size
  have hb1 := below_tr hb0 st1
  go_wp2_with fail
  with_reducible refine Calls.mono (CS.out _ _ _ _ hb1 (Sl.of_own oC)) ?_
  rintro e wS ⟨rfl, stS⟩
  clear oC
  have zS := stS.size
  have hbS := below_tr hb1 stS
  go_wp2_with fail
  refine (toIntS_any A0 n0 c0 l0 _ (hs0.on hbS) (by omega)).mono ?_
  rintro e w2 ⟨gX, rfl, oX, st2⟩
  have z2 := st2.size
  have hb2 := below_tr hbS st2
  go_wp2_with fail
  with_reducible refine Calls.mono (CI.out _ _ _ _ hb2 (Sl.of_own oX)) ?_
  rintro e w3 ⟨rfl, st3⟩
  have z3 := st3.size
  have oX := own_on oX st3
  have hb3 := below_tr hb2 st3
  go_wp2_with fail
  refine (toIntS_any A0 n0 c0 l0 _ (hs0.on hb3) (by omega)).mono ?_
  rintro e w4 ⟨gD, rfl, oD, st4⟩
  have z4 := st4.size
  have oX := own_on oX st4
  have hb4 := below_tr hb3 st4
  go_wp2_with fail
  refine (eqIntS_b _ _ _ _ _ _ _ _ _ _ _ (Sl.of_own oX) (Sl.of_own oD)).mono ?_
  rintro e w5 ⟨rfl, st5⟩
  rw [decide_eq_true rfl]
  have z5 := st5.size
  have oX := own_on oX st5
  have oD := own_on oD st5
  have hb5 := below_tr hb4 st5
  go_wp2
  go_ret
  exact ⟨rfl, hb5⟩
end Go.Proofs.YtkejcajboneniaaDoor
