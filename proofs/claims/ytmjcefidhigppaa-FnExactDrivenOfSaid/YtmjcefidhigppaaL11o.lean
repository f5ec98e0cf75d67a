/-
  The walk of laws.FnExactDrivenOf, written by program (exact.py). No statement is proved here.
-/
import Derived.Test.YtmjcefidhigppaaC11
import Derived.Test.YtmjcefidhigppaaC11i
import Derived.Test.YtmjcefidhigppaaExE
import Derived.Test.YtmjcefidhigppaaExS
import Derived.Test.YtmjcefidhigppaaExM
import Derived.Test.YtmjcefidhigppaaExT
namespace Go.Proofs.Ytmjcefidhigppaa
open Go.RowKit
set_option linter.unusedVariables false
set_option linter.unusedSimpArgs false

set_option maxHeartbeats 1600000 in
theorem fnExactDrivenOf_walk (A0 : Option Addr) (n0 c0 : Nat) (l0 : List Int) (w : World) (hs0 : Sl w w.heap.size A0 n0 l0) :
    Calls Try.prog 4 #[.slice A0 n0 c0] w fun e w' => e = .returned (.bool true) ∧ Below w.heap.size w w' := by
  have hmax0 := hs0.max
  by_cases hbig0 : 1048576 < n0
  · go_enter Try.func4, Try.ntmps4
    go_wp2
    go_ret
    exact ⟨rfl, Below.refl _ _⟩
  go_enter Try.func4, Try.ntmps4
  have hb0 : Below w.heap.size w w := Below.refl _ _
  go_wp2_with fail
  refine (toIntS_any A0 n0 c0 l0 _ (hs0.on hb0) (by omega)).mono ?_
  rintro e w1 ⟨gC0, rfl, oC0, st1⟩
  have z1 := st1.size
  have hb1 := below_tr hb0 st1
  have rloC0 := own_lo oC0
  have rhiC0 := own_hi oC0
  go_wp2_with fail
  refine (specDrivenOf_any _ _ _ l0 _ (Sl.of_own oC0)  ).mono ?_
  rintro e w2 ⟨AW, nW, cW, rfl, oW, hnW, st2⟩
  have z2 := st2.size
  have oC0 := own_on oC0 st2
  have hb2 := below_tr hb1 st2
  have rloW := own_lo oW
  have rhiW := own_hi oW
  clear oC0
  go_wp2_with fail
  refine (toIntS_any A0 n0 c0 l0 _ (hs0.on hb2) (by omega)).mono ?_
  rintro e w3 ⟨gX0, rfl, oX0, st3⟩
  have z3 := st3.size
  have oW := own_on oW st3
  have hb3 := below_tr hb2 st3
  have rloX0 := own_lo oX0
  have rhiX0 := own_hi oX0
  go_wp2_with fail
  refine (implDrivenOf_any _ _ _ l0 _ (Sl.of_own oX0)  ).mono ?_
  rintro e w4 ⟨AG, nG, cG, rfl, oG, hnG, st4⟩
  have z4 := st4.size
  have oW := own_on oW st4
  have oX0 := own_on oX0 st4
  have hb4 := below_tr hb3 st4
  have rloG := own_lo oG
  have rhiG := own_hi oG
  go_wp2_with fail
  refine (eqIntS_b _ _ _ _ _ _ _ _ _ _ _ (Sl.of_own oG) (Sl.of_own oW)).mono ?_
  rintro e w5 ⟨rfl, st5⟩
  rw [decide_eq_true rfl]
  have z5 := st5.size
  have oW := own_on oW st5
  have oX0 := own_on oX0 st5
  have oG := own_on oG st5
  have hb5 := below_tr hb4 st5
  go_wp2_with fail
  refine (toIntS_any A0 n0 c0 l0 _ (hs0.on hb5) (by omega)).mono ?_
  rintro e w6 ⟨gD0, rfl, oD0, st6⟩
  have z6 := st6.size
  have oW := own_on oW st6
  have oX0 := own_on oX0 st6
  have oG := own_on oG st6
  have hb6 := below_tr hb5 st6
  have rloD0 := own_lo oD0
  have rhiD0 := own_hi oD0
  go_wp2_with fail
  refine (eqIntS_b _ _ _ _ _ _ _ _ _ _ _ (Sl.of_own oX0) (Sl.of_own oD0)).mono ?_
  rintro e w7 ⟨rfl, st7⟩
  rw [decide_eq_true rfl]
  have z7 := st7.size
  have oW := own_on oW st7
  have oX0 := own_on oX0 st7
  have oG := own_on oG st7
  have oD0 := own_on oD0 st7
  have hb7 := below_tr hb6 st7
  clear oD0
  go_wp2_with fail
  refine (markIntS_any _ _ _ _ _ _ _ oX0 (by omega) (by omega) (by omega)).mono ?_
  rintro e w8 ⟨rfl, oX0, gr8⟩
  have z8 := gr8.size
  have oW := oW.kept gr8 (own_apart rloW rhiW rloX0 rhiX0 (by omega))
  have oG := oG.kept gr8 (own_apart rloG rhiG rloX0 rhiX0 (by omega))
  have hb8 := hb7.grown gr8 (by omega) (by intro j hj; have := rloX0 j hj; omega)
  clear oX0
  go_wp2_with fail
  refine (eqIntS_b _ _ _ _ _ _ _ _ _ _ _ (Sl.of_own oG) (Sl.of_own oW)).mono ?_
  rintro e w9 ⟨rfl, st9⟩
  rw [decide_eq_true rfl]
  have z9 := st9.size
  have oW := own_on oW st9
  have oG := own_on oG st9
  have hb9 := below_tr hb8 st9
  go_wp2_with fail
  refine (markIntS_any _ _ _ _ _ _ _ oG (by omega) (by omega) (by omega)).mono ?_
  rintro e w10 ⟨rfl, oG, gr10⟩
  have z10 := gr10.size
  have oW := oW.kept gr10 (own_apart rloW rhiW rloG rhiG (by omega))
  have hb10 := hb9.grown gr10 (by omega) (by intro j hj; have := rloG j hj; omega)
  go_wp2_with fail
  refine (heldIntS_any _ _ _ _ _ _ (Sl.of_own oG) (by omega) (by omega)).mono ?_
  rintro e w' ⟨rfl, rfl⟩
  go_wp2_with fail
  refine (toIntS_any A0 n0 c0 l0 _ (hs0.on hb10) (by omega)).mono ?_
  rintro e w11 ⟨gE0, rfl, oE0, st11⟩
  have z11 := st11.size
  have oW := own_on oW st11
  have oG := own_on oG st11
  have hb11 := below_tr hb10 st11
  have rloE0 := own_lo oE0
  have rhiE0 := own_hi oE0
  go_wp2_with fail
  refine (implDrivenOf_any _ _ _ l0 _ (Sl.of_own oE0)  ).mono ?_
  rintro e w12 ⟨AH, nH, cH, rfl, oH, hnH, st12⟩
  have z12 := st12.size
  have oW := own_on oW st12
  have oG := own_on oG st12
  have oE0 := own_on oE0 st12
  have hb12 := below_tr hb11 st12
  have rloH := own_lo oH
  have rhiH := own_hi oH
  go_wp2_with fail
  refine (eqIntS_b _ _ _ _ _ _ _ _ _ _ _ (Sl.of_own oH) (Sl.of_own oW)).mono ?_
  rintro e w13 ⟨rfl, st13⟩
  rw [decide_eq_true rfl]
  have z13 := st13.size
  have oW := own_on oW st13
  have oG := own_on oG st13
  have oE0 := own_on oE0 st13
  have oH := own_on oH st13
  have hb13 := below_tr hb12 st13
  go_wp2_with fail
  refine (heldIntS_any _ _ _ _ _ _ (Sl.of_own oG) (by omega) (by omega)).mono ?_
  rintro e w' ⟨rfl, rfl⟩
  go_wp2
  go_ret
  exact ⟨rfl, hb13⟩
end Go.Proofs.Ytmjcefidhigppaa
