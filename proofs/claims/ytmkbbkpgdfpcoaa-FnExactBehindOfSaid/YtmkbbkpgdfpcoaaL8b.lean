/-
  The walk of laws.FnExactBehindOf, written by program (exact.py). No statement is proved here.
-/
import Derived.Test.YtmkbbkpgdfpcoaaC8p
import Derived.Test.YtmkbbkpgdfpcoaaC8i
import Derived.Test.YtmkbbkpgdfpcoaaExE
import Derived.Test.YtmkbbkpgdfpcoaaExM
import Derived.Test.YtmkbbkpgdfpcoaaExT
namespace Go.Proofs.Ytmkbbkpgdfpcoaa
open Go.RowKit
set_option linter.unusedVariables false
set_option linter.unusedSimpArgs false

set_option maxHeartbeats 1600000 in
theorem fnExactBehindOf_walk (A0 : Option Addr) (n0 c0 : Nat) (l0 : List Int) (A1 : Option Addr) (n1 c1 : Nat) (l1 : List Int) (A2 : Option Addr) (n2 c2 : Nat) (l2 : List Int) (w : World) (hs0 : Sl w w.heap.size A0 n0 l0) (hs1 : Sl w w.heap.size A1 n1 l1) (hs2 : Sl w w.heap.size A2 n2 l2) :
    Calls Try.prog 13 #[.slice A0 n0 c0, .slice A1 n1 c1, .slice A2 n2 c2] w fun e w' => e = .returned (.bool true) ∧ Below w.heap.size w w' := by
  have hmax0 := hs0.max
  have hmax1 := hs1.max
  have hmax2 := hs2.max
  by_cases hbig0 : 1048576 < n0
  · go_enter Try.func13, Try.ntmps13
    go_wp2
    go_ret
    exact ⟨rfl, Below.refl _ _⟩
  by_cases hbig1 : 1048576 < n1
  · go_enter Try.func13, Try.ntmps13
    go_wp2
    go_ret
    exact ⟨rfl, Below.refl _ _⟩
  by_cases hbig2 : 1048576 < n2
  · go_enter Try.func13, Try.ntmps13
    go_wp2
    go_ret
    exact ⟨rfl, Below.refl _ _⟩
  go_enter Try.func13, Try.ntmps13
  have hb0 : Below w.heap.size w w := Below.refl _ _
  go_wp2_with fail
  refine (toIntS_any A0 n0 c0 l0 _ (hs0.on hb0) (by omega)).mono ?_
  rintro e w1 ⟨gC0, rfl, oC0, st1⟩
  have z1 := st1.size
  have hb1 := below_tr hb0 st1
  have rloC0 := own_lo oC0
  have rhiC0 := own_hi oC0
  go_wp2_with fail
  refine (toIntS_any A1 n1 c1 l1 _ (hs1.on hb1) (by omega)).mono ?_
  rintro e w2 ⟨gC1, rfl, oC1, st2⟩
  have z2 := st2.size
  have oC0 := own_on oC0 st2
  have hb2 := below_tr hb1 st2
  have rloC1 := own_lo oC1
  have rhiC1 := own_hi oC1
  go_wp2_with fail
  refine (toIntS_any A2 n2 c2 l2 _ (hs2.on hb2) (by omega)).mono ?_
  rintro e w3 ⟨gC2, rfl, oC2, st3⟩
  have z3 := st3.size
  have oC0 := own_on oC0 st3
  have oC1 := own_on oC1 st3
  have hb3 := below_tr hb2 st3
  have rloC2 := own_lo oC2
  have rhiC2 := own_hi oC2
  go_wp2_with fail
  refine (specBehindOf_x _ _ _ l0 _ _ _ l1 _ _ _ l2 _ (Sl.of_own oC0) (Sl.of_own oC1) (Sl.of_own oC2)  ).mono ?_
  rintro e w4 ⟨AW, nW, cW, rfl, oW, hnW, st4⟩
  have z4 := st4.size
  have oC0 := own_on oC0 st4
  have oC1 := own_on oC1 st4
  have oC2 := own_on oC2 st4
  have hb4 := below_tr hb3 st4
  have rloW := own_lo oW
  have rhiW := own_hi oW
  clear oC0
  clear oC1
  clear oC2
  go_wp2_with fail
  refine (toIntS_any A0 n0 c0 l0 _ (hs0.on hb4) (by omega)).mono ?_
  rintro e w5 ⟨gX0, rfl, oX0, st5⟩
  have z5 := st5.size
  have oW := own_on oW st5
  have hb5 := below_tr hb4 st5
  have rloX0 := own_lo oX0
  have rhiX0 := own_hi oX0
  go_wp2_with fail
  refine (toIntS_any A1 n1 c1 l1 _ (hs1.on hb5) (by omega)).mono ?_
  rintro e w6 ⟨gX1, rfl, oX1, st6⟩
  have z6 := st6.size
  have oW := own_on oW st6
  have oX0 := own_on oX0 st6
  have hb6 := below_tr hb5 st6
  have rloX1 := own_lo oX1
  have rhiX1 := own_hi oX1
  go_wp2_with fail
  refine (toIntS_any A2 n2 c2 l2 _ (hs2.on hb6) (by omega)).mono ?_
  rintro e w7 ⟨gX2, rfl, oX2, st7⟩
  have z7 := st7.size
  have oW := own_on oW st7
  have oX0 := own_on oX0 st7
  have oX1 := own_on oX1 st7
  have hb7 := below_tr hb6 st7
  have rloX2 := own_lo oX2
  have rhiX2 := own_hi oX2
  go_wp2_with fail
  refine (implBehindOf_any _ _ _ l0 _ _ _ l1 _ _ _ l2 _ (Sl.of_own oX0) (Sl.of_own oX1) (Sl.of_own oX2)  ).mono ?_
  rintro e w8 ⟨AG, nG, cG, rfl, oG, hnG, st8⟩
  have z8 := st8.size
  have oW := own_on oW st8
  have oX0 := own_on oX0 st8
  have oX1 := own_on oX1 st8
  have oX2 := own_on oX2 st8
  have hb8 := below_tr hb7 st8
  have rloG := own_lo oG
  have rhiG := own_hi oG
  go_wp2_with fail
  refine (eqIntS_b _ _ _ _ _ _ _ _ _ _ _ (Sl.of_own oG) (Sl.of_own oW)).mono ?_
  rintro e w9 ⟨rfl, st9⟩
  rw [decide_eq_true rfl]
  have z9 := st9.size
  have oW := own_on oW st9
  have oX0 := own_on oX0 st9
  have oX1 := own_on oX1 st9
  have oX2 := own_on oX2 st9
  have oG := own_on oG st9
  have hb9 := below_tr hb8 st9
  go_wp2_with fail
  refine (toIntS_any A0 n0 c0 l0 _ (hs0.on hb9) (by omega)).mono ?_
  rintro e w10 ⟨gD0, rfl, oD0, st10⟩
  have z10 := st10.size
  have oW := own_on oW st10
  have oX0 := own_on oX0 st10
  have oX1 := own_on oX1 st10
  have oX2 := own_on oX2 st10
  have oG := own_on oG st10
  have hb10 := below_tr hb9 st10
  have rloD0 := own_lo oD0
  have rhiD0 := own_hi oD0
  go_wp2_with fail
  refine (eqIntS_b _ _ _ _ _ _ _ _ _ _ _ (Sl.of_own oX0) (Sl.of_own oD0)).mono ?_
  rintro e w11 ⟨rfl, st11⟩
  rw [decide_eq_true rfl]
  have z11 := st11.size
  have oW := own_on oW st11
  have oX0 := own_on oX0 st11
  have oX1 := own_on oX1 st11
  have oX2 := own_on oX2 st11
  have oG := own_on oG st11
  have oD0 := own_on oD0 st11
  have hb11 := below_tr hb10 st11
  clear oD0
  go_wp2_with fail
  refine (toIntS_any A1 n1 c1 l1 _ (hs1.on hb11) (by omega)).mono ?_
  rintro e w12 ⟨gD1, rfl, oD1, st12⟩
  have z12 := st12.size
  have oW := own_on oW st12
  have oX0 := own_on oX0 st12
  have oX1 := own_on oX1 st12
  have oX2 := own_on oX2 st12
  have oG := own_on oG st12
  have hb12 := below_tr hb11 st12
  have rloD1 := own_lo oD1
  have rhiD1 := own_hi oD1
  go_wp2_with fail
  refine (eqIntS_b _ _ _ _ _ _ _ _ _ _ _ (Sl.of_own oX1) (Sl.of_own oD1)).mono ?_
  rintro e w13 ⟨rfl, st13⟩
  rw [decide_eq_true rfl]
  have z13 := st13.size
  have oW := own_on oW st13
  have oX0 := own_on oX0 st13
  have oX1 := own_on oX1 st13
  have oX2 := own_on oX2 st13
  have oG := own_on oG st13
  have oD1 := own_on oD1 st13
  have hb13 := below_tr hb12 st13
  clear oD1
  go_wp2_with fail
  refine (toIntS_any A2 n2 c2 l2 _ (hs2.on hb13) (by omega)).mono ?_
  rintro e w14 ⟨gD2, rfl, oD2, st14⟩
  have z14 := st14.size
  have oW := own_on oW st14
  have oX0 := own_on oX0 st14
  have oX1 := own_on oX1 st14
  have oX2 := own_on oX2 st14
  have oG := own_on oG st14
  have hb14 := below_tr hb13 st14
  have rloD2 := own_lo oD2
  have rhiD2 := own_hi oD2
  go_wp2_with fail
  refine (eqIntS_b _ _ _ _ _ _ _ _ _ _ _ (Sl.of_own oX2) (Sl.of_own oD2)).mono ?_
  rintro e w15 ⟨rfl, st15⟩
  rw [decide_eq_true rfl]
  have z15 := st15.size
  have oW := own_on oW st15
  have oX0 := own_on oX0 st15
  have oX1 := own_on oX1 st15
  have oX2 := own_on oX2 st15
  have oG := own_on oG st15
  have oD2 := own_on oD2 st15
  have hb15 := below_tr hb14 st15
  clear oD2
  go_wp2_with fail
  refine (markIntS_any _ _ _ _ _ _ _ oX0 (by omega) (by omega) (by omega)).mono ?_
  rintro e w16 ⟨rfl, oX0, gr16⟩
  have z16 := gr16.size
  have oW := oW.kept gr16 (own_apart rloW rhiW rloX0 rhiX0 (by omega))
  have oX1 := oX1.kept gr16 (own_apart rloX1 rhiX1 rloX0 rhiX0 (by omega))
  have oX2 := oX2.kept gr16 (own_apart rloX2 rhiX2 rloX0 rhiX0 (by omega))
  have oG := oG.kept gr16 (own_apart rloG rhiG rloX0 rhiX0 (by omega))
  have hb16 := hb15.grown gr16 (by omega) (by intro j hj; have := rloX0 j hj; omega)
  go_wp2_with fail
  refine (markIntS_any _ _ _ _ _ _ _ oX1 (by omega) (by omega) (by omega)).mono ?_
  rintro e w17 ⟨rfl, oX1, gr17⟩
  have z17 := gr17.size
  have oW := oW.kept gr17 (own_apart rloW rhiW rloX1 rhiX1 (by omega))
  have oX0 := oX0.kept gr17 (own_apart rloX0 rhiX0 rloX1 rhiX1 (by omega))
  have oX2 := oX2.kept gr17 (own_apart rloX2 rhiX2 rloX1 rhiX1 (by omega))
  have oG := oG.kept gr17 (own_apart rloG rhiG rloX1 rhiX1 (by omega))
  have hb17 := hb16.grown gr17 (by omega) (by intro j hj; have := rloX1 j hj; omega)
  go_wp2_with fail
  refine (markIntS_any _ _ _ _ _ _ _ oX2 (by omega) (by omega) (by omega)).mono ?_
  rintro e w18 ⟨rfl, oX2, gr18⟩
  have z18 := gr18.size
  have oW := oW.kept gr18 (own_apart rloW rhiW rloX2 rhiX2 (by omega))
  have oX0 := oX0.kept gr18 (own_apart rloX0 rhiX0 rloX2 rhiX2 (by omega))
  have oX1 := oX1.kept gr18 (own_apart rloX1 rhiX1 rloX2 rhiX2 (by omega))
  have oG := oG.kept gr18 (own_apart rloG rhiG rloX2 rhiX2 (by omega))
  have hb18 := hb17.grown gr18 (by omega) (by intro j hj; have := rloX2 j hj; omega)
  clear oX0
  clear oX1
  clear oX2
  go_wp2_with fail
  refine (eqIntS_b _ _ _ _ _ _ _ _ _ _ _ (Sl.of_own oG) (Sl.of_own oW)).mono ?_
  rintro e w19 ⟨rfl, st19⟩
  rw [decide_eq_true rfl]
  have z19 := st19.size
  have oW := own_on oW st19
  have oG := own_on oG st19
  have hb19 := below_tr hb18 st19
  go_wp2_with fail
  refine (markIntS_any _ _ _ _ _ _ _ oG (by omega) (by omega) (by omega)).mono ?_
  rintro e w20 ⟨rfl, oG, gr20⟩
  have z20 := gr20.size
  have oW := oW.kept gr20 (own_apart rloW rhiW rloG rhiG (by omega))
  have hb20 := hb19.grown gr20 (by omega) (by intro j hj; have := rloG j hj; omega)
  go_wp2_with fail
  refine (heldIntS_any _ _ _ _ _ _ (Sl.of_own oG) (by omega) (by omega)).mono ?_
  rintro e w' ⟨rfl, rfl⟩
  go_wp2_with fail
  refine (toIntS_any A0 n0 c0 l0 _ (hs0.on hb20) (by omega)).mono ?_
  rintro e w21 ⟨gE0, rfl, oE0, st21⟩
  have z21 := st21.size
  have oW := own_on oW st21
  have oG := own_on oG st21
  have hb21 := below_tr hb20 st21
  have rloE0 := own_lo oE0
  have rhiE0 := own_hi oE0
  go_wp2_with fail
  refine (toIntS_any A1 n1 c1 l1 _ (hs1.on hb21) (by omega)).mono ?_
  rintro e w22 ⟨gE1, rfl, oE1, st22⟩
  have z22 := st22.size
  have oW := own_on oW st22
  have oG := own_on oG st22
  have oE0 := own_on oE0 st22
  have hb22 := below_tr hb21 st22
  have rloE1 := own_lo oE1
  have rhiE1 := own_hi oE1
  go_wp2_with fail
  refine (toIntS_any A2 n2 c2 l2 _ (hs2.on hb22) (by omega)).mono ?_
  rintro e w23 ⟨gE2, rfl, oE2, st23⟩
  have z23 := st23.size
  have oW := own_on oW st23
  have oG := own_on oG st23
  have oE0 := own_on oE0 st23
  have oE1 := own_on oE1 st23
  have hb23 := below_tr hb22 st23
  have rloE2 := own_lo oE2
  have rhiE2 := own_hi oE2
  go_wp2_with fail
  refine (implBehindOf_any _ _ _ l0 _ _ _ l1 _ _ _ l2 _ (Sl.of_own oE0) (Sl.of_own oE1) (Sl.of_own oE2)  ).mono ?_
  rintro e w24 ⟨AH, nH, cH, rfl, oH, hnH, st24⟩
  have z24 := st24.size
  have oW := own_on oW st24
  have oG := own_on oG st24
  have oE0 := own_on oE0 st24
  have oE1 := own_on oE1 st24
  have oE2 := own_on oE2 st24
  have hb24 := below_tr hb23 st24
  have rloH := own_lo oH
  have rhiH := own_hi oH
  go_wp2_with fail
  refine (eqIntS_b _ _ _ _ _ _ _ _ _ _ _ (Sl.of_own oH) (Sl.of_own oW)).mono ?_
  rintro e w25 ⟨rfl, st25⟩
  rw [decide_eq_true rfl]
  have z25 := st25.size
  have oW := own_on oW st25
  have oG := own_on oG st25
  have oE0 := own_on oE0 st25
  have oE1 := own_on oE1 st25
  have oE2 := own_on oE2 st25
  have oH := own_on oH st25
  have hb25 := below_tr hb24 st25
  go_wp2_with fail
  refine (heldIntS_any _ _ _ _ _ _ (Sl.of_own oG) (by omega) (by omega)).mono ?_
  rintro e w' ⟨rfl, rfl⟩
  go_wp2
  go_ret
  exact ⟨rfl, hb25⟩
end Go.Proofs.Ytmkbbkpgdfpcoaa
