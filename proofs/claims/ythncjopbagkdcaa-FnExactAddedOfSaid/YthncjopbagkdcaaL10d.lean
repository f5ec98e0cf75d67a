/-
  The walk of laws.FnExactAddedOf, written by program (exact.py). No statement is proved here.
-/
import Derived.Test.YthncjopbagkdcaaC10d
import Derived.Test.YthncjopbagkdcaaC10i
import Derived.Test.YthncjopbagkdcaaExE
import Derived.Test.YthncjopbagkdcaaExS
import Derived.Test.YthncjopbagkdcaaExM
import Derived.Test.YthncjopbagkdcaaExT
namespace Go.Proofs.Ythncjopbagkdcaa
open Go.RowKit
set_option linter.unusedVariables false
set_option linter.unusedSimpArgs false

set_option maxHeartbeats 1600000 in
theorem fnExactAddedOf_walk (A0 : Option Addr) (n0 c0 : Nat) (l0 : List Int) (A1 : Option Addr) (n1 c1 : Nat) (l1 : List Int) (w : World) (hs0 : Sl w w.heap.size A0 n0 l0) (hs1 : Sl w w.heap.size A1 n1 l1) :
    Calls Try.prog 12 #[.slice A0 n0 c0, .slice A1 n1 c1] w fun e w' => e = .returned (.bool true) ∧ Below w.heap.size w w' := by
  have hmax0 := hs0.max
  have hmax1 := hs1.max
  by_cases hbig0 : 1048576 < n0
  · go_enter Try.func12, Try.ntmps12
    go_wp2
    go_ret
    exact ⟨rfl, Below.refl _ _⟩
  by_cases hbig1 : 1048576 < n1
  · go_enter Try.func12, Try.ntmps12
    go_wp2
    go_ret
    exact ⟨rfl, Below.refl _ _⟩
  go_enter Try.func12, Try.ntmps12
  have hb0 : Below w.heap.size w w := Below.refl _ _
  go_wp2_with fail
  refine (toIntS_any A0 n0 c0 l0 _ (hs0.on hb0) (by omega)).mono ?_
  rintro e w1 ⟨gC0, rfl, oC0, st1⟩
  have z1 := st1.size
  have hb1 := below_tr hb0 st1
  have rloC0 := own_lo oC0
  have rhiC0 := own_hi oC0
  go_wp2_with fail
  refine (toIntS_any A1 n1 c1 l1 _ (hs1.on hb1) (by omega)).mono ?_
  rintro e w2 ⟨gC1, rfl, oC1, st2⟩
  have z2 := st2.size
  have oC0 := own_on oC0 st2
  have hb2 := below_tr hb1 st2
  have rloC1 := own_lo oC1
  have rhiC1 := own_hi oC1
  go_wp2_with fail
  refine (specAddedOf_any _ _ _ l0 _ _ _ l1 _ (Sl.of_own oC0) (Sl.of_own oC1)  ).mono ?_
  rintro e w3 ⟨AW, nW, cW, rfl, oW, hnW, st3⟩
  have z3 := st3.size
  have oC0 := own_on oC0 st3
  have oC1 := own_on oC1 st3
  have hb3 := below_tr hb2 st3
  have rloW := own_lo oW
  have rhiW := own_hi oW
  clear oC0
  clear oC1
  go_wp2_with fail
  refine (toIntS_any A0 n0 c0 l0 _ (hs0.on hb3) (by omega)).mono ?_
  rintro e w4 ⟨gX0, rfl, oX0, st4⟩
  have z4 := st4.size
  have oW := own_on oW st4
  have hb4 := below_tr hb3 st4
  have rloX0 := own_lo oX0
  have rhiX0 := own_hi oX0
  go_wp2_with fail
  refine (toIntS_any A1 n1 c1 l1 _ (hs1.on hb4) (by omega)).mono ?_
  rintro e w5 ⟨gX1, rfl, oX1, st5⟩
  have z5 := st5.size
  have oW := own_on oW st5
  have oX0 := own_on oX0 st5
  have hb5 := below_tr hb4 st5
  have rloX1 := own_lo oX1
  have rhiX1 := own_hi oX1
  go_wp2_with fail
  refine (implAddedOf_any _ _ _ l0 _ _ _ l1 _ (Sl.of_own oX0) (Sl.of_own oX1)  ).mono ?_
  rintro e w6 ⟨AG, nG, cG, rfl, oG, hnG, st6⟩
  have z6 := st6.size
  have oW := own_on oW st6
  have oX0 := own_on oX0 st6
  have oX1 := own_on oX1 st6
  have hb6 := below_tr hb5 st6
  have rloG := own_lo oG
  have rhiG := own_hi oG
  go_wp2_with fail
  refine (eqIntS_b _ _ _ _ _ _ _ _ _ _ _ (Sl.of_own oG) (Sl.of_own oW)).mono ?_
  rintro e w7 ⟨rfl, st7⟩
  rw [decide_eq_true rfl]
  have z7 := st7.size
  have oW := own_on oW st7
  have oX0 := own_on oX0 st7
  have oX1 := own_on oX1 st7
  have oG := own_on oG st7
  have hb7 := below_tr hb6 st7
  go_wp2_with fail
  refine (toIntS_any A0 n0 c0 l0 _ (hs0.on hb7) (by omega)).mono ?_
  rintro e w8 ⟨gD0, rfl, oD0, st8⟩
  have z8 := st8.size
  have oW := own_on oW st8
  have oX0 := own_on oX0 st8
  have oX1 := own_on oX1 st8
  have oG := own_on oG st8
  have hb8 := below_tr hb7 st8
  have rloD0 := own_lo oD0
  have rhiD0 := own_hi oD0
  go_wp2_with fail
  refine (eqIntS_b _ _ _ _ _ _ _ _ _ _ _ (Sl.of_own oX0) (Sl.of_own oD0)).mono ?_
  rintro e w9 ⟨rfl, st9⟩
  rw [decide_eq_true rfl]
  have z9 := st9.size
  have oW := own_on oW st9
  have oX0 := own_on oX0 st9
  have oX1 := own_on oX1 st9
  have oG := own_on oG st9
  have oD0 := own_on oD0 st9
  have hb9 := below_tr hb8 st9
  clear oD0
  go_wp2_with fail
  refine (toIntS_any A1 n1 c1 l1 _ (hs1.on hb9) (by omega)).mono ?_
  rintro e w10 ⟨gD1, rfl, oD1, st10⟩
  have z10 := st10.size
  have oW := own_on oW st10
  have oX0 := own_on oX0 st10
  have oX1 := own_on oX1 st10
  have oG := own_on oG st10
  have hb10 := below_tr hb9 st10
  have rloD1 := own_lo oD1
  have rhiD1 := own_hi oD1
  go_wp2_with fail
  refine (eqIntS_b _ _ _ _ _ _ _ _ _ _ _ (Sl.of_own oX1) (Sl.of_own oD1)).mono ?_
  rintro e w11 ⟨rfl, st11⟩
  rw [decide_eq_true rfl]
  have z11 := st11.size
  have oW := own_on oW st11
  have oX0 := own_on oX0 st11
  have oX1 := own_on oX1 st11
  have oG := own_on oG st11
  have oD1 := own_on oD1 st11
  have hb11 := below_tr hb10 st11
  clear oD1
  go_wp2_with fail
  refine (markIntS_any _ _ _ _ _ _ _ oX0 (by omega) (by omega) (by omega)).mono ?_
  rintro e w12 ⟨rfl, oX0, gr12⟩
  have z12 := gr12.size
  have oW := oW.kept gr12 (own_apart rloW rhiW rloX0 rhiX0 (by omega))
  have oX1 := oX1.kept gr12 (own_apart rloX1 rhiX1 rloX0 rhiX0 (by omega))
  have oG := oG.kept gr12 (own_apart rloG rhiG rloX0 rhiX0 (by omega))
  have hb12 := hb11.grown gr12 (by omega) (by intro j hj; have := rloX0 j hj; omega)
  go_wp2_with fail
  refine (markIntS_any _ _ _ _ _ _ _ oX1 (by omega) (by omega) (by omega)).mono ?_
  rintro e w13 ⟨rfl, oX1, gr13⟩
  have z13 := gr13.size
  have oW := oW.kept gr13 (own_apart rloW rhiW rloX1 rhiX1 (by omega))
  have oX0 := oX0.kept gr13 (own_apart rloX0 rhiX0 rloX1 rhiX1 (by omega))
  have oG := oG.kept gr13 (own_apart rloG rhiG rloX1 rhiX1 (by omega))
  have hb13 := hb12.grown gr13 (by omega) (by intro j hj; have := rloX1 j hj; omega)
  clear oX0
  clear oX1
  go_wp2_with fail
  refine (eqIntS_b _ _ _ _ _ _ _ _ _ _ _ (Sl.of_own oG) (Sl.of_own oW)).mono ?_
  rintro e w14 ⟨rfl, st14⟩
  rw [decide_eq_true rfl]
  have z14 := st14.size
  have oW := own_on oW st14
  have oG := own_on oG st14
  have hb14 := below_tr hb13 st14
  go_wp2_with fail
  refine (markIntS_any _ _ _ _ _ _ _ oG (by omega) (by omega) (by omega)).mono ?_
  rintro e w15 ⟨rfl, oG, gr15⟩
  have z15 := gr15.size
  have oW := oW.kept gr15 (own_apart rloW rhiW rloG rhiG (by omega))
  have hb15 := hb14.grown gr15 (by omega) (by intro j hj; have := rloG j hj; omega)
  go_wp2_with fail
  refine (heldIntS_any _ _ _ _ _ _ (Sl.of_own oG) (by omega) (by omega)).mono ?_
  rintro e w' ⟨rfl, rfl⟩
  go_wp2_with fail
  refine (toIntS_any A0 n0 c0 l0 _ (hs0.on hb15) (by omega)).mono ?_
  rintro e w16 ⟨gE0, rfl, oE0, st16⟩
  have z16 := st16.size
  have oW := own_on oW st16
  have oG := own_on oG st16
  have hb16 := below_tr hb15 st16
  have rloE0 := own_lo oE0
  have rhiE0 := own_hi oE0
  go_wp2_with fail
  refine (toIntS_any A1 n1 c1 l1 _ (hs1.on hb16) (by omega)).mono ?_
  rintro e w17 ⟨gE1, rfl, oE1, st17⟩
  have z17 := st17.size
  have oW := own_on oW st17
  have oG := own_on oG st17
  have oE0 := own_on oE0 st17
  have hb17 := below_tr hb16 st17
  have rloE1 := own_lo oE1
  have rhiE1 := own_hi oE1
  go_wp2_with fail
  refine (implAddedOf_any _ _ _ l0 _ _ _ l1 _ (Sl.of_own oE0) (Sl.of_own oE1)  ).mono ?_
  rintro e w18 ⟨AH, nH, cH, rfl, oH, hnH, st18⟩
  have z18 := st18.size
  have oW := own_on oW st18
  have oG := own_on oG st18
  have oE0 := own_on oE0 st18
  have oE1 := own_on oE1 st18
  have hb18 := below_tr hb17 st18
  have rloH := own_lo oH
  have rhiH := own_hi oH
  go_wp2_with fail
  refine (eqIntS_b _ _ _ _ _ _ _ _ _ _ _ (Sl.of_own oH) (Sl.of_own oW)).mono ?_
  rintro e w19 ⟨rfl, st19⟩
  rw [decide_eq_true rfl]
  have z19 := st19.size
  have oW := own_on oW st19
  have oG := own_on oG st19
  have oE0 := own_on oE0 st19
  have oE1 := own_on oE1 st19
  have oH := own_on oH st19
  have hb19 := below_tr hb18 st19
  go_wp2_with fail
  refine (heldIntS_any _ _ _ _ _ _ (Sl.of_own oG) (by omega) (by omega)).mono ?_
  rintro e w' ⟨rfl, rfl⟩
  go_wp2
  go_ret
  exact ⟨rfl, hb19⟩
end Go.Proofs.Ythncjopbagkdcaa
