/-
  The walk of laws.FnExactTickOf, written by program (exact6.py). No statement is proved here.
-/
import Derived.Test.YtdacjpaaffpfgaaC6t
import Derived.Test.YtdacjpaaffpfgaaC6i
import Derived.Test.YtdacjpaaffpfgaaC6l
import Derived.Test.YtdacjpaaffpfgaaExC
import Derived.Deep.RegionHeld3
namespace Go.Proofs.Ytdacjpaaffpfgaa
open Go.RowKit
set_option linter.unusedVariables false
set_option linter.unusedSimpArgs false

set_option maxRecDepth 100000 in
set_option maxHeartbeats 6400000 in
theorem fnExactTickOf_walk (A : Option Addr) (n c : Nat) (A2 : Option Addr) (n2 c2 : Nat) (D C : List Int) (t : Bool) (w : World) (h1 : Sl w w.heap.size A n D) (h2 : Sl w w.heap.size A2 n2 C) :
    Calls Try.prog 11 #[ctr A n c A2 n2 c2, .bool t] w fun e w' => e = .returned (.bool true) ∧ Below w.heap.size w w' := by
  have hlen := tick_len8 D C t
  have CS := hid (fun (a : Option Addr) (n1 e1 : Nat) (a2 : Option Addr) (n3 e2 : Nat) (W : World) (k1 : Sl W W.heap.size a n1 D) (k2 : Sl W W.heap.size a2 n3 C) => specTickOf_any a n1 e1 a2 n3 e2 D C t W k1 k2)
  have CI := hid (fun (a : Option Addr) (n1 e1 : Nat) (a2 : Option Addr) (n3 e2 : Nat) (W : World) (k1 : Sl W W.heap.size a n1 D) (k2 : Sl W W.heap.size a2 n3 C) => implTickOf_any a n1 e1 a2 n3 e2 D C t W k1 k2)
  obtain ⟨v, hv⟩ : ∃ v, ctrOk D C = v := ⟨_, rfl⟩
  obtain ⟨OD, hOD⟩ : ∃ l, tickD D C t = l := ⟨_, rfl⟩
  obtain ⟨OC, hOC⟩ : ∃ l, tickC D C t = l := ⟨_, rfl⟩
  rw [hv, hOD, hOC] at CS CI
  rw [hOD, hOC] at hlen
  clear hv hOD hOC
  obtain ⟨l8, l9⟩ := hlen
  have en : (v != v) = false := by simp
  go_enter Try.func11, Try.ntmps11
  have hb0 : Below w.heap.size w w := Below.refl _ _
  have hm1 := h1.max
  have hm2 := h2.max
  have st1 := (Below.refl w.heap.size w).alloc (Nat.le_refl _) (.cells #[.slice A n c, .slice A2 n2 c2] 42)
  have XP := Bt.new w 42 (.slice A n c) (.slice A2 n2 c2)
  obtain ⟨bP, hbP⟩ : ∃ q, w.heap.size = q := ⟨_, rfl⟩
  rw [hbP] at XP
  obtain ⟨w1, e1⟩ : ∃ W, w.alloc (.cells #[.slice A n c, .slice A2 n2 c2] 42) = W := ⟨_, rfl⟩
  rw [e1] at XP st1
  have BP := hid XP
  clear XP
  have z1 := st1.size
  have hb1 := below_tr hb0 st1
  clear st1
  have Pc0 := BP.out.c0
  have Pc1 := BP.out.c1
  go_wp2_with fail
  clear Pc0 Pc1
  refine (szCounter_any _ _ _ _ _ _ _ hm1 hm2).mono ?_
  rintro e w2 ⟨⟨s, rfl, hs0⟩, gg⟩
  have st2 := below_grown gg
  clear gg
  replace BP := hid (BP.out.below st2)
  have z2 := st2.size
  have hb2 := below_tr hb1 st2
  clear st2
  have Pc0 := BP.out.c0
  have Pc1 := BP.out.c1
  rcases hs0 with ⟨s0, s1⟩ | ⟨s0, s1⟩
  · go_wp2
    go_ret
    exact ⟨rfl, hb2⟩
  have s0' : decide (s < 0) = false := by simp; omega
  go_wp2_with fail
  clear Pc0 Pc1
  refine (toCounter_any A n c A2 n2 c2 D C _ (h1.on hb2) (h2.on hb2) (by omega) (by omega)).mono ?_
  rintro e w3 ⟨AC, cC, EC, dC, rfl, oC, st3⟩
  replace BP := hid (BP.out.below st3)
  have z3 := st3.size
  have hb3 := below_tr hb2 st3
  clear st3
  have Pc0 := BP.out.c0
  have Pc1 := BP.out.c1
  go_wp2_with fail
  clear Pc0 Pc1
  with_reducible refine Calls.mono (CS.out _ _ _ _ _ _ _ (Sl.of_own oC.d) (Sl.of_own oC.e)) ?_
  rintro e w4 ⟨AW, nW, cW, EW, mW, dW, rfl, oW, st4⟩
  replace oC := oC.on st4
  replace BP := hid (BP.out.below st4)
  have z4 := st4.size
  have hb4 := below_tr hb3 st4
  clear st4
  have Pc0 := BP.out.c0
  have Pc1 := BP.out.c1
  have yW := oW.lenD
  have xW := oW.lenC
  have spW : Span AW nW cW EW mW dW w3.heap.size w4.heap.size := oW.span
  clear oC
  clear Pc0 Pc1
  have st5 := (Below.refl w4.heap.size w4).alloc (Nat.le_refl _) (.cells #[.slice AW nW cW, .slice EW mW dW] 25)
  have XW := Bt.new w4 25 (.slice AW nW cW) (.slice EW mW dW)
  obtain ⟨bW, hbW⟩ : ∃ q, w4.heap.size = q := ⟨_, rfl⟩
  rw [hbW] at XW
  obtain ⟨w5, e5⟩ : ∃ W, w4.alloc (.cells #[.slice AW nW cW, .slice EW mW dW] 25) = W := ⟨_, rfl⟩
  rw [e5] at XW st5
  have BW := hid XW
  clear XW
  replace oW := oW.on st5
  replace BP := hid (BP.out.below st5)
  have z5 := st5.size
  have hb5 := below_tr hb4 st5
  clear st5
  have Pc0 := BP.out.c0
  have Pc1 := BP.out.c1
  have Wc0 := BW.out.c0
  have Wc1 := BW.out.c1
  go_wp2_with fail
  clear Pc0 Pc1 Wc0 Wc1
  refine (toCounter_any A n c A2 n2 c2 D C _ (h1.on hb5) (h2.on hb5) (by omega) (by omega)).mono ?_
  rintro e w6 ⟨AX, cX, EX, dX, rfl, oX, st6⟩
  replace oW := oW.on st6
  replace BP := hid (BP.out.below st6)
  replace BW := hid (BW.out.below st6)
  have z6 := st6.size
  have hb6 := below_tr hb5 st6
  clear st6
  have Pc0 := BP.out.c0
  have Pc1 := BP.out.c1
  have Wc0 := BW.out.c0
  have Wc1 := BW.out.c1
  have spX : Span AX n cX EX n2 dX w5.heap.size w6.heap.size := oX.span
  clear Pc0 Pc1 Wc0 Wc1
  have st7 := (Below.refl w6.heap.size w6).alloc (Nat.le_refl _) (.cells #[.slice AX n cX, .slice EX n2 dX] 25)
  have XX := Bt.new w6 25 (.slice AX n cX) (.slice EX n2 dX)
  obtain ⟨bX, hbX⟩ : ∃ q, w6.heap.size = q := ⟨_, rfl⟩
  rw [hbX] at XX
  obtain ⟨w7, e7⟩ : ∃ W, w6.alloc (.cells #[.slice AX n cX, .slice EX n2 dX] 25) = W := ⟨_, rfl⟩
  rw [e7] at XX st7
  have BX := hid XX
  clear XX
  replace oW := oW.on st7
  replace oX := oX.on st7
  replace BP := hid (BP.out.below st7)
  replace BW := hid (BW.out.below st7)
  have z7 := st7.size
  have hb7 := below_tr hb6 st7
  clear st7
  have Pc0 := BP.out.c0
  have Pc1 := BP.out.c1
  have Wc0 := BW.out.c0
  have Wc1 := BW.out.c1
  have Xc0 := BX.out.c0
  have Xc1 := BX.out.c1
  go_wp2_with fail
  clear Pc0 Pc1 Wc0 Wc1 Xc0 Xc1
  with_reducible refine Calls.mono (CI.out _ _ _ _ _ _ _ (Sl.of_own oX.d) (Sl.of_own oX.e)) ?_
  rintro e w8 ⟨AG, nG, cG, EG, mG, dG, rfl, oG, st8⟩
  replace oW := oW.on st8
  replace oX := oX.on st8
  replace BP := hid (BP.out.below st8)
  replace BW := hid (BW.out.below st8)
  replace BX := hid (BX.out.below st8)
  have z8 := st8.size
  have hb8 := below_tr hb7 st8
  clear st8
  have Pc0 := BP.out.c0
  have Pc1 := BP.out.c1
  have Wc0 := BW.out.c0
  have Wc1 := BW.out.c1
  have Xc0 := BX.out.c0
  have Xc1 := BX.out.c1
  have yG := oG.lenD
  have xG := oG.lenC
  have spG : Span AG nG cG EG mG dG w7.heap.size w8.heap.size := oG.span
  obtain rfl : nG = nW := by omega
  obtain rfl : mG = mW := by omega
  clear Pc0 Pc1 Wc0 Wc1 Xc0 Xc1
  have st9 := (Below.refl w8.heap.size w8).alloc (Nat.le_refl _) (.cells #[.slice AG nG cG, .slice EG mG dG] 25)
  have XG := Bt.new w8 25 (.slice AG nG cG) (.slice EG mG dG)
  obtain ⟨bG, hbG⟩ : ∃ q, w8.heap.size = q := ⟨_, rfl⟩
  rw [hbG] at XG
  obtain ⟨w9, e9⟩ : ∃ W, w8.alloc (.cells #[.slice AG nG cG, .slice EG mG dG] 25) = W := ⟨_, rfl⟩
  rw [e9] at XG st9
  have BG := hid XG
  clear XG
  replace oW := oW.on st9
  replace oX := oX.on st9
  replace oG := oG.on st9
  replace BP := hid (BP.out.below st9)
  replace BW := hid (BW.out.below st9)
  replace BX := hid (BX.out.below st9)
  have z9 := st9.size
  have hb9 := below_tr hb8 st9
  clear st9
  have Pc0 := BP.out.c0
  have Pc1 := BP.out.c1
  have Wc0 := BW.out.c0
  have Wc1 := BW.out.c1
  have Xc0 := BX.out.c0
  have Xc1 := BX.out.c1
  have Gc0 := BG.out.c0
  have Gc1 := BG.out.c1
  go_wp2_with fail
  clear Pc0 Pc1 Wc0 Wc1 Xc0 Xc1 Gc0 Gc1
  refine (eqCounter_same _ _ _ _ _ _ _ _ _ _ _ _ _ _ _ _ _ oG oW).mono ?_
  rintro e w10 ⟨rfl, st10⟩
  replace oW := oW.on st10
  replace oX := oX.on st10
  replace oG := oG.on st10
  replace BP := hid (BP.out.below st10)
  replace BW := hid (BW.out.below st10)
  replace BX := hid (BX.out.below st10)
  replace BG := hid (BG.out.below st10)
  have z10 := st10.size
  have hb10 := below_tr hb9 st10
  clear st10
  have Pc0 := BP.out.c0
  have Pc1 := BP.out.c1
  have Wc0 := BW.out.c0
  have Wc1 := BW.out.c1
  have Xc0 := BX.out.c0
  have Xc1 := BX.out.c1
  have Gc0 := BG.out.c0
  have Gc1 := BG.out.c1
  have T1 := hid (fun (W : World) (hb : Below w.heap.size w W) => toCounter_any A n c A2 n2 c2 D C W (h1.on hb) (h2.on hb) (by omega) (by omega))
  have hd10 : Below w10.heap.size w10 w10.drew := (Below.refl _ _).drew
  go_wp2_with fail
  go_region_held3 (fun w' => w'.cell? ⟨bX, 0, none⟩ = some (.slice AX n cX) ∧ w'.cell? ⟨bX, 1, none⟩ = some (.slice EX n2 dX) ∧ w'.cell? ⟨bP, 0, none⟩ = some (.slice A n c) ∧ w'.cell? ⟨bP, 1, none⟩ = some (.slice A2 n2 c2))
    (first
      | go_keep
      | (go_split_ands
         refine ⟨?_, ?_, ?_, ?_⟩
         · exact (((BX.out.below hd10).below st11).below st12).c0
         · exact (((BX.out.below hd10).below st11).below st12).c1
         · exact (((BP.out.below hd10).below st11).below st12).c0
         · exact (((BP.out.below hd10).below st11).below st12).c1)
      | (go_split_ands
         refine ⟨?_, ?_, ?_, ?_⟩
         · exact ((BX.out.below hd10).below st11).c0
         · exact ((BX.out.below hd10).below st11).c1
         · exact ((BP.out.below hd10).below st11).c0
         · exact ((BP.out.below hd10).below st11).c1))
    (first
      | (go_at_call 36; with_reducible refine Calls.mono (T1.out _ (below_tr hb10 hd10)) ?_; rintro e w11 ⟨AD, cD, ED, dD, rfl, oD, st11⟩)
      | (go_at_call 37; refine Calls.mono (eqCounter_same _ _ _ _ _ _ _ _ _ _ _ _ _ _ _ _ _ ((oX.on hd10).on st11) oD) ?_; rintro e w12 ⟨rfl, st12⟩))
  clear Pc0 Pc1 Wc0 Wc1 Xc0 Xc1 Gc0 Gc1
  replace oW := ((oW.on hd10).on st11).on st12
  replace oX := ((oX.on hd10).on st11).on st12
  replace oG := ((oG.on hd10).on st11).on st12
  replace BP := hid (((BP.out.below hd10).below st11).below st12)
  replace BW := hid (((BW.out.below hd10).below st11).below st12)
  replace BX := hid (((BX.out.below hd10).below st11).below st12)
  replace BG := hid (((BG.out.below hd10).below st11).below st12)
  have z11 : w10.heap.size ≤ w11.heap.size := st11.size
  have z12 := st12.size
  have hb12 := below_tr (below_tr (below_tr hb10 hd10) st11) st12
  clear st11 st12 hd10 oD T1
  have Pc0 := BP.out.c0
  have Pc1 := BP.out.c1
  have Wc0 := BW.out.c0
  have Wc1 := BW.out.c1
  have Xc0 := BX.out.c0
  have Xc1 := BX.out.c1
  have Gc0 := BG.out.c0
  have Gc1 := BG.out.c1
  go_wp2_with fail
  clear Pc0 Pc1 Wc0 Wc1 Xc0 Xc1 Gc0 Gc1
  have pW := oW.span
  have pX := oX.span
  have pG := oG.span
  refine (markCounter_any _ _ _ _ _ _ _ _ _ _ _ oX (by omega) (by omega) (by omega)).mono ?_
  rintro e w13 ⟨rfl, qX, wm13, ga13, gb13⟩
  replace oW := oW.kept2 (spW) (spX) (by omega) ga13 gb13
  replace oG := oG.kept2 (spG) (spX) (by omega) ga13 gb13
  replace BP := hid (BP.out.ctr (by decide) oX ga13 gb13)
  replace BW := hid (BW.out.ctr (by decide) oX ga13 gb13)
  replace BX := hid (BX.out.ctr (by decide) oX ga13 gb13)
  replace BG := hid (BG.out.ctr (by decide) oX ga13 gb13)
  have z13 := Nat.le_trans ga13.size gb13.size
  have hb13 := (hb12.grown ga13 (by omega) (fun j hj => by have := (spX.1 j hj).1; omega)).grown gb13 (by have := ga13.size; omega) (fun j hj => by have := (spX.2 j hj).1; omega)
  clear pW pX pG ga13 gb13 oX
  have oX := qX
  clear qX
  have Pc0 := BP.out.c0
  have Pc1 := BP.out.c1
  have Wc0 := BW.out.c0
  have Wc1 := BW.out.c1
  have Xc0 := BX.out.c0
  have Xc1 := BX.out.c1
  have Gc0 := BG.out.c0
  have Gc1 := BG.out.c1
  clear oX
  go_wp2_with fail
  clear Pc0 Pc1 Wc0 Wc1 Xc0 Xc1 Gc0 Gc1
  refine (eqCounter_same _ _ _ _ _ _ _ _ _ _ _ _ _ _ _ _ _ oG oW).mono ?_
  rintro e w14 ⟨rfl, st14⟩
  replace oW := oW.on st14
  replace oG := oG.on st14
  replace BP := hid (BP.out.below st14)
  replace BW := hid (BW.out.below st14)
  replace BX := hid (BX.out.below st14)
  replace BG := hid (BG.out.below st14)
  have z14 := st14.size
  have hb14 := below_tr hb13 st14
  clear st14
  have Pc0 := BP.out.c0
  have Pc1 := BP.out.c1
  have Wc0 := BW.out.c0
  have Wc1 := BW.out.c1
  have Xc0 := BX.out.c0
  have Xc1 := BX.out.c1
  have Gc0 := BG.out.c0
  have Gc1 := BG.out.c1
  go_wp2_with fail
  clear Pc0 Pc1 Wc0 Wc1 Xc0 Xc1 Gc0 Gc1
  have pW := oW.span
  have pG := oG.span
  refine (markCounter_any _ _ _ _ _ _ _ _ _ _ _ oG (by omega) (by omega) (by omega)).mono ?_
  rintro e w15 ⟨rfl, qG, wm15, ga15, gb15⟩
  replace oW := oW.kept2 (spW) (spG) (by omega) ga15 gb15
  replace BP := hid (BP.out.ctr (by decide) oG ga15 gb15)
  replace BW := hid (BW.out.ctr (by decide) oG ga15 gb15)
  replace BX := hid (BX.out.ctr (by decide) oG ga15 gb15)
  replace BG := hid (BG.out.ctr (by decide) oG ga15 gb15)
  have z15 := Nat.le_trans ga15.size gb15.size
  have hb15 := (hb14.grown ga15 (by omega) (fun j hj => by have := (spG.1 j hj).1; omega)).grown gb15 (by have := ga15.size; omega) (fun j hj => by have := (spG.2 j hj).1; omega)
  clear pW pG ga15 gb15 oG
  have oG := qG
  clear qG
  have Pc0 := BP.out.c0
  have Pc1 := BP.out.c1
  have Wc0 := BW.out.c0
  have Wc1 := BW.out.c1
  have Xc0 := BX.out.c0
  have Xc1 := BX.out.c1
  have Gc0 := BG.out.c0
  have Gc1 := BG.out.c1
  go_wp2_with fail
  clear Pc0 Pc1 Wc0 Wc1 Xc0 Xc1 Gc0 Gc1
  refine (heldCounter_any _ _ _ _ _ _ _ _ _ oG (by omega) (by omega)).mono ?_
  rintro e w16 ⟨rfl, g16⟩
  have st16 := below_grown g16
  replace oW := oW.on st16
  replace oG := oG.on st16
  replace BP := hid (BP.out.below st16)
  replace BW := hid (BW.out.below st16)
  replace BX := hid (BX.out.below st16)
  replace BG := hid (BG.out.below st16)
  have z16 := st16.size
  have hb16 := below_tr hb15 st16
  clear st16
  have Pc0 := BP.out.c0
  have Pc1 := BP.out.c1
  have Wc0 := BW.out.c0
  have Wc1 := BW.out.c1
  have Xc0 := BX.out.c0
  have Xc1 := BX.out.c1
  have Gc0 := BG.out.c0
  have Gc1 := BG.out.c1
  go_wp2_with fail
  clear Pc0 Pc1 Wc0 Wc1 Xc0 Xc1 Gc0 Gc1
  refine (toCounter_any A n c A2 n2 c2 D C _ (h1.on hb16) (h2.on hb16) (by omega) (by omega)).mono ?_
  rintro e w17 ⟨AE, cE, EE, dE, rfl, oE, st17⟩
  replace oW := oW.on st17
  replace oG := oG.on st17
  replace BP := hid (BP.out.below st17)
  replace BW := hid (BW.out.below st17)
  replace BX := hid (BX.out.below st17)
  replace BG := hid (BG.out.below st17)
  have z17 := st17.size
  have hb17 := below_tr hb16 st17
  clear st17
  have Pc0 := BP.out.c0
  have Pc1 := BP.out.c1
  have Wc0 := BW.out.c0
  have Wc1 := BW.out.c1
  have Xc0 := BX.out.c0
  have Xc1 := BX.out.c1
  have Gc0 := BG.out.c0
  have Gc1 := BG.out.c1
  go_wp2_with fail
  clear Pc0 Pc1 Wc0 Wc1 Xc0 Xc1 Gc0 Gc1
  with_reducible refine Calls.mono (CI.out _ _ _ _ _ _ _ (Sl.of_own oE.d) (Sl.of_own oE.e)) ?_
  rintro e w18 ⟨AH, nH, cH, EH, mH, dH, rfl, oH, st18⟩
  replace oW := oW.on st18
  replace oG := oG.on st18
  replace oE := oE.on st18
  replace BP := hid (BP.out.below st18)
  replace BW := hid (BW.out.below st18)
  replace BX := hid (BX.out.below st18)
  replace BG := hid (BG.out.below st18)
  have z18 := st18.size
  have hb18 := below_tr hb17 st18
  clear st18
  have Pc0 := BP.out.c0
  have Pc1 := BP.out.c1
  have Wc0 := BW.out.c0
  have Wc1 := BW.out.c1
  have Xc0 := BX.out.c0
  have Xc1 := BX.out.c1
  have Gc0 := BG.out.c0
  have Gc1 := BG.out.c1
  have yH := oH.lenD
  have xH := oH.lenC
  clear oE
  clear Pc0 Pc1 Wc0 Wc1 Xc0 Xc1 Gc0 Gc1
  have st19 := (Below.refl w18.heap.size w18).alloc (Nat.le_refl _) (.cells #[.slice AH nH cH, .slice EH mH dH] 25)
  have XH := Bt.new w18 25 (.slice AH nH cH) (.slice EH mH dH)
  obtain ⟨bH, hbH⟩ : ∃ q, w18.heap.size = q := ⟨_, rfl⟩
  rw [hbH] at XH
  obtain ⟨w19, e19⟩ : ∃ W, w18.alloc (.cells #[.slice AH nH cH, .slice EH mH dH] 25) = W := ⟨_, rfl⟩
  rw [e19] at XH st19
  have BH := hid XH
  clear XH
  replace oW := oW.on st19
  replace oG := oG.on st19
  replace oH := oH.on st19
  replace BP := hid (BP.out.below st19)
  replace BW := hid (BW.out.below st19)
  replace BX := hid (BX.out.below st19)
  replace BG := hid (BG.out.below st19)
  have z19 := st19.size
  have hb19 := below_tr hb18 st19
  clear st19
  have Pc0 := BP.out.c0
  have Pc1 := BP.out.c1
  have Wc0 := BW.out.c0
  have Wc1 := BW.out.c1
  have Xc0 := BX.out.c0
  have Xc1 := BX.out.c1
  have Gc0 := BG.out.c0
  have Gc1 := BG.out.c1
  have Hc0 := BH.out.c0
  have Hc1 := BH.out.c1
  go_wp2_with fail
  clear Pc0 Pc1 Wc0 Wc1 Xc0 Xc1 Gc0 Gc1 Hc0 Hc1
  refine (eqCounter_same _ _ _ _ _ _ _ _ _ _ _ _ _ _ _ _ _ oH oW).mono ?_
  rintro e w20 ⟨rfl, st20⟩
  replace oW := oW.on st20
  replace oG := oG.on st20
  replace oH := oH.on st20
  replace BP := hid (BP.out.below st20)
  replace BW := hid (BW.out.below st20)
  replace BX := hid (BX.out.below st20)
  replace BG := hid (BG.out.below st20)
  replace BH := hid (BH.out.below st20)
  have z20 := st20.size
  have hb20 := below_tr hb19 st20
  clear st20
  have Pc0 := BP.out.c0
  have Pc1 := BP.out.c1
  have Wc0 := BW.out.c0
  have Wc1 := BW.out.c1
  have Xc0 := BX.out.c0
  have Xc1 := BX.out.c1
  have Gc0 := BG.out.c0
  have Gc1 := BG.out.c1
  have Hc0 := BH.out.c0
  have Hc1 := BH.out.c1
  go_wp2_with fail
  clear Pc0 Pc1 Wc0 Wc1 Xc0 Xc1 Gc0 Gc1 Hc0 Hc1
  refine (heldCounter_any _ _ _ _ _ _ _ _ _ oG (by omega) (by omega)).mono ?_
  rintro e w21 ⟨rfl, g21⟩
  have st21 := below_grown g21
  replace oW := oW.on st21
  replace oG := oG.on st21
  replace oH := oH.on st21
  replace BP := hid (BP.out.below st21)
  replace BW := hid (BW.out.below st21)
  replace BX := hid (BX.out.below st21)
  replace BG := hid (BG.out.below st21)
  replace BH := hid (BH.out.below st21)
  have z21 := st21.size
  have hb21 := below_tr hb20 st21
  clear st21
  have Pc0 := BP.out.c0
  have Pc1 := BP.out.c1
  have Wc0 := BW.out.c0
  have Wc1 := BW.out.c1
  have Xc0 := BX.out.c0
  have Xc1 := BX.out.c1
  have Gc0 := BG.out.c0
  have Gc1 := BG.out.c1
  have Hc0 := BH.out.c0
  have Hc1 := BH.out.c1
  go_wp2
  go_ret
  exact ⟨rfl, hb21⟩
end Go.Proofs.Ytdacjpaaffpfgaa
