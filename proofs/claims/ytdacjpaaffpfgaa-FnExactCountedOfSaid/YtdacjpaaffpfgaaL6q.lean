/-
  The walk of laws.FnExactCountedOf, written by program (exact6.py). No statement is proved here.
-/
import Derived.Test.YtdacjpaaffpfgaaC6q
import Derived.Test.YtdacjpaaffpfgaaC6i
import Derived.Test.YtdacjpaaffpfgaaC6l
import Derived.Test.YtdacjpaaffpfgaaExC
import Derived.Test.YtdacjpaaffpfgaaExB
namespace Go.Proofs.Ytdacjpaaffpfgaa
open Go.RowKit
set_option linter.unusedVariables false
set_option linter.unusedSimpArgs false

set_option maxRecDepth 100000 in
set_option maxHeartbeats 6400000 in
theorem fnExactCountedOf_walk (m : Int) (A : Option Addr) (n c : Nat) (ts : List Bool) (w : World) (hw : (Lit.int .i64 m).wf = true) (hs : Sb w w.heap.size A n ts) :
    Calls Try.prog 13 #[.int .i64 m, .slice A n c] w fun e w' => e = .returned (.bool true) ∧ Below w.heap.size w w' := by
  have hlen := count_len8 m ts
  have CS := hid (fun (a : Option Addr) (n1 e1 : Nat) (W : World) (k1 : Sb W W.heap.size a n1 ts) => specCountedOf_any m a n1 e1 ts W k1 hw)
  have CI := hid (fun (a : Option Addr) (n1 e1 : Nat) (W : World) (k1 : Sb W W.heap.size a n1 ts) => implCountedOf_any m a n1 e1 ts W k1 hw)
  obtain ⟨v, hv⟩ : ∃ v, countOk m ts = v := ⟨_, rfl⟩
  obtain ⟨OD, hOD⟩ : ∃ l, countD m ts = l := ⟨_, rfl⟩
  obtain ⟨OC, hOC⟩ : ∃ l, countC m ts = l := ⟨_, rfl⟩
  rw [hv, hOD, hOC] at CS CI
  rw [hOD, hOC] at hlen
  clear hv hOD hOC
  obtain ⟨l8, l9⟩ := hlen
  have en : (v != v) = false := by simp
  go_enter Try.func13, Try.ntmps13
  have hb0 : Below w.heap.size w w := Below.refl _ _
  have hm1 := hs.2.1
  have hm1' : n ≤ 9223372036854775807 := by simpa [maxLen] using hm1
  by_cases hbig : 1048576 < n
  · go_wp2
    go_ret
    exact ⟨rfl, hb0⟩
  go_wp2_with fail
  refine (toBoolS_any A n c ts _ (hs.on hb0) (by omega)).mono ?_
  rintro e w1 ⟨gC, rfl, sC, st1⟩
  have z1 := st1.size
  have hb1 := below_tr hb0 st1
  clear st1
  go_wp2_with fail
  with_reducible refine Calls.mono (CS.out _ _ _ _ (Sb.of_own sC)) ?_
  rintro e w2 ⟨AW, nW, cW, EW, mW, dW, rfl, oW, st2⟩
  replace sC := own_on sC st2
  have z2 := st2.size
  have hb2 := below_tr hb1 st2
  clear st2
  have yW := oW.lenD
  have xW := oW.lenC
  have spW : Span AW nW cW EW mW dW w1.heap.size w2.heap.size := oW.span
  clear sC
  have st3 := (Below.refl w2.heap.size w2).alloc (Nat.le_refl _) (.cells #[.slice AW nW cW, .slice EW mW dW] 25)
  have XW := Bt.new w2 25 (.slice AW nW cW) (.slice EW mW dW)
  obtain ⟨bW, hbW⟩ : ∃ q, w2.heap.size = q := ⟨_, rfl⟩
  rw [hbW] at XW
  obtain ⟨w3, e3⟩ : ∃ W, w2.alloc (.cells #[.slice AW nW cW, .slice EW mW dW] 25) = W := ⟨_, rfl⟩
  rw [e3] at XW st3
  have BW := hid XW
  clear XW
  replace oW := oW.on st3
  have z3 := st3.size
  have hb3 := below_tr hb2 st3
  clear st3
  have Wc0 := BW.out.c0
  have Wc1 := BW.out.c1
  go_wp2_with fail
  clear Wc0 Wc1
  refine (toBoolS_any A n c ts _ (hs.on hb3) (by omega)).mono ?_
  rintro e w4 ⟨gX, rfl, sX, st4⟩
  replace oW := oW.on st4
  replace BW := hid (BW.out.below st4)
  have z4 := st4.size
  have hb4 := below_tr hb3 st4
  clear st4
  have Wc0 := BW.out.c0
  have Wc1 := BW.out.c1
  go_wp2_with fail
  clear Wc0 Wc1
  with_reducible refine Calls.mono (CI.out _ _ _ _ (Sb.of_own sX)) ?_
  rintro e w5 ⟨AG, nG, cG, EG, mG, dG, rfl, oG, st5⟩
  replace oW := oW.on st5
  replace BW := hid (BW.out.below st5)
  replace sX := own_on sX st5
  have z5 := st5.size
  have hb5 := below_tr hb4 st5
  clear st5
  have Wc0 := BW.out.c0
  have Wc1 := BW.out.c1
  have yG := oG.lenD
  have xG := oG.lenC
  have spG : Span AG nG cG EG mG dG w4.heap.size w5.heap.size := oG.span
  obtain rfl : nG = nW := by omega
  obtain rfl : mG = mW := by omega
  clear Wc0 Wc1
  have st6 := (Below.refl w5.heap.size w5).alloc (Nat.le_refl _) (.cells #[.slice AG nG cG, .slice EG mG dG] 25)
  have XG := Bt.new w5 25 (.slice AG nG cG) (.slice EG mG dG)
  obtain ⟨bG, hbG⟩ : ∃ q, w5.heap.size = q := ⟨_, rfl⟩
  rw [hbG] at XG
  obtain ⟨w6, e6⟩ : ∃ W, w5.alloc (.cells #[.slice AG nG cG, .slice EG mG dG] 25) = W := ⟨_, rfl⟩
  rw [e6] at XG st6
  have BG := hid XG
  clear XG
  replace oW := oW.on st6
  replace oG := oG.on st6
  replace BW := hid (BW.out.below st6)
  replace sX := own_on sX st6
  have z6 := st6.size
  have hb6 := below_tr hb5 st6
  clear st6
  have Wc0 := BW.out.c0
  have Wc1 := BW.out.c1
  have Gc0 := BG.out.c0
  have Gc1 := BG.out.c1
  go_wp2_with fail
  clear Wc0 Wc1 Gc0 Gc1
  refine (eqCounter_same _ _ _ _ _ _ _ _ _ _ _ _ _ _ _ _ _ oG oW).mono ?_
  rintro e w7 ⟨rfl, st7⟩
  replace oW := oW.on st7
  replace oG := oG.on st7
  replace BW := hid (BW.out.below st7)
  replace BG := hid (BG.out.below st7)
  replace sX := own_on sX st7
  have z7 := st7.size
  have hb7 := below_tr hb6 st7
  clear st7
  have Wc0 := BW.out.c0
  have Wc1 := BW.out.c1
  have Gc0 := BG.out.c0
  have Gc1 := BG.out.c1
  go_wp2_with fail
  clear Wc0 Wc1 Gc0 Gc1
  refine (toBoolS_any A n c ts _ (hs.on hb7) (by omega)).mono ?_
  rintro e w8 ⟨gD, rfl, sD, st8⟩
  replace oW := oW.on st8
  replace oG := oG.on st8
  replace BW := hid (BW.out.below st8)
  replace BG := hid (BG.out.below st8)
  replace sX := own_on sX st8
  have z8 := st8.size
  have hb8 := below_tr hb7 st8
  clear st8
  have Wc0 := BW.out.c0
  have Wc1 := BW.out.c1
  have Gc0 := BG.out.c0
  have Gc1 := BG.out.c1
  go_wp2_with fail
  clear Wc0 Wc1 Gc0 Gc1
  refine (eqBoolS_same _ _ _ _ _ _ _ _ _ _ sX sD).mono ?_
  rintro e w9 ⟨rfl, st9⟩
  replace oW := oW.on st9
  replace oG := oG.on st9
  replace BW := hid (BW.out.below st9)
  replace BG := hid (BG.out.below st9)
  replace sX := own_on sX st9
  replace sD := own_on sD st9
  have z9 := st9.size
  have hb9 := below_tr hb8 st9
  clear st9
  have Wc0 := BW.out.c0
  have Wc1 := BW.out.c1
  have Gc0 := BG.out.c0
  have Gc1 := BG.out.c1
  clear sD
  go_wp2_with fail
  clear Wc0 Wc1 Gc0 Gc1
  refine (markBoolS_any _ _ _ _ _ _ _ sX (by omega) (by omega) (by omega)).mono ?_
  rintro e w10 ⟨kb, rfl, kb0, ga10⟩
  have kb1 : decide (kb < 0) = false := by simp; omega
  replace oW := Ctr.mk (oW.d.kept ga10 (bl_ne' sX oW.d (by decide))) (oW.e.kept ga10 (bl_ne' sX oW.e (by decide))) oW.ap
  replace oG := Ctr.mk (oG.d.kept ga10 (bl_ne' sX oG.d (by decide))) (oG.e.kept ga10 (bl_ne' sX oG.e (by decide))) oG.ap
  replace BW := hid (BW.out.on ga10 (bt_ne BW.out sX (by decide)))
  replace BG := hid (BG.out.on ga10 (bt_ne BG.out sX (by decide)))
  have z10 := ga10.size
  have hb10 := hb9.grown ga10 (by omega) (fun j hj => by have := (sX.lt j hj).1; omega)
  clear ga10 sX
  have Wc0 := BW.out.c0
  have Wc1 := BW.out.c1
  have Gc0 := BG.out.c0
  have Gc1 := BG.out.c1
  go_wp2_with fail
  clear Wc0 Wc1 Gc0 Gc1
  refine (eqCounter_same _ _ _ _ _ _ _ _ _ _ _ _ _ _ _ _ _ oG oW).mono ?_
  rintro e w11 ⟨rfl, st11⟩
  replace oW := oW.on st11
  replace oG := oG.on st11
  replace BW := hid (BW.out.below st11)
  replace BG := hid (BG.out.below st11)
  have z11 := st11.size
  have hb11 := below_tr hb10 st11
  clear st11
  have Wc0 := BW.out.c0
  have Wc1 := BW.out.c1
  have Gc0 := BG.out.c0
  have Gc1 := BG.out.c1
  go_wp2_with fail
  clear Wc0 Wc1 Gc0 Gc1
  have pW := oW.span
  have pG := oG.span
  refine (markCounter_any _ _ _ _ _ _ _ _ _ _ _ oG (by omega) (by omega) (by omega)).mono ?_
  rintro e w12 ⟨rfl, qG, wm12, ga12, gb12⟩
  replace oW := oW.kept2 (spW) (spG) (by omega) ga12 gb12
  replace BW := hid (BW.out.ctr (by decide) oG ga12 gb12)
  replace BG := hid (BG.out.ctr (by decide) oG ga12 gb12)
  have z12 := Nat.le_trans ga12.size gb12.size
  have hb12 := (hb11.grown ga12 (by omega) (fun j hj => by have := (spG.1 j hj).1; omega)).grown gb12 (by have := ga12.size; omega) (fun j hj => by have := (spG.2 j hj).1; omega)
  clear pW pG ga12 gb12 oG
  have oG := qG
  clear qG
  have Wc0 := BW.out.c0
  have Wc1 := BW.out.c1
  have Gc0 := BG.out.c0
  have Gc1 := BG.out.c1
  go_wp2_with fail
  clear Wc0 Wc1 Gc0 Gc1
  refine (heldCounter_any _ _ _ _ _ _ _ _ _ oG (by omega) (by omega)).mono ?_
  rintro e w13 ⟨rfl, g13⟩
  have st13 := below_grown g13
  replace oW := oW.on st13
  replace oG := oG.on st13
  replace BW := hid (BW.out.below st13)
  replace BG := hid (BG.out.below st13)
  have z13 := st13.size
  have hb13 := below_tr hb12 st13
  clear st13
  have Wc0 := BW.out.c0
  have Wc1 := BW.out.c1
  have Gc0 := BG.out.c0
  have Gc1 := BG.out.c1
  go_wp2_with fail
  clear Wc0 Wc1 Gc0 Gc1
  refine (toBoolS_any A n c ts _ (hs.on hb13) (by omega)).mono ?_
  rintro e w14 ⟨gE, rfl, sE, st14⟩
  replace oW := oW.on st14
  replace oG := oG.on st14
  replace BW := hid (BW.out.below st14)
  replace BG := hid (BG.out.below st14)
  have z14 := st14.size
  have hb14 := below_tr hb13 st14
  clear st14
  have Wc0 := BW.out.c0
  have Wc1 := BW.out.c1
  have Gc0 := BG.out.c0
  have Gc1 := BG.out.c1
  go_wp2_with fail
  clear Wc0 Wc1 Gc0 Gc1
  with_reducible refine Calls.mono (CI.out _ _ _ _ (Sb.of_own sE)) ?_
  rintro e w15 ⟨AH, nH, cH, EH, mH, dH, rfl, oH, st15⟩
  replace oW := oW.on st15
  replace oG := oG.on st15
  replace BW := hid (BW.out.below st15)
  replace BG := hid (BG.out.below st15)
  replace sE := own_on sE st15
  have z15 := st15.size
  have hb15 := below_tr hb14 st15
  clear st15
  have Wc0 := BW.out.c0
  have Wc1 := BW.out.c1
  have Gc0 := BG.out.c0
  have Gc1 := BG.out.c1
  have yH := oH.lenD
  have xH := oH.lenC
  clear sE
  clear Wc0 Wc1 Gc0 Gc1
  have st16 := (Below.refl w15.heap.size w15).alloc (Nat.le_refl _) (.cells #[.slice AH nH cH, .slice EH mH dH] 25)
  have XH := Bt.new w15 25 (.slice AH nH cH) (.slice EH mH dH)
  obtain ⟨bH, hbH⟩ : ∃ q, w15.heap.size = q := ⟨_, rfl⟩
  rw [hbH] at XH
  obtain ⟨w16, e16⟩ : ∃ W, w15.alloc (.cells #[.slice AH nH cH, .slice EH mH dH] 25) = W := ⟨_, rfl⟩
  rw [e16] at XH st16
  have BH := hid XH
  clear XH
  replace oW := oW.on st16
  replace oG := oG.on st16
  replace oH := oH.on st16
  replace BW := hid (BW.out.below st16)
  replace BG := hid (BG.out.below st16)
  have z16 := st16.size
  have hb16 := below_tr hb15 st16
  clear st16
  have Wc0 := BW.out.c0
  have Wc1 := BW.out.c1
  have Gc0 := BG.out.c0
  have Gc1 := BG.out.c1
  have Hc0 := BH.out.c0
  have Hc1 := BH.out.c1
  go_wp2_with fail
  clear Wc0 Wc1 Gc0 Gc1 Hc0 Hc1
  refine (eqCounter_same _ _ _ _ _ _ _ _ _ _ _ _ _ _ _ _ _ oH oW).mono ?_
  rintro e w17 ⟨rfl, st17⟩
  replace oW := oW.on st17
  replace oG := oG.on st17
  replace oH := oH.on st17
  replace BW := hid (BW.out.below st17)
  replace BG := hid (BG.out.below st17)
  replace BH := hid (BH.out.below st17)
  have z17 := st17.size
  have hb17 := below_tr hb16 st17
  clear st17
  have Wc0 := BW.out.c0
  have Wc1 := BW.out.c1
  have Gc0 := BG.out.c0
  have Gc1 := BG.out.c1
  have Hc0 := BH.out.c0
  have Hc1 := BH.out.c1
  go_wp2_with fail
  clear Wc0 Wc1 Gc0 Gc1 Hc0 Hc1
  refine (heldCounter_any _ _ _ _ _ _ _ _ _ oG (by omega) (by omega)).mono ?_
  rintro e w18 ⟨rfl, g18⟩
  have st18 := below_grown g18
  replace oW := oW.on st18
  replace oG := oG.on st18
  replace oH := oH.on st18
  replace BW := hid (BW.out.below st18)
  replace BG := hid (BG.out.below st18)
  replace BH := hid (BH.out.below st18)
  have z18 := st18.size
  have hb18 := below_tr hb17 st18
  clear st18
  have Wc0 := BW.out.c0
  have Wc1 := BW.out.c1
  have Gc0 := BG.out.c0
  have Gc1 := BG.out.c1
  have Hc0 := BH.out.c0
  have Hc1 := BH.out.c1
  go_wp2
  go_ret
  exact ⟨rfl, hb18⟩
end Go.Proofs.Ytdacjpaaffpfgaa
