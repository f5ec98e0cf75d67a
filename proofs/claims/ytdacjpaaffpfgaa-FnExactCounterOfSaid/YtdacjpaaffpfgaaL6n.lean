/-
  The walk of laws.FnExactCounterOf, written by program (exact6.py). No statement is proved here.
-/
import Derived.Test.YtdacjpaaffpfgaaC6c
import Derived.Test.YtdacjpaaffpfgaaC6i
import Derived.Test.YtdacjpaaffpfgaaC6l
import Derived.Test.YtdacjpaaffpfgaaExC
namespace Go.Proofs.Ytdacjpaaffpfgaa
open Go.RowKit
set_option linter.unusedVariables false
set_option linter.unusedSimpArgs false

set_option maxRecDepth 100000 in
set_option maxHeartbeats 6400000 in
theorem fnExactCounterOf_walk (m : Int) (w : World) (hw : (Lit.int .i64 m).wf = true) :
    Calls Try.prog 10 #[.int .i64 m] w fun e w' => e = .returned (.bool true) ∧ Below w.heap.size w w' := by
  have hlen := zeros_len m
  have CS := hid (fun (W : World) => specCounterOf_any m W hw)
  have CI := hid (fun (W : World) => implCounterOf_any m W hw)
  obtain ⟨v, hv⟩ : ∃ v, within m 1 8 = v := ⟨_, rfl⟩
  obtain ⟨OD, hOD⟩ : ∃ l, zerosOut m = l := ⟨_, rfl⟩
  rw [hv, hOD] at CS CI
  rw [hOD] at hlen
  clear hv hOD
  obtain ⟨l8, l9⟩ := hlen
  have en : (v != v) = false := by simp
  go_enter Try.func10, Try.ntmps10
  have hb0 : Below w.heap.size w w := Below.refl _ _
  go_wp2_with fail
  with_reducible refine Calls.mono (CS.out _) ?_
  rintro e w1 ⟨AW, nW, cW, EW, mW, dW, rfl, oW, st1⟩
  have z1 := st1.size
  have hb1 := below_tr hb0 st1
  clear st1
  have yW := oW.lenD
  have xW := oW.lenC
  have spW : Span AW nW cW EW mW dW w.heap.size w1.heap.size := oW.span
  have st2 := (Below.refl w1.heap.size w1).alloc (Nat.le_refl _) (.cells #[.slice AW nW cW, .slice EW mW dW] 25)
  have XW := Bt.new w1 25 (.slice AW nW cW) (.slice EW mW dW)
  obtain ⟨bW, hbW⟩ : ∃ q, w1.heap.size = q := ⟨_, rfl⟩
  rw [hbW] at XW
  obtain ⟨w2, e2⟩ : ∃ W, w1.alloc (.cells #[.slice AW nW cW, .slice EW mW dW] 25) = W := ⟨_, rfl⟩
  rw [e2] at XW st2
  have BW := hid XW
  clear XW
  replace oW := oW.on st2
  have z2 := st2.size
  have hb2 := below_tr hb1 st2
  clear st2
  have Wc0 := BW.out.c0
  have Wc1 := BW.out.c1
  go_wp2_with fail
  clear Wc0 Wc1
  with_reducible refine Calls.mono (CI.out _) ?_
  rintro e w3 ⟨AG, nG, cG, EG, mG, dG, rfl, oG, st3⟩
  replace oW := oW.on st3
  replace BW := hid (BW.out.below st3)
  have z3 := st3.size
  have hb3 := below_tr hb2 st3
  clear st3
  have Wc0 := BW.out.c0
  have Wc1 := BW.out.c1
  have yG := oG.lenD
  have xG := oG.lenC
  have spG : Span AG nG cG EG mG dG w2.heap.size w3.heap.size := oG.span
  obtain rfl : nG = nW := by omega
  obtain rfl : mG = mW := by omega
  clear Wc0 Wc1
  have st4 := (Below.refl w3.heap.size w3).alloc (Nat.le_refl _) (.cells #[.slice AG nG cG, .slice EG mG dG] 25)
  have XG := Bt.new w3 25 (.slice AG nG cG) (.slice EG mG dG)
  obtain ⟨bG, hbG⟩ : ∃ q, w3.heap.size = q := ⟨_, rfl⟩
  rw [hbG] at XG
  obtain ⟨w4, e4⟩ : ∃ W, w3.alloc (.cells #[.slice AG nG cG, .slice EG mG dG] 25) = W := ⟨_, rfl⟩
  rw [e4] at XG st4
  have BG := hid XG
  clear XG
  replace oW := oW.on st4
  replace oG := oG.on st4
  replace BW := hid (BW.out.below st4)
  have z4 := st4.size
  have hb4 := below_tr hb3 st4
  clear st4
  have Wc0 := BW.out.c0
  have Wc1 := BW.out.c1
  have Gc0 := BG.out.c0
  have Gc1 := BG.out.c1
  go_wp2_with fail
  clear Wc0 Wc1 Gc0 Gc1
  refine (eqCounter_same _ _ _ _ _ _ _ _ _ _ _ _ _ _ _ _ _ oG oW).mono ?_
  rintro e w5 ⟨rfl, st5⟩
  replace oW := oW.on st5
  replace oG := oG.on st5
  replace BW := hid (BW.out.below st5)
  replace BG := hid (BG.out.below st5)
  have z5 := st5.size
  have hb5 := below_tr hb4 st5
  clear st5
  have Wc0 := BW.out.c0
  have Wc1 := BW.out.c1
  have Gc0 := BG.out.c0
  have Gc1 := BG.out.c1
  go_wp2_with fail
  clear Wc0 Wc1 Gc0 Gc1
  have pW := oW.span
  have pG := oG.span
  refine (markCounter_any _ _ _ _ _ _ _ _ _ _ _ oG (by omega) (by omega) (by omega)).mono ?_
  rintro e w6 ⟨rfl, qG, wm6, ga6, gb6⟩
  replace oW := oW.kept2 (spW) (spG) (by omega) ga6 gb6
  replace BW := hid (BW.out.ctr (by decide) oG ga6 gb6)
  replace BG := hid (BG.out.ctr (by decide) oG ga6 gb6)
  have z6 := Nat.le_trans ga6.size gb6.size
  have hb6 := (hb5.grown ga6 (by omega) (fun j hj => by have := (spG.1 j hj).1; omega)).grown gb6 (by have := ga6.size; omega) (fun j hj => by have := (spG.2 j hj).1; omega)
  clear pW pG ga6 gb6 oG
  have oG := qG
  clear qG
  have Wc0 := BW.out.c0
  have Wc1 := BW.out.c1
  have Gc0 := BG.out.c0
  have Gc1 := BG.out.c1
  go_wp2_with fail
  clear Wc0 Wc1 Gc0 Gc1
  refine (heldCounter_any _ _ _ _ _ _ _ _ _ oG (by omega) (by omega)).mono ?_
  rintro e w7 ⟨rfl, g7⟩
  have st7 := below_grown g7
  replace oW := oW.on st7
  replace oG := oG.on st7
  replace BW := hid (BW.out.below st7)
  replace BG := hid (BG.out.below st7)
  have z7 := st7.size
  have hb7 := below_tr hb6 st7
  clear st7
  have Wc0 := BW.out.c0
  have Wc1 := BW.out.c1
  have Gc0 := BG.out.c0
  have Gc1 := BG.out.c1
  go_wp2_with fail
  clear Wc0 Wc1 Gc0 Gc1
  with_reducible refine Calls.mono (CI.out _) ?_
  rintro e w8 ⟨AH, nH, cH, EH, mH, dH, rfl, oH, st8⟩
  replace oW := oW.on st8
  replace oG := oG.on st8
  replace BW := hid (BW.out.below st8)
  replace BG := hid (BG.out.below st8)
  have z8 := st8.size
  have hb8 := below_tr hb7 st8
  clear st8
  have Wc0 := BW.out.c0
  have Wc1 := BW.out.c1
  have Gc0 := BG.out.c0
  have Gc1 := BG.out.c1
  have yH := oH.lenD
  have xH := oH.lenC
  clear Wc0 Wc1 Gc0 Gc1
  have st9 := (Below.refl w8.heap.size w8).alloc (Nat.le_refl _) (.cells #[.slice AH nH cH, .slice EH mH dH] 25)
  have XH := Bt.new w8 25 (.slice AH nH cH) (.slice EH mH dH)
  obtain ⟨bH, hbH⟩ : ∃ q, w8.heap.size = q := ⟨_, rfl⟩
  rw [hbH] at XH
  obtain ⟨w9, e9⟩ : ∃ W, w8.alloc (.cells #[.slice AH nH cH, .slice EH mH dH] 25) = W := ⟨_, rfl⟩
  rw [e9] at XH st9
  have BH := hid XH
  clear XH
  replace oW := oW.on st9
  replace oG := oG.on st9
  replace oH := oH.on st9
  replace BW := hid (BW.out.below st9)
  replace BG := hid (BG.out.below st9)
  have z9 := st9.size
  have hb9 := below_tr hb8 st9
  clear st9
  have Wc0 := BW.out.c0
  have Wc1 := BW.out.c1
  have Gc0 := BG.out.c0
  have Gc1 := BG.out.c1
  have Hc0 := BH.out.c0
  have Hc1 := BH.out.c1
  go_wp2_with fail
  clear Wc0 Wc1 Gc0 Gc1 Hc0 Hc1
  refine (eqCounter_same _ _ _ _ _ _ _ _ _ _ _ _ _ _ _ _ _ oH oW).mono ?_
  rintro e w10 ⟨rfl, st10⟩
  replace oW := oW.on st10
  replace oG := oG.on st10
  replace oH := oH.on st10
  replace BW := hid (BW.out.below st10)
  replace BG := hid (BG.out.below st10)
  replace BH := hid (BH.out.below st10)
  have z10 := st10.size
  have hb10 := below_tr hb9 st10
  clear st10
  have Wc0 := BW.out.c0
  have Wc1 := BW.out.c1
  have Gc0 := BG.out.c0
  have Gc1 := BG.out.c1
  have Hc0 := BH.out.c0
  have Hc1 := BH.out.c1
  go_wp2_with fail
  clear Wc0 Wc1 Gc0 Gc1 Hc0 Hc1
  refine (heldCounter_any _ _ _ _ _ _ _ _ _ oG (by omega) (by omega)).mono ?_
  rintro e w11 ⟨rfl, g11⟩
  have st11 := below_grown g11
  replace oW := oW.on st11
  replace oG := oG.on st11
  replace oH := oH.on st11
  replace BW := hid (BW.out.below st11)
  replace BG := hid (BG.out.below st11)
  replace BH := hid (BH.out.below st11)
  have z11 := st11.size
  have hb11 := below_tr hb10 st11
  clear st11
  have Wc0 := BW.out.c0
  have Wc1 := BW.out.c1
  have Gc0 := BG.out.c0
  have Gc1 := BG.out.c1
  have Hc0 := BH.out.c0
  have Hc1 := BH.out.c1
  go_wp2
  go_ret
  exact ⟨rfl, hb11⟩
end Go.Proofs.Ytdacjpaaffpfgaa
