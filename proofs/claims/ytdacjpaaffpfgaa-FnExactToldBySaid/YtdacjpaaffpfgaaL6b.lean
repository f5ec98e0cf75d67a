/-
  The walk of laws.FnExactToldBy, written by program (exact6.py). No statement is proved here.
-/
import Derived.Test.YtdacjpaaffpfgaaC6a
import Derived.Test.YtdacjpaaffpfgaaC6i
import Derived.Test.YtdacjpaaffpfgaaExC
import Derived.Deep.RegionHeld3
namespace Go.Proofs.Ytdacjpaaffpfgaa
open Go.RowKit
set_option linter.unusedVariables false
set_option linter.unusedSimpArgs false

set_option maxRecDepth 100000 in
set_option maxHeartbeats 6400000 in
theorem fnExactToldBy_walk (A : Option Addr) (n c : Nat) (A2 : Option Addr) (n2 c2 : Nat) (D C : List Int) (w : World) (h1 : Sl w w.heap.size A n D) (h2 : Sl w w.heap.size A2 n2 C) :
    Calls Try.prog 12 #[ctr A n c A2 n2 c2] w fun e w' => e = .returned (.bool true) ∧ Below w.heap.size w w' := by
  have CS := hid (fun (a : Option Addr) (n1 e1 : Nat) (a2 : Option Addr) (n3 e2 : Nat) (W : World) (k1 : Sl W W.heap.size a n1 D) (k2 : Sl W W.heap.size a2 n3 C) => specToldBy_any a n1 e1 a2 n3 e2 D C W k1 k2)
  have CI := hid (fun (a : Option Addr) (n1 e1 : Nat) (a2 : Option Addr) (n3 e2 : Nat) (W : World) (k1 : Sl W W.heap.size a n1 D) (k2 : Sl W W.heap.size a2 n3 C) => implToldBy_any a n1 e1 a2 n3 e2 D C W k1 k2)
  obtain ⟨v, hv⟩ : ∃ v, toldC D C = v := ⟨_, rfl⟩
  rw [hv] at CS CI
  clear hv
  go_enter Try.func12, Try.ntmps12
  have hb0 : Below w.heap.size w w := Below.refl _ _
  have hm1 := h1.max
  have hm2 := h2.max
  have st1 := (Below.refl w.heap.size w).alloc (Nat.le_refl _) (.cells #[.slice A n c, .slice A2 n2 c2] 42)
  have XP := Bt.new w 42 (.slice A n c) (.slice A2 n2 c2)
  obtain ⟨bP, hbP⟩ : ∃ q, w.heap.size = q := ⟨_, rfl⟩
  rw [hbP] at XP
  obtain ⟨w1, e1⟩ : ∃ W, w.alloc (.cells #[.slice A n c, .slice A2 n2 c2] 42) = W := ⟨_, rfl⟩
  rw [e1] at XP st1
  have BP := hid XP
  clear XP
  have z1 := st1.size
  have hb1 := below_tr hb0 st1
  clear st1
  have Pc0 := BP.out.c0
  have Pc1 := BP.out.c1
  go_wp2_with fail
  clear Pc0 Pc1
  refine (szCounter_any _ _ _ _ _ _ _ hm1 hm2).mono ?_
  rintro e w2 ⟨⟨s, rfl, hs0⟩, gg⟩
  have st2 := below_grown gg
  clear gg
  replace BP := hid (BP.out.below st2)
  have z2 := st2.size
  have hb2 := below_tr hb1 st2
  clear st2
  have Pc0 := BP.out.c0
  have Pc1 := BP.out.c1
  rcases hs0 with ⟨s0, s1⟩ | ⟨s0, s1⟩
  · go_wp2
    go_ret
    exact ⟨rfl, hb2⟩
  have s0' : decide (s < 0) = false := by simp; omega
  go_wp2_with fail
  clear Pc0 Pc1
  refine (toCounter_any A n c A2 n2 c2 D C _ (h1.on hb2) (h2.on hb2) (by omega) (by omega)).mono ?_
  rintro e w3 ⟨AC, cC, EC, dC, rfl, oC, st3⟩
  replace BP := hid (BP.out.below st3)
  have z3 := st3.size
  have hb3 := below_tr hb2 st3
  clear st3
  have Pc0 := BP.out.c0
  have Pc1 := BP.out.c1
  go_wp2_with fail
  clear Pc0 Pc1
  with_reducible refine Calls.mono (CS.out _ _ _ _ _ _ _ (Sl.of_own oC.d) (Sl.of_own oC.e)) ?_
  rintro e w4 ⟨rfl, gg⟩
  have st4 := below_grown gg
  clear gg oC
  replace BP := hid (BP.out.below st4)
  have z4 := st4.size
  have hb4 := below_tr hb3 st4
  clear st4
  have Pc0 := BP.out.c0
  have Pc1 := BP.out.c1
  go_wp2_with fail
  clear Pc0 Pc1
  refine (toCounter_any A n c A2 n2 c2 D C _ (h1.on hb4) (h2.on hb4) (by omega) (by omega)).mono ?_
  rintro e w5 ⟨AX, cX, EX, dX, rfl, oX, st5⟩
  replace BP := hid (BP.out.below st5)
  have z5 := st5.size
  have hb5 := below_tr hb4 st5
  clear st5
  have Pc0 := BP.out.c0
  have Pc1 := BP.out.c1
  clear Pc0 Pc1
  have st6 := (Below.refl w5.heap.size w5).alloc (Nat.le_refl _) (.cells #[.slice AX n cX, .slice EX n2 dX] 25)
  have XX := Bt.new w5 25 (.slice AX n cX) (.slice EX n2 dX)
  obtain ⟨bX, hbX⟩ : ∃ q, w5.heap.size = q := ⟨_, rfl⟩
  rw [hbX] at XX
  obtain ⟨w6, e6⟩ : ∃ W, w5.alloc (.cells #[.slice AX n cX, .slice EX n2 dX] 25) = W := ⟨_, rfl⟩
  rw [e6] at XX st6
  have BX := hid XX
  clear XX
  replace oX := oX.on st6
  replace BP := hid (BP.out.below st6)
  have z6 := st6.size
  have hb6 := below_tr hb5 st6
  clear st6
  have Pc0 := BP.out.c0
  have Pc1 := BP.out.c1
  have Xc0 := BX.out.c0
  have Xc1 := BX.out.c1
  go_wp2_with fail
  clear Pc0 Pc1 Xc0 Xc1
  with_reducible refine Calls.mono (CI.out _ _ _ _ _ _ _ (Sl.of_own oX.d) (Sl.of_own oX.e)) ?_
  rintro e w7 ⟨rfl, st7⟩
  replace oX := oX.on st7
  replace BP := hid (BP.out.below st7)
  replace BX := hid (BX.out.below st7)
  have z7 := st7.size
  have hb7 := below_tr hb6 st7
  clear st7
  have Pc0 := BP.out.c0
  have Pc1 := BP.out.c1
  have Xc0 := BX.out.c0
  have Xc1 := BX.out.c1
  have T1 := hid (fun (W : World) (hb : Below w.heap.size w W) => toCounter_any A n c A2 n2 c2 D C W (h1.on hb) (h2.on hb) (by omega) (by omega))
  have hd7 : Below w7.heap.size w7 w7.drew := (Below.refl _ _).drew
  go_wp2_with fail
  go_region_held3 (fun w' => w'.cell? ⟨bX, 0, none⟩ = some (.slice AX n cX) ∧ w'.cell? ⟨bX, 1, none⟩ = some (.slice EX n2 dX) ∧ w'.cell? ⟨bP, 0, none⟩ = some (.slice A n c) ∧ w'.cell? ⟨bP, 1, none⟩ = some (.slice A2 n2 c2))
    (first
      | go_keep
      | (go_split_ands
         refine ⟨?_, ?_, ?_, ?_⟩
         · exact (((BX.out.below hd7).below st8).below st9).c0
         · exact (((BX.out.below hd7).below st8).below st9).c1
         · exact (((BP.out.below hd7).below st8).below st9).c0
         · exact (((BP.out.below hd7).below st8).below st9).c1)
      | (go_split_ands
         refine ⟨?_, ?_, ?_, ?_⟩
         · exact ((BX.out.below hd7).below st8).c0
         · exact ((BX.out.below hd7).below st8).c1
         · exact ((BP.out.below hd7).below st8).c0
         · exact ((BP.out.below hd7).below st8).c1))
    (first
      | (go_at_call 36; with_reducible refine Calls.mono (T1.out _ (below_tr hb7 hd7)) ?_; rintro e w8 ⟨AD, cD, ED, dD, rfl, oD, st8⟩)
      | (go_at_call 37; refine Calls.mono (eqCounter_same _ _ _ _ _ _ _ _ _ _ _ _ _ _ _ _ _ ((oX.on hd7).on st8) oD) ?_; rintro e w9 ⟨rfl, st9⟩))

  clear Pc0 Pc1 Xc0 Xc1
  have hb9 := below_tr (below_tr (below_tr hb7 hd7) st8) st9
  clear st8 st9 hd7 oD T1 oX BX BP
  go_wp2
  go_ret
  exact ⟨rfl, hb9⟩
end Go.Proofs.Ytdacjpaaffpfgaa
