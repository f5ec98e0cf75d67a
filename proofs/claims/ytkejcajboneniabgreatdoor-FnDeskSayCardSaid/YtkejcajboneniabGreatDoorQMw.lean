/-
  Texts put together: K12u K12i. No statement is proved here.
-/
import Derived.Test.YtkejcajboneniabGreatDoorQMv
import Derived.Test.YtkejcajboneniabGreatDoorQMj
set_option linter.unusedVariables false
set_option linter.unusedSimpArgs false
namespace Go.Proofs.YtkejcajboneniabGreatDoor
open Go.RowKit

theorem do_zero {D : Dk} {k N : Int} (h : deskOk D = true) (hk : placed k = false) (hN : N ≠ 0) : deskDo D (k, N) = (D, false) := by
  unfold deskDo
  rw [if_pos h, if_neg (by unfold undoB; simp [hN]), if_pos (by unfold stayB; rw [made_zero hk hN]; rfl)]
theorem do_six {D : Dk} (h : deskOk D = true) : deskDo D (6, 0) = (backL D, hasPast D) := by
  unfold deskDo backL hasPast
  rw [if_pos h]
  cases hp : D.past.isEmpty with
  | true => rw [if_neg (by unfold undoB; simp [hp]), if_pos (by unfold stayB madeL; simp)]; simp
  | false => rw [if_pos (by unfold undoB; simp [hp])]; simp
theorem do_none {D : Dk} {k N : Int} (h : deskOk D = true) (hk : k ≠ 6) (hm : (madeL D.now k N).isEmpty = true) : deskDo D (k, N) = (D, false) := by
  unfold deskDo
  rw [if_pos h, if_neg (by unfold undoB; simp [hk]), if_pos (by unfold stayB; rw [hm]; rfl)]
theorem do_same {D : Dk} {k N : Int} (h : deskOk D = true) (hk : k ≠ 6) (hm : madeL D.now k N = D.now) : deskDo D (k, N) = (D, false) := by
  unfold deskDo
  rw [if_pos h, if_neg (by unfold undoB; simp [hk]), if_pos (by unfold stayB; simp [hm])]
theorem do_new {D : Dk} {k N : Int} (h : deskOk D = true) (hk : k ≠ 6) (hm : (madeL D.now k N).isEmpty = false) (hne : madeL D.now k N ≠ D.now) : deskDo D (k, N) = (⟨madeL D.now k N, trimL (D.past ++ [D.now])⟩, true) := by
  unfold deskDo
  rw [if_pos h, if_neg (by unfold undoB; simp [hk]), if_neg (by unfold stayB; simp [hm, hne])]

set_option maxRecDepth 100000 in
set_option maxHeartbeats 3200000 in
theorem after_any (P : Nat → Prop) (A : Option Addr) (n c : Nat) (A2 : Option Addr) (m c2 : Nat) (D : Dk) (k N : Int) (w : World) (hq : DkQ w P A n c A2 m c2 D) (hok : deskOk D = true) :
    Calls Tryz.prog 55 #[dsk A n c A2 m c2, deed k N] w fun e w' => ∃ A3 n3 c3 A4 m4 c4, e = .returned (.tuple #[dsk A3 n3 c3 A4 m4 c4, .bool (deskDo D (k, N)).2]) ∧ DkQ w' (fun b => P b ∨ w.heap.size ≤ b) A3 n3 c3 A4 m4 c4 (deskDo D (k, N)).1 ∧ Below w.heap.size w w' := by
  have h := hq.read
  have HQ := hid (hq.here.mono (P' := fun b => (P b ∧ b < w.heap.size) ∨ w.heap.size + 3 ≤ b) (fun b hb => .inl hb))
  have HPP : ∀ b, ((P b ∧ b < w.heap.size) ∨ w.heap.size + 3 ≤ b) → (P b ∨ w.heap.size ≤ b) := fun b hb => hb.elim (fun h => .inl h.1) (fun h => .inr (by omega))
  replace HPP := hid HPP
  clear hq
  obtain ⟨hp, hnow, hlen⟩ := deskOk_iff.1 hok
  rw [h.past.len] at hlen
  have z1 : (w.alloc (.cells #[.slice A n c, .slice A2 m c2] 31)).heap.size = w.heap.size + 1 := by simp
  have z2 : ((w.alloc (.cells #[.slice A n c, .slice A2 m c2] 31)).alloc (.cells #[.int .i64 k, .int .i64 N] 39)).heap.size = w.heap.size + 2 := by simp
  have g1 := grown_alloc (w.alloc (.cells #[.slice A n c, .slice A2 m c2] 31)) (.cells #[.int .i64 k, .int .i64 N] 39) none
  have g2 := grown_alloc ((w.alloc (.cells #[.slice A n c, .slice A2 m c2] 31)).alloc (.cells #[.int .i64 k, .int .i64 N] 39)) (.cells #[.slice none 0 0, .slice none 0 0] 31) none
  have X0 := ((Db.new w (.slice A n c) (.slice A2 m c2)).on (row := none) g1 (by simp)).on (row := none) g2 (by simp)
  have XA := (g2.block (w.heap.size + 1) (by simp) (by simp)).trans (show ((w.alloc (.cells #[.slice A n c, .slice A2 m c2] 31)).alloc (.cells #[.int .i64 k, .int .i64 N] 39)).heap[w.heap.size + 1]? = some (.cells #[.int .i64 k, .int .i64 N] 39 (0, 0)) from by rw [← z1]; exact heap_alloc_new _ _)
  have XR := Db.new ((w.alloc (.cells #[.slice A n c, .slice A2 m c2] 31)).alloc (.cells #[.int .i64 k, .int .i64 N] 39)) (.slice none 0 0) (.slice none 0 0)
  rw [z2] at XR
  have B0 := (((Below.refl w.heap.size w).alloc (Nat.le_refl _) (.cells #[.slice A n c, .slice A2 m c2] 31)).alloc (by simp) (.cells #[.int .i64 k, .int .i64 N] 39)).alloc (by simp; omega) (.cells #[.slice none 0 0, .slice none 0 0] 31)
  obtain ⟨w0, e0⟩ : ∃ W, ((w.alloc (.cells #[.slice A n c, .slice A2 m c2] 31)).alloc (.cells #[.int .i64 k, .int .i64 N] 39)).alloc (.cells #[.slice none 0 0, .slice none 0 0] 31) = W := ⟨_, rfl⟩
  have hz0 : w0.heap.size = w.heap.size + 3 := by rw [← e0]; simp
  rw [e0] at X0 XA XR B0
  obtain ⟨a0, a1, _, _⟩ := pairCells XA
  have c0 := X0.c0
  have c1 := X0.c1
  have r0 := XR.c0
  have r1 := XR.c1
  have f0 := XR.fz 0
  have f1 := XR.fz 1
  have CN := hid (namesPlace_any k N w0)
  have HH := hid h
  have HX0 := hid X0
  have HXA := hid XA
  have HXR := hid XR
  have HB0 := hid B0
  have HOK := hid hok
  have HNW := hid hnow
  clear g1 g2 X0 XA XR B0 z1 z2 h hok hnow hp
  by_cases hN : N = 0
  · subst hN
    by_cases hk6 : k = 6
    · subst hk6
      have HV := hid (do_six HOK.out)
      have CB := hid (back_any _ A n c A2 m c2 D w0 (HQ.out.on HB0.out))
      go_enter Tryz.func55, Tryz.ntmps55
      go_wp2_with fail
      with_reducible refine Calls.mono CB.out ?_
      rintro e w5 ⟨A8, n8, c8, A9, m9, c9, rfl, d5, b5⟩
      have HDK := hid d5
      clear d5
      have Z0 := HX0.out.below b5 (by have := HX0.out.lt; omega)
      have ZA := (b5.block (w.heap.size + 1) (by omega)).trans HXA.out
      have ZR := HXR.out.below b5 (by have := HXR.out.lt; omega)
      obtain ⟨a0, a1, _, _⟩ := pairCells ZA
      have c0 := Z0.c0
      have c1 := Z0.c1
      have r0 := ZR.c0
      have r1 := ZR.c1
      have f0 := ZR.fz 0
      have f1 := ZR.fz 1
      have hzn := b5.size
      have HB_w5 := hid (HB0.out.trans (b5.mono (by omega)))
      have HX0_w5 := hid Z0
      have HXA_w5 := hid ZA
      have HXR_w5 := hid ZR
      clear Z0 ZA ZR b5
      go_wp2
      (try simp only [Exit.inBlock, Exit.then])
      refine bodyPost_ret (results_db rfl _ _ (w.heap.size + 2) 31 _ (0, 0) _ (by simp [Act.put]) (HXR_w5.out.set _ _) Tryz.underlying31 rfl size_desk) rfl ?_
      have BQ := (HB_w5.out.setCell (p := ⟨w.heap.size + 2, 0, none⟩) (by simp) (.slice A8 n8 c8)).setCell (p := ⟨w.heap.size + 2, 1, none⟩) (by simp) (.slice A9 m9 c9)
      have DQ := (HDK.out.put2 (b := w.heap.size + 2) (by omega) (.slice A8 n8 c8) (.slice A9 m9 c9)).mono HPP.out
      exact ⟨_, _, _, _, _, _, by rw [HV.out]; rfl, by rw [HV.out]; exact DQ, BQ⟩
    · have hN' : (0 : Int) = 0 ∨ placed k = true := .inl rfl
      have hk6' : (k == 6) = false := by simpa using hk6
      have CR := hid (ringAfter_any A n c D.now k 0 w0 (HH.out.now.on HB0.out) HH.out.cap HNW.out hN')
      obtain ⟨M, hM⟩ : ∃ M, madeL D.now k 0 = M := ⟨_, rfl⟩
      rw [hM] at CR
      cases hE : M.isEmpty with
      | true =>
        have HV := hid (do_none HOK.out hk6 (by rw [hM]; exact hE))
        rw [hE, Bool.not_true] at CR
        clear hE hM
        go_enter Tryz.func55, Tryz.ntmps55
        go_wp2_with fail
        with_reducible refine Calls.mono CR.out ?_
        rintro e w5 ⟨A5, m5, c5, rfl, o5, b5⟩
        have Z0 := HX0.out.below b5 (by have := HX0.out.lt; omega)
        have ZA := (b5.block (w.heap.size + 1) (by omega)).trans HXA.out
        have ZR := HXR.out.below b5 (by have := HXR.out.lt; omega)
        obtain ⟨a0, a1, _, _⟩ := pairCells ZA
        have c0 := Z0.c0
        have c1 := Z0.c1
        have r0 := ZR.c0
        have r1 := ZR.c1
        have f0 := ZR.fz 0
        have f1 := ZR.fz 1
        have hzn := b5.size
        have HB_w5 := hid (HB0.out.trans (b5.mono (by omega)))
        have HX0_w5 := hid Z0
        have HXA_w5 := hid ZA
        have HXR_w5 := hid ZR
        clear Z0 ZA ZR b5
        go_wp2
        (try simp only [Exit.inBlock, Exit.then])
        refine bodyPost_ret (results_db rfl _ _ (w.heap.size + 2) 31 _ (0, 0) _ (by simp [Act.put]) (HXR_w5.out.set _ _) Tryz.underlying31 rfl size_desk) rfl ?_
        have BQ := (HB_w5.out.setCell (p := ⟨w.heap.size + 2, 0, none⟩) (by simp) (.slice A n c)).setCell (p := ⟨w.heap.size + 2, 1, none⟩) (by simp) (.slice A2 m c2)
        exact ⟨_, _, _, _, _, _, by rw [HV.out]; rfl, by rw [HV.out]; exact (HQ.out.on BQ).mono HPP.out, BQ⟩
      | false =>
        rw [hE, Bool.not_false] at CR
        by_cases hEq : M = D.now
        · have HV := hid (do_same HOK.out hk6 (by rw [hM]; exact hEq))
          have HEQ := hid (show decide (M = D.now) = true from by simpa using hEq)
          clear hE hM hEq
          go_enter Tryz.func55, Tryz.ntmps55
          go_wp2_with fail
          with_reducible refine Calls.mono CR.out ?_
          rintro e w5 ⟨A5, m5, c5, rfl, o5, b5⟩
          have HS5 := hid (Sl.of_own o5)
          have HB5 := hid (HB0.out.trans (b5.mono (by omega)))
          have CE := hid (equal_any A5 m5 c5 M A n c D.now w5 HS5.out (HH.out.now.on HB5.out))
          rw [HEQ.out] at CE
          clear o5
          have Z0 := HX0.out.below b5 (by have := HX0.out.lt; omega)
          have ZA := (b5.block (w.heap.size + 1) (by omega)).trans HXA.out
          have ZR := HXR.out.below b5 (by have := HXR.out.lt; omega)
          obtain ⟨a0, a1, _, _⟩ := pairCells ZA
          have c0 := Z0.c0
          have c1 := Z0.c1
          have r0 := ZR.c0
          have r1 := ZR.c1
          have f0 := ZR.fz 0
          have f1 := ZR.fz 1
          have hzn := b5.size
          have HB_w5 := hid (HB0.out.trans (b5.mono (by omega)))
          have HX0_w5 := hid Z0
          have HXA_w5 := hid ZA
          have HXR_w5 := hid ZR
          clear Z0 ZA ZR b5
          go_wp2_with fail
          with_reducible refine Calls.mono CE.out ?_
          rintro e w6 ⟨rfl, b6⟩
          have Z0 := HX0_w5.out.below b6 (by have := HX0_w5.out.lt; omega)
          have ZA := (b6.block (w.heap.size + 1) (by omega)).trans HXA_w5.out
          have ZR := HXR_w5.out.below b6 (by have := HXR_w5.out.lt; omega)
          obtain ⟨a0, a1, _, _⟩ := pairCells ZA
          have c0 := Z0.c0
          have c1 := Z0.c1
          have r0 := ZR.c0
          have r1 := ZR.c1
          have f0 := ZR.fz 0
          have f1 := ZR.fz 1
          have hzn := b6.size
          have HB_w6 := hid (HB_w5.out.trans (b6.mono (by omega)))
          have HX0_w6 := hid Z0
          have HXA_w6 := hid ZA
          have HXR_w6 := hid ZR
          clear Z0 ZA ZR b6
          go_wp2
          (try simp only [Exit.inBlock, Exit.then])
          refine bodyPost_ret (results_db rfl _ _ (w.heap.size + 2) 31 _ (0, 0) _ (by simp [Act.put]) (HXR_w6.out.set _ _) Tryz.underlying31 rfl size_desk) rfl ?_
          have BQ := (HB_w6.out.setCell (p := ⟨w.heap.size + 2, 0, none⟩) (by simp) (.slice A n c)).setCell (p := ⟨w.heap.size + 2, 1, none⟩) (by simp) (.slice A2 m c2)
          exact ⟨_, _, _, _, _, _, by rw [HV.out]; rfl, by rw [HV.out]; exact (HQ.out.on BQ).mono HPP.out, BQ⟩
        · have HV := hid (do_new HOK.out hk6 (by rw [hM]; exact hE) (by rw [hM]; exact hEq))
          have HEQ := hid (show decide (M = D.now) = false from by simpa using hEq)
          have HM := hid hM
          rw [hM] at HV
          clear hE hM hEq
          go_enter Tryz.func55, Tryz.ntmps55
          go_wp2_with fail
          with_reducible refine Calls.mono CR.out ?_
          rintro e w5 ⟨A5, m5, c5, rfl, o5, b5⟩
          have HS5 := hid (Sl.of_own o5)
          have HSQ := hid (SlQ.of_own (P := fun b => (P b ∧ b < w.heap.size) ∨ w.heap.size + 3 ≤ b) o5 (fun b hb => .inr (by omega)))
          have HC5 := hid (own_capK o5)
          have HB5 := hid (HB0.out.trans (b5.mono (by omega)))
          have CE := hid (equal_any A5 m5 c5 M A n c D.now w5 HS5.out (HH.out.now.on HB5.out))
          rw [HEQ.out] at CE
          clear o5
          have Z0 := HX0.out.below b5 (by have := HX0.out.lt; omega)
          have ZA := (b5.block (w.heap.size + 1) (by omega)).trans HXA.out
          have ZR := HXR.out.below b5 (by have := HXR.out.lt; omega)
          obtain ⟨a0, a1, _, _⟩ := pairCells ZA
          have c0 := Z0.c0
          have c1 := Z0.c1
          have r0 := ZR.c0
          have r1 := ZR.c1
          have f0 := ZR.fz 0
          have f1 := ZR.fz 1
          have hzn := b5.size
          have HB_w5 := hid (HB0.out.trans (b5.mono (by omega)))
          have HX0_w5 := hid Z0
          have HXA_w5 := hid ZA
          have HXR_w5 := hid ZR
          clear Z0 ZA ZR b5
          go_wp2_with fail
          with_reducible refine Calls.mono CE.out ?_
          rintro e w6 ⟨rfl, b6⟩
          have CM := hid (moved_any _ A n c A2 m c2 D A5 m5 c5 M w6 (HQ.out.on (HB_w5.out.trans (b6.mono HB_w5.out.size))) (HSQ.out.on b6) HC5.out hlen)
          have hz6 : w.heap.size + 3 ≤ w6.heap.size := by have := HB_w5.out.size; have := b6.size; omega
          have Z0 := HX0_w5.out.below b6 (by have := HX0_w5.out.lt; omega)
          have ZA := (b6.block (w.heap.size + 1) (by omega)).trans HXA_w5.out
          have ZR := HXR_w5.out.below b6 (by have := HXR_w5.out.lt; omega)
          obtain ⟨a0, a1, _, _⟩ := pairCells ZA
          have c0 := Z0.c0
          have c1 := Z0.c1
          have r0 := ZR.c0
          have r1 := ZR.c1
          have f0 := ZR.fz 0
          have f1 := ZR.fz 1
          have hzn := b6.size
          have HB_w6 := hid (HB_w5.out.trans (b6.mono (by omega)))
          have HX0_w6 := hid Z0
          have HXA_w6 := hid ZA
          have HXR_w6 := hid ZR
          clear Z0 ZA ZR b6
          go_wp2_with fail
          with_reducible refine Calls.mono CM.out ?_
          rintro e w7 ⟨A9, m9, c9, rfl, d7, b7⟩
          have HDK := hid (d7.mono (P' := fun b => (P b ∧ b < w.heap.size) ∨ w.heap.size + 3 ≤ b) (fun b hb => hb.elim id (fun h => .inr (by omega))))
          clear d7
          have Z0 := HX0_w6.out.below b7 (by have := HX0_w6.out.lt; omega)
          have ZA := (b7.block (w.heap.size + 1) (by omega)).trans HXA_w6.out
          have ZR := HXR_w6.out.below b7 (by have := HXR_w6.out.lt; omega)
          obtain ⟨a0, a1, _, _⟩ := pairCells ZA
          have c0 := Z0.c0
          have c1 := Z0.c1
          have r0 := ZR.c0
          have r1 := ZR.c1
          have f0 := ZR.fz 0
          have f1 := ZR.fz 1
          have hzn := b7.size
          have HB_w7 := hid (HB_w6.out.trans (b7.mono (by omega)))
          have HX0_w7 := hid Z0
          have HXA_w7 := hid ZA
          have HXR_w7 := hid ZR
          clear Z0 ZA ZR b7
          go_wp2
          (try simp only [Exit.inBlock, Exit.then])
          refine bodyPost_ret (results_db rfl _ _ (w.heap.size + 2) 31 _ (0, 0) _ (by simp [Act.put]) (HXR_w7.out.set _ _) Tryz.underlying31 rfl size_desk) rfl ?_
          have BQ := (HB_w7.out.setCell (p := ⟨w.heap.size + 2, 0, none⟩) (by simp) (.slice A5 m5 c5)).setCell (p := ⟨w.heap.size + 2, 1, none⟩) (by simp) (.slice A9 m9 c9)
          have DQ := (HDK.out.put2 (b := w.heap.size + 2) (by omega) (.slice A5 m5 c5) (.slice A9 m9 c9)).mono HPP.out
          exact ⟨_, _, _, _, _, _, by rw [HV.out]; rfl, by rw [HV.out]; exact DQ, BQ⟩
  · have hN0 : (N == 0) = false := by simpa using hN
    have hN1 : (N != 0) = true := by simpa using hN
    cases hpl : placed k with
    | false =>
      have HV := hid (do_zero HOK.out hpl hN)
      rw [hpl] at CN
      clear hpl
      go_enter Tryz.func55, Tryz.ntmps55
      go_wp2_with fail
      with_reducible refine Calls.mono CN.out ?_
      rintro e w4 ⟨rfl, b4⟩
      have Z0 := HX0.out.below b4 (by have := HX0.out.lt; omega)
      have ZA := (b4.block (w.heap.size + 1) (by omega)).trans HXA.out
      have ZR := HXR.out.below b4 (by have := HXR.out.lt; omega)
      obtain ⟨a0, a1, _, _⟩ := pairCells ZA
      have c0 := Z0.c0
      have c1 := Z0.c1
      have r0 := ZR.c0
      have r1 := ZR.c1
      have f0 := ZR.fz 0
      have f1 := ZR.fz 1
      have hzn := b4.size
      have HB_w4 := hid (HB0.out.trans (b4.mono (by omega)))
      have HX0_w4 := hid Z0
      have HXA_w4 := hid ZA
      have HXR_w4 := hid ZR
      clear Z0 ZA ZR b4
      go_wp2
      (try simp only [Exit.inBlock, Exit.then])
      refine bodyPost_ret (results_db rfl _ _ (w.heap.size + 2) 31 _ (0, 0) _ (by simp [Act.put]) (HXR_w4.out.set _ _) Tryz.underlying31 rfl size_desk) rfl ?_
      have BQ := (HB_w4.out.setCell (p := ⟨w.heap.size + 2, 0, none⟩) (by simp) (.slice A n c)).setCell (p := ⟨w.heap.size + 2, 1, none⟩) (by simp) (.slice A2 m c2)
      exact ⟨_, _, _, _, _, _, by rw [HV.out]; rfl, by rw [HV.out]; exact (HQ.out.on BQ).mono HPP.out, BQ⟩
    | true =>
      have hk6 : k ≠ 6 := by rintro rfl; revert hpl; decide
      have hN' : N = 0 ∨ placed k = true := .inr hpl
      have hk6' : (k == 6) = false := by simpa using hk6
      rw [hpl] at CN
      clear hpl
      go_enter Tryz.func55, Tryz.ntmps55
      go_wp2_with fail
      with_reducible refine Calls.mono CN.out ?_
      rintro e w4 ⟨rfl, b4⟩
      have Z0 := HX0.out.below b4 (by have := HX0.out.lt; omega)
      have ZA := (b4.block (w.heap.size + 1) (by omega)).trans HXA.out
      have ZR := HXR.out.below b4 (by have := HXR.out.lt; omega)
      obtain ⟨a0, a1, _, _⟩ := pairCells ZA
      have c0 := Z0.c0
      have c1 := Z0.c1
      have r0 := ZR.c0
      have r1 := ZR.c1
      have f0 := ZR.fz 0
      have f1 := ZR.fz 1
      have hzn := b4.size
      have HB_w4 := hid (HB0.out.trans (b4.mono (by omega)))
      have HX0_w4 := hid Z0
      have HXA_w4 := hid ZA
      have HXR_w4 := hid ZR
      clear Z0 ZA ZR b4
      have CR := hid (ringAfter_any A n c D.now k N w4 (HH.out.now.on HB_w4.out) HH.out.cap HNW.out hN')
      obtain ⟨M, hM⟩ : ∃ M, madeL D.now k N = M := ⟨_, rfl⟩
      rw [hM] at CR
      cases hE : M.isEmpty with
      | true =>
        have HV := hid (do_none HOK.out hk6 (by rw [hM]; exact hE))
        rw [hE, Bool.not_true] at CR
        clear hE hM
        go_wp2_with fail
        with_reducible refine Calls.mono CR.out ?_
        rintro e w5 ⟨A5, m5, c5, rfl, o5, b5⟩
        have Z0 := HX0_w4.out.below b5 (by have := HX0_w4.out.lt; omega)
        have ZA := (b5.block (w.heap.size + 1) (by omega)).trans HXA_w4.out
        have ZR := HXR_w4.out.below b5 (by have := HXR_w4.out.lt; omega)
        obtain ⟨a0, a1, _, _⟩ := pairCells ZA
        have c0 := Z0.c0
        have c1 := Z0.c1
        have r0 := ZR.c0
        have r1 := ZR.c1
        have f0 := ZR.fz 0
        have f1 := ZR.fz 1
        have hzn := b5.size
        have HB_w5 := hid (HB_w4.out.trans (b5.mono (by omega)))
        have HX0_w5 := hid Z0
        have HXA_w5 := hid ZA
        have HXR_w5 := hid ZR
        clear Z0 ZA ZR b5
        go_wp2
        (try simp only [Exit.inBlock, Exit.then])
        refine bodyPost_ret (results_db rfl _ _ (w.heap.size + 2) 31 _ (0, 0) _ (by simp [Act.put]) (HXR_w5.out.set _ _) Tryz.underlying31 rfl size_desk) rfl ?_
        have BQ := (HB_w5.out.setCell (p := ⟨w.heap.size + 2, 0, none⟩) (by simp) (.slice A n c)).setCell (p := ⟨w.heap.size + 2, 1, none⟩) (by simp) (.slice A2 m c2)
        exact ⟨_, _, _, _, _, _, by rw [HV.out]; rfl, by rw [HV.out]; exact (HQ.out.on BQ).mono HPP.out, BQ⟩
      | false =>
        rw [hE, Bool.not_false] at CR
        by_cases hEq : M = D.now
        · have HV := hid (do_same HOK.out hk6 (by rw [hM]; exact hEq))
          have HEQ := hid (show decide (M = D.now) = true from by simpa using hEq)
          clear hE hM hEq
          go_wp2_with fail
          with_reducible refine Calls.mono CR.out ?_
          rintro e w5 ⟨A5, m5, c5, rfl, o5, b5⟩
          have HS5 := hid (Sl.of_own o5)
          have HB5 := hid (HB_w4.out.trans (b5.mono (by omega)))
          have CE := hid (equal_any A5 m5 c5 M A n c D.now w5 HS5.out (HH.out.now.on HB5.out))
          rw [HEQ.out] at CE
          clear o5
          have Z0 := HX0_w4.out.below b5 (by have := HX0_w4.out.lt; omega)
          have ZA := (b5.block (w.heap.size + 1) (by omega)).trans HXA_w4.out
          have ZR := HXR_w4.out.below b5 (by have := HXR_w4.out.lt; omega)
          obtain ⟨a0, a1, _, _⟩ := pairCells ZA
          have c0 := Z0.c0
          have c1 := Z0.c1
          have r0 := ZR.c0
          have r1 := ZR.c1
          have f0 := ZR.fz 0
          have f1 := ZR.fz 1
          have hzn := b5.size
          have HB_w5 := hid (HB_w4.out.trans (b5.mono (by omega)))
          have HX0_w5 := hid Z0
          have HXA_w5 := hid ZA
          have HXR_w5 := hid ZR
          clear Z0 ZA ZR b5
          go_wp2_with fail
          with_reducible refine Calls.mono CE.out ?_
          rintro e w6 ⟨rfl, b6⟩
          have Z0 := HX0_w5.out.below b6 (by have := HX0_w5.out.lt; omega)
          have ZA := (b6.block (w.heap.size + 1) (by omega)).trans HXA_w5.out
          have ZR := HXR_w5.out.below b6 (by have := HXR_w5.out.lt; omega)
          obtain ⟨a0, a1, _, _⟩ := pairCells ZA
          have c0 := Z0.c0
          have c1 := Z0.c1
          have r0 := ZR.c0
          have r1 := ZR.c1
          have f0 := ZR.fz 0
          have f1 := ZR.fz 1
          have hzn := b6.size
          have HB_w6 := hid (HB_w5.out.trans (b6.mono (by omega)))
          have HX0_w6 := hid Z0
          have HXA_w6 := hid ZA
          have HXR_w6 := hid ZR
          clear Z0 ZA ZR b6
          go_wp2
          (try simp only [Exit.inBlock, Exit.then])
          refine bodyPost_ret (results_db rfl _ _ (w.heap.size + 2) 31 _ (0, 0) _ (by simp [Act.put]) (HXR_w6.out.set _ _) Tryz.underlying31 rfl size_desk) rfl ?_
          have BQ := (HB_w6.out.setCell (p := ⟨w.heap.size + 2, 0, none⟩) (by simp) (.slice A n c)).setCell (p := ⟨w.heap.size + 2, 1, none⟩) (by simp) (.slice A2 m c2)
          exact ⟨_, _, _, _, _, _, by rw [HV.out]; rfl, by rw [HV.out]; exact (HQ.out.on BQ).mono HPP.out, BQ⟩
        · have HV := hid (do_new HOK.out hk6 (by rw [hM]; exact hE) (by rw [hM]; exact hEq))
          have HEQ := hid (show decide (M = D.now) = false from by simpa using hEq)
          have HM := hid hM
          rw [hM] at HV
          clear hE hM hEq
          go_wp2_with fail
          with_reducible refine Calls.mono CR.out ?_
          rintro e w5 ⟨A5, m5, c5, rfl, o5, b5⟩
          have HS5 := hid (Sl.of_own o5)
          have HSQ := hid (SlQ.of_own (P := fun b => (P b ∧ b < w.heap.size) ∨ w.heap.size + 3 ≤ b) o5 (fun b hb => .inr (by omega)))
          have HC5 := hid (own_capK o5)
          have HB5 := hid (HB_w4.out.trans (b5.mono (by omega)))
          have CE := hid (equal_any A5 m5 c5 M A n c D.now w5 HS5.out (HH.out.now.on HB5.out))
          rw [HEQ.out] at CE
          clear o5
          have Z0 := HX0_w4.out.below b5 (by have := HX0_w4.out.lt; omega)
          have ZA := (b5.block (w.heap.size + 1) (by omega)).trans HXA_w4.out
          have ZR := HXR_w4.out.below b5 (by have := HXR_w4.out.lt; omega)
          obtain ⟨a0, a1, _, _⟩ := pairCells ZA
          have c0 := Z0.c0
          have c1 := Z0.c1
          have r0 := ZR.c0
          have r1 := ZR.c1
          have f0 := ZR.fz 0
          have f1 := ZR.fz 1
          have hzn := b5.size
          have HB_w5 := hid (HB_w4.out.trans (b5.mono (by omega)))
          have HX0_w5 := hid Z0
          have HXA_w5 := hid ZA
          have HXR_w5 := hid ZR
          clear Z0 ZA ZR b5
          go_wp2_with fail
          with_reducible refine Calls.mono CE.out ?_
          rintro e w6 ⟨rfl, b6⟩
          have CM := hid (moved_any _ A n c A2 m c2 D A5 m5 c5 M w6 (HQ.out.on (HB_w5.out.trans (b6.mono HB_w5.out.size))) (HSQ.out.on b6) HC5.out hlen)
          have hz6 : w.heap.size + 3 ≤ w6.heap.size := by have := HB_w5.out.size; have := b6.size; omega
          have Z0 := HX0_w5.out.below b6 (by have := HX0_w5.out.lt; omega)
          have ZA := (b6.block (w.heap.size + 1) (by omega)).trans HXA_w5.out
          have ZR := HXR_w5.out.below b6 (by have := HXR_w5.out.lt; omega)
          obtain ⟨a0, a1, _, _⟩ := pairCells ZA
          have c0 := Z0.c0
          have c1 := Z0.c1
          have r0 := ZR.c0
          have r1 := ZR.c1
          have f0 := ZR.fz 0
          have f1 := ZR.fz 1
          have hzn := b6.size
          have HB_w6 := hid (HB_w5.out.trans (b6.mono (by omega)))
          have HX0_w6 := hid Z0
          have HXA_w6 := hid ZA
          have HXR_w6 := hid ZR
          clear Z0 ZA ZR b6
          go_wp2_with fail
          with_reducible refine Calls.mono CM.out ?_
          rintro e w7 ⟨A9, m9, c9, rfl, d7, b7⟩
          have HDK := hid (d7.mono (P' := fun b => (P b ∧ b < w.heap.size) ∨ w.heap.size + 3 ≤ b) (fun b hb => hb.elim id (fun h => .inr (by omega))))
          clear d7
          have Z0 := HX0_w6.out.below b7 (by have := HX0_w6.out.lt; omega)
          have ZA := (b7.block (w.heap.size + 1) (by omega)).trans HXA_w6.out
          have ZR := HXR_w6.out.below b7 (by have := HXR_w6.out.lt; omega)
          obtain ⟨a0, a1, _, _⟩ := pairCells ZA
          have c0 := Z0.c0
          have c1 := Z0.c1
          have r0 := ZR.c0
          have r1 := ZR.c1
          have f0 := ZR.fz 0
          have f1 := ZR.fz 1
          have hzn := b7.size
          have HB_w7 := hid (HB_w6.out.trans (b7.mono (by omega)))
          have HX0_w7 := hid Z0
          have HXA_w7 := hid ZA
          have HXR_w7 := hid ZR
          clear Z0 ZA ZR b7
          go_wp2
          (try simp only [Exit.inBlock, Exit.then])
          refine bodyPost_ret (results_db rfl _ _ (w.heap.size + 2) 31 _ (0, 0) _ (by simp [Act.put]) (HXR_w7.out.set _ _) Tryz.underlying31 rfl size_desk) rfl ?_
          have BQ := (HB_w7.out.setCell (p := ⟨w.heap.size + 2, 0, none⟩) (by simp) (.slice A5 m5 c5)).setCell (p := ⟨w.heap.size + 2, 1, none⟩) (by simp) (.slice A9 m9 c9)
          have DQ := (HDK.out.put2 (b := w.heap.size + 2) (by omega) (.slice A5 m5 c5) (.slice A9 m9 c9)).mono HPP.out
          exact ⟨_, _, _, _, _, _, by rw [HV.out]; rfl, by rw [HV.out]; exact DQ, BQ⟩
end Go.Proofs.YtkejcajboneniabGreatDoor
namespace Go.Proofs.YtkejcajboneniabGreatDoor
open Go.RowKit

set_option maxRecDepth 100000 in
set_option maxHeartbeats 1600000 in
theorem implDeskOkS_any (A : Option Addr) (n c : Nat) (A2 : Option Addr) (m c2 : Nat) (D : Dk) (w : World) (h : DkS w A n A2 m D) :
    Calls Tryz.prog 23 #[dsk A n c A2 m c2] w fun e w' => e = .returned (.bool (deskOk D)) ∧ Below w.heap.size w w' := by
  have hg0 := (Below.refl w.heap.size w).alloc (Nat.le_refl _) (.cells #[.slice A n c, .slice A2 m c2] 31)
  have c0 : (w.alloc (.cells #[.slice A n c, .slice A2 m c2] 31)).cell? ⟨w.heap.size, 0, none⟩ = some (.slice A n c) := by simp
  have c1 : (w.alloc (.cells #[.slice A n c, .slice A2 m c2] 31)).cell? ⟨w.heap.size, 1, none⟩ = some (.slice A2 m c2) := by simp
  have H := h.on hg0
  have HP := hid H.past
  have hm : m ≤ 9223372036854775807 := H.past.max
  have HL := hid H.past.len
  have HG := hid hg0
  have CN := hid (bitsI_any A n c D.now (w.alloc (.cells #[.slice A n c, .slice A2 m c2] 31)) _ H.now)
  obtain ⟨w0, e0⟩ : ∃ W, w.alloc (.cells #[.slice A n c, .slice A2 m c2] 31) = W := ⟨_, rfl⟩
  rw [e0] at HG c0 c1 HP CN
  clear h H hg0
  cases hn : bitsOk D.now with
  | false =>
    have HF := hid (show deskOk D = false from by unfold deskOk; rw [hn]; simp)
    rw [hn] at CN
    clear hn
    go_enter Tryz.func23, Tryz.ntmps23
    go_wp2_with fail
    with_reducible refine Calls.mono CN.out ?_
    rintro e w1 ⟨rfl, rfl⟩
    go_wp2
    go_ret
    exact ⟨ret_bool HF.out.symm, HG.out⟩
  | true =>
    have HN := hid hn
    rw [hn] at CN
    clear hn
    by_cases h8 : 8 < m
    · have HF := hid (show deskOk D = false from by unfold deskOk; rw [HL.out]; simp; omega)
      have h8i : (8 : Int) < (m : Int) := by omega
      go_enter Tryz.func23, Tryz.ntmps23
      go_wp2_with fail
      with_reducible refine Calls.mono CN.out ?_
      rintro e w1 ⟨rfl, rfl⟩
      go_wp2
      go_ret
      exact ⟨ret_bool HF.out.symm, HG.out⟩
    · have h8i : ¬ (8 : Int) < (m : Int) := by omega
      go_enter Tryz.func23, Tryz.ntmps23
      go_wp2_with fail
      with_reducible refine Calls.mono CN.out ?_
      rintro e w1 ⟨rfl, rfl⟩
      clear e0
      go_wp2
      go_loop [18] (fun i => ∃ k : Nat, i = .int .i64 k ∧ k ≤ m ∧ Hid (∀ j, j < k → bitsOk (D.past.getD j []) = true)) (fun i => m - (intOf i).toNat)
      case atStart => exact ⟨0, rfl, Nat.zero_le _, hid (fun j hj => absurd hj (by omega))⟩
      case round =>
        obtain ⟨k, rfl, hk, HA⟩ := hrel
        by_cases hlt : k < m
        · obtain ⟨b, off, A3, n3, c3, rfl, hb, hck, hs3⟩ := HP.out.at hlt
          have CB := hid (bitsI_any A3 n3 c3 _ w0 _ hs3)
          have hlt' : (k : Int) < (m : Int) := by omega
          have p0 : (0 : Int) ≤ (k : Int) := by omega
          cases hok : bitsOk (D.past.getD k []) with
          | true =>
            have HA2 := hid (show ∀ j, j < k + 1 → bitsOk (D.past.getD j []) = true from fun j hj => by
              by_cases h1 : j < k
              · exact HA.out j h1
              · obtain rfl : j = k := by omega
                exact hok)
            rw [hok] at CB
            clear hok hs3
            go_wp2_with fail
            with_reducible refine Calls.mono CB.out ?_
            rintro e w' ⟨rfl, rfl⟩
            go_wp2
            go_round
            case rel => exact ⟨k + 1, by go_num, by omega, HA2⟩
            case measure => simp [intOf]; omega
          | false =>
            have HF := hid (show deskOk D = false from by unfold deskOk; rw [not_past HL.out hlt hok]; rfl)
            rw [hok] at CB
            clear hok hs3
            go_wp2_with fail
            with_reducible refine Calls.mono CB.out ?_
            rintro e w' ⟨rfl, rfl⟩
            go_wp2
            go_ret
            exact ⟨ret_bool HF.out.symm, HG.out⟩
        · obtain rfl : k = m := by omega
          have HF := hid (show deskOk D = true from by unfold deskOk; rw [all_past HL.out HA.out, HN.out, HL.out]; simp; omega)
          go_wp2
          go_ret
          exact ⟨ret_bool HF.out.symm, HG.out⟩

theorem implDeskOk_any (A : Option Addr) (n c : Nat) (A2 : Option Addr) (m c2 : Nat) (D : Dk) (w : World) (h : DkR w w.heap.size A n c A2 m c2 D) :
    Calls Tryz.prog 23 #[dsk A n c A2 m c2] w fun e w' => e = .returned (.bool (deskOk D)) ∧ Below w.heap.size w w' := implDeskOkS_any A n c A2 m c2 D w h.s

theorem do_false {D : Dk} {a : Int × Int} (h : deskOk D = true) (hd : (deskDo D a).2 = false) : (deskDo D a).1 = D := by
  unfold deskDo at hd ⊢
  rw [if_pos h] at hd ⊢
  by_cases hb : undoB D a.1 a.2 = true
  · rw [if_pos hb] at hd; cases hd
  · rw [if_neg hb] at hd ⊢
    by_cases hs : stayB D a.1 a.2 = true
    · rw [if_pos hs]
    · rw [if_neg hs] at hd; cases hd

set_option maxRecDepth 100000 in
set_option maxHeartbeats 3200000 in
theorem implDeskRun_any (A : Option Addr) (n c : Nat) (A2 : Option Addr) (m c2 : Nat) (D : Dk) (AL : Option Addr) (nL cL : Nat) (l : List (Int × Int)) (w : World) (h : DkR w w.heap.size A n c A2 m c2 D) (hL : SlD w w.heap.size AL nL l) :
    Calls Tryz.prog 16 #[dsk A n c A2 m c2, .slice AL nL cL] w fun e w' => ∃ A3 n3 c3 A4 m4 c4, e = .returned (.tuple #[dsk A3 n3 c3 A4 m4 c4, .int .i64 ((runOut D l).2 : Nat)]) ∧ DkY w' w.heap.size A3 n3 c3 A4 m4 c4 (runOut D l).1 ∧ Below w.heap.size w w' := by
  have z1 : (w.alloc (.cells #[.slice A n c, .slice A2 m c2] 31)).heap.size = w.heap.size + 1 := by simp
  have g1 := grown_alloc (w.alloc (.cells #[.slice A n c, .slice A2 m c2] 31)) (.cells #[.slice none 0 0, .slice none 0 0] 31) none
  have X0 := (Db.new w (.slice A n c) (.slice A2 m c2)).on (row := none) g1 (by simp)
  have XR := Db.new (w.alloc (.cells #[.slice A n c, .slice A2 m c2] 31)) (.slice none 0 0) (.slice none 0 0)
  rw [z1] at XR
  have B0 := ((Below.refl w.heap.size w).alloc (Nat.le_refl _) (.cells #[.slice A n c, .slice A2 m c2] 31)).alloc (by simp) (.cells #[.slice none 0 0, .slice none 0 0] 31)
  obtain ⟨w0, e0⟩ : ∃ W, (w.alloc (.cells #[.slice A n c, .slice A2 m c2] 31)).alloc (.cells #[.slice none 0 0, .slice none 0 0] 31) = W := ⟨_, rfl⟩
  have hz0 : w0.heap.size = w.heap.size + 2 := by rw [← e0]; simp
  rw [e0] at X0 XR B0
  have c0 := X0.c0
  have c1 := X0.c1
  have mxL := hL.max
  have HLL := hid hL.len
  have HH := hid h
  have HLS := hid hL
  have CK := hid (implDeskOk_any A n c A2 m c2 D w0 (h.on B0))
  have HX0 := hid X0
  have HXR := hid XR
  have HB0 := hid B0
  clear g1 X0 XR B0 z1 h hL
  cases hok : deskOk D with
  | false =>
    rw [hok] at CK
    have HV := hid (show runOut D l = (noDk, 0) from by unfold runOut; rw [if_neg]; unfold runOk; rw [hok]; simp)
    go_enter Tryz.func16, Tryz.ntmps16
    go_wp2_with fail
    with_reducible refine Calls.mono CK.out ?_
    rintro e w1 ⟨rfl, b1⟩
    have YR := HXR.out.below b1 (by omega)
    have r0 := YR.c0
    have r1 := YR.c1
    have f0 := YR.fz 0
    have f1 := YR.fz 1
    have HYR := hid YR
    have HB1 := hid (HB0.out.trans (b1.mono (by omega)))
    clear YR b1
    go_wp2
    (try simp only [Exit.inBlock, Exit.then])
    refine bodyPost_ret (results_db rfl _ _ (w.heap.size + 1) 31 _ (0, 0) _ (by simp [Act.put]) (HYR.out.set _ _) Tryz.underlying31 rfl size_desk) rfl ?_
    have BQ := (HB1.out.setCell (p := ⟨w.heap.size + 1, 0, none⟩) (by simp) (.slice none 0 0)).setCell (p := ⟨w.heap.size + 1, 1, none⟩) (by simp) (.slice none 0 0)
    exact ⟨none, 0, 0, none, 0, 0, by rw [HV.out]; rfl, by rw [HV.out]; exact DkY.no _ _, BQ⟩
  | true =>
    rw [hok] at CK
    by_cases h40 : 40 < nL
    · have h40i : (40 : Int) < (nL : Int) := by omega
      have HV := hid (show runOut D l = (noDk, 0) from by unfold runOut; rw [if_neg]; unfold runOk; rw [HLL.out]; simp; omega)
      go_enter Tryz.func16, Tryz.ntmps16
      go_wp2_with fail
      with_reducible refine Calls.mono CK.out ?_
      rintro e w1 ⟨rfl, b1⟩
      have YR := HXR.out.below b1 (by omega)
      have r0 := YR.c0
      have r1 := YR.c1
      have f0 := YR.fz 0
      have f1 := YR.fz 1
      have HYR := hid YR
      have HB1 := hid (HB0.out.trans (b1.mono (by omega)))
      clear YR b1
      go_wp2
      (try simp only [Exit.inBlock, Exit.then])
      refine bodyPost_ret (results_db rfl _ _ (w.heap.size + 1) 31 _ (0, 0) _ (by simp [Act.put]) (HYR.out.set _ _) Tryz.underlying31 rfl size_desk) rfl ?_
      have BQ := (HB1.out.setCell (p := ⟨w.heap.size + 1, 0, none⟩) (by simp) (.slice none 0 0)).setCell (p := ⟨w.heap.size + 1, 1, none⟩) (by simp) (.slice none 0 0)
      exact ⟨none, 0, 0, none, 0, 0, by rw [HV.out]; rfl, by rw [HV.out]; exact DkY.no _ _, BQ⟩
    · have h40i : ¬ (40 : Int) < (nL : Int) := by omega
      have HV := hid (show runOut D l = runL D l from by unfold runOut; rw [if_pos]; unfold runOk; rw [hok, HLL.out]; simp; omega)
      have HOK := hid hok
      clear hok
      go_enter Tryz.func16, Tryz.ntmps16
      go_wp2_with fail
      with_reducible refine Calls.mono CK.out ?_
      rintro e w1 ⟨rfl, b1⟩
      have HB1 := hid (HB0.out.trans (b1.mono (by omega)))
      have HX1 := hid (HX0.out.below b1 (by omega))
      have HXR1 := hid (HXR.out.below b1 (by omega))
      have hz1 := b1.size
      have HD1 := hid (DkQ.of (P := fun b => b < w.heap.size ∨ w.heap.size + 2 ≤ b) (HH.out.below HB1.out) HB1.out.size (fun b hb => .inl hb))
      clear b1 e0 c0 c1
      go_wp2
      go_loopw [6, 22] (fun s i wr => ∃ (k : Nat) (A5 : Option Addr) (n5 c5 : Nat) (A6 : Option Addr) (m6 c6 : Nat) (D5 : Dk) (q : Nat), i = .int .i64 k ∧ s = .int .i64 q ∧ k ≤ nL ∧ q ≤ k ∧ Hid (runL D (l.take k) = (D5, q)) ∧ Hid (Below w.heap.size w wr) ∧ w.heap.size + 2 ≤ wr.heap.size ∧ Hid (Db wr w.heap.size (.slice A5 n5 c5) (.slice A6 m6 c6)) ∧ Hid (Db wr (w.heap.size + 1) (.slice none 0 0) (.slice none 0 0)) ∧ Hid (DkQ wr (fun b => b < w.heap.size ∨ w.heap.size + 2 ≤ b) A5 n5 c5 A6 m6 c6 D5) ∧ Hid (deskOk D5 = true)) (fun _ i _ => nL - (intOf i).toNat)
      case atStart => exact ⟨0, A, n, c, A2, m, c2, D, 0, rfl, rfl, Nat.zero_le _, Nat.le_refl _, hid rfl, HB1, by omega, HX1, HXR1, HD1, HOK⟩
      case round =>
        clear HB1 HX1 HXR1 HD1 hz1
        obtain ⟨k, A5, n5, c5, A6, m6, c6, D5, q, rfl, rfl, hk, hq, HRUN, BB, hwz, HBX, HBR, HDQ, HOK5⟩ := hrel
        by_cases hlt : k < nL
        · obtain ⟨bl, offl, rfl, hbl, d0, d1⟩ := (HLS.out.below BB.out).at hlt
          obtain ⟨ak, hak⟩ : ∃ a, l.getD k (0, 0) = a := ⟨_, rfl⟩
          rw [hak] at d0 d1
          have HTK := hid (show l.take (k + 1) = l.take k ++ [ak] from by
            rw [List.take_succ_eq_append_getElem (by rw [HLL.out]; exact hlt), ← hak]
            simp [List.getD, List.getElem?_eq_getElem (show k < l.length by rw [HLL.out]; exact hlt)])
          obtain ⟨kd, Nd⟩ := ak
          have hki : (k : Int) < (nL : Int) := by omega
          have p7 : (0 : Int) ≤ (k : Int) := by omega
          have wq : IntKind.i64.wrap ((q : Int) + 1) = (q : Int) + 1 := IntWalk.i64_in _ (by omega)
          have HBX2 := hid (HBX.out.below ((Below.refl wr.heap.size wr).alloc (Nat.le_refl _) (.cells #[.int .i64 kd, .int .i64 Nd] 39)) (by omega))
          have HBR2 := hid (HBR.out.below ((Below.refl wr.heap.size wr).alloc (Nat.le_refl _) (.cells #[.int .i64 kd, .int .i64 Nd] 39)) (by omega))
          have HB2 := hid (BB.out.alloc (by omega) (.cells #[.int .i64 kd, .int .i64 Nd] 39))
          have HDQ2 := hid (HDQ.out.on ((Below.refl wr.heap.size wr).alloc (Nat.le_refl _) (.cells #[.int .i64 kd, .int .i64 Nd] 39)))
          have XA := heap_alloc_new wr (.cells #[.int .i64 kd, .int .i64 Nd] 39)
          obtain ⟨w2, e2⟩ : ∃ W, wr.alloc (.cells #[.int .i64 kd, .int .i64 Nd] 39) = W := ⟨_, rfl⟩
          have hz2 : w2.heap.size = wr.heap.size + 1 := by rw [← e2]; simp
          rw [e2] at HBX2 HBR2 HB2 HDQ2 XA
          obtain ⟨a0, a1, _, _⟩ := pairCells XA
          have x0 := HBX2.out.c0
          have x1 := HBX2.out.c1
          have CA := hid (after_any _ A5 n5 c5 A6 m6 c6 D5 kd Nd w2 HDQ2.out HOK5.out)
          have HOK6 := hid (do_ok HOK5.out (kd, Nd))
          clear XA
          cases hd : (deskDo D5 (kd, Nd)).2 with
          | true =>
            have HRN := hid (show runL D (l.take (k + 1)) = ((deskDo D5 (kd, Nd)).1, q + 1) from by
              rw [HTK.out, run_snoc, HRUN.out]
              unfold runF
              rw [if_pos hd])
            rw [hd] at CA
            clear hd
            go_wp2_with fail
            with_reducible refine Calls.mono CA.out ?_
            rintro e w3 ⟨A7, n7, c7, A8, m8, c8, rfl, d7, b7⟩
            have hz3 := b7.size
            have X9 := Db.new w3 (.slice A7 n7 c7) (.slice A8 m8 c8)
            have g9 := (Below.refl w3.heap.size w3).alloc (Nat.le_refl _) (.cells #[.slice A7 n7 c7, .slice A8 m8 c8] 31)
            have Z0 := (HBX2.out.below b7 (by omega)).below g9 (by omega)
            have ZR := (HBR2.out.below b7 (by omega)).below g9 (by omega)
            have HB4 := hid ((HB2.out.trans (b7.mono (by omega))).trans (g9.mono (by omega)))
            have D9 := (d7.on g9).mono (P' := fun b => b < w.heap.size ∨ w.heap.size + 2 ≤ b) (fun b hb => hb.elim id (fun h => .inr (by omega)))
            obtain ⟨w4, e4⟩ : ∃ W, w3.alloc (.cells #[.slice A7 n7 c7, .slice A8 m8 c8] 31) = W := ⟨_, rfl⟩
            have hz4 : w4.heap.size = w3.heap.size + 1 := by rw [← e4]; simp
            rw [e4] at X9 Z0 ZR HB4 D9
            have k0 := X9.c0
            have k1 := X9.c1
            have y0 := Z0.c0
            have y1 := Z0.c1
            have yf0 := Z0.fz 0
            have yf1 := Z0.fz 1
            have k1' : (w4.setCell ⟨w.heap.size, 0, none⟩ (.slice A7 n7 c7)).cell? ⟨w3.heap.size, 1, none⟩ = some (.slice A8 m8 c8) := (X9.other (g := w.heap.size) (by omega) 0 (.slice A7 n7 c7)).c1
            have HNX := hid (Z0.set (.slice A7 n7 c7) (.slice A8 m8 c8))
            have HNR := hid ((ZR.other (g := w.heap.size) (by omega) 0 (.slice A7 n7 c7)).other (g := w.heap.size) (by omega) 1 (.slice A8 m8 c8))
            have HND := hid (D9.put2 (b := w.heap.size) (by omega) (.slice A7 n7 c7) (.slice A8 m8 c8))
            have HNB := hid ((HB4.out.setCell (p := ⟨w.heap.size, 0, none⟩) (Nat.le_refl _) (.slice A7 n7 c7)).setCell (p := ⟨w.heap.size, 1, none⟩) (Nat.le_refl _) (.slice A8 m8 c8))
            have hzN : w.heap.size + 2 ≤ ((w4.setCell ⟨w.heap.size, 0, none⟩ (.slice A7 n7 c7)).setCell ⟨w.heap.size, 1, none⟩ (.slice A8 m8 c8)).heap.size := by simp [World.setCell]; omega
            clear X9 Z0 ZR D9 g9 b7 d7
            go_wp2
            go_roundw
            case rel => exact ⟨k + 1, A7, n7, c7, A8, m8, c8, _, q + 1, by go_num, by go_num, by omega, by omega, HRN, HNB, hzN, HNX, HNR, HND, HOK6⟩
            case measure => simp [intOf]; omega
          | false =>
            have HRN := hid (show runL D (l.take (k + 1)) = ((deskDo D5 (kd, Nd)).1, q) from by
              rw [HTK.out, run_snoc, HRUN.out]
              unfold runF
              rw [if_neg (by simp [hd]), do_false HOK5.out hd])
            rw [hd] at CA
            clear hd
            go_wp2_with fail
            with_reducible refine Calls.mono CA.out ?_
            rintro e w3 ⟨A7, n7, c7, A8, m8, c8, rfl, d7, b7⟩
            have hz3 := b7.size
            have X9 := Db.new w3 (.slice A7 n7 c7) (.slice A8 m8 c8)
            have g9 := (Below.refl w3.heap.size w3).alloc (Nat.le_refl _) (.cells #[.slice A7 n7 c7, .slice A8 m8 c8] 31)
            have Z0 := (HBX2.out.below b7 (by omega)).below g9 (by omega)
            have ZR := (HBR2.out.below b7 (by omega)).below g9 (by omega)
            have HB4 := hid ((HB2.out.trans (b7.mono (by omega))).trans (g9.mono (by omega)))
            have D9 := (d7.on g9).mono (P' := fun b => b < w.heap.size ∨ w.heap.size + 2 ≤ b) (fun b hb => hb.elim id (fun h => .inr (by omega)))
            obtain ⟨w4, e4⟩ : ∃ W, w3.alloc (.cells #[.slice A7 n7 c7, .slice A8 m8 c8] 31) = W := ⟨_, rfl⟩
            have hz4 : w4.heap.size = w3.heap.size + 1 := by rw [← e4]; simp
            rw [e4] at X9 Z0 ZR HB4 D9
            have k0 := X9.c0
            have k1 := X9.c1
            have y0 := Z0.c0
            have y1 := Z0.c1
            have yf0 := Z0.fz 0
            have yf1 := Z0.fz 1
            have k1' : (w4.setCell ⟨w.heap.size, 0, none⟩ (.slice A7 n7 c7)).cell? ⟨w3.heap.size, 1, none⟩ = some (.slice A8 m8 c8) := (X9.other (g := w.heap.size) (by omega) 0 (.slice A7 n7 c7)).c1
            have HNX := hid (Z0.set (.slice A7 n7 c7) (.slice A8 m8 c8))
            have HNR := hid ((ZR.other (g := w.heap.size) (by omega) 0 (.slice A7 n7 c7)).other (g := w.heap.size) (by omega) 1 (.slice A8 m8 c8))
            have HND := hid (D9.put2 (b := w.heap.size) (by omega) (.slice A7 n7 c7) (.slice A8 m8 c8))
            have HNB := hid ((HB4.out.setCell (p := ⟨w.heap.size, 0, none⟩) (Nat.le_refl _) (.slice A7 n7 c7)).setCell (p := ⟨w.heap.size, 1, none⟩) (Nat.le_refl _) (.slice A8 m8 c8))
            have hzN : w.heap.size + 2 ≤ ((w4.setCell ⟨w.heap.size, 0, none⟩ (.slice A7 n7 c7)).setCell ⟨w.heap.size, 1, none⟩ (.slice A8 m8 c8)).heap.size := by simp [World.setCell]; omega
            clear X9 Z0 ZR D9 g9 b7 d7
            go_wp2
            go_roundw
            case rel => exact ⟨k + 1, A7, n7, c7, A8, m8, c8, _, q, by go_num, by go_num, by omega, by omega, HRN, HNB, hzN, HNX, HNR, HND, HOK6⟩
            case measure => simp [intOf]; omega
        · obtain rfl : k = nL := by omega
          have HRE := hid (show runL D l = (D5, q) from by
            have h := HRUN.out
            rwa [List.take_of_length_le (by rw [HLL.out]; exact Nat.le_refl _)] at h)
          have x0 := HBX.out.c0
          have x1 := HBX.out.c1
          have CC := hid (copied_any A5 n5 c5 A6 m6 c6 D5 wr HDQ.out.read.s HOK5.out)
          go_wp2_with fail
          with_reducible refine Calls.mono CC.out ?_
          rintro e w4 ⟨A7, n7, c7, A8, m8, c8, rfl, d4, b4⟩
          have YR := HBR.out.below b4 (by omega)
          have r0 := YR.c0
          have r1 := YR.c1
          have f0 := YR.fz 0
          have f1 := YR.fz 1
          have HYR4 := hid YR
          have HB4 := hid (BB.out.trans (b4.mono (by omega)))
          have HDY := hid (d4.mono (B' := w.heap.size) (by omega))
          clear YR b4 d4
          go_wp2
          (try simp only [Exit.inBlock, Exit.then])
          refine bodyPost_ret (results_db rfl _ _ (w.heap.size + 1) 31 _ (0, 0) _ (by simp [Act.put]) (HYR4.out.set _ _) Tryz.underlying31 rfl size_desk) rfl ?_
          have BQ := (HB4.out.setCell (p := ⟨w.heap.size + 1, 0, none⟩) (by simp) (.slice A7 n7 c7)).setCell (p := ⟨w.heap.size + 1, 1, none⟩) (by simp) (.slice A8 m8 c8)
          exact ⟨A7, n7, c7, A8, m8, c8, by rw [HV.out, HRE.out]; rfl, by rw [HV.out, HRE.out]; exact HDY.out.box2 HYR4.out _ _, BQ⟩
end Go.Proofs.YtkejcajboneniabGreatDoor
