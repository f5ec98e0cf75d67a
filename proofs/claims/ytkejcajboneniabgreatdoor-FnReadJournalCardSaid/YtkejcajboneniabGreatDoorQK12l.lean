/-
  Texts put together: K12l. No statement is proved here.
-/
import Derived.Test.YtkejcajboneniabGreatDoorQK12r
import Derived.Test.YtkejcajboneniabGreatDoorQMj
import Derived.Test.YtkejcajboneniabGreatDoorQMh
import Derived.Deep.RegionHeld3
set_option linter.unusedVariables false
set_option linter.unusedSimpArgs false
namespace Go.Proofs.YtkejcajboneniabGreatDoor
open Go.RowKit

theorem fireOut_le (n : Int) : fireOut n ≤ 1000 := by
  unfold fireOut
  split
  · have := (fires_take_bd (n := n) (roundsOut n).length).2
    rw [List.take_length] at this
    omega
  · omega
theorem wf_small {n : Int} (h1 : -1 ≤ n) (h2 : n < 1000000) : (Lit.int .i64 n).wf = true := by
  have e1 : IntKind.i64.min = -9223372036854775808 := by decide
  have e2 : IntKind.i64.max = 9223372036854775807 := by decide
  simp [Lit.wf, e1, e2]
  omega

set_option maxRecDepth 100000 in
set_option maxHeartbeats 6400000 in
theorem specDeskLine_any (A : Option Addr) (n c : Nat) (A2 : Option Addr) (m c2 : Nat) (D : Dk) (s : List UInt8) (w : World) (h : DkR w w.heap.size A n c A2 m c2 D) (hs : s.length ≤ 2000000) :
    Calls Tryz.prog 21 #[dsk A n c A2 m c2, encStr s] w fun e w' => ∃ A3 n3 c3 A4 m4 c4, e = .returned (.tuple #[dsk A3 n3 c3 A4 m4 c4, encStr (lineOut D s).2]) ∧ DkG w' w.heap.size A3 n3 c3 A4 m4 c4 (lineOut D s).1 ∧ Below w.heap.size w w' := by
  have z1 : (w.alloc (.cells #[.slice A n c, .slice A2 m c2] 31)).heap.size = w.heap.size + 1 := by simp
  have g1 := grown_alloc (w.alloc (.cells #[.slice A n c, .slice A2 m c2] 31)) (.cells #[.slice none 0 0, .slice none 0 0] 31) none
  have X0 := (Db.new w (.slice A n c) (.slice A2 m c2)).on (row := none) g1 (by simp)
  have XR := Db.new (w.alloc (.cells #[.slice A n c, .slice A2 m c2] 31)) (.slice none 0 0) (.slice none 0 0)
  rw [z1] at XR
  have B0 := ((Below.refl w.heap.size w).alloc (Nat.le_refl _) (.cells #[.slice A n c, .slice A2 m c2] 31)).alloc (by simp) (.cells #[.slice none 0 0, .slice none 0 0] 31)
  go_enter Tryz.func21, Tryz.ntmps21
  obtain ⟨w0, e0⟩ : ∃ W, (w.alloc (.cells #[.slice A n c, .slice A2 m c2] 31)).alloc (.cells #[.slice none 0 0, .slice none 0 0] 31) = W := ⟨_, rfl⟩
  have hz0 : w0.heap.size = w.heap.size + 2 := by rw [← e0]; simp
  rw [e0] at X0 XR B0
  have x0 := X0.c0
  have x1 := X0.c1
  have r0 := XR.c0
  have r1 := XR.c1
  have r2 := XR.fz 0
  have r3 := XR.fz 1
  have K0 := hid (fun (W' : World) (hW : Below w0.heap.size w0 W') => show Db W' w.heap.size (.slice A n c) (.slice A2 m c2) ∧ Db W' (w.heap.size + 1) (.slice none 0 0) (.slice none 0 0) from ⟨X0.below hW X0.lt, XR.below hW XR.lt⟩)
  have KR := hid (fun (W' : World) (hW : Below w0.heap.size w0 W') => (h.on (B0.trans (hW.mono B0.size))))
  have HB0 := hid B0
  have C1 := hid (specDeskOk_any A n c A2 m c2 D w0 (h.on B0))
  have hml := hid h.past.len
  clear X0 XR B0 g1 z1 h
  by_cases hok : deskOk D = true
  · rw [hok] at C1
    go_wp2_with fail
    clear e0
    with_reducible refine Calls.mono C1.out ?_
    rintro e w1 ⟨rfl, g1⟩
    have b1 := below_grown g1
    obtain ⟨Y0, YR⟩ := K0.out w1 b1
    have y0 := Y0.c0
    have y1 := Y0.c1
    have C2 := hid (copyDesk_any A n c A2 m c2 D w1 (KR.out _ b1) hok)
    have H1 := hid b1
    have z1 := b1.size
    clear x0 x1 r0 r1 r2 r3 C1 g1 b1 Y0 YR
    go_wp2_with fail
    with_reducible refine Calls.mono C2.out ?_
    rintro e w2 ⟨A3, c3, A4, c4, rfl, F2, b2⟩
    obtain ⟨W2, e2⟩ : ∃ W, w2.alloc (.cells #[.slice A3 n c3, .slice A4 m c4] 31) = W := ⟨_, rfl⟩
    have g2 : w2.grownBy W2 none := by rw [← e2]; exact grown_alloc _ _ _
    have XS : Db W2 w2.heap.size (.slice A3 n c3) (.slice A4 m c4) := by rw [← e2]; exact Db.new _ _ _
    have FS := F2.onto g2
    have H2 := hid (H1.out.trans ((b2.trans ((below_grown g2).mono b2.size)).mono z1))
    have hp2 : w0.heap.size ≤ w2.heap.size := Nat.le_trans z1 b2.size
    obtain ⟨p, hp⟩ : ∃ o, w2.heap.size = o := ⟨_, rfl⟩
    rw [hp] at XS hp2
    have z2 := H2.out.size
    have KS := hid (fun (W' : World) (hW : Below W2.heap.size W2 W') => XS.below hW XS.lt)
    have KF := hid (fun (W' : World) (hW : Below W2.heap.size W2 W') => ((FS.mono z1).on hW))
    have C3 := hid (specReadDeed_any s (by omega) W2)
    have hne1 : p ≠ w.heap.size + 1 := by omega
    clear y0 y1 C2 g2 XS FS F2 b2 H1
    cases hr : readOut s with
    | some a =>
      have HV := hid (show lineOut D s = ((deskDo D a).1, doneB (deskDo D a).2) by unfold lineOut; rw [if_pos hok, hr])
      rw [hr] at C3
      obtain ⟨k, N⟩ := a
      simp only [readV, deedV] at C3
      clear hr
      go_wp2_with fail
      clear e2 hp
      with_reducible refine Calls.mono C3.out ?_
      rintro e w3 ⟨rfl, b3⟩
      obtain ⟨W3, e3⟩ : ∃ W, w3.alloc (.cells #[.int .i64 k, .int .i64 N] 39) = W := ⟨_, rfl⟩
      have g3 : w3.grownBy W3 none := by rw [← e3]; exact grown_alloc _ _ _
      have XA : W3.heap[w3.heap.size]? = some (.cells #[.int .i64 k, .int .i64 N] 39 (0, 0)) := by rw [← e3]; exact heap_alloc_new _ _
      have b3' := b3.trans ((below_grown g3).mono b3.size)
      have H3 := hid (H2.out.trans (b3'.mono z2))
      obtain ⟨q, hq⟩ : ∃ o, w3.heap.size = o := ⟨_, rfl⟩
      rw [hq] at XA
      obtain ⟨d0, d1, _, _⟩ := pairCells XA
      obtain ⟨Y0, YR⟩ := K0.out W3 H3.out
      have y0 := Y0.c0
      have y1 := Y0.c1
      have z3 := H3.out.size
      have C4 := hid (specDeskDo_any A n c A2 m c2 D k N W3 (KR.out _ H3.out))
      obtain ⟨E, yes, hE⟩ : ∃ E b, deskDo D (k, N) = (E, b) := ⟨_, _, rfl⟩
      rw [hE] at C4 HV
      clear XA g3 b3 b3' C3 Y0 YR hE
      go_wp2_with fail
      clear e3 hq
      with_reducible refine Calls.mono C4.out ?_
      rintro e w4 ⟨A5, n5, c5, A6, m6, c6, rfl, P4, b4⟩
      obtain ⟨W4, e4⟩ : ∃ W, w4.alloc (.cells #[.slice A5 n5 c5, .slice A6 m6 c6] 31) = W := ⟨_, rfl⟩
      have g4 : w4.grownBy W4 none := by rw [← e4]; exact grown_alloc _ _ _
      have X4 : Db W4 w4.heap.size (.slice A5 n5 c5) (.slice A6 m6 c6) := by rw [← e4]; exact Db.new _ _ _
      have G4 := P4.1.onto g4
      have H4 := hid (H3.out.trans ((b4.trans ((below_grown g4).mono b4.size)).mono z3))
      obtain ⟨t, ht⟩ : ∃ o, w4.heap.size = o := ⟨_, rfl⟩
      have htz : w.heap.size + 1 < t := by have := b4.size; omega
      rw [ht] at X4
      obtain ⟨_, YR⟩ := K0.out W4 H4.out
      have y0 := X4.c0
      have y1 := X4.c1
      have r0 := YR.c0
      have r1 := YR.c1
      have r2 := YR.fz 0
      have r3 := YR.fz 1
      have e1 := hid (YR.set (.slice A5 n5 c5) (.slice A6 m6 c6))
      have e2 := hid ((G4.mono (show w.heap.size ≤ W3.heap.size by omega)).box2 YR (.slice A5 n5 c5) (.slice A6 m6 c6))
      have e3 := hid (((HB0.out.trans (H4.out.mono HB0.out.size)).setCell (p := ⟨w.heap.size + 1, 0, none⟩) (Nat.le_succ _) (.slice A5 n5 c5)).setCell (p := ⟨w.heap.size + 1, 1, none⟩) (Nat.le_succ _) (.slice A6 m6 c6))
      clear d0 d1 X4 G4 P4 b4 g4 YR C4
      cases yes with
      | true =>
        go_wp2
        (try simp only [Exit.inBlock, Exit.then])
        refine bodyPost_ret (results_db rfl _ _ (w.heap.size + 1) 31 _ (0, 0) _ (by simp [Act.put]) e1.out Tryz.underlying31 rfl size_desk) rfl ?_
        exact ⟨A5, n5, c5, A6, m6, c6, by rw [HV.out]; rfl, by rw [HV.out]; exact e2.out, e3.out⟩
      | false =>
        go_wp2
        (try simp only [Exit.inBlock, Exit.then])
        refine bodyPost_ret (results_db rfl _ _ (w.heap.size + 1) 31 _ (0, 0) _ (by simp [Act.put]) e1.out Tryz.underlying31 rfl size_desk) rfl ?_
        exact ⟨A5, n5, c5, A6, m6, c6, by rw [HV.out]; rfl, by rw [HV.out]; exact e2.out, e3.out⟩
    | none =>
      have HV := hid (show lineOut D s = (D, askOut D.now s) by unfold lineOut; rw [if_pos hok, hr])
      rw [hr] at C3
      simp only [readV, deedV] at C3
      clear hr
      go_wp2_with fail
      clear e2 hp
      with_reducible refine Calls.mono C3.out ?_
      rintro e w3 ⟨rfl, b3⟩
      obtain ⟨L, hL⟩ : ∃ L, w3.heap.size = L := ⟨_, rfl⟩
      obtain ⟨Wa, e3⟩ : ∃ W, w3.alloc (.cells #[.int .i64 0, .int .i64 0] 39) = W := ⟨_, rfl⟩
      have ga : w3.grownBy Wa none := by rw [← e3]; exact grown_alloc _ _ _
      have xa : Wa.heap[L]? = some (.cells #[.int .i64 0, .int .i64 0] 39 (0, 0)) := by rw [← e3, ← hL]; exact heap_alloc_new _ _
      obtain ⟨a0, a1, a2, a3⟩ := pairCells xa
      obtain ⟨Wb, e3b⟩ : ∃ W, Wa.setCell ⟨L, 0, none⟩ (.int .i64 0) = W := ⟨_, rfl⟩
      have xb : Wb.heap[L]? = some (.cells #[.int .i64 0, .int .i64 0] 39 (0, 0)) := by rw [← e3b]; exact pairSet0 xa
      obtain ⟨b0, b1', b2', b3x⟩ := pairCells xb
      obtain ⟨U, e3c⟩ : ∃ W, Wb.setCell ⟨L, 1, none⟩ (.int .i64 0) = W := ⟨_, rfl⟩
      have b3' : Below w3.heap.size w3 U := by
        rw [← e3c, ← e3b]
        exact (((below_grown ga).setCell (p := ⟨L, 0, none⟩) (show w3.heap.size ≤ L by omega) _).setCell (p := ⟨L, 1, none⟩) (show w3.heap.size ≤ L by omega) _)
      replace b3' := b3.trans (b3'.mono b3.size)
      have H3 := hid (H2.out.trans (b3'.mono z2))
      have HS3 := hid b3'
      obtain ⟨Y0, YR⟩ := K0.out U H3.out
      have y0 := Y0.c0
      have y1 := Y0.c1
      have z3 := H3.out.size
      have hn16 := (bitsOk_iff.1 (deskOk_iff.1 hok).2.1).2
      have hsm := hid (asks_small (deskOk_iff.1 hok).2.1)
      clear ga xa xb b3 b3' C3 Y0 YR
      have KU := hid (fun (W' : World) (hW : Below U.heap.size U W') => show (W'.cell? ⟨p, 0, none⟩ = some (.slice A3 n c3) ∧ W'.cell? ⟨p, 1, none⟩ = some (.slice A4 m c4)) ∧ Db W' (w.heap.size + 1) (.slice none 0 0) (.slice none 0 0) ∧ Db W' p (.slice A3 n c3) (.slice A4 m c4) from by
        have h1 := KS.out W' (HS3.out.trans (hW.mono HS3.out.size))
        exact ⟨⟨h1.c0, h1.c1⟩, (K0.out W' (H3.out.trans (hW.mono z3))).2, h1⟩)
      have KU2 := hid (fun (W' : World) (hW : Below U.heap.size U W') => KR.out W' (H3.out.trans (hW.mono z3)))
      have FIN := hid (fun (W' : World) (hW : Below U.heap.size U W') => show Db ((W'.setCell ⟨w.heap.size + 1, 0, none⟩ (.slice A3 n c3)).setCell ⟨w.heap.size + 1, 1, none⟩ (.slice A4 m c4)) (w.heap.size + 1) (.slice A3 n c3) (.slice A4 m c4) ∧ DkG ((W'.setCell ⟨w.heap.size + 1, 0, none⟩ (.slice A3 n c3)).setCell ⟨w.heap.size + 1, 1, none⟩ (.slice A4 m c4)) w.heap.size A3 n c3 A4 m c4 D ∧ Below w.heap.size w ((W'.setCell ⟨w.heap.size + 1, 0, none⟩ (.slice A3 n c3)).setCell ⟨w.heap.size + 1, 1, none⟩ (.slice A4 m c4)) from by
        have h1 := (KU.out W' hW).2.1
        have h2 := KF.out W' (HS3.out.trans (hW.mono HS3.out.size))
        exact ⟨h1.set _ _, DkG.of_own ((h2.mono HB0.out.size).box2 h1 _ _), ((HB0.out.trans ((H3.out.trans (hW.mono z3)).mono HB0.out.size)).setCell (p := ⟨w.heap.size + 1, 0, none⟩) (Nat.le_succ _) _).setCell (p := ⟨w.heap.size + 1, 1, none⟩) (Nat.le_succ _) _⟩)
      have hd : Below U.heap.size U U.drew := (Below.refl _ _).drew
      obtain ⟨p0, p1⟩ := (KU.out U (Below.refl _ _)).1
      clear KS KF K0 KR H2 HS3
      by_cases hsRow : s = wRow
      · replace HV := hid (HV.out.trans (show (D, askOut D.now s) = (D, rowTextOut D.now) by unfold askOut; rw [if_pos hsRow]))
        have hsRowa : (s == ([114, 111, 119] : List UInt8)) = true := by simp [hsRow, wRow]
        have hsRowb : (([114, 111, 119] : List UInt8) == s) = true := by simp [hsRow, wRow]
        clear hsRow
        have CA := hid (specRowText_any A n c D.now U.drew ((KU2.out U.drew hd).now))
        go_wp2_with fail
        go_region_held3 (fun w' => w'.cell? ⟨p, 0, none⟩ = some (.slice A3 n c3) ∧ w'.cell? ⟨p, 1, none⟩ = some (.slice A4 m c4))
          (first
            | go_keep
            | assumption
            | exact kx2 _ _)
          (first
            | (go_at_call 64; (with_reducible refine Calls.mono (CA.out) ?_); rintro e w5 ⟨rfl, b5⟩; have hB : Below U.heap.size U w5 := hd.trans (b5.mono hd.size); have kx := (KU.out _ hB).1; have YR := (KU.out _ hB).2.1; have q0 := YR.c0; have q1 := YR.c1; have q2 := YR.fz 0; have q3 := YR.fz 1; have XS := (KU.out _ hB).2.2; have kx2 := fun x y => And.intro ((XS.other hne1 0 x).other hne1 1 y).c0 ((XS.other hne1 0 x).other hne1 1 y).c1))
        obtain ⟨e1, e2, e3⟩ := FIN.out w5 hB
        have E1 := hid e1
        have E2 := hid e2
        have E3 := hid e3
        clear e1 e2 e3
        go_wp2
        (try simp only [Exit.inBlock, Exit.then])
        refine bodyPost_ret (results_db rfl _ _ (w.heap.size + 1) 31 _ (0, 0) _ (by simp [Act.put]) E1.out Tryz.underlying31 rfl size_desk) rfl ?_
        exact ⟨A3, n, c3, A4, m, c4, by rw [HV.out]; rfl, by rw [HV.out]; exact E2.out, E3.out⟩
      have hsRowa : (s == ([114, 111, 119] : List UInt8)) = false := by rw [beq_eq_false_iff_ne]; exact hsRow
      have hsRowb : (([114, 111, 119] : List UInt8) == s) = false := by rw [beq_eq_false_iff_ne]; exact fun e => hsRow e.symm
      by_cases hsOnes : s = wOnes
      · replace HV := hid (HV.out.trans (show (D, askOut D.now s) = (D, numB (onesOut D.now).toNat) by unfold askOut; rw [if_neg hsRow, if_pos hsOnes]))
        have hsOnesa : (s == ([111, 110, 101, 115] : List UInt8)) = true := by simp [hsOnes, wOnes]
        have hsOnesb : (([111, 110, 101, 115] : List UInt8) == s) = true := by simp [hsOnes, wOnes]
        clear hsOnes
        obtain ⟨v0, v1⟩ := hsm.out.1
        have CA := hid ((specOnesOf_any A n c D.now U.drew _ ((KU2.out U.drew hd).now)).mono (fun e w' (h : _ ∧ _) => (⟨h.1, h.2 ▸ Below.refl _ _⟩ : e = .returned (.int .i64 (onesOut D.now)) ∧ Below U.drew.heap.size U.drew w')))
        obtain ⟨v, hv⟩ : ∃ v, onesOut D.now = v := ⟨_, rfl⟩
        rw [hv] at CA HV v0 v1
        obtain ⟨v, rfl⟩ : ∃ q : Nat, v = q := Int.eq_ofNat_of_zero_le v0
        rw [Int.toNat_natCast] at HV
        have CN := hid (fun (W' : World) => number_any v (by omega) W')
        clear hv
        go_wp2_with fail
        go_region_held3 (fun w' => w'.cell? ⟨p, 0, none⟩ = some (.slice A3 n c3) ∧ w'.cell? ⟨p, 1, none⟩ = some (.slice A4 m c4))
          (first
            | go_keep
            | assumption
            | exact kx2 _ _)
          (first
            | (go_at_call 66; (with_reducible refine Calls.mono (CA.out) ?_); rintro e w5 ⟨rfl, b5⟩; have hB5 : Below U.heap.size U w5 := hd.trans (b5.mono hd.size); have kx5 := (KU.out _ hB5).1)
            | (go_at_call 65; (with_reducible refine Calls.mono (CN.out w5) ?_); rintro e w6 ⟨rfl, b6⟩; have hB : Below U.heap.size U w6 := hB5.trans (b6.mono hB5.size); have kx := (KU.out _ hB).1; have YR := (KU.out _ hB).2.1; have q0 := YR.c0; have q1 := YR.c1; have q2 := YR.fz 0; have q3 := YR.fz 1; have XS := (KU.out _ hB).2.2; have kx2 := fun x y => And.intro ((XS.other hne1 0 x).other hne1 1 y).c0 ((XS.other hne1 0 x).other hne1 1 y).c1))
        obtain ⟨e1, e2, e3⟩ := FIN.out w6 hB
        have E1 := hid e1
        have E2 := hid e2
        have E3 := hid e3
        clear e1 e2 e3
        go_wp2
        (try simp only [Exit.inBlock, Exit.then])
        refine bodyPost_ret (results_db rfl _ _ (w.heap.size + 1) 31 _ (0, 0) _ (by simp [Act.put]) E1.out Tryz.underlying31 rfl size_desk) rfl ?_
        exact ⟨A3, n, c3, A4, m, c4, by rw [HV.out]; rfl, by rw [HV.out]; exact E2.out, E3.out⟩
      have hsOnesa : (s == ([111, 110, 101, 115] : List UInt8)) = false := by rw [beq_eq_false_iff_ne]; exact hsOnes
      have hsOnesb : (([111, 110, 101, 115] : List UInt8) == s) = false := by rw [beq_eq_false_iff_ne]; exact fun e => hsOnes e.symm
      by_cases hsFlow : s = wFlow
      · replace HV := hid (HV.out.trans (show (D, askOut D.now s) = (D, numB (flowOut D.now).toNat) by unfold askOut; rw [if_neg hsRow, if_neg hsOnes, if_pos hsFlow]))
        have hsFlowa : (s == ([102, 108, 111, 119] : List UInt8)) = true := by simp [hsFlow, wFlow]
        have hsFlowb : (([102, 108, 111, 119] : List UInt8) == s) = true := by simp [hsFlow, wFlow]
        clear hsFlow
        obtain ⟨v0, v1⟩ := hsm.out.2.1
        have CA := hid ((specFlowOf_any A n c D.now U.drew _ ((KU2.out U.drew hd).now)).mono (fun e w' (h : _ ∧ _) => (⟨h.1, h.2 ▸ Below.refl _ _⟩ : e = .returned (.int .i64 (flowOut D.now)) ∧ Below U.drew.heap.size U.drew w')))
        obtain ⟨v, hv⟩ : ∃ v, flowOut D.now = v := ⟨_, rfl⟩
        rw [hv] at CA HV v0 v1
        obtain ⟨v, rfl⟩ : ∃ q : Nat, v = q := Int.eq_ofNat_of_zero_le v0
        rw [Int.toNat_natCast] at HV
        have CN := hid (fun (W' : World) => number_any v (by omega) W')
        clear hv
        go_wp2_with fail
        go_region_held3 (fun w' => w'.cell? ⟨p, 0, none⟩ = some (.slice A3 n c3) ∧ w'.cell? ⟨p, 1, none⟩ = some (.slice A4 m c4))
          (first
            | go_keep
            | assumption
            | exact kx2 _ _)
          (first
            | (go_at_call 67; (with_reducible refine Calls.mono (CA.out) ?_); rintro e w5 ⟨rfl, b5⟩; have hB5 : Below U.heap.size U w5 := hd.trans (b5.mono hd.size); have kx5 := (KU.out _ hB5).1)
            | (go_at_call 65; (with_reducible refine Calls.mono (CN.out w5) ?_); rintro e w6 ⟨rfl, b6⟩; have hB : Below U.heap.size U w6 := hB5.trans (b6.mono hB5.size); have kx := (KU.out _ hB).1; have YR := (KU.out _ hB).2.1; have q0 := YR.c0; have q1 := YR.c1; have q2 := YR.fz 0; have q3 := YR.fz 1; have XS := (KU.out _ hB).2.2; have kx2 := fun x y => And.intro ((XS.other hne1 0 x).other hne1 1 y).c0 ((XS.other hne1 0 x).other hne1 1 y).c1))
        obtain ⟨e1, e2, e3⟩ := FIN.out w6 hB
        have E1 := hid e1
        have E2 := hid e2
        have E3 := hid e3
        clear e1 e2 e3
        go_wp2
        (try simp only [Exit.inBlock, Exit.then])
        refine bodyPost_ret (results_db rfl _ _ (w.heap.size + 1) 31 _ (0, 0) _ (by simp [Act.put]) E1.out Tryz.underlying31 rfl size_desk) rfl ?_
        exact ⟨A3, n, c3, A4, m, c4, by rw [HV.out]; rfl, by rw [HV.out]; exact E2.out, E3.out⟩
      have hsFlowa : (s == ([102, 108, 111, 119] : List UInt8)) = false := by rw [beq_eq_false_iff_ne]; exact hsFlow
      have hsFlowb : (([102, 108, 111, 119] : List UInt8) == s) = false := by rw [beq_eq_false_iff_ne]; exact fun e => hsFlow e.symm
      by_cases hsEnd : s = wEnd
      · replace HV := hid (HV.out.trans (show (D, askOut D.now s) = (D, numB (endOut D.now).toNat) by unfold askOut; rw [if_neg hsRow, if_neg hsOnes, if_neg hsFlow, if_pos hsEnd]))
        have hsEnda : (s == ([101, 110, 100] : List UInt8)) = true := by simp [hsEnd, wEnd]
        have hsEndb : (([101, 110, 100] : List UInt8) == s) = true := by simp [hsEnd, wEnd]
        clear hsEnd
        obtain ⟨v0, v1⟩ := hsm.out.2.2.1
        have CA := hid ((specEndFlow_any A n c D.now U.drew _ ((KU2.out U.drew hd).now)).mono (fun e w' (h : _ ∧ _) => (⟨h.1, h.2 ▸ Below.refl _ _⟩ : e = .returned (.int .i64 (endOut D.now)) ∧ Below U.drew.heap.size U.drew w')))
        obtain ⟨v, hv⟩ : ∃ v, endOut D.now = v := ⟨_, rfl⟩
        rw [hv] at CA HV v0 v1
        obtain ⟨v, rfl⟩ : ∃ q : Nat, v = q := Int.eq_ofNat_of_zero_le v0
        rw [Int.toNat_natCast] at HV
        have CN := hid (fun (W' : World) => number_any v (by omega) W')
        clear hv
        go_wp2_with fail
        go_region_held3 (fun w' => w'.cell? ⟨p, 0, none⟩ = some (.slice A3 n c3) ∧ w'.cell? ⟨p, 1, none⟩ = some (.slice A4 m c4))
          (first
            | go_keep
            | assumption
            | exact kx2 _ _)
          (first
            | (go_at_call 68; (with_reducible refine Calls.mono (CA.out) ?_); rintro e w5 ⟨rfl, b5⟩; have hB5 : Below U.heap.size U w5 := hd.trans (b5.mono hd.size); have kx5 := (KU.out _ hB5).1)
            | (go_at_call 65; (with_reducible refine Calls.mono (CN.out w5) ?_); rintro e w6 ⟨rfl, b6⟩; have hB : Below U.heap.size U w6 := hB5.trans (b6.mono hB5.size); have kx := (KU.out _ hB).1; have YR := (KU.out _ hB).2.1; have q0 := YR.c0; have q1 := YR.c1; have q2 := YR.fz 0; have q3 := YR.fz 1; have XS := (KU.out _ hB).2.2; have kx2 := fun x y => And.intro ((XS.other hne1 0 x).other hne1 1 y).c0 ((XS.other hne1 0 x).other hne1 1 y).c1))
        obtain ⟨e1, e2, e3⟩ := FIN.out w6 hB
        have E1 := hid e1
        have E2 := hid e2
        have E3 := hid e3
        clear e1 e2 e3
        go_wp2
        (try simp only [Exit.inBlock, Exit.then])
        refine bodyPost_ret (results_db rfl _ _ (w.heap.size + 1) 31 _ (0, 0) _ (by simp [Act.put]) E1.out Tryz.underlying31 rfl size_desk) rfl ?_
        exact ⟨A3, n, c3, A4, m, c4, by rw [HV.out]; rfl, by rw [HV.out]; exact E2.out, E3.out⟩
      have hsEnda : (s == ([101, 110, 100] : List UInt8)) = false := by rw [beq_eq_false_iff_ne]; exact hsEnd
      have hsEndb : (([101, 110, 100] : List UInt8) == s) = false := by rw [beq_eq_false_iff_ne]; exact fun e => hsEnd e.symm
      by_cases hsFlowing : s = wFlowing
      · replace HV := hid (HV.out.trans (show (D, askOut D.now s) = (D, numB (flowingOut D.now).toNat) by unfold askOut; rw [if_neg hsRow, if_neg hsOnes, if_neg hsFlow, if_neg hsEnd, if_pos hsFlowing]))
        have hsFlowinga : (s == ([102, 108, 111, 119, 105, 110, 103] : List UInt8)) = true := by simp [hsFlowing, wFlowing]
        have hsFlowingb : (([102, 108, 111, 119, 105, 110, 103] : List UInt8) == s) = true := by simp [hsFlowing, wFlowing]
        clear hsFlowing
        obtain ⟨v0, v1⟩ := hsm.out.2.2.2.1
        have CA := hid (specFlowingAfter_any A n c D.now U.drew ((KU2.out U.drew hd).now))
        obtain ⟨v, hv⟩ : ∃ v, flowingOut D.now = v := ⟨_, rfl⟩
        rw [hv] at CA HV v0 v1
        obtain ⟨v, rfl⟩ : ∃ q : Nat, v = q := Int.eq_ofNat_of_zero_le v0
        rw [Int.toNat_natCast] at HV
        have CN := hid (fun (W' : World) => number_any v (by omega) W')
        clear hv
        go_wp2_with fail
        go_region_held3 (fun w' => w'.cell? ⟨p, 0, none⟩ = some (.slice A3 n c3) ∧ w'.cell? ⟨p, 1, none⟩ = some (.slice A4 m c4))
          (first
            | go_keep
            | assumption
            | exact kx2 _ _)
          (first
            | (go_at_call 69; (with_reducible refine Calls.mono (CA.out) ?_); rintro e w5 ⟨rfl, b5⟩; have hB5 : Below U.heap.size U w5 := hd.trans (b5.mono hd.size); have kx5 := (KU.out _ hB5).1)
            | (go_at_call 65; (with_reducible refine Calls.mono (CN.out w5) ?_); rintro e w6 ⟨rfl, b6⟩; have hB : Below U.heap.size U w6 := hB5.trans (b6.mono hB5.size); have kx := (KU.out _ hB).1; have YR := (KU.out _ hB).2.1; have q0 := YR.c0; have q1 := YR.c1; have q2 := YR.fz 0; have q3 := YR.fz 1; have XS := (KU.out _ hB).2.2; have kx2 := fun x y => And.intro ((XS.other hne1 0 x).other hne1 1 y).c0 ((XS.other hne1 0 x).other hne1 1 y).c1))
        obtain ⟨e1, e2, e3⟩ := FIN.out w6 hB
        have E1 := hid e1
        have E2 := hid e2
        have E3 := hid e3
        clear e1 e2 e3
        go_wp2
        (try simp only [Exit.inBlock, Exit.then])
        refine bodyPost_ret (results_db rfl _ _ (w.heap.size + 1) 31 _ (0, 0) _ (by simp [Act.put]) E1.out Tryz.underlying31 rfl size_desk) rfl ?_
        exact ⟨A3, n, c3, A4, m, c4, by rw [HV.out]; rfl, by rw [HV.out]; exact E2.out, E3.out⟩
      have hsFlowinga : (s == ([102, 108, 111, 119, 105, 110, 103] : List UInt8)) = false := by rw [beq_eq_false_iff_ne]; exact hsFlowing
      have hsFlowingb : (([102, 108, 111, 119, 105, 110, 103] : List UInt8) == s) = false := by rw [beq_eq_false_iff_ne]; exact fun e => hsFlowing e.symm
      by_cases hsSettled : s = wSettled
      · replace HV := hid (HV.out.trans (show (D, askOut D.now s) = (D, numB (settleC D.now).toNat) by unfold askOut; rw [if_neg hsRow, if_neg hsOnes, if_neg hsFlow, if_neg hsEnd, if_neg hsFlowing, if_pos hsSettled]))
        have hsSettleda : (s == ([115, 101, 116, 116, 108, 101, 100] : List UInt8)) = true := by simp [hsSettled, wSettled]
        have hsSettledb : (([115, 101, 116, 116, 108, 101, 100] : List UInt8) == s) = true := by simp [hsSettled, wSettled]
        clear hsSettled
        obtain ⟨v0, v1⟩ := hsm.out.2.2.2.2.1
        have CA := hid (specSettledAfter_any A n c D.now U.drew ((KU2.out U.drew hd).now))
        obtain ⟨v, hv⟩ : ∃ v, settleC D.now = v := ⟨_, rfl⟩
        rw [hv] at CA HV v0 v1
        obtain ⟨v, rfl⟩ : ∃ q : Nat, v = q := Int.eq_ofNat_of_zero_le v0
        rw [Int.toNat_natCast] at HV
        have CN := hid (fun (W' : World) => number_any v (by omega) W')
        clear hv
        go_wp2_with fail
        go_region_held3 (fun w' => w'.cell? ⟨p, 0, none⟩ = some (.slice A3 n c3) ∧ w'.cell? ⟨p, 1, none⟩ = some (.slice A4 m c4))
          (first
            | go_keep
            | assumption
            | exact kx2 _ _)
          (first
            | (go_at_call 70; (with_reducible refine Calls.mono (CA.out) ?_); rintro e w5 ⟨rfl, b5⟩; have hB5 : Below U.heap.size U w5 := hd.trans (b5.mono hd.size); have kx5 := (KU.out _ hB5).1)
            | (go_at_call 65; (with_reducible refine Calls.mono (CN.out w5) ?_); rintro e w6 ⟨rfl, b6⟩; have hB : Below U.heap.size U w6 := hB5.trans (b6.mono hB5.size); have kx := (KU.out _ hB).1; have YR := (KU.out _ hB).2.1; have q0 := YR.c0; have q1 := YR.c1; have q2 := YR.fz 0; have q3 := YR.fz 1; have XS := (KU.out _ hB).2.2; have kx2 := fun x y => And.intro ((XS.other hne1 0 x).other hne1 1 y).c0 ((XS.other hne1 0 x).other hne1 1 y).c1))
        obtain ⟨e1, e2, e3⟩ := FIN.out w6 hB
        have E1 := hid e1
        have E2 := hid e2
        have E3 := hid e3
        clear e1 e2 e3
        go_wp2
        (try simp only [Exit.inBlock, Exit.then])
        refine bodyPost_ret (results_db rfl _ _ (w.heap.size + 1) 31 _ (0, 0) _ (by simp [Act.put]) E1.out Tryz.underlying31 rfl size_desk) rfl ?_
        exact ⟨A3, n, c3, A4, m, c4, by rw [HV.out]; rfl, by rw [HV.out]; exact E2.out, E3.out⟩
      have hsSettleda : (s == ([115, 101, 116, 116, 108, 101, 100] : List UInt8)) = false := by rw [beq_eq_false_iff_ne]; exact hsSettled
      have hsSettledb : (([115, 101, 116, 116, 108, 101, 100] : List UInt8) == s) = false := by rw [beq_eq_false_iff_ne]; exact fun e => hsSettled e.symm
      by_cases hsFirm : s = wFirm
      · replace HV := hid (HV.out.trans (show (D, askOut D.now s) = (D, rowsOut (firmOut D.now)) by unfold askOut; rw [if_neg hsRow, if_neg hsOnes, if_neg hsFlow, if_neg hsEnd, if_neg hsFlowing, if_neg hsSettled, if_pos hsFirm]))
        have hsFirma : (s == ([102, 105, 114, 109] : List UInt8)) = true := by simp [hsFirm, wFirm]
        have hsFirmb : (([102, 105, 114, 109] : List UInt8) == s) = true := by simp [hsFirm, wFirm]
        clear hsFirm
        have CA := hid (specFirmOf_any A n c D.now U.drew ((KU2.out U.drew hd).now))
        have CN := hid (fun (W' : World) (A' : Option Addr) (m' c' : Nat) (h : Sl W' W'.heap.size A' m' (firmOut D.now)) (hm : m' ≤ 40) => row_any A' m' c' (firmOut D.now) W' h (firm_small D.now) (by omega))
        go_wp2_with fail
        go_region_held3 (fun w' => w'.cell? ⟨p, 0, none⟩ = some (.slice A3 n c3) ∧ w'.cell? ⟨p, 1, none⟩ = some (.slice A4 m c4))
          (first
            | go_keep
            | assumption
            | exact kx2 _ _)
          (first
            | (go_at_call 72; (with_reducible refine Calls.mono (CA.out) ?_); rintro e w5 ⟨A5, m5, c5, rfl, o5, hm5, b5⟩; have hB5 : Below U.heap.size U w5 := hd.trans (b5.mono hd.size); have kx5 := (KU.out _ hB5).1)
            | (go_at_call 71; (with_reducible refine Calls.mono (CN.out w5 A5 m5 c5 (Sl.of_own o5) hm5) ?_); rintro e w6 ⟨rfl, b6⟩; have hB : Below U.heap.size U w6 := hB5.trans (b6.mono hB5.size); have kx := (KU.out _ hB).1; have YR := (KU.out _ hB).2.1; have q0 := YR.c0; have q1 := YR.c1; have q2 := YR.fz 0; have q3 := YR.fz 1; have XS := (KU.out _ hB).2.2; have kx2 := fun x y => And.intro ((XS.other hne1 0 x).other hne1 1 y).c0 ((XS.other hne1 0 x).other hne1 1 y).c1))
        obtain ⟨e1, e2, e3⟩ := FIN.out w6 hB
        have E1 := hid e1
        have E2 := hid e2
        have E3 := hid e3
        clear e1 e2 e3
        go_wp2
        (try simp only [Exit.inBlock, Exit.then])
        refine bodyPost_ret (results_db rfl _ _ (w.heap.size + 1) 31 _ (0, 0) _ (by simp [Act.put]) E1.out Tryz.underlying31 rfl size_desk) rfl ?_
        exact ⟨A3, n, c3, A4, m, c4, by rw [HV.out]; rfl, by rw [HV.out]; exact E2.out, E3.out⟩
      have hsFirma : (s == ([102, 105, 114, 109] : List UInt8)) = false := by rw [beq_eq_false_iff_ne]; exact hsFirm
      have hsFirmb : (([102, 105, 114, 109] : List UInt8) == s) = false := by rw [beq_eq_false_iff_ne]; exact fun e => hsFirm e.symm
      replace HV := hid (HV.out.trans (show (D, askOut D.now s) = (D, askW s) by unfold askOut; rw [if_neg hsRow, if_neg hsOnes, if_neg hsFlow, if_neg hsEnd, if_neg hsFlowing, if_neg hsSettled, if_neg hsFirm]))
      clear hsRow hsOnes hsFlow hsEnd hsFlowing hsSettled hsFirm
      have CC := hid (show Calls Tryz.prog 73 #[encStr s, .int .u8 32] U _ from cut_any s 32 (by omega) U)
      by_cases h2 : (cutB s 32).length = 2
      · obtain ⟨u, v, hxx⟩ : ∃ x0 x1, cutB s 32 = [x0, x1] := by
          rcases h : cutB s 32 with _ | ⟨a, _ | ⟨b, _ | ⟨c, l⟩⟩⟩
          · rw [h] at h2; simp at h2
          · rw [h] at h2; simp at h2
          · exact ⟨a, b, rfl⟩
          · rw [h] at h2; simp at h2
        replace HV := hid (HV.out.trans (show (D, askW s) = (D, askN u (digitsOut v)) by unfold askW; rw [if_pos h2, hxx]; rfl))
        rw [hxx] at CC
        have hv1 : v.length ≤ 10000000 := Nat.le_trans (cutB_mem s 32 v (by rw [hxx]; simp)) (by omega)
        have CG := hid (fun W => digits_any v (by simp only [maxLen]; omega) W)
        have hdl := digitsOut_le v
        obtain ⟨N, hN⟩ : ∃ q, digitsOut v = q := ⟨_, rfl⟩
        rw [hN] at CG HV hdl
        have hN1 := hdl.1
        have hN2 := hdl.2
        clear h2 hxx hN hdl
        go_wp2_with fail
        with_reducible refine Calls.mono CC.out ?_
        rintro e w5 ⟨AW, mW, cW, rfl, o5, b5⟩
        obtain rfl : mW = 2 := own_len o5
        obtain ⟨gw, cw, hs1, hg1, hl2⟩ := own_shape1 o5 (by omega)
        injection hs1 with e1 e2 e3
        subst e1
        have k0 : w5.cell? ⟨gw, 0, none⟩ = some (encStr u) := by rw [o5.cellAt 0 (by omega)]; rfl
        have k1 : w5.cell? ⟨gw, 1, none⟩ = some (encStr v) := by rw [o5.cellAt 1 (by omega)]; rfl
        have HB5 := hid b5
        have z5 := b5.size
        clear o5 b5 CC p0 p1 e2 e3
        go_wp2_with fail
        with_reducible refine Calls.mono (CG.out _) ?_
        rintro e w6 ⟨rfl, rfl⟩
        have hBW := HB5.out
        by_cases hneg : N < 0
        · replace HV := hid (HV.out.trans (show (D, askN u N) = (D, wWhat) by unfold askN; rw [if_pos hneg]))
          have hge : ¬ (0 : Int) ≤ N := by omega
          have hged : decide ((0 : Int) ≤ N) = false := by simp; omega
          have hB : Below U.heap.size U w5 := hBW
          have kx := (KU.out _ hB).1
          have YR := (KU.out _ hB).2.1
          have q0 := YR.c0
          have q1 := YR.c1
          have q2 := YR.fz 0
          have q3 := YR.fz 1
          obtain ⟨l0, l1⟩ := kx
          obtain ⟨e1, e2, e3⟩ := FIN.out w5 hB
          have E1 := hid e1
          have E2 := hid e2
          have E3 := hid e3
          clear e1 e2 e3
          go_wp2
          (try simp only [Exit.inBlock, Exit.then])
          refine bodyPost_ret (results_db rfl _ _ (w.heap.size + 1) 31 _ (0, 0) _ (by simp [Act.put]) E1.out Tryz.underlying31 rfl size_desk) rfl ?_
          exact ⟨A3, n, c3, A4, m, c4, by rw [HV.out]; rfl, by rw [HV.out]; exact E2.out, E3.out⟩
        have hge : (0 : Int) ≤ N := by omega
        have hged : decide ((0 : Int) ≤ N) = true := by simp; omega
        have hBd : Below U.heap.size U w5.drew := hBW.trans ((Below.refl w5.heap.size w5).drew.mono z5)
        have KU5 := hid (fun (W' : World) (hW : Below w5.drew.heap.size w5.drew W') => hBd.trans (hW.mono hBd.size))
        obtain ⟨p0, p1⟩ := (KU.out w5 hBW).1
        by_cases huMiddles : u = wMiddles
        · replace HV := hid (HV.out.trans (show (D, askN u N) = (D, rowsOut (middles N)) by unfold askN; rw [if_neg hneg, if_pos huMiddles]))
          have huMiddlesa : (u == ([109, 105, 100, 100, 108, 101, 115] : List UInt8)) = true := by simp [huMiddles, wMiddles]
          have huMiddlesb : (([109, 105, 100, 100, 108, 101, 115] : List UInt8) == u) = true := by simp [huMiddles, wMiddles]
          clear huMiddles
          have CA := hid (specMiddlesOf_any N w5.drew)
          have CN := hid (fun (W' : World) (A' : Option Addr) (m' c' : Nat) (h : Sl W' W'.heap.size A' m' (middles N)) (hm : m' ≤ 2) => row_any A' m' c' (middles N) W' h (middles_small N) (by omega))
          go_wp2_with fail
          go_region_held3 (fun w' => w'.cell? ⟨p, 0, none⟩ = some (.slice A3 n c3) ∧ w'.cell? ⟨p, 1, none⟩ = some (.slice A4 m c4))
            (first
              | go_keep
              | assumption
              | exact kx2 _ _)
            (first
              | (go_at_call 75; (with_reducible refine Calls.mono (CA.out) ?_); rintro e w7 ⟨A5, m5, c5, rfl, o5, hm5, b5⟩; have hB5 : Below U.heap.size U w7 := KU5.out _ b5; have kx5 := (KU.out _ hB5).1)
              | (go_at_call 71; (with_reducible refine Calls.mono (CN.out w7 A5 m5 c5 (Sl.of_own o5) hm5) ?_); rintro e w8 ⟨rfl, b6⟩; have hB : Below U.heap.size U w8 := hB5.trans (b6.mono hB5.size); have kx := (KU.out _ hB).1; have YR := (KU.out _ hB).2.1; have q0 := YR.c0; have q1 := YR.c1; have q2 := YR.fz 0; have q3 := YR.fz 1; have XS := (KU.out _ hB).2.2; have kx2 := fun x y => And.intro ((XS.other hne1 0 x).other hne1 1 y).c0 ((XS.other hne1 0 x).other hne1 1 y).c1))
          obtain ⟨e1, e2, e3⟩ := FIN.out w8 hB
          have E1 := hid e1
          have E2 := hid e2
          have E3 := hid e3
          clear e1 e2 e3
          go_wp2
          (try simp only [Exit.inBlock, Exit.then])
          refine bodyPost_ret (results_db rfl _ _ (w.heap.size + 1) 31 _ (0, 0) _ (by simp [Act.put]) E1.out Tryz.underlying31 rfl size_desk) rfl ?_
          exact ⟨A3, n, c3, A4, m, c4, by rw [HV.out]; rfl, by rw [HV.out]; exact E2.out, E3.out⟩
        have huMiddlesa : (u == ([109, 105, 100, 100, 108, 101, 115] : List UInt8)) = false := by rw [beq_eq_false_iff_ne]; exact huMiddles
        have huMiddlesb : (([109, 105, 100, 100, 108, 101, 115] : List UInt8) == u) = false := by rw [beq_eq_false_iff_ne]; exact fun e => huMiddles e.symm
        by_cases huRounds : u = wRounds
        · replace HV := hid (HV.out.trans (show (D, askN u N) = (D, rowsOut (roundsOut N)) by unfold askN; rw [if_neg hneg, if_neg huMiddles, if_pos huRounds]))
          have huRoundsa : (u == ([114, 111, 117, 110, 100, 115] : List UInt8)) = true := by simp [huRounds, wRounds]
          have huRoundsb : (([114, 111, 117, 110, 100, 115] : List UInt8) == u) = true := by simp [huRounds, wRounds]
          clear huRounds
          have CA := hid (specRoundsOf_any N w5.drew (wf_small hN1 hN2))
          have CN := hid (fun (W' : World) (A' : Option Addr) (m' c' : Nat) (h : Sl W' W'.heap.size A' m' (roundsOut N)) (hm : m' ≤ 6) => row_any A' m' c' (roundsOut N) W' h (rounds_small N) (by omega))
          go_wp2_with fail
          go_region_held3 (fun w' => w'.cell? ⟨p, 0, none⟩ = some (.slice A3 n c3) ∧ w'.cell? ⟨p, 1, none⟩ = some (.slice A4 m c4))
            (first
              | go_keep
              | assumption
              | exact kx2 _ _)
            (first
              | (go_at_call 76; (with_reducible refine Calls.mono (CA.out) ?_); rintro e w7 ⟨A5, m5, c5, rfl, o5, hm5, b5⟩; have hB5 : Below U.heap.size U w7 := KU5.out _ b5; have kx5 := (KU.out _ hB5).1)
              | (go_at_call 71; (with_reducible refine Calls.mono (CN.out w7 A5 m5 c5 (Sl.of_own o5) hm5) ?_); rintro e w8 ⟨rfl, b6⟩; have hB : Below U.heap.size U w8 := hB5.trans (b6.mono hB5.size); have kx := (KU.out _ hB).1; have YR := (KU.out _ hB).2.1; have q0 := YR.c0; have q1 := YR.c1; have q2 := YR.fz 0; have q3 := YR.fz 1; have XS := (KU.out _ hB).2.2; have kx2 := fun x y => And.intro ((XS.other hne1 0 x).other hne1 1 y).c0 ((XS.other hne1 0 x).other hne1 1 y).c1))
          obtain ⟨e1, e2, e3⟩ := FIN.out w8 hB
          have E1 := hid e1
          have E2 := hid e2
          have E3 := hid e3
          clear e1 e2 e3
          go_wp2
          (try simp only [Exit.inBlock, Exit.then])
          refine bodyPost_ret (results_db rfl _ _ (w.heap.size + 1) 31 _ (0, 0) _ (by simp [Act.put]) E1.out Tryz.underlying31 rfl size_desk) rfl ?_
          exact ⟨A3, n, c3, A4, m, c4, by rw [HV.out]; rfl, by rw [HV.out]; exact E2.out, E3.out⟩
        have huRoundsa : (u == ([114, 111, 117, 110, 100, 115] : List UInt8)) = false := by rw [beq_eq_false_iff_ne]; exact huRounds
        have huRoundsb : (([114, 111, 117, 110, 100, 115] : List UInt8) == u) = false := by rw [beq_eq_false_iff_ne]; exact fun e => huRounds e.symm
        by_cases huFire : u = wFire
        · replace HV := hid (HV.out.trans (show (D, askN u N) = (D, if 0 ≤ fireOut N then numB (fireOut N).toNat else wNone) by unfold askN; rw [if_neg hneg, if_neg huMiddles, if_neg huRounds, if_pos huFire]))
          have huFirea : (u == ([102, 105, 114, 101] : List UInt8)) = true := by simp [huFire, wFire]
          have huFireb : (([102, 105, 114, 101] : List UInt8) == u) = true := by simp [huFire, wFire]
          clear huFire
          have CF := hid (fun (W' : World) => specFireAt_any N W' (wf_small hN1 hN2))
          have hfl := fireOut_le N
          obtain ⟨f, hf⟩ : ∃ q, fireOut N = q := ⟨_, rfl⟩
          rw [hf] at CF HV hfl
          clear hf huMiddles huRounds
          by_cases hfn : 0 ≤ f
          · rw [if_pos hfn] at HV
            have hfd : decide (0 ≤ f) = true := by simp; omega
            obtain ⟨f, rfl⟩ : ∃ q : Nat, f = q := Int.eq_ofNat_of_zero_le hfn
            rw [Int.toNat_natCast] at HV
            have CN := hid (fun (W' : World) => number_any f (by omega) W')
            go_wp2_with fail
            with_reducible refine Calls.mono (CF.out w5) ?_
            rintro e w6 ⟨rfl, b6⟩
            have hB6 := hBW.trans (b6.mono z5)
            have hB6d : Below U.heap.size U w6.drew := hB6.trans ((Below.refl w6.heap.size w6).drew.mono hB6.size)
            obtain ⟨p0, p1⟩ := (KU.out w6 hB6).1
            go_wp2_with fail
            go_region_held3 (fun w' => w'.cell? ⟨p, 0, none⟩ = some (.slice A3 n c3) ∧ w'.cell? ⟨p, 1, none⟩ = some (.slice A4 m c4))
              (first
                | go_keep
                | assumption
                | exact kx2 _ _)
              (first
                | (go_at_call 77; (with_reducible refine Calls.mono (CF.out w6.drew) ?_); rintro e w7 ⟨rfl, b5⟩; have hB5 : Below U.heap.size U w7 := hB6d.trans (b5.mono hB6d.size); have kx5 := (KU.out _ hB5).1)
                | (go_at_call 65; (with_reducible refine Calls.mono (CN.out w7) ?_); rintro e w8 ⟨rfl, b8⟩; have hB : Below U.heap.size U w8 := hB5.trans (b8.mono hB5.size); have kx := (KU.out _ hB).1; have YR := (KU.out _ hB).2.1; have q0 := YR.c0; have q1 := YR.c1; have q2 := YR.fz 0; have q3 := YR.fz 1; have XS := (KU.out _ hB).2.2; have kx2 := fun x y => And.intro ((XS.other hne1 0 x).other hne1 1 y).c0 ((XS.other hne1 0 x).other hne1 1 y).c1))
            obtain ⟨e1, e2, e3⟩ := FIN.out w8 hB
            have E1 := hid e1
            have E2 := hid e2
            have E3 := hid e3
            clear e1 e2 e3
            go_wp2
            (try simp only [Exit.inBlock, Exit.then])
            refine bodyPost_ret (results_db rfl _ _ (w.heap.size + 1) 31 _ (0, 0) _ (by simp [Act.put]) E1.out Tryz.underlying31 rfl size_desk) rfl ?_
            exact ⟨A3, n, c3, A4, m, c4, by rw [HV.out]; rfl, by rw [HV.out]; exact E2.out, E3.out⟩
          · rw [if_neg hfn] at HV
            have hfd : decide (0 ≤ f) = false := by simp; omega
            go_wp2_with fail
            with_reducible refine Calls.mono (CF.out w5) ?_
            rintro e w6 ⟨rfl, b6⟩
            have hBW2 := hBW
            replace hBW := hBW2.trans (b6.mono z5)
            replace k0 := (b6.cell (p := ⟨gw, 0, none⟩) hl2).trans k0
            clear p0 p1
            have hB : Below U.heap.size U w6 := hBW
            have kx := (KU.out _ hB).1
            have YR := (KU.out _ hB).2.1
            have q0 := YR.c0
            have q1 := YR.c1
            have q2 := YR.fz 0
            have q3 := YR.fz 1
            obtain ⟨l0, l1⟩ := kx
            obtain ⟨e1, e2, e3⟩ := FIN.out w6 hB
            have E1 := hid e1
            have E2 := hid e2
            have E3 := hid e3
            clear e1 e2 e3
            go_wp2
            (try simp only [Exit.inBlock, Exit.then])
            refine bodyPost_ret (results_db rfl _ _ (w.heap.size + 1) 31 _ (0, 0) _ (by simp [Act.put]) E1.out Tryz.underlying31 rfl size_desk) rfl ?_
            exact ⟨A3, n, c3, A4, m, c4, by rw [HV.out]; rfl, by rw [HV.out]; exact E2.out, E3.out⟩
        have huFirea : (u == ([102, 105, 114, 101] : List UInt8)) = false := by rw [beq_eq_false_iff_ne]; exact huFire
        have huFireb : (([102, 105, 114, 101] : List UInt8) == u) = false := by rw [beq_eq_false_iff_ne]; exact fun e => huFire e.symm
        replace HV := hid (HV.out.trans (show (D, askN u N) = (D, wWhat) by unfold askN; rw [if_neg hneg, if_neg huMiddles, if_neg huRounds, if_neg huFire]))
        clear huMiddles huRounds huFire p0 p1
        have hB : Below U.heap.size U w5 := hBW
        have kx := (KU.out _ hB).1
        have YR := (KU.out _ hB).2.1
        have q0 := YR.c0
        have q1 := YR.c1
        have q2 := YR.fz 0
        have q3 := YR.fz 1
        obtain ⟨l0, l1⟩ := kx
        obtain ⟨e1, e2, e3⟩ := FIN.out w5 hB
        have E1 := hid e1
        have E2 := hid e2
        have E3 := hid e3
        clear e1 e2 e3
        go_wp2
        (try simp only [Exit.inBlock, Exit.then])
        refine bodyPost_ret (results_db rfl _ _ (w.heap.size + 1) 31 _ (0, 0) _ (by simp [Act.put]) E1.out Tryz.underlying31 rfl size_desk) rfl ?_
        exact ⟨A3, n, c3, A4, m, c4, by rw [HV.out]; rfl, by rw [HV.out]; exact E2.out, E3.out⟩
      · replace HV := hid (HV.out.trans (show (D, askW s) = (D, wWhat) by unfold askW; rw [if_neg h2]))
        obtain ⟨mm, hmm⟩ : ∃ q, (cutB s 32).length = q := ⟨_, rfl⟩
        have hm2 : ((mm : Int) != 2) = true := by rw [hmm] at h2; simp; omega
        have hm3 : ¬ ((mm : Int) = 2) := by rw [hmm] at h2; omega
        go_wp2_with fail
        with_reducible refine Calls.mono CC.out ?_
        rintro e w5 ⟨AW, mW, cW, rfl, o5, b5⟩
        obtain rfl : mW = mm := by rw [← hmm]; exact own_len o5
        have hBW := b5
        clear o5 b5 CC p0 p1 h2 hmm
        have hB : Below U.heap.size U w5 := hBW
        have kx := (KU.out _ hB).1
        have YR := (KU.out _ hB).2.1
        have q0 := YR.c0
        have q1 := YR.c1
        have q2 := YR.fz 0
        have q3 := YR.fz 1
        obtain ⟨l0, l1⟩ := kx
        obtain ⟨e1, e2, e3⟩ := FIN.out w5 hB
        have E1 := hid e1
        have E2 := hid e2
        have E3 := hid e3
        clear e1 e2 e3
        go_wp2
        (try simp only [Exit.inBlock, Exit.then])
        refine bodyPost_ret (results_db rfl _ _ (w.heap.size + 1) 31 _ (0, 0) _ (by simp [Act.put]) E1.out Tryz.underlying31 rfl size_desk) rfl ?_
        exact ⟨A3, n, c3, A4, m, c4, by rw [HV.out]; rfl, by rw [HV.out]; exact E2.out, E3.out⟩
  · have hok' : deskOk D = false := by simpa using hok
    rw [hok'] at C1
    have HV := hid (show lineOut D s = (noDk, []) by unfold lineOut; rw [if_neg hok])
    clear hok
    go_wp2_with fail
    clear e0
    with_reducible refine Calls.mono C1.out ?_
    rintro e w1 ⟨rfl, g1⟩
    have b1 := below_grown g1
    obtain ⟨_, YR⟩ := K0.out w1 b1
    have q0 := YR.c0
    have q1 := YR.c1
    have q2 := YR.fz 0
    have q3 := YR.fz 1
    have e1 := hid (YR.set (.slice none 0 0) (.slice none 0 0))
    have e2 := hid (((DkG.no w1 w.heap.size)).box2 YR (.slice none 0 0) (.slice none 0 0))
    have e3 := hid (((HB0.out.trans (b1.mono HB0.out.size)).setCell (p := ⟨w.heap.size + 1, 0, none⟩) (Nat.le_succ _) (.slice none 0 0)).setCell (p := ⟨w.heap.size + 1, 1, none⟩) (Nat.le_succ _) (.slice none 0 0))
    clear x0 x1 r0 r1 r2 r3 C1 g1 b1 YR
    go_wp2
    (try simp only [Exit.inBlock, Exit.then])
    refine bodyPost_ret (results_db rfl _ _ (w.heap.size + 1) 31 _ (0, 0) _ (by simp [Act.put]) e1.out Tryz.underlying31 rfl size_desk) rfl ?_
    exact ⟨none, 0, 0, none, 0, 0, by rw [HV.out]; rfl, by rw [HV.out]; exact e2.out, e3.out⟩
end Go.Proofs.YtkejcajboneniabGreatDoor
