/-
  Texts put together: K12y K12j. No statement is proved here.
-/
import Derived.Test.YtkejcajboneniabGreatDoorQK12w
import Derived.Test.YtkejcajboneniabGreatDoorQMk
import Derived.Test.YtkejcajboneniabGreatDoorQMf
import Derived.Deep.RegionHeld3
import Derived.Test.YtkejcajboneniabGreatDoorQMw
import Derived.Test.YtkejcajboneniabGreatDoorQMj
import Derived.Test.YtkejcajboneniabGreatDoorQMt
set_option linter.unusedVariables false
set_option linter.unusedSimpArgs false
namespace Go.Proofs.YtkejcajboneniabGreatDoor
open Go.RowKit

theorem line_none {D : Dk} {s : List UInt8} (h : deskOk D = true) (hr : readOut s = none) : lineOut D s = (D, askOut D.now s) := by
  unfold lineOut; rw [if_pos h, hr]
theorem line_some {D : Dk} {s : List UInt8} {a : Int × Int} (h : deskOk D = true) (hr : readOut s = some a) : lineOut D s = ((deskDo D a).1, doneB (deskDo D a).2) := by
  unfold lineOut; rw [if_pos h, hr]

set_option maxRecDepth 100000 in
set_option maxHeartbeats 6400000 in
theorem said_any (P : Nat → Prop) (A : Option Addr) (n c : Nat) (A2 : Option Addr) (m c2 : Nat) (D : Dk) (s : List UInt8) (w : World) (hq : DkQ w P A n c A2 m c2 D) (hok : deskOk D = true) (hs : s.length ≤ 2000000) (hT : TabsL w) :
    Calls Tryz.prog 51 #[dsk A n c A2 m c2, encStr s] w fun e w' => ∃ A3 n3 c3 A4 m4 c4, e = .returned (.tuple #[dsk A3 n3 c3 A4 m4 c4, encStr (lineOut D s).2]) ∧ DkQ w' (fun b => P b ∨ w.heap.size ≤ b) A3 n3 c3 A4 m4 c4 (lineOut D s).1 ∧ Below w.heap.size w w' := by
  have h := hq.read
  have HQ := hid (hq.here.mono (P' := fun b => (P b ∧ b < w.heap.size) ∨ w.heap.size + 2 ≤ b) (fun b hb => .inl hb))
  have HPP : ∀ b, ((P b ∧ b < w.heap.size) ∨ w.heap.size + 2 ≤ b) → (P b ∨ w.heap.size ≤ b) := fun b hb => hb.elim (fun h => .inl h.1) (fun h => .inr (by omega))
  replace HPP := hid HPP
  clear hq
  obtain ⟨hp, hnow, hlen⟩ := deskOk_iff.1 hok
  have z1 : (w.alloc (.cells #[.slice A n c, .slice A2 m c2] 31)).heap.size = w.heap.size + 1 := by simp
  have g1 := grown_alloc (w.alloc (.cells #[.slice A n c, .slice A2 m c2] 31)) (.cells #[.slice none 0 0, .slice none 0 0] 31) none
  have X0 := (Db.new w (.slice A n c) (.slice A2 m c2)).on (row := none) g1 (by simp)
  have XR := Db.new (w.alloc (.cells #[.slice A n c, .slice A2 m c2] 31)) (.slice none 0 0) (.slice none 0 0)
  rw [z1] at XR
  have B0 := ((Below.refl w.heap.size w).alloc (Nat.le_refl _) (.cells #[.slice A n c, .slice A2 m c2] 31)).alloc (by simp) (.cells #[.slice none 0 0, .slice none 0 0] 31)
  obtain ⟨w0, e0⟩ : ∃ W, (w.alloc (.cells #[.slice A n c, .slice A2 m c2] 31)).alloc (.cells #[.slice none 0 0, .slice none 0 0] 31) = W := ⟨_, rfl⟩
  have hz0 : w0.heap.size = w.heap.size + 2 := by rw [← e0]; simp
  rw [e0] at X0 XR B0
  have HH := hid h
  have HX0 := hid X0
  have HXR := hid XR
  have HB0 := hid B0
  have HOK := hid hok
  have HNW := hid hnow
  have CR := hid (implReadDeed_any s (by omega) w0 (hT.below B0))
  have HTT := hid (fun (W : World) (hW : Below w.heap.size w W) => hT.below hW)
  clear g1 X0 XR B0 z1 h hok hnow hp
  cases hr : readOut s with
  | none =>
    have HV := hid (line_none HOK.out hr)
    rw [hr] at CR
    have CR2 : Hid (Calls Tryz.prog 45 #[encStr s] w0 fun e w' => e = .returned (.tuple #[.agg #[.int .i64 0, .int .i64 0], .bool false]) ∧ Below w0.heap.size w0 w') := CR
    clear CR hr
    go_enter Tryz.func51, Tryz.ntmps51
    go_wp2_with fail
    with_reducible refine Calls.mono CR2.out ?_
    rintro e w1 ⟨rfl, b1⟩
    have hz1 := b1.size
    have g2 := (Below.refl w1.heap.size w1).alloc (Nat.le_refl _) (.cells #[.int .i64 0, .int .i64 0] 39)
    have X2 := heap_alloc_new w1 (.cells #[.int .i64 0, .int .i64 0] 39)
    obtain ⟨w2, e2⟩ : ∃ W, w1.alloc (.cells #[.int .i64 0, .int .i64 0] 39) = W := ⟨_, rfl⟩
    have hz2 : w2.heap.size = w1.heap.size + 1 := by rw [← e2]; simp
    rw [e2] at g2 X2
    have HB2 := hid ((HB0.out.trans (b1.mono (by omega))).trans (g2.mono (by omega)))
    have HX2 := hid ((HX0.out.below b1 (by omega)).below g2 (by omega))
    have HXR2 := hid ((HXR.out.below b1 (by omega)).below g2 (by omega))
    have hd0 : w2.cell? ⟨w1.heap.size, 0, none⟩ = some (.int .i64 0) := cell_of_row _ _ 0 _ _ _ X2
    have hd1 : w2.cell? ⟨w1.heap.size, 1, none⟩ = some (.int .i64 0) := cell_of_row _ _ 1 _ _ _ X2
    have hf0 := frozen_of_row w2 w1.heap.size 0 _ _ X2
    have hf1 := frozen_of_row w2 w1.heap.size 1 _ _ X2
    have HX3 := hid ((HX2.out.other (g := w1.heap.size) (by omega) 0 (.int .i64 0)).other (g := w1.heap.size) (by omega) 1 (.int .i64 0))
    have HXR3 := hid ((HXR2.out.other (g := w1.heap.size) (by omega) 0 (.int .i64 0)).other (g := w1.heap.size) (by omega) 1 (.int .i64 0))
    have HB3 := hid ((HB2.out.setCell (p := ⟨w1.heap.size, 0, none⟩) (show w.heap.size ≤ w1.heap.size by omega) (.int .i64 0)).setCell (p := ⟨w1.heap.size, 1, none⟩) (show w.heap.size ≤ w1.heap.size by omega) (.int .i64 0))
    obtain ⟨w3, e3⟩ : ∃ W, (w2.setCell ⟨w1.heap.size, 0, none⟩ (.int .i64 0)).setCell ⟨w1.heap.size, 1, none⟩ (.int .i64 0) = W := ⟨_, rfl⟩
    have hz3 : w3.heap.size = w2.heap.size := by rw [← e3]; simp [World.setCell]
    rw [e3] at HX3 HXR3 HB3
    obtain ⟨wd, hwd⟩ : ∃ W, w3.drew = W := ⟨_, rfl⟩
    have DB : Below w3.heap.size w3 wd := by rw [← hwd]; exact (Below.refl _ _).drew
    have HX4 := hid (HX3.out.below DB (by omega))
    have HXR4 := hid (HXR3.out.below DB (by omega))
    have HB4 := hid (HB3.out.trans (DB.mono (by omega)))
    have hz4 := DB.size
    have c0 := HX4.out.c0
    have c1 := HX4.out.c1
    have CA := hid (answer_any A n c A2 m c2 D s wd (HH.out.on HB4.out) HNW.out hs (HTT.out _ HB4.out))
    clear b1 g2 X2 DB
    go_wp2
    refine wp_region_held_drew (S := fun W => W.cell? ⟨w.heap.size, 0, none⟩ = some (.slice A n c) ∧ W.cell? ⟨w.heap.size, 1, none⟩ = some (.slice A2 m c2)) (by kernel_rfl) (by rw [hwd]; exact ⟨c0, c1⟩) (fun hHeld => ?_)
    rw [hwd] at hHeld ⊢
    refine wpAnyH_take (i := 0) (v := ?v0q) rfl (by kernel_rfl) (by kernel_rfl) (by kernel_rfl) (fun _ _ _ h => h) (Or.inl ⟨by rfl, ?y0q⟩) (by assumption) ?r0q
    case y0q => (intro w hSw; (try dsimp only at hSw); go_simp; try with_reducible rfl)
    try simp only [List.getElem_toArray, List.getElem_cons_zero, List.getElem_cons_succ, Act.put, List.setIfInBounds_toArray, List.set_cons_zero, List.set_cons_succ]
    refine wpAnyH_take (i := 1) (v := ?v1q) rfl (by kernel_rfl) (by kernel_rfl) (by kernel_rfl) (fun _ _ _ h => h) (Or.inl ⟨by rfl, ?y1q⟩) (by assumption) ?r1q
    case y1q => (intro w hSw; (try dsimp only at hSw); go_simp; try with_reducible rfl)
    try simp only [List.getElem_toArray, List.getElem_cons_zero, List.getElem_cons_succ, Act.put, List.setIfInBounds_toArray, List.set_cons_zero, List.set_cons_succ]
    refine wpAnyH_take (i := 2) (v := ?v2q) rfl (by kernel_rfl) (by kernel_rfl) (by kernel_rfl) (fun _ _ _ h => h) (Or.inl ⟨by rfl, ?y2q⟩) (by assumption) ?r2q
    case y2q => (intro w hSw; (try dsimp only at hSw); go_simp; try with_reducible rfl)
    try simp only [List.getElem_toArray, List.getElem_cons_zero, List.getElem_cons_succ, Act.put, List.setIfInBounds_toArray, List.set_cons_zero, List.set_cons_succ]
    refine wpAnyH_ready (rs := [3]) (by kernel_rfl) (by simp) ?_
    refine AllReadyH.cons rfl (fun Kr hKr => ?_) AllReadyH.nil
    go_simp
    try go_wp2_with fail
    with_reducible refine Calls.mono CA.out ?_
    rintro e w5 ⟨rfl, b5⟩
    have X5 := HX4.out.below b5 (by omega)
    have XR5 := HXR4.out.below b5 (by omega)
    have k0 := X5.c0
    have k1 := X5.c1
    have r0 := XR5.c0
    have r1 := XR5.c1
    have f0 := XR5.fz 0
    have f1 := XR5.fz 1
    have q0 := ((X5.other (g := w.heap.size + 1) (by omega) 0 (.slice A n c)).other (g := w.heap.size + 1) (by omega) 1 (.slice A2 m c2)).c0
    have q1 := ((X5.other (g := w.heap.size + 1) (by omega) 0 (.slice A n c)).other (g := w.heap.size + 1) (by omega) 1 (.slice A2 m c2)).c1
    have HB5 := hid (HB4.out.trans (b5.mono HB4.out.size))
    have HXR5 := hid XR5
    clear X5 XR5 b5
    refine hKr.out _ _ ⟨k0, k1⟩ (fun hHeld => ?_)
    clear hKr Kr
    try simp only [List.getElem_toArray, List.getElem_cons_zero, List.getElem_cons_succ, Act.put, List.setIfInBounds_toArray, List.set_cons_zero, List.set_cons_succ]
    refine wpAnyH_ready (rs := [4]) (by kernel_rfl) (by simp) ?_
    refine AllReadyH.cons rfl (fun Kr hKr => ?_) AllReadyH.nil
    go_simp
    try go_wp2_with fail
    refine hKr.out _ _ ⟨q0, q1⟩ (fun hHeld => ?_)
    clear hKr Kr
    try simp only [List.getElem_toArray, List.getElem_cons_zero, List.getElem_cons_succ, Act.put, List.setIfInBounds_toArray, List.set_cons_zero, List.set_cons_succ]
    refine wpAnyH_take (i := 5) (v := ?v5q) rfl (by kernel_rfl) (by kernel_rfl) (by kernel_rfl) (fun _ _ _ h => h) (Or.inl ⟨by rfl, ?y5q⟩) (by assumption) ?r5q
    case y5q => (intro w hSw; (try dsimp only at hSw); go_simp; try with_reducible rfl)
    try simp only [List.getElem_toArray, List.getElem_cons_zero, List.getElem_cons_succ, Act.put, List.setIfInBounds_toArray, List.set_cons_zero, List.set_cons_succ]
    refine wpAnyH_done (by kernel_rfl) ?_ _
    go_wp2
    (try simp only [Exit.inBlock, Exit.then])
    refine bodyPost_ret (results_db rfl _ _ (w.heap.size + 1) 31 _ (0, 0) _ (by simp [Act.put]) (HXR5.out.set _ _) Tryz.underlying31 rfl size_desk) rfl ?_
    have BQ := (HB5.out.setCell (p := ⟨w.heap.size + 1, 0, none⟩) (by simp) (.slice A n c)).setCell (p := ⟨w.heap.size + 1, 1, none⟩) (by simp) (.slice A2 m c2)
    exact ⟨_, _, _, _, _, _, by rw [HV.out]; rfl, by rw [HV.out]; exact (HQ.out.on BQ).mono HPP.out, BQ⟩
  | some a =>
    have HV := hid (line_some HOK.out hr)
    rw [hr] at CR
    have CR2 : Hid (Calls Tryz.prog 45 #[encStr s] w0 fun e w' => e = .returned (.tuple #[.agg #[.int .i64 a.1, .int .i64 a.2], .bool true]) ∧ Below w0.heap.size w0 w') := CR
    clear CR hr
    go_enter Tryz.func51, Tryz.ntmps51
    go_wp2_with fail
    with_reducible refine Calls.mono CR2.out ?_
    rintro e w1 ⟨rfl, b1⟩
    have hz1 := b1.size
    have g2 := (Below.refl w1.heap.size w1).alloc (Nat.le_refl _) (.cells #[.int .i64 a.1, .int .i64 a.2] 39)
    have X2 := heap_alloc_new w1 (.cells #[.int .i64 a.1, .int .i64 a.2] 39)
    obtain ⟨w2, e2⟩ : ∃ W, w1.alloc (.cells #[.int .i64 a.1, .int .i64 a.2] 39) = W := ⟨_, rfl⟩
    have hz2 : w2.heap.size = w1.heap.size + 1 := by rw [← e2]; simp
    rw [e2] at g2 X2
    have HB2 := hid ((HB0.out.trans (b1.mono (by omega))).trans (g2.mono (by omega)))
    have HX2 := hid ((HX0.out.below b1 (by omega)).below g2 (by omega))
    have HXR2 := hid ((HXR.out.below b1 (by omega)).below g2 (by omega))
    obtain ⟨a0, a1, _, _⟩ := pairCells X2
    have c0 := HX2.out.c0
    have c1 := HX2.out.c1
    have CA := hid (after_any (fun b => (P b ∧ b < w.heap.size) ∨ w.heap.size + 2 ≤ b) A n c A2 m c2 D a.1 a.2 w2 (HQ.out.on HB2.out) HOK.out)
    clear b1 g2 X2
    cases hd : (deskDo D (a.1, a.2)).2 with
    | false =>
      replace HV := hid (HV.out.trans (show _ = (D, wNot) from by rw [show (deskDo D a).2 = false from hd, do_false HOK.out (show (deskDo D a).2 = false from hd)]; rfl))
      rw [hd] at CA
      clear hd
      go_wp2_with fail
      with_reducible refine Calls.mono CA.out ?_
      rintro e w3 ⟨A7, n7, c7, A8, m8, c8, rfl, d7, b7⟩
      have hz3 := b7.size
      have g9 := (Below.refl w3.heap.size w3).alloc (Nat.le_refl _) (.cells #[.slice A7 n7 c7, .slice A8 m8 c8] 31)
      have X4 := (HX2.out.below b7 (by omega)).below g9 (by omega)
      have XR4 := (HXR2.out.below b7 (by omega)).below g9 (by omega)
      have HB4 := hid ((HB2.out.trans (b7.mono (by omega))).trans (g9.mono (by omega)))
      obtain ⟨w4, e4⟩ : ∃ W, w3.alloc (.cells #[.slice A7 n7 c7, .slice A8 m8 c8] 31) = W := ⟨_, rfl⟩
      have hz4 : w4.heap.size = w3.heap.size + 1 := by rw [← e4]; simp
      rw [e4] at X4 XR4 HB4
      have k0 := X4.c0
      have k1 := X4.c1
      have r0 := XR4.c0
      have r1 := XR4.c1
      have f0 := XR4.fz 0
      have f1 := XR4.fz 1
      have k1' := (X4.other (g := w.heap.size + 1) (by omega) 0 (.slice A n c)).c1
      have HXR4 := hid XR4
      clear X4 XR4 g9 b7 d7
      go_wp2
      (try simp only [Exit.inBlock, Exit.then])
      refine bodyPost_ret (results_db rfl _ _ (w.heap.size + 1) 31 _ (0, 0) _ (by simp [Act.put]) (HXR4.out.set _ _) Tryz.underlying31 rfl size_desk) rfl ?_
      have BQ := (HB4.out.setCell (p := ⟨w.heap.size + 1, 0, none⟩) (by simp) (.slice A n c)).setCell (p := ⟨w.heap.size + 1, 1, none⟩) (by simp) (.slice A2 m c2)
      exact ⟨_, _, _, _, _, _, by rw [HV.out]; rfl, by rw [HV.out]; exact (HQ.out.on BQ).mono HPP.out, BQ⟩
    | true =>
      replace HV := hid (HV.out.trans (show _ = ((deskDo D a).1, wOk) from by rw [show (deskDo D a).2 = true from hd]; rfl))
      rw [hd] at CA
      clear hd
      go_wp2_with fail
      with_reducible refine Calls.mono CA.out ?_
      rintro e w3 ⟨A7, n7, c7, A8, m8, c8, rfl, d7, b7⟩
      have hz3 := b7.size
      have X9 := Db.new w3 (.slice A7 n7 c7) (.slice A8 m8 c8)
      have g9 := (Below.refl w3.heap.size w3).alloc (Nat.le_refl _) (.cells #[.slice A7 n7 c7, .slice A8 m8 c8] 31)
      have XR4 := (HXR2.out.below b7 (by omega)).below g9 (by omega)
      have HB4 := hid ((HB2.out.trans (b7.mono (by omega))).trans (g9.mono (by omega)))
      have D9 := hid ((d7.on g9).mono (P' := fun b => (P b ∧ b < w.heap.size) ∨ w.heap.size + 2 ≤ b) (fun b hb => hb.elim id (fun h => .inr (by omega))))
      obtain ⟨w4, e4⟩ : ∃ W, w3.alloc (.cells #[.slice A7 n7 c7, .slice A8 m8 c8] 31) = W := ⟨_, rfl⟩
      have hz4 : w4.heap.size = w3.heap.size + 1 := by rw [← e4]; simp
      rw [e4] at X9 XR4 HB4 D9
      have k0 := X9.c0
      have k1 := X9.c1
      have r0 := XR4.c0
      have r1 := XR4.c1
      have f0 := XR4.fz 0
      have f1 := XR4.fz 1
      have k1' := (X9.other (g := w.heap.size + 1) (by omega) 0 (.slice A7 n7 c7)).c1
      have HXR4 := hid XR4
      clear X9 XR4 g9 b7 d7
      go_wp2
      (try simp only [Exit.inBlock, Exit.then])
      refine bodyPost_ret (results_db rfl _ _ (w.heap.size + 1) 31 _ (0, 0) _ (by simp [Act.put]) (HXR4.out.set _ _) Tryz.underlying31 rfl size_desk) rfl ?_
      have BQ := (HB4.out.setCell (p := ⟨w.heap.size + 1, 0, none⟩) (by simp) (.slice A7 n7 c7)).setCell (p := ⟨w.heap.size + 1, 1, none⟩) (by simp) (.slice A8 m8 c8)
      have DQ := (D9.out.put2 (b := w.heap.size + 1) (by omega) (.slice A7 n7 c7) (.slice A8 m8 c8)).mono HPP.out
      exact ⟨_, _, _, _, _, _, by rw [HV.out]; rfl, by rw [HV.out]; exact DQ, BQ⟩

set_option maxRecDepth 100000 in
set_option maxHeartbeats 3200000 in
theorem implDeskLine_any (A : Option Addr) (n c : Nat) (A2 : Option Addr) (m c2 : Nat) (D : Dk) (s : List UInt8) (w : World) (h : DkR w w.heap.size A n c A2 m c2 D) (hs : s.length ≤ 2000000) (hT : TabsL w) :
    Calls Tryz.prog 14 #[dsk A n c A2 m c2, encStr s] w fun e w' => ∃ A3 n3 c3 A4 m4 c4, e = .returned (.tuple #[dsk A3 n3 c3 A4 m4 c4, encStr (lineOut D s).2]) ∧ DkY w' w.heap.size A3 n3 c3 A4 m4 c4 (lineOut D s).1 ∧ Below w.heap.size w w' := by
  have z1 : (w.alloc (.cells #[.slice A n c, .slice A2 m c2] 31)).heap.size = w.heap.size + 1 := by simp
  have g1 := grown_alloc (w.alloc (.cells #[.slice A n c, .slice A2 m c2] 31)) (.cells #[.slice none 0 0, .slice none 0 0] 31) none
  have X0 := (Db.new w (.slice A n c) (.slice A2 m c2)).on (row := none) g1 (by simp)
  have XR := Db.new (w.alloc (.cells #[.slice A n c, .slice A2 m c2] 31)) (.slice none 0 0) (.slice none 0 0)
  rw [z1] at XR
  have B0 := ((Below.refl w.heap.size w).alloc (Nat.le_refl _) (.cells #[.slice A n c, .slice A2 m c2] 31)).alloc (by simp) (.cells #[.slice none 0 0, .slice none 0 0] 31)
  obtain ⟨w0, e0⟩ : ∃ W, (w.alloc (.cells #[.slice A n c, .slice A2 m c2] 31)).alloc (.cells #[.slice none 0 0, .slice none 0 0] 31) = W := ⟨_, rfl⟩
  have hz0 : w0.heap.size = w.heap.size + 2 := by rw [← e0]; simp
  rw [e0] at X0 XR B0
  have c0 := X0.c0
  have c1 := X0.c1
  have HH := hid h
  have HTT := hid (fun (W : World) (hW : Below w.heap.size w W) => hT.below hW)
  have CK := hid (implDeskOk_any A n c A2 m c2 D w0 (h.on B0))
  have HX0 := hid X0
  have HXR := hid XR
  have HB0 := hid B0
  clear g1 X0 XR B0 z1 h
  cases hok : deskOk D with
  | false =>
    have HV := hid (show lineOut D s = (noDk, []) from by unfold lineOut; rw [hok]; rfl)
    rw [hok] at CK
    clear hok
    go_enter Tryz.func14, Tryz.ntmps14
    go_wp2_with fail
    with_reducible refine Calls.mono CK.out ?_
    rintro e w1 ⟨rfl, b1⟩
    have YR := HXR.out.below b1 (by omega)
    have r0 := YR.c0
    have r1 := YR.c1
    have f0 := YR.fz 0
    have f1 := YR.fz 1
    have HYR := hid YR
    have HB1 := hid (HB0.out.trans (b1.mono (by omega)))
    clear YR b1
    go_wp2
    (try simp only [Exit.inBlock, Exit.then])
    refine bodyPost_ret (results_db rfl _ _ (w.heap.size + 1) 31 _ (0, 0) _ (by simp [Act.put]) (HYR.out.set _ _) Tryz.underlying31 rfl size_desk) rfl ?_
    have BQ := (HB1.out.setCell (p := ⟨w.heap.size + 1, 0, none⟩) (by simp) (.slice none 0 0)).setCell (p := ⟨w.heap.size + 1, 1, none⟩) (by simp) (.slice none 0 0)
    exact ⟨none, 0, 0, none, 0, 0, by rw [HV.out]; rfl, by rw [HV.out]; exact DkY.no _ _, BQ⟩
  | true =>
    have HOK := hid hok
    have HOK2 := hid (line_ok hok s)
    rw [hok] at CK
    clear hok
    go_enter Tryz.func14, Tryz.ntmps14
    go_wp2_with fail
    with_reducible refine Calls.mono CK.out ?_
    rintro e w1 ⟨rfl, b1⟩
    have Y0 := HX0.out.below b1 (by omega)
    have c0 := Y0.c0
    have c1 := Y0.c1
    have HYR := hid (HXR.out.below b1 (by omega))
    have HB1 := hid (HB0.out.trans (b1.mono (by omega)))
    have hz1 := b1.size
    have CA := hid (said_any (fun b => b < w.heap.size) A n c A2 m c2 D s w1 (DkQ.of (HH.out.below HB1.out) HB1.out.size (fun b hb => hb)) HOK.out hs (HTT.out _ HB1.out))
    clear Y0 b1
    go_wp2_with fail
    with_reducible refine Calls.mono CA.out ?_
    rintro e w2 ⟨A5, n5, c5, A6, m6, c6, rfl, d2, b2⟩
    have hz2 := b2.size
    have X5 := Db.new w2 (.slice A5 n5 c5) (.slice A6 m6 c6)
    have g5 := (Below.refl w2.heap.size w2).alloc (Nat.le_refl _) (.cells #[.slice A5 n5 c5, .slice A6 m6 c6] 31)
    have YR := (HYR.out.below b2 (by omega)).below g5 (by omega)
    have HB2 := hid ((HB1.out.trans (b2.mono (by omega))).trans (g5.mono (by omega)))
    have D5 := d2.read.on g5
    obtain ⟨w3, e3⟩ : ∃ W, w2.alloc (.cells #[.slice A5 n5 c5, .slice A6 m6 c6] 31) = W := ⟨_, rfl⟩
    have hz3 : w3.heap.size = w2.heap.size + 1 := by rw [← e3]; simp
    rw [e3] at X5 YR HB2 D5
    have k0 := X5.c0
    have k1 := X5.c1
    have CC := hid (copied_any A5 n5 c5 A6 m6 c6 _ w3 D5.s HOK2.out)
    have HYR2 := hid YR
    clear YR b2 d2 g5 D5 X5
    go_wp2_with fail
    with_reducible refine Calls.mono CC.out ?_
    rintro e w4 ⟨A7, n7, c7, A8, m8, c8, rfl, d4, b4⟩
    have YR := HYR2.out.below b4 (by omega)
    have r0 := YR.c0
    have r1 := YR.c1
    have f0 := YR.fz 0
    have f1 := YR.fz 1
    have HYR4 := hid YR
    have HB4 := hid (HB2.out.trans (b4.mono (by omega)))
    have HDY := hid (d4.mono (B' := w.heap.size) (by omega))
    clear YR b4 d4
    go_wp2
    (try simp only [Exit.inBlock, Exit.then])
    refine bodyPost_ret (results_db rfl _ _ (w.heap.size + 1) 31 _ (0, 0) _ (by simp [Act.put]) (HYR4.out.set _ _) Tryz.underlying31 rfl size_desk) rfl ?_
    have BQ := (HB4.out.setCell (p := ⟨w.heap.size + 1, 0, none⟩) (by simp) (.slice A7 n7 c7)).setCell (p := ⟨w.heap.size + 1, 1, none⟩) (by simp) (.slice A8 m8 c8)
    exact ⟨A7, n7, c7, A8, m8, c8, rfl, HDY.out.box2 HYR4.out _ _, BQ⟩

theorem own_neK {w : World} {B b n : Nat} {v x y : Value} {xs : List Value} (hd : Db w b x y) (ho : w.ownsRow B 9 1 v n xs) : some b ≠ v.ownBlock := own_blk_ne hd ho (by decide)
theorem cell_putK (w : World) (g k : Nat) (x : Value) (p : Addr) (hp : p.block ≠ g) : (w.setCell ⟨g, k, none⟩ x).cell? p = w.cell? p := by
  have h1 := heap_setCell_other w ⟨g, k, none⟩ p.block x hp
  unfold World.cell?
  rw [h1]
set_option maxRecDepth 100000 in
set_option maxHeartbeats 6400000 in
theorem implDeskSay_any (A : Option Addr) (n c : Nat) (A2 : Option Addr) (m c2 : Nat) (D : Dk) (AL : Option Addr) (nL cL : Nat) (ls : List (List UInt8)) (w : World) (h : DkR w w.heap.size A n c A2 m c2 D) (hL : SlT w w.heap.size AL nL ls) (hlen : ∀ s ∈ ls, s.length ≤ 2000000) (hT : TabsL w) :
    Calls Tryz.prog 30 #[dsk A n c A2 m c2, .slice AL nL cL] w fun e w' => ∃ A3 n3 c3 A4 m4 c4 AX nX cX, e = .returned (.tuple #[dsk A3 n3 c3 A4 m4 c4, .slice AX nX cX]) ∧ DkY w' w.heap.size A3 n3 c3 A4 m4 c4 (sayOut D ls).1 ∧ w'.ownsRow w.heap.size 9 1 (.slice AX nX cX) nX (strs (sayOut D ls).2) ∧ nX ≤ 40 ∧ Below w.heap.size w w' := by
  obtain ⟨j0, hj, hjz0, hjz1, hjz2⟩ := info_parts info_str
  have z1 : (w.alloc (.cells #[.slice A n c, .slice A2 m c2] 31)).heap.size = w.heap.size + 1 := by simp
  have g1 := grown_alloc (w.alloc (.cells #[.slice A n c, .slice A2 m c2] 31)) (.cells #[.slice none 0 0, .slice none 0 0] 31) none
  have X0 := (Db.new w (.slice A n c) (.slice A2 m c2)).on (row := none) g1 (by simp)
  have XR := Db.new (w.alloc (.cells #[.slice A n c, .slice A2 m c2] 31)) (.slice none 0 0) (.slice none 0 0)
  rw [z1] at XR
  have B0 := ((Below.refl w.heap.size w).alloc (Nat.le_refl _) (.cells #[.slice A n c, .slice A2 m c2] 31)).alloc (by simp) (.cells #[.slice none 0 0, .slice none 0 0] 31)
  obtain ⟨w0, e0⟩ : ∃ W, (w.alloc (.cells #[.slice A n c, .slice A2 m c2] 31)).alloc (.cells #[.slice none 0 0, .slice none 0 0] 31) = W := ⟨_, rfl⟩
  have hz0 : w0.heap.size = w.heap.size + 2 := by rw [← e0]; simp
  rw [e0] at X0 XR B0
  have c0 := X0.c0
  have c1 := X0.c1
  have mxL := hL.max
  have HLL := hid hL.len
  have HH := hid h
  have HLS := hid hL
  have HLEN := hid hlen
  have HTT := hid (fun (W : World) (hW : Below w.heap.size w W) => hT.below hW)
  have CK := hid (implDeskOk_any A n c A2 m c2 D w0 (h.on B0))
  have HX0 := hid X0
  have HXR := hid XR
  have HB0 := hid B0
  clear g1 X0 XR B0 z1 h hL hlen
  cases hok : deskOk D with
  | false =>
    rw [hok] at CK
    have HV := hid (show sayOut D ls = (noDk, []) from by unfold sayOut; rw [if_neg]; unfold sayOk; rw [hok]; simp)
    go_enter Tryz.func30, Tryz.ntmps30
    go_wp2_with fail
    with_reducible refine Calls.mono CK.out ?_
    rintro e w1 ⟨rfl, b1⟩
    have YR := HXR.out.below b1 (by omega)
    have r0 := YR.c0
    have r1 := YR.c1
    have f0 := YR.fz 0
    have f1 := YR.fz 1
    have HYR := hid YR
    have HB1 := hid (HB0.out.trans (b1.mono (by omega)))
    clear YR b1
    go_wp2
    (try simp only [Exit.inBlock, Exit.then])
    refine bodyPost_ret (results_db rfl _ _ (w.heap.size + 1) 31 _ (0, 0) _ (by simp [Act.put]) (HYR.out.set _ _) Tryz.underlying31 rfl size_desk) rfl ?_
    have BQ := (HB1.out.setCell (p := ⟨w.heap.size + 1, 0, none⟩) (by simp) (.slice none 0 0)).setCell (p := ⟨w.heap.size + 1, 1, none⟩) (by simp) (.slice none 0 0)
    exact ⟨none, 0, 0, none, 0, 0, none, 0, 0, rfl, by rw [HV.out]; exact DkY.no _ _, by rw [HV.out]; exact World.ownsRow_nil _ _ _ _, by omega, BQ⟩
  | true =>
    rw [hok] at CK
    by_cases h40 : 40 < nL
    · have h40i : (40 : Int) < (nL : Int) := by omega
      have HV := hid (show sayOut D ls = (noDk, []) from by unfold sayOut; rw [if_neg]; unfold sayOk; rw [HLL.out]; simp; omega)
      go_enter Tryz.func30, Tryz.ntmps30
      go_wp2_with fail
      with_reducible refine Calls.mono CK.out ?_
      rintro e w1 ⟨rfl, b1⟩
      have YR := HXR.out.below b1 (by omega)
      have r0 := YR.c0
      have r1 := YR.c1
      have f0 := YR.fz 0
      have f1 := YR.fz 1
      have HYR := hid YR
      have HB1 := hid (HB0.out.trans (b1.mono (by omega)))
      clear YR b1
      go_wp2
      (try simp only [Exit.inBlock, Exit.then])
      refine bodyPost_ret (results_db rfl _ _ (w.heap.size + 1) 31 _ (0, 0) _ (by simp [Act.put]) (HYR.out.set _ _) Tryz.underlying31 rfl size_desk) rfl ?_
      have BQ := (HB1.out.setCell (p := ⟨w.heap.size + 1, 0, none⟩) (by simp) (.slice none 0 0)).setCell (p := ⟨w.heap.size + 1, 1, none⟩) (by simp) (.slice none 0 0)
      exact ⟨none, 0, 0, none, 0, 0, none, 0, 0, rfl, by rw [HV.out]; exact DkY.no _ _, by rw [HV.out]; exact World.ownsRow_nil _ _ _ _, by omega, BQ⟩
    · have h40i : ¬ (40 : Int) < (nL : Int) := by omega
      have HV := hid (show sayOut D ls = sayL D ls from by unfold sayOut; rw [if_pos]; unfold sayOk; rw [hok, HLL.out]; simp; omega)
      have HOK := hid hok
      clear hok
      go_enter Tryz.func30, Tryz.ntmps30
      go_wp2_with fail
      with_reducible refine Calls.mono CK.out ?_
      rintro e w1 ⟨rfl, b1⟩
      have HB1 := hid (HB0.out.trans (b1.mono (by omega)))
      have HX1 := hid (HX0.out.below b1 (by omega))
      have HXR1 := hid (HXR.out.below b1 (by omega))
      have hz1 := b1.size
      clear b1 e0 c0 c1
      go_wp2_with (refine wpList_make_full _ rfl (.tmp 19) (.tmp 19) 53 rfl w1.heap.size 9 j0 _ 1 Tryz.underlying53 hj hjz0 hjz1 .i64 .i64 nL nL nL rfl rfl rfl rfl (by rw [hjz2]; omega) (by simp only [maxLen]; omega) (Nat.le_refl _) ?_; intro w2 o2 g2)
      have b2 := below_grown g2
      have HB2 := hid (HB1.out.trans (b2.mono (by omega)))
      have HX2 := hid (HX1.out.below b2 (by omega))
      have HXR2 := hid (HXR1.out.below b2 (by omega))
      have hlt2 := own_hi o2 w1.heap.size rfl
      have HD2 := hid (DkQ.of (P := fun b => b < w.heap.size ∨ w1.heap.size < b) (HH.out.below HB2.out) HB2.out.size (fun b hb => .inl hb))
      have HO2 := hid o2
      clear g2 b2 o2
      obtain ⟨g, hg⟩ : ∃ g, w1.heap.size = g := ⟨_, rfl⟩
      rw [hg] at HO2 HD2 hlt2 ⊢
      have hgB : w.heap.size + 2 ≤ g := by omega
      go_wp2
      go_loopw [23] (fun i wr => ∃ (k : Nat) (A5 : Option Addr) (n5 c5 : Nat) (A6 : Option Addr) (m6 c6 : Nat) (D5 : Dk) (outs : List (List UInt8)) (vs : List Value), i = .int .i64 k ∧ k ≤ nL ∧ Hid (sayL D (ls.take k) = (D5, outs)) ∧ Hid (vs.take k = strs outs) ∧ Hid (wr.ownsRow g 9 1 (.slice (some ⟨g, 0, none⟩) nL nL) nL vs) ∧ Hid (Below w.heap.size w wr) ∧ Hid (Db wr w.heap.size (.slice A5 n5 c5) (.slice A6 m6 c6)) ∧ Hid (Db wr (w.heap.size + 1) (.slice none 0 0) (.slice none 0 0)) ∧ Hid (DkQ wr (fun b => b < w.heap.size ∨ g < b) A5 n5 c5 A6 m6 c6 D5) ∧ Hid (deskOk D5 = true)) (fun i _ => nL - (intOf i).toNat)
      case atStart => exact ⟨0, A, n, c, A2, m, c2, D, [], _, rfl, Nat.zero_le _, hid rfl, hid rfl, HO2, HB2, HX2, HXR2, HD2, HOK⟩
      case round =>
        clear HB1 HX1 HXR1 HB2 HX2 HXR2 HD2 HO2 hlt2
        obtain ⟨k, A5, n5, c5, A6, m6, c6, D5, outs, vs, rfl, hk, HSAY, HVS, HO, BB, HBX, HBR, HDQ, HOK5⟩ := hrel
        have hvl : vs.length = nL := by have := HO.out.1; omega
        have hwz := BB.out.size
        have hgl := own_hi HO.out g rfl
        by_cases hlt : k < nL
        · obtain ⟨bl, offl, rfl, hbl, d0⟩ := (HLS.out.below BB.out).at hlt
          obtain ⟨sk, hsk⟩ : ∃ a, ls.getD k [] = a := ⟨_, rfl⟩
          rw [hsk] at d0
          have hskl : sk.length ≤ 2000000 := HLEN.out sk (by rw [← hsk, List.getD_eq_getElem?_getD, List.getElem?_eq_getElem (by rw [HLL.out]; exact hlt)]; exact List.getElem_mem _)
          have HTK := hid (show ls.take (k + 1) = ls.take k ++ [sk] from by
            rw [List.take_succ_eq_append_getElem (by rw [HLL.out]; exact hlt), ← hsk]
            simp [List.getD, List.getElem?_eq_getElem (show k < ls.length by rw [HLL.out]; exact hlt)])
          have hki : (k : Int) < (nL : Int) := by omega
          have p7 : (0 : Int) ≤ (k : Int) := by omega
          have x0 := HBX.out.c0
          have x1 := HBX.out.c1
          have CA := hid (said_any _ A5 n5 c5 A6 m6 c6 D5 sk wr HDQ.out HOK5.out hskl (HTT.out _ BB.out))
          have HOK6 := hid (line_ok HOK5.out sk)
          have HSN := hid (show sayL D (ls.take (k + 1)) = ((lineOut D5 sk).1, outs ++ [(lineOut D5 sk).2]) from by
            rw [HTK.out, say_snoc, HSAY.out]; rfl)
          obtain ⟨vk, hkv⟩ : ∃ x, vs[k]? = some x := ⟨_, List.getElem?_eq_getElem (by omega)⟩
          clear hsk
          go_wp2_with fail
          with_reducible refine Calls.mono CA.out ?_
          rintro e w3 ⟨A7, n7, c7, A8, m8, c8, rfl, d7, b7⟩
          have hz3 := b7.size
          have Z0 := HBX.out.below b7 (by omega)
          have ZR := HBR.out.below b7 (by omega)
          have O3 := own_on HO.out b7
          have y0 := Z0.c0
          have y1 := Z0.c1
          have yf0 := Z0.fz 0
          have yf1 := Z0.fz 1
          have ZN := Z0.set (.slice A7 n7 c7) (.slice A8 m8 c8)
          have ZRN := (ZR.other (g := w.heap.size) (by omega) 0 (.slice A7 n7 c7)).other (g := w.heap.size) (by omega) 1 (.slice A8 m8 c8)
          have O4 := own_box (k := 1) (.slice A8 m8 c8) (own_box (k := 0) (.slice A7 n7 c7) O3 (own_neK Z0 O3)) (own_neK (Z0.set0 (.slice A7 n7 c7)) (own_box (k := 0) (.slice A7 n7 c7) O3 (own_neK Z0 O3)))
          have B4 := ((BB.out.trans (b7.mono hwz)).setCell (p := ⟨w.heap.size, 0, none⟩) (Nat.le_refl _) (.slice A7 n7 c7)).setCell (p := ⟨w.heap.size, 1, none⟩) (Nat.le_refl _) (.slice A8 m8 c8)
          have D4 := (d7.mono (P' := fun b => b < w.heap.size ∨ g < b) (fun b hb => hb.elim id (fun h => .inr (by omega)))).put2 (b := w.heap.size) (by omega) (.slice A7 n7 c7) (.slice A8 m8 c8)
          obtain ⟨w4, e4⟩ : ∃ W, (w3.setCell ⟨w.heap.size, 0, none⟩ (.slice A7 n7 c7)).setCell ⟨w.heap.size, 1, none⟩ (.slice A8 m8 c8) = W := ⟨_, rfl⟩
          rw [e4] at ZN ZRN O4 B4 D4
          have hcz := O4.cellAt k (by omega)
          rw [hkv] at hcz
          have hfz := O4.frozenAt k
          obtain ⟨p1, p2⟩ := O4.stored k (encStr (lineOut D5 sk).2)
          have QO := hid p1
          have QX := hid (ZN.other (g := g) (by omega) k (encStr (lineOut D5 sk).2))
          have QR := hid (ZRN.other (g := g) (by omega) k (encStr (lineOut D5 sk).2))
          have QB := hid (B4.setCell (p := ⟨g, k, none⟩) (show w.heap.size ≤ g by omega) (encStr (lineOut D5 sk).2))
          have QD := hid (D4.keep (W := w4.setCell ⟨g, k, none⟩ (encStr (lineOut D5 sk).2)) (by simp [World.setCell]) (fun p hp _ => cell_putK w4 g k _ p (by intro e; rw [e] at hp; omega)))
          have QV := hid (show (vs.set k (encStr (lineOut D5 sk).2)).take (k + 1) = strs (outs ++ [(lineOut D5 sk).2]) from by
            rw [List.take_succ_eq_append_getElem (by rw [List.length_set, hvl]; exact hlt), List.take_set_of_le (Nat.le_refl _), HVS.out]
            simp [strs])
          clear p1 p2 ZN ZRN O3 O4 B4 D4 Z0 ZR d7 b7 HSAY HVS HO HBX HBR HDQ BB x0 x1
          go_wp2
          go_roundw
          case rel => exact ⟨k + 1, A7, n7, c7, A8, m8, c8, _, _, _, by go_num, by omega, HSN, QV, QO, QB, QX, QR, QD, HOK6⟩
          case measure => simp [intOf]; omega
        · obtain rfl : k = nL := by omega
          have HRE := hid (show sayL D ls = (D5, outs) from by
            have h := HSAY.out
            rwa [List.take_of_length_le (by rw [HLL.out]; exact Nat.le_refl _)] at h)
          have HVE := hid (show vs = strs outs from by
            have h := HVS.out
            rwa [List.take_of_length_le (by omega)] at h)
          have x0 := HBX.out.c0
          have x1 := HBX.out.c1
          have CC := hid (copied_any A5 n5 c5 A6 m6 c6 D5 wr HDQ.out.read.s HOK5.out)
          go_wp2_with fail
          with_reducible refine Calls.mono CC.out ?_
          rintro e w4 ⟨A7, n7, c7, A8, m8, c8, rfl, d4, b4⟩
          have YR := HBR.out.below b4 (by omega)
          have r0 := YR.c0
          have r1 := YR.c1
          have f0 := YR.fz 0
          have f1 := YR.fz 1
          have O4 := own_on HO.out b4
          have O5 := own_box (k := 1) (.slice A8 m8 c8) (own_box (k := 0) (.slice A7 n7 c7) O4 (own_neK YR O4)) (own_neK (YR.set0 (.slice A7 n7 c7)) (own_box (k := 0) (.slice A7 n7 c7) O4 (own_neK YR O4)))
          have HO5 := hid O5
          have HYR4 := hid YR
          have HB4 := hid (BB.out.trans (b4.mono (by omega)))
          have HDY := hid (d4.mono (B' := w.heap.size) (by omega))
          clear YR b4 d4 O4 O5
          go_wp2
          (try simp only [Exit.inBlock, Exit.then])
          refine bodyPost_ret (results_db rfl _ _ (w.heap.size + 1) 31 _ (0, 0) _ (by simp [Act.put]) (HYR4.out.set _ _) Tryz.underlying31 rfl size_desk) rfl ?_
          have BQ := (HB4.out.setCell (p := ⟨w.heap.size + 1, 0, none⟩) (by simp) (.slice A7 n7 c7)).setCell (p := ⟨w.heap.size + 1, 1, none⟩) (by simp) (.slice A8 m8 c8)
          exact ⟨A7, n7, c7, A8, m8, c8, some ⟨g, 0, none⟩, k, k, rfl, by rw [HV.out, HRE.out]; exact HDY.out.box2 HYR4.out _ _, by rw [HV.out, HRE.out, ← HVE.out]; exact own_mono HO5.out (by omega), by omega, BQ⟩
end Go.Proofs.YtkejcajboneniabGreatDoor
namespace Go.Proofs.YtkejcajboneniabGreatDoor
end Go.Proofs.YtkejcajboneniabGreatDoor
