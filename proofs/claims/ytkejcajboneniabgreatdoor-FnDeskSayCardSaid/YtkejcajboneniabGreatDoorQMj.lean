/-
  Texts put together: K12f K12g. No statement is proved here.
-/
import Derived.Test.YtkejcajboneniabGreatDoorQK12e
import Derived.Test.YtkejcajboneniabGreatDoorQMe
import Derived.Deep.RegionHeld3
set_option linter.unusedVariables false
set_option linter.unusedSimpArgs false
namespace Go.Proofs.YtkejcajboneniabGreatDoor
open Go.RowKit

set_option maxRecDepth 100000 in
set_option maxHeartbeats 3200000 in
theorem deskDo_back (A : Option Addr) (n c : Nat) (A2 : Option Addr) (m c2 : Nat) (D : Dk) (k N : Int) (w : World) (h : DkR w w.heap.size A n c A2 m c2 D) (hok : deskOk D = true) (hu : undoB D k N = true) :
    Calls Tryz.prog 63 #[dsk A n c A2 m c2, deed k N] w fun e w' => ∃ A3 n3 c3 A4 m4 c4, e = .returned (.tuple #[dsk A3 n3 c3 A4 m4 c4, .bool (deskDo D (k, N)).2]) ∧ DkP w' w.heap.size D.past.length A3 n3 c3 A4 m4 c4 (deskDo D (k, N)).1 ∧ Below w.heap.size w w' := by
  obtain ⟨rfl, rfl, hne⟩ : k = 6 ∧ N = 0 ∧ D.past.isEmpty = false := by
    unfold undoB at hu
    rw [Bool.and_eq_true, decide_eq_true_iff] at hu
    exact ⟨hu.1.1, hu.1.2, by simpa using hu.2⟩
  obtain ⟨q, l, hql, hq1, hq2⟩ := last_getD hne
  obtain ⟨p, rfl⟩ : ∃ p, m = p + 1 := ⟨m - 1, by have := h.past.len; rw [hql] at this; simp at this; omega⟩
  obtain ⟨j0, hj, hjz0, hjz1, hjz2⟩ := info_rows
  have z1 : (w.alloc (.cells #[.slice A n c, .slice A2 (p + 1) c2] 31)).heap.size = w.heap.size + 1 := by simp
  have z2 : ((w.alloc (.cells #[.slice A n c, .slice A2 (p + 1) c2] 31)).alloc (.cells #[.int .i64 6, .int .i64 0] 39)).heap.size = w.heap.size + 2 := by simp
  have g1 := grown_alloc (w.alloc (.cells #[.slice A n c, .slice A2 (p + 1) c2] 31)) (.cells #[.int .i64 6, .int .i64 0] 39) none
  have g2 := grown_alloc ((w.alloc (.cells #[.slice A n c, .slice A2 (p + 1) c2] 31)).alloc (.cells #[.int .i64 6, .int .i64 0] 39)) (.cells #[.slice none 0 0, .slice none 0 0] 31) none
  have X0 := ((Db.new w (.slice A n c) (.slice A2 (p + 1) c2)).on (row := none) g1 (by simp)).on (row := none) g2 (by simp)
  have XA := (g2.block (w.heap.size + 1) (by simp) (by simp)).trans (show ((w.alloc (.cells #[.slice A n c, .slice A2 (p + 1) c2] 31)).alloc (.cells #[.int .i64 6, .int .i64 0] 39)).heap[w.heap.size + 1]? = some (.cells #[.int .i64 6, .int .i64 0] 39 (0, 0)) from by rw [← z1]; exact heap_alloc_new _ _)
  have XR := Db.new ((w.alloc (.cells #[.slice A n c, .slice A2 (p + 1) c2] 31)).alloc (.cells #[.int .i64 6, .int .i64 0] 39)) (.slice none 0 0) (.slice none 0 0)
  rw [z2] at XR
  have B0 := ((Below.refl w.heap.size w).alloc (Nat.le_refl _) (.cells #[.slice A n c, .slice A2 (p + 1) c2] 31)).alloc (by simp) (.cells #[.int .i64 6, .int .i64 0] 39)
  replace B0 := B0.alloc (by simp; omega) (.cells #[.slice none 0 0, .slice none 0 0] 31)
  go_enter Tryz.func63, Tryz.ntmps63
  obtain ⟨w0, e0⟩ : ∃ W, ((w.alloc (.cells #[.slice A n c, .slice A2 (p + 1) c2] 31)).alloc (.cells #[.int .i64 6, .int .i64 0] 39)).alloc (.cells #[.slice none 0 0, .slice none 0 0] 31) = W := ⟨_, rfl⟩
  have hz0 : w0.heap.size = w.heap.size + 3 := by rw [← e0]; simp
  rw [e0] at X0 XA XR B0
  clear g1 g2
  have c0 := X0.c0
  have c1 := X0.c1
  have H0 := h.on B0
  have CK := hid (specDeskOk_any A n c A2 (p + 1) c2 D w0 H0)
  have CC := hid (fun (W : World) (hW : DkR W W.heap.size A n c A2 (p + 1) c2 D) => copyDesk_any A n c A2 (p + 1) c2 D W hW)
  have HX0 := hid X0
  have HXA := hid XA
  have HXR := hid XR
  have HB0 := hid B0
  have HH := hid h
  clear X0 XA XR B0 H0 h z1 z2
  rw [hok] at CK
  go_wp2_with fail
  with_reducible refine Calls.mono CK.out ?_
  rintro e w1 ⟨rfl, g1⟩
  have c0 : w1.cell? ⟨w.heap.size, 0, none⟩ = some (.slice A n c) := (HX0.out.on (row := none) g1 (by simp)).c0
  have c1 : w1.cell? ⟨w.heap.size, 1, none⟩ = some (.slice A2 (p + 1) c2) := (HX0.out.on (row := none) g1 (by simp)).c1
  have HB1 := hid (HB0.out.trans ((below_grown g1).mono HB0.out.size))
  go_wp2_with fail
  with_reducible refine Calls.mono (CC.out w1 (HH.out.on HB1.out) hok) ?_
  rintro e w2 ⟨A3, c3, A4, c4, rfl, F2, b2⟩
  have HB2 := hid (HB1.out.trans (b2.mono HB1.out.size))
  have gO := grown_alloc w2 (.cells #[.slice A3 n c3, .slice A4 (p + 1) c4] 31) none
  have hz2 := HB2.out.size
  have hb23 := b2.size
  have hg1z := g1.size
  have Z0 := ((HX0.out.on (row := none) g1 (by simp)).below b2 (by omega)).on (row := none) gO (by simp)
  have ZA := (gO.block (w.heap.size + 1) (by omega) (by simp)).trans ((b2.block (w.heap.size + 1) (by omega)).trans ((g1.block (w.heap.size + 1) (by omega) (by simp)).trans HXA.out))
  have ZR := ((HXR.out.on (row := none) g1 (by simp)).below b2 (by omega)).on (row := none) gO (by simp)
  have ZO := Db.new w2 (.slice A3 n c3) (.slice A4 (p + 1) c4)
  have F3 := F2.onto gO
  have B3 := HB2.out.alloc hz2 (.cells #[.slice A3 n c3, .slice A4 (p + 1) c4] 31)
  obtain ⟨w3, e3⟩ : ∃ W, w2.alloc (.cells #[.slice A3 n c3, .slice A4 (p + 1) c4] 31) = W := ⟨_, rfl⟩
  have hz3 : w3.heap.size = w2.heap.size + 1 := by rw [← e3]; simp
  rw [e3] at Z0 ZA ZR ZO F3 B3
  obtain ⟨o, ho⟩ : ∃ o, w2.heap.size = o := ⟨_, rfl⟩
  rw [ho] at ZO hz3
  have hoB : w.heap.size + 3 ≤ o := by omega
  have x0 := Z0.c0
  have x1 := Z0.c1
  obtain ⟨a0, a1, _, _⟩ := pairCells ZA
  have o0 := ZO.c0
  have o1 := ZO.c1
  have of0 := ZO.fz 0
  have of1 := ZO.fz 1
  have r0 := ZR.c0
  have r1 := ZR.c1
  have rf0 := ZR.fz 0
  have rf1 := ZR.fz 1
  have HZ0 := hid Z0
  have HZR := hid ZR
  have HZO := hid ZO
  have HF3 := hid F3
  have HB3 := hid B3
  have HW1 := hid HB1.out.size
  have HG := hid HH.out.cap
  have HP1 := hid HH.out.past.len
  clear c0 c1 HX0 HXA HXR HB0 HB1 HB2 F2 b2 gO Z0 ZA ZR ZO F3 B3 CK g1 hb23 hg1z e0 hz0
  have hnow := (deskOk_iff.1 hok).2.1
  have h8 := (deskOk_iff.1 hok).2.2
  rw [HP1.out] at h8
  have hl1 := (bitsOk_iff.1 hnow).2
  rw [HH.out.now.len] at hl1
  have HV := hid (show deskDo D (6, 0) = (⟨l, q⟩, true) from by unfold deskDo; rw [if_pos hok, if_pos hu, hq1, hq2])
  obtain ⟨vs, ON, OP, OR⟩ := HF3.out
  have hqp : q.length = p := by have := HP1.out; rw [hql] at this; simpa using this
  have hpl : D.past[p]? = some l := by rw [hql, ← hqp]; simp
  obtain ⟨Al, nl, cl, hvl, OL⟩ := OR.at hpl
  obtain ⟨g4, c4', hA4, hg4B, hg4⟩ := own_shape1 OP (by omega)
  injection hA4 with hA4 _ hc4
  subst hA4
  subst hc4
  have hcell : w3.cell? ⟨g4, p, none⟩ = some (.slice Al nl cl) := (OP.cellAt p (by omega)).trans hvl
  have hcc := own_capK OP
  have k8 : (p : Int) ≤ (c4 : Int) := by omega
  have k9 : p ≤ c4 := by omega
  have k10 : (0 : Int) < (p : Int) + 1 := by omega
  have k11 : (p : Int) < (p : Int) + 1 := by omega
  have k12 : (0 : Int) ≤ (p : Int) := by omega
  have k13 : (p : Int) ≤ (p : Int) + 1 := by omega
  have hgo : g4 ≠ o := fun e => HZO.out.ne_row OP (by rw [e]; rfl)
  have hgR : g4 ≠ w.heap.size + 2 := fun e => HZR.out.ne_row OP (by rw [e]; rfl)
  have ho4 : (w3.setCell ⟨o, 0, none⟩ (.slice Al nl cl)).cell? ⟨o, 1, none⟩ = some (.slice (some ⟨g4, 0, none⟩) (p + 1) c4) := (HZO.out.set0 (.slice Al nl cl)).c1
  go_wp2
  have HK : ∀ k, k ≠ o → k ≠ w.heap.size + 2 → ((((w3.setCell ⟨o, 0, none⟩ (.slice Al nl cl)).setCell ⟨o, 1, none⟩ (.slice (some ⟨g4, 0, none⟩) p c4)).setCell ⟨w.heap.size + 1 + 1, 0, none⟩ (.slice Al nl cl)).setCell ⟨w.heap.size + 1 + 1, 1, none⟩ (.slice (some ⟨g4, 0, none⟩) p c4)).heap[k]? = w3.heap[k]? := fun k h1 h2 =>
    (heap_setCell_other _ _ _ _ h2).trans ((heap_setCell_other _ _ _ _ h2).trans ((heap_setCell_other _ _ _ _ h1).trans (heap_setCell_other _ _ _ _ h1)))
  have FX := own_same OL (fun k hk => HK k (fun e => HZO.out.ne_int OL (by rw [hk, e])) (fun e => HZR.out.ne_int OL (by rw [hk, e])))
  have FP := own_same OP (fun k hk => HK k (fun e => HZO.out.ne_row OP (by rw [hk, e])) (fun e => HZR.out.ne_row OP (by rw [hk, e])))
  have FR := OR.keep (fun v n xs ho => own_same ho (fun k hk => HK k (fun e => HZO.out.ne_int ho (by rw [hk, e])) (fun e => HZR.out.ne_int ho (by rw [hk, e]))))
  have FD := (((HZR.out.other (g := o) (by omega) 0 (.slice Al nl cl)).other (g := o) (by omega) 1 (.slice (some ⟨g4, 0, none⟩) p c4)).set (.slice Al nl cl) (.slice (some ⟨g4, 0, none⟩) p c4))
  have FB := (((HB3.out.setCell (p := ⟨o, 0, none⟩) (show w.heap.size ≤ o by omega) (.slice Al nl cl)).setCell (p := ⟨o, 1, none⟩) (show w.heap.size ≤ o by omega) (.slice (some ⟨g4, 0, none⟩) p c4)).setCell (p := ⟨w.heap.size + 1 + 1, 0, none⟩) (show w.heap.size ≤ w.heap.size + 1 + 1 by omega) (.slice Al nl cl)).setCell (p := ⟨w.heap.size + 1 + 1, 1, none⟩) (show w.heap.size ≤ w.heap.size + 1 + 1 by omega) (.slice (some ⟨g4, 0, none⟩) p c4)
  have hqt : D.past.take p = q := by rw [hql, ← hqp]; simp
  have FF : DkF ((((w3.setCell ⟨o, 0, none⟩ (.slice Al nl cl)).setCell ⟨o, 1, none⟩ (.slice (some ⟨g4, 0, none⟩) p c4)).setCell ⟨w.heap.size + 1 + 1, 0, none⟩ (.slice Al nl cl)).setCell ⟨w.heap.size + 1 + 1, 1, none⟩ (.slice (some ⟨g4, 0, none⟩) p c4)) w.heap.size Al nl cl (some ⟨g4, 0, none⟩) p c4 ⟨l, q⟩ := ⟨vs.take p, own_mono FX HW1.out, own_mono (own_cutK FP (by omega) (by simp)) HW1.out, by rw [← hqt]; exact (FR.mono HW1.out).cutK⟩
  (try simp only [Exit.inBlock, Exit.then])
  refine bodyPost_ret (results_db rfl _ _ (w.heap.size + 2) 31 _ (0, 0) _ (by simp [Act.put]) FD Tryz.underlying31 rfl size_desk) rfl ?_
  exact ⟨Al, nl, cl, some ⟨g4, 0, none⟩, p, c4, by rw [HV.out]; rfl, by rw [HV.out]; exact ⟨DkG.of_own FF, fun _ => FF⟩, FB⟩

/-- DeskDo of the model. -/
theorem specDeskDo_any (A : Option Addr) (n c : Nat) (A2 : Option Addr) (m c2 : Nat) (D : Dk) (k N : Int) (w : World) (h : DkR w w.heap.size A n c A2 m c2 D) :
    Calls Tryz.prog 63 #[dsk A n c A2 m c2, deed k N] w fun e w' => ∃ A3 n3 c3 A4 m4 c4, e = .returned (.tuple #[dsk A3 n3 c3 A4 m4 c4, .bool (deskDo D (k, N)).2]) ∧ DkP w' w.heap.size D.past.length A3 n3 c3 A4 m4 c4 (deskDo D (k, N)).1 ∧ Below w.heap.size w w' := by
  by_cases hok : deskOk D = true
  · by_cases hu : undoB D k N = true
    · exact deskDo_back A n c A2 m c2 D k N w h hok hu
    · cases hs : stayB D k N with
      | true => exact deskDo_stay A n c A2 m c2 D k N w h (fun _ => ⟨hu, hs⟩)
      | false => exact deskDo_done A n c A2 m c2 D k N w h hok hu hs
  · exact deskDo_stay A n c A2 m c2 D k N w h (fun h' => absurd h' hok)
end Go.Proofs.YtkejcajboneniabGreatDoor
namespace Go.Proofs.YtkejcajboneniabGreatDoor
open Go.RowKit

theorem take_deed {l : List (Int × Int)} {k : Nat} (h : k < l.length) : l.take (k + 1) = l.take k ++ [l.getD k (0, 0)] := by
  rw [List.take_succ_eq_append_getElem h, List.getD_eq_getElem?_getD, List.getElem?_eq_getElem h]
  rfl
theorem SlD.at {w : World} {B n : Nat} {A : Option Addr} {l : List (Int × Int)} (h : SlD w B A n l) {k : Nat} (hk : k < n) : ∃ b off, A = some ⟨b, off, none⟩ ∧ b < B ∧ w.cell? ⟨b, off + k * 2, none⟩ = some (.int .i64 (l.getD k (0, 0)).1) ∧ w.cell? ⟨b, off + k * 2 + 1, none⟩ = some (.int .i64 (l.getD k (0, 0)).2) := by
  obtain ⟨b, off, e, hb, hc⟩ := h.2.2 (by omega)
  refine ⟨b, off, e, hb, ?_, ?_⟩
  · rw [hc (k * 2) (by omega), nth_flat0]
  · rw [show off + k * 2 + 1 = off + (k * 2 + 1) by omega, hc (k * 2 + 1) (by omega), nth_flat1]

end Go.Proofs.YtkejcajboneniabGreatDoor
