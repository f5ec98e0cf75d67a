/-
  Texts put together: K12e. No statement is proved here.
-/
import Derived.Test.YtkejcajboneniabGreatDoorQK12d
set_option linter.unusedVariables false
set_option linter.unusedSimpArgs false
namespace Go.Proofs.YtkejcajboneniabGreatDoor
open Go.RowKit

theorem SlS.cutK {w : World} {B m k : Nat} {A : Option Addr} {ls : List (List Int)} (h : SlS w B A m ls) (hk : k ≤ m) : SlS w B A k (ls.take k) := by
  obtain ⟨vs, h1, h2⟩ := h
  refine ⟨vs.take k, ⟨by rw [List.length_take, h1.1]; omega, Nat.le_trans hk h1.2.1, fun h0 => ?_⟩, by rw [List.length_take, List.length_take, h2.1], fun j v l hv hl => ?_⟩
  · obtain ⟨b, off, e, hb, hc⟩ := h1.2.2 (by omega)
    exact ⟨b, off, e, hb, fun j v hv => hc j v (by rw [List.getElem?_take] at hv; split at hv; exact hv; cases hv)⟩
  · rw [List.getElem?_take] at hv hl
    split at hv
    · rename_i hj
      rw [if_pos hj] at hl
      exact h2.2 j v l hv hl
    · cases hv
theorem own_same {w w' : World} {B n : Nat} {v : Value} {e : TypeId} {xs : List Value} (h : w.ownsRow B e 1 v n xs) (hk : ∀ k, v.ownBlock = some k → w'.heap[k]? = w.heap[k]?) : w'.ownsRow B e 1 v n xs := by
  refine ⟨h.1, ?_⟩
  rcases h.2 with h2 | ⟨g, cap, cur, h1, h2, h3, h4⟩
  · exact .inl h2
  · exact .inr ⟨g, cap, cur, h1, h2, (hk g (by rw [h1]; rfl)).trans h3, h4⟩
set_option maxRecDepth 100000 in
set_option maxHeartbeats 3200000 in
theorem deskDo_done (A : Option Addr) (n c : Nat) (A2 : Option Addr) (m c2 : Nat) (D : Dk) (k N : Int) (w : World) (h : DkR w w.heap.size A n c A2 m c2 D) (hok : deskOk D = true) (hu : ¬ undoB D k N = true) (hs : stayB D k N = false) :
    Calls Tryz.prog 63 #[dsk A n c A2 m c2, deed k N] w fun e w' => ∃ A3 n3 c3 A4 m4 c4, e = .returned (.tuple #[dsk A3 n3 c3 A4 m4 c4, .bool (deskDo D (k, N)).2]) ∧ DkP w' w.heap.size D.past.length A3 n3 c3 A4 m4 c4 (deskDo D (k, N)).1 ∧ Below w.heap.size w w' := by
  obtain ⟨j0, hj, hjz0, hjz1, hjz2⟩ := info_rows
  have z1 : (w.alloc (.cells #[.slice A n c, .slice A2 m c2] 31)).heap.size = w.heap.size + 1 := by simp
  have z2 : ((w.alloc (.cells #[.slice A n c, .slice A2 m c2] 31)).alloc (.cells #[.int .i64 k, .int .i64 N] 39)).heap.size = w.heap.size + 2 := by simp
  have g1 := grown_alloc (w.alloc (.cells #[.slice A n c, .slice A2 m c2] 31)) (.cells #[.int .i64 k, .int .i64 N] 39) none
  have g2 := grown_alloc ((w.alloc (.cells #[.slice A n c, .slice A2 m c2] 31)).alloc (.cells #[.int .i64 k, .int .i64 N] 39)) (.cells #[.slice none 0 0, .slice none 0 0] 31) none
  have X0 := ((Db.new w (.slice A n c) (.slice A2 m c2)).on (row := none) g1 (by simp)).on (row := none) g2 (by simp)
  have XA := (g2.block (w.heap.size + 1) (by simp) (by simp)).trans (show ((w.alloc (.cells #[.slice A n c, .slice A2 m c2] 31)).alloc (.cells #[.int .i64 k, .int .i64 N] 39)).heap[w.heap.size + 1]? = some (.cells #[.int .i64 k, .int .i64 N] 39 (0, 0)) from by rw [← z1]; exact heap_alloc_new _ _)
  have XR := Db.new ((w.alloc (.cells #[.slice A n c, .slice A2 m c2] 31)).alloc (.cells #[.int .i64 k, .int .i64 N] 39)) (.slice none 0 0) (.slice none 0 0)
  rw [z2] at XR
  have B0 := ((Below.refl w.heap.size w).alloc (Nat.le_refl _) (.cells #[.slice A n c, .slice A2 m c2] 31)).alloc (by simp) (.cells #[.int .i64 k, .int .i64 N] 39)
  replace B0 := B0.alloc (by simp; omega) (.cells #[.slice none 0 0, .slice none 0 0] 31)
  go_enter Tryz.func63, Tryz.ntmps63
  obtain ⟨w0, e0⟩ : ∃ W, ((w.alloc (.cells #[.slice A n c, .slice A2 m c2] 31)).alloc (.cells #[.int .i64 k, .int .i64 N] 39)).alloc (.cells #[.slice none 0 0, .slice none 0 0] 31) = W := ⟨_, rfl⟩
  have hz0 : w0.heap.size = w.heap.size + 3 := by rw [← e0]; simp
  rw [e0] at X0 XA XR B0
  clear g1 g2
  have c0 := X0.c0
  have c1 := X0.c1
  have H0 := h.on B0
  have CK := hid (specDeskOk_any A n c A2 m c2 D w0 H0)
  have CC := hid (fun (W : World) (hW : DkR W W.heap.size A n c A2 m c2 D) => copyDesk_any A n c A2 m c2 D W hW)
  have HX0 := hid X0
  have HXA := hid XA
  have HXR := hid XR
  have HB0 := hid B0
  have HH := hid h
  clear X0 XA XR B0 H0 h z1 z2
  rw [hok] at CK
  go_wp2_with fail
  with_reducible refine Calls.mono CK.out ?_
  rintro e w1 ⟨rfl, g1⟩
  have c0 : w1.cell? ⟨w.heap.size, 0, none⟩ = some (.slice A n c) := (HX0.out.on (row := none) g1 (by simp)).c0
  have c1 : w1.cell? ⟨w.heap.size, 1, none⟩ = some (.slice A2 m c2) := (HX0.out.on (row := none) g1 (by simp)).c1
  have HB1 := hid (HB0.out.trans ((below_grown g1).mono HB0.out.size))
  go_wp2_with fail
  with_reducible refine Calls.mono (CC.out w1 (HH.out.on HB1.out) hok) ?_
  rintro e w2 ⟨A3, c3, A4, c4, rfl, F2, b2⟩
  have HB2 := hid (HB1.out.trans (b2.mono HB1.out.size))
  have gO := grown_alloc w2 (.cells #[.slice A3 n c3, .slice A4 m c4] 31) none
  have hz2 := HB2.out.size
  have hb23 := b2.size
  have hg1z := g1.size
  have Z0 := ((HX0.out.on (row := none) g1 (by simp)).below b2 (by omega)).on (row := none) gO (by simp)
  have ZA := (gO.block (w.heap.size + 1) (by omega) (by simp)).trans ((b2.block (w.heap.size + 1) (by omega)).trans ((g1.block (w.heap.size + 1) (by omega) (by simp)).trans HXA.out))
  have ZR := ((HXR.out.on (row := none) g1 (by simp)).below b2 (by omega)).on (row := none) gO (by simp)
  have ZO := Db.new w2 (.slice A3 n c3) (.slice A4 m c4)
  have F3 := F2.onto gO
  have B3 := HB2.out.alloc hz2 (.cells #[.slice A3 n c3, .slice A4 m c4] 31)
  obtain ⟨w3, e3⟩ : ∃ W, w2.alloc (.cells #[.slice A3 n c3, .slice A4 m c4] 31) = W := ⟨_, rfl⟩
  have hz3 : w3.heap.size = w2.heap.size + 1 := by rw [← e3]; simp
  rw [e3] at Z0 ZA ZR ZO F3 B3
  obtain ⟨o, ho⟩ : ∃ o, w2.heap.size = o := ⟨_, rfl⟩
  rw [ho] at ZO hz3
  have hoB : w.heap.size + 3 ≤ o := by omega
  have x0 := Z0.c0
  have x1 := Z0.c1
  obtain ⟨a0, a1, _, _⟩ := pairCells ZA
  have o0 := ZO.c0
  have o1 := ZO.c1
  have of0 := ZO.fz 0
  have of1 := ZO.fz 1
  have r0 := ZR.c0
  have r1 := ZR.c1
  have rf0 := ZR.fz 0
  have rf1 := ZR.fz 1
  have HZ0 := hid Z0
  have HZR := hid ZR
  have HZO := hid ZO
  have HF3 := hid F3
  have HB3 := hid B3
  have HW1 := hid HB1.out.size
  have HB3z := hid B3.size
  have HG := hid HH.out.cap
  have HP1 := hid HH.out.past.len
  clear c0 c1 HX0 HXA HXR HB0 HB1 HB2 F2 b2 gO Z0 ZA ZR ZO F3 B3 CK g1 hb23 hg1z e0 hz0
  have hnow := (deskOk_iff.1 hok).2.1
  have h8 := (deskOk_iff.1 hok).2.2
  rw [HP1.out] at h8
  have hl1 := (bitsOk_iff.1 hnow).2
  rw [HH.out.now.len] at hl1
  have CM := hid (made_any A n c D.now k N w3 (HH.out.now.on HB3.out) HG.out hnow)
  have HV := hid (show deskDo D (k, N) = (⟨madeL D.now k N, trimL (D.past ++ [D.now])⟩, true) from by unfold deskDo; rw [if_pos hok, if_neg hu, if_neg (by rw [hs]; simp)])
  have hne : (madeL D.now k N).isEmpty = false ∧ madeL D.now k N ≠ D.now := by
    unfold stayB at hs
    rw [Bool.or_eq_false_iff] at hs
    exact ⟨hs.1, by simpa using hs.2⟩
  have hk6 : ¬ k = 6 := by
    intro h6
    have := hne.1
    rw [show madeL D.now k N = [] from by unfold madeL; simp [h6]] at this
    cases this
  have hk6' : (k == 6) = false := by simpa using hk6
  have hmo := made_ok hnow k N hne.1
  obtain ⟨M, hM⟩ : ∃ M, madeL D.now k N = M := ⟨_, rfl⟩
  rw [hM] at CM hne hmo HV
  have hTT := hid (show (rowTextOut M == rowTextOut D.now) = false from by rw [text_eq hmo hnow]; simpa using hne.2)
  have hMl : 0 < M.length := by have := (bitsOk_iff.1 hmo).2; omega
  have hu0 : 0 < m → k = 6 → N = 0 → False := fun h0 h1 h2 => hu (by unfold undoB; rw [h1, h2]; simp; intro h; rw [h] at HP1; have := HP1.out; simp at this; omega)
  clear hM hs hu hne hmo
  go_wp2_with fail
  all_goals clear e3 ho
  all_goals
    with_reducible refine Calls.mono CM.out ?_
    rintro e w4 ⟨A5, m5, c5, rfl, o5, hm5, b5⟩
    have hm5l := o5.1
    have W0 := HZ0.out.below b5 (by omega)
    have WR := HZR.out.below b5 (by omega)
    have WO := HZO.out.below b5 (by omega)
    have y0 := W0.c0
    have y1 := WO.c0
    have y2 := WO.c1
    have y3 := WR.c0
    have y4 := WR.c1
    have y5 := WR.fz 0
    have y6 := WR.fz 1
    have y7 := WO.fz 0
    have y8 := WO.fz 1
    have HWR := hid WR
    have HWO := hid WO
    have HW0 := hid W0
    have F4 := hid (HF3.out.on b5)
    have B4 := hid (HB3.out.trans (b5.mono HB3.out.size))
    have O5 := hid o5
    have hsz4 := b5.size
    clear o5 b5 W0 WR WO x0 x1 a0 a1 o0 o1 of0 of1 r0 r1 rf0 rf1 HZ0 HZR HZO HF3 HB3 CM
    have hm5p : 0 < m5 := by rw [List.length_map] at hm5l; omega
    have hm5i : (0 : Int) < (m5 : Int) := by omega
    have hm5z : ((m5 : Int) == 0) = false := by simp; omega
    have hm5y : ¬ (m5 : Int) = 0 := by omega
    have CT1 := hid (fun (W : World) (hW : Below w4.heap.size w4 W) => specRowText_any A5 m5 c5 M W ((Sl.of_own O5.out).on hW))
    have CT2 := hid (fun (W : World) (hW : Below w.heap.size w W) => specRowText_any A n c D.now W (HH.out.now.on hW))
    have hBd : Below w4.heap.size w4 w4.drew := (Below.refl _ _).drew
    have KX := hid (fun (W : World) (hW : Below w4.drew.heap.size w4.drew W) => show Below w4.heap.size w4 W ∧ Below w.heap.size w W ∧ W.cell? ⟨w.heap.size, 0, none⟩ = some (.slice A n c) from by
      have h1 : Below w4.heap.size w4 W := hBd.trans hW
      exact ⟨h1, B4.out.trans (h1.mono B4.out.size), (HW0.out.below h1 (by omega)).c0⟩)
    go_wp2
    go_region_held3 (fun w' => w'.cell? ⟨w.heap.size, 0, none⟩ = some (.slice A n c))
      (first
        | go_keep
        | assumption)
      (first
        | (go_at_call 64; with_reducible refine Calls.mono (CT1.out _ hBd) ?_; rintro e w5 ⟨rfl, b6⟩; obtain ⟨hB6, hC6, kx⟩ := KX.out _ b6)
        | (go_at_call 64; with_reducible refine Calls.mono (CT2.out _ hC6) ?_; rintro e w6 ⟨rfl, b7⟩; have kz := (b7.cell (p := ⟨w.heap.size, 0, none⟩) (show w.heap.size < w5.heap.size by have := hB6.size; omega)).trans kx))
    have hB7 := hB6.trans (b7.mono hB6.size)
    have F6 := F4.out.on hB7
    have B6 := hid (hC6.trans (b7.mono hC6.size))
    have V0 := HWO.out.below hB7 (by omega)
    have VR := HWR.out.below hB7 (by omega)
    clear y1 y2 y3 y4 y5 y6 y7 y8
    have y1 := V0.c0
    have y2 := V0.c1
    have y7 := V0.fz 0
    have y8 := V0.fz 1
    have y3 := VR.c0
    have y4 := VR.c1
    have y5 := VR.fz 0
    have y6 := VR.fz 1
    have HVR := hid VR
    have HVO := hid V0
    have HF6 := hid F6
    rw [hTT.out]
    obtain ⟨vs, ON, OP, OR⟩ := HF6.out
    have OX := own_on O5.out hB7
    clear F6 V0 VR b6 b7 kx kz HWR HWO F4 HW0 CT1 CT2 KX HF6
    have hsz6 := B6.out.size
    have hw1B : w.heap.size ≤ w1.heap.size := HW1.out
    have OP' := own_mono (base' := w.heap.size) OP hw1B
    have ga6 := grown_alloc w6 (.cells #[.slice A3 n c3] 28) none
    have oP2 := own_kept_none OP' ga6
    have U0 := HVO.out.on (row := none) ga6 (by simp)
    have UR := HVR.out.on (row := none) ga6 (by simp)
    have hHQ := hid hsz6
    have HR6 := hid ((OR.mono hw1B).onto ga6)
    have HN6 := hid (own_kept_none (own_mono (base' := w.heap.size) ON hw1B) ga6)
    have HX6 := hid (own_kept_none (own_mono (base' := w.heap.size) OX HB3z.out) ga6)
    have HB6 := hid (B6.out.alloc hsz6 (.cells #[.slice A3 n c3] 28))
    have HP2 := hid oP2
    clear OR ON OX
    by_cases h8m : m = 8
    · have c8a : (m : Int) + 1 > 8 := by omega
      have c8b : (8 : Int) < (m : Int) + 1 := by omega
      have c8c : decide ((8 : Int) < (m : Int) + 1) = true := by simp; omega
      have c8d : (1 : Int) ≤ (m : Int) + 1 := by omega
      have H8 := hid h8m
      clear h8m
      go_wp2_with (at_builtin; refine wpList_append_own _ rfl _ _ 29 rfl w.heap.size 28 j0 (.slice none 0 0) 1 24 Tryz.underlying29 hj hjz0 hjz1 hjz2 rfl (by decide) (.slice A4 m c4) _ _ rfl oP2 ⟨w6.heap.size, 0, none⟩ 1 1 [.slice A3 n c3] rfl rfl (cell_one_new w6 _ _) (by simp [Value.oneCell']) (by simp only [maxLen]; omega) (by omega) (by simp; omega) ?_; intro v7 w7 o7 g7 _; obtain ⟨g7b, c7, rfl, hg7b, hlt7⟩ := own_shape1 o7 (by omega); have U7 := U0.on g7 (U0.ne_row oP2); have u0 := U7.c0; have u1 := U7.c1; have t0 := U7.fz 0; have t1 := U7.fz 1; have UR7 := UR.on g7 (UR.ne_row oP2); have q0 := UR7.c0; have q1 := UR7.c1; have q2 := UR7.fz 0; have q3 := UR7.fz 1; have hcc := own_capK o7; have k8 : (1 : Int) ≤ (c7 : Int) := (by omega); have k9 : 1 ≤ c7 := (by omega); have k10 : (m : Int) + 1 ≤ (c7 : Int) := (by omega))
      have HK : ∀ k, k ≠ o → k ≠ w.heap.size + 2 → (((((w7.setCell ⟨o, 1, none⟩ (.slice (some ⟨g7b, 0, none⟩) (m + 1) c7)).setCell ⟨o, 1, none⟩ (.slice (some ⟨g7b, 1, none⟩) m (c7 - 1))).setCell ⟨o, 0, none⟩ (.slice A5 m5 c5)).setCell ⟨w.heap.size + 1 + 1, 0, none⟩ (.slice A5 m5 c5)).setCell ⟨w.heap.size + 1 + 1, 1, none⟩ (.slice (some ⟨g7b, 1, none⟩) m (c7 - 1))).heap[k]? = w7.heap[k]? := fun k h1 h2 =>
        (heap_setCell_other _ _ _ _ h2).trans ((heap_setCell_other _ _ _ _ h2).trans ((heap_setCell_other _ _ _ _ h1).trans ((heap_setCell_other _ _ _ _ h1).trans (heap_setCell_other _ _ _ _ h1))))
      have RX := (HR6.out.beside HP2.out g7).snoc ⟨_, _, _, rfl, own_beside HN6.out HP2.out g7⟩
      have X7 := own_beside HX6.out HP2.out g7
      have FX := own_same X7 (fun k hk => HK k (fun e => U7.ne_int X7 (by rw [hk, e])) (fun e => UR7.ne_int X7 (by rw [hk, e])))
      have FP := own_same o7 (fun k hk => HK k (fun e => U7.ne_row o7 (by rw [hk, e])) (fun e => UR7.ne_row o7 (by rw [hk, e])))
      have FR := RX.keep (fun v n xs ho => own_same ho (fun k hk => HK k (fun e => U7.ne_int ho (by rw [hk, e])) (fun e => UR7.ne_int ho (by rw [hk, e]))))
      have FD := ((((UR7.other (g := o) (by omega) 1 (.slice (some ⟨g7b, 0, none⟩) (m + 1) c7)).other (g := o) (by omega) 1 (.slice (some ⟨g7b, 1, none⟩) m (c7 - 1))).other (g := o) (by omega) 0 (.slice A5 m5 c5)).set (.slice A5 m5 c5) (.slice (some ⟨g7b, 1, none⟩) m (c7 - 1)))
      have FB := (((((HB6.out.grown g7 (by have := hHQ.out; simp; omega) (by intro j hj; exact (HP2.out.lt j hj).1)).setCell (p := ⟨o, 1, none⟩) (show w.heap.size ≤ o by omega) (.slice (some ⟨g7b, 0, none⟩) (m + 1) c7)).setCell (p := ⟨o, 1, none⟩) (show w.heap.size ≤ o by omega) (.slice (some ⟨g7b, 1, none⟩) m (c7 - 1))).setCell (p := ⟨o, 0, none⟩) (show w.heap.size ≤ o by omega) (.slice A5 m5 c5)).setCell (p := ⟨w.heap.size + 1 + 1, 0, none⟩) (show w.heap.size ≤ w.heap.size + 1 + 1 by omega) (.slice A5 m5 c5)).setCell (p := ⟨w.heap.size + 1 + 1, 1, none⟩) (show w.heap.size ≤ w.heap.size + 1 + 1 by omega) (.slice (some ⟨g7b, 1, none⟩) m (c7 - 1))
      have hTR : trimL (D.past ++ [D.now]) = (D.past ++ [D.now]).drop 1 := by unfold trimL; rw [if_pos (by rw [List.length_append, HP1.out, H8.out]; simp)]
      (try simp only [Exit.inBlock, Exit.then])
      refine bodyPost_ret (results_db rfl _ _ (w.heap.size + 2) 31 _ (0, 0) _ (by simp [Act.put]) FD Tryz.underlying31 rfl size_desk) rfl ?_
      exact ⟨A5, m5, c5, some ⟨g7b, 1, none⟩, m, c7 - 1, by rw [HV.out]; rfl, by rw [HV.out]; exact ⟨⟨own_mono FX (Nat.le_refl _), by omega, .inr ⟨g7b, 1, m + 1, c7, _, rfl, FP, by omega, by rw [hTR, List.take_of_length_le (by rw [List.length_drop]; have := FP.1; omega)]; exact FR.dropK⟩⟩, fun h => absurd h (by rw [HP1.out, H8.out]; omega)⟩, FB⟩
    · have c8b : ¬ (8 : Int) < (m : Int) + 1 := by omega
      have c8c : decide ((8 : Int) < (m : Int) + 1) = false := by simp; omega
      go_wp2_with (at_builtin; refine wpList_append_own _ rfl _ _ 29 rfl w.heap.size 28 j0 (.slice none 0 0) 1 24 Tryz.underlying29 hj hjz0 hjz1 hjz2 rfl (by decide) (.slice A4 m c4) _ _ rfl oP2 ⟨w6.heap.size, 0, none⟩ 1 1 [.slice A3 n c3] rfl rfl (cell_one_new w6 _ _) (by simp [Value.oneCell']) (by simp only [maxLen]; omega) (by omega) (by simp; omega) ?_; intro v7 w7 o7 g7 _; obtain ⟨g7b, c7, rfl, hg7b, hlt7⟩ := own_shape1 o7 (by omega); have U7 := U0.on g7 (U0.ne_row oP2); have u0 := U7.c0; have u1 := U7.c1; have t0 := U7.fz 0; have t1 := U7.fz 1; have UR7 := UR.on g7 (UR.ne_row oP2); have q0 := UR7.c0; have q1 := UR7.c1; have q2 := UR7.fz 0; have q3 := UR7.fz 1; have hcc := own_capK o7; have k8 : (1 : Int) ≤ (c7 : Int) := (by omega); have k9 : 1 ≤ c7 := (by omega); have k10 : (m : Int) + 1 ≤ (c7 : Int) := (by omega))
      have HK : ∀ k, k ≠ o → k ≠ w.heap.size + 2 → ((((w7.setCell ⟨o, 1, none⟩ (.slice (some ⟨g7b, 0, none⟩) (m + 1) c7)).setCell ⟨o, 0, none⟩ (.slice A5 m5 c5)).setCell ⟨w.heap.size + 1 + 1, 0, none⟩ (.slice A5 m5 c5)).setCell ⟨w.heap.size + 1 + 1, 1, none⟩ (.slice (some ⟨g7b, 0, none⟩) (m + 1) c7)).heap[k]? = w7.heap[k]? := fun k h1 h2 =>
        (heap_setCell_other _ _ _ _ h2).trans ((heap_setCell_other _ _ _ _ h2).trans ((heap_setCell_other _ _ _ _ h1).trans (heap_setCell_other _ _ _ _ h1)))
      have RX := (HR6.out.beside HP2.out g7).snoc ⟨_, _, _, rfl, own_beside HN6.out HP2.out g7⟩
      have X7 := own_beside HX6.out HP2.out g7
      have FX := own_same X7 (fun k hk => HK k (fun e => U7.ne_int X7 (by rw [hk, e])) (fun e => UR7.ne_int X7 (by rw [hk, e])))
      have FP := own_same o7 (fun k hk => HK k (fun e => U7.ne_row o7 (by rw [hk, e])) (fun e => UR7.ne_row o7 (by rw [hk, e])))
      have FR := RX.keep (fun v n xs ho => own_same ho (fun k hk => HK k (fun e => U7.ne_int ho (by rw [hk, e])) (fun e => UR7.ne_int ho (by rw [hk, e]))))
      have FD := (((UR7.other (g := o) (by omega) 1 (.slice (some ⟨g7b, 0, none⟩) (m + 1) c7)).other (g := o) (by omega) 0 (.slice A5 m5 c5)).set (.slice A5 m5 c5) (.slice (some ⟨g7b, 0, none⟩) (m + 1) c7))
      have FB := ((((HB6.out.grown g7 (by have := hHQ.out; simp; omega) (by intro j hj; exact (HP2.out.lt j hj).1)).setCell (p := ⟨o, 1, none⟩) (show w.heap.size ≤ o by omega) (.slice (some ⟨g7b, 0, none⟩) (m + 1) c7)).setCell (p := ⟨o, 0, none⟩) (show w.heap.size ≤ o by omega) (.slice A5 m5 c5)).setCell (p := ⟨w.heap.size + 1 + 1, 0, none⟩) (show w.heap.size ≤ w.heap.size + 1 + 1 by omega) (.slice A5 m5 c5)).setCell (p := ⟨w.heap.size + 1 + 1, 1, none⟩) (show w.heap.size ≤ w.heap.size + 1 + 1 by omega) (.slice (some ⟨g7b, 0, none⟩) (m + 1) c7)
      have hTR : trimL (D.past ++ [D.now]) = D.past ++ [D.now] := by unfold trimL; rw [if_neg (by rw [List.length_append, HP1.out]; simp; omega)]
      (try simp only [Exit.inBlock, Exit.then])
      refine bodyPost_ret (results_db rfl _ _ (w.heap.size + 2) 31 _ (0, 0) _ (by simp [Act.put]) FD Tryz.underlying31 rfl size_desk) rfl ?_
      exact ⟨A5, m5, c5, some ⟨g7b, 0, none⟩, m + 1, c7, by rw [HV.out]; rfl, by rw [HV.out]; exact ⟨DkG.of_own ⟨_, FX, FP, by rw [hTR]; exact FR⟩, fun _ => ⟨_, FX, FP, by rw [hTR]; exact FR⟩⟩, FB⟩
end Go.Proofs.YtkejcajboneniabGreatDoor
