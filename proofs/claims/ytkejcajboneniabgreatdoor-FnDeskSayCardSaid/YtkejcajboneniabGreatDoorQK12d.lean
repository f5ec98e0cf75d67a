/-
  Texts put together: K12d. No statement is proved here.
-/
import Derived.Test.YtkejcajboneniabGreatDoorQK12c
import Derived.Test.YtkejcajboneniabGreatDoorQMd
import Derived.Test.YtkejcajboneniabGreatDoorQDr12
set_option linter.unusedVariables false
set_option linter.unusedSimpArgs false
namespace Go.Proofs.YtkejcajboneniabGreatDoor
open Go.RowKit

theorem rowB_inj : ∀ {a b : List Int}, (∀ x ∈ a, x = 0 ∨ x = 1) → (∀ x ∈ b, x = 0 ∨ x = 1) → rowB a = rowB b → a = b
  | [], [], _, _, _ => rfl
  | [], y :: b, _, _, h => by simp [rowB] at h
  | x :: a, [], _, _, h => by simp [rowB] at h
  | x :: a, y :: b, ha, hb, h => by
    have hx := ha x (by simp)
    have hy := hb y (by simp)
    have h' : digB x.toNat = digB y.toNat ∧ rowB a = rowB b := by
      simp only [rowB, List.map_cons, List.cons.injEq] at h
      exact h
    have hxy : x = y := by
      rcases hx with rfl | rfl <;> rcases hy with rfl | rfl <;> first | rfl | (exact absurd h'.1 (by decide))
    rw [hxy, rowB_inj (fun z hz => ha z (by simp [hz])) (fun z hz => hb z (by simp [hz])) h'.2]
theorem text_eq {a b : List Int} (ha : bitsOk a = true) (hb : bitsOk b = true) : (rowTextOut a == rowTextOut b) = decide (a = b) := by
  unfold rowTextOut
  rw [if_pos ha, if_pos hb, Bool.eq_iff_iff, beq_iff_eq, decide_eq_true_iff]
  exact ⟨rowB_inj (bitsOk_iff.1 ha).1 (bitsOk_iff.1 hb).1, fun h => by rw [h]⟩

theorem Rows.dropK {w : World} {B k : Nat} {vs : List Value} {ls : List (List Int)} (h : Rows w B vs ls) : Rows w B (vs.drop k) (ls.drop k) := by
  refine ⟨by rw [List.length_drop, List.length_drop, h.1], fun j v l hv hl => ?_⟩
  rw [List.getElem?_drop] at hv hl
  exact h.2 (k + j) v l hv hl
/-- A desk of one's own; what was before may be a piece of a row of one's own. -/
def DkG (w : World) (B : Nat) (A : Option Addr) (n c : Nat) (A2 : Option Addr) (m c2 : Nat) (D : Dk) : Prop :=
  w.ownsRow B 3 1 (.slice A n c) n (ints D.now) ∧ (m ≤ c2 ∧ c2 ≤ 9223372036854775807) ∧
    ((A2 = none ∧ m = 0 ∧ D.past = []) ∨ ∃ (g off M C : Nat) (V : List Value), A2 = some ⟨g, off, none⟩ ∧ w.ownsRow B 28 1 (.slice (some ⟨g, 0, none⟩) M C) M V ∧ off + m ≤ M ∧ Rows w B ((V.drop off).take m) D.past)
section
variable {w w' : World} {B B' n c m c2 : Nat} {A A2 : Option Addr} {D : Dk}
theorem DkG.keep (h : DkG w B A n c A2 m c2 D) (h1 : ∀ v n xs, w.ownsRow B 3 1 v n xs → w'.ownsRow B' 3 1 v n xs) (h2 : ∀ v n xs, w.ownsRow B 28 1 v n xs → w'.ownsRow B' 28 1 v n xs) : DkG w' B' A n c A2 m c2 D := by
  refine ⟨h1 _ _ _ h.1, h.2.1, ?_⟩
  rcases h.2.2 with h3 | ⟨g, off, M, C, V, e, ho, hm, hr⟩
  · exact .inl h3
  · exact .inr ⟨g, off, M, C, V, e, h2 _ _ _ ho, hm, hr.1, fun j v l hv hl => by
      obtain ⟨A3, n3, c3, e3, ho3⟩ := hr.2 j v l hv hl
      exact ⟨A3, n3, c3, e3, h1 _ _ _ ho3⟩⟩
theorem DkG.on (h : DkG w B A n c A2 m c2 D) (hb : Below w.heap.size w w') : DkG w' B A n c A2 m c2 D := h.keep (fun _ _ _ ho => own_on ho hb) (fun _ _ _ ho => own_on ho hb)
theorem DkG.onto (h : DkG w B A n c A2 m c2 D) (hg : w.grownBy w' none) : DkG w' B A n c A2 m c2 D := h.keep (fun _ _ _ ho => own_kept_none ho hg) (fun _ _ _ ho => own_kept_none ho hg)
theorem DkG.mono (h : DkG w B A n c A2 m c2 D) (hB : B' ≤ B) : DkG w B' A n c A2 m c2 D := h.keep (fun _ _ _ ho => own_mono ho hB) (fun _ _ _ ho => own_mono ho hB)
theorem DkG.box2 {b : Nat} {u v : Value} (h : DkG w B A n c A2 m c2 D) (hd : Db w b u v) (x y : Value) : DkG ((w.setCell ⟨b, 0, none⟩ x).setCell ⟨b, 1, none⟩ y) B A n c A2 m c2 D :=
  h.keep (fun _ _ _ ho => own_box y (own_box x ho (hd.ne_int ho)) ((hd.set0 x).ne_int (own_box (k := 0) x ho (hd.ne_int ho)))) (fun _ _ _ ho => own_box y (own_box x ho (hd.ne_row ho)) ((hd.set0 x).ne_row (own_box (k := 0) x ho (hd.ne_row ho))))
theorem DkG.of_own (h : DkF w B A n c A2 m c2 D) : DkG w B A n c A2 m c2 D := by
  obtain ⟨vs, h1, h2, h3⟩ := h
  refine ⟨h1, own_capK h2, ?_⟩
  rcases h2.2 with ⟨e, hm⟩ | ⟨g, cap, cur, e, _⟩
  · injection e with e1 e2 e3
    refine .inl ⟨e1, hm, ?_⟩
    have hl := h2.1
    have := h3.1
    exact List.eq_nil_of_length_eq_zero (by omega)
  · injection e with e1 e2 e3
    subst e1
    have hl := h2.1
    refine .inr ⟨g, 0, m, c2, vs, rfl, h2, by omega, ?_⟩
    rw [List.drop_zero, List.take_of_length_le (by omega)]
    exact h3
theorem DkG.read (h : DkG w B A n c A2 m c2 D) : DkR w w.heap.size A n c A2 m c2 D := by
  refine ⟨Sl.of_own h.1, ?_, own_capK h.1, h.2.1⟩
  rcases h.2.2 with ⟨rfl, rfl, e⟩ | ⟨g, off, M, C, V, rfl, ho, hm, hr⟩
  · rw [e]; exact SlS.nil _ _
  · have hl := ho.1
    refine ⟨(V.drop off).take m, ⟨by rw [List.length_take, List.length_drop]; omega, by have := h.2.1; simp only [maxLen]; omega, fun h0 => ⟨g, off, rfl, ?_, fun j v hv => ?_⟩⟩, hr.1, fun j v l h1 h2 => ?_⟩
    · exact (ho.lt g rfl).2
    · have hj : j < m := by have := (List.getElem?_eq_some_iff.1 hv).1; rw [List.length_take] at this; omega
      rw [ho.cellAt (off + j) (by omega)]
      rw [List.getElem?_take, if_pos hj, List.getElem?_drop] at hv
      exact hv
    · obtain ⟨A3, n3, c3, e3, ho3⟩ := hr.2 j v l h1 h2
      exact ⟨A3, n3, c3, e3, Sl.of_own ho3, own_capK ho3⟩
theorem DkG.no (w : World) (B : Nat) : DkG w B none 0 0 none 0 0 noDk := DkG.of_own (DkF.no w B)
end
/-- What DeskDo hands back: a desk of the call's own, whole rows where the desk was not full. -/
def DkP (w : World) (B q : Nat) (A : Option Addr) (n c : Nat) (A2 : Option Addr) (m c2 : Nat) (D : Dk) : Prop := DkG w B A n c A2 m c2 D ∧ (q < 8 → DkF w B A n c A2 m c2 D)
theorem own_cutK {w : World} {B n k c : Nat} {A : Option Addr} {e : TypeId} {xs : List Value} (h : w.ownsRow B e 1 (.slice A n c) n xs) (hk : k ≤ n) (hA : A ≠ none) : w.ownsRow B e 1 (.slice A k c) k (xs.take k) := by
  have hl := h.1
  refine ⟨by rw [List.length_take]; omega, ?_⟩
  rcases h.2 with ⟨h1, h2⟩ | ⟨g, cap, cur, h1, h2, h3, h4, h5, h6, h7⟩
  · injection h1 with h1; exact absurd h1 hA
  · injection h1 with e1 e2 e3
    subst e1; subst e3
    refine .inr ⟨g, c, cur, rfl, h2, h3, Nat.le_trans hk h4, h5, h6, ?_⟩
    rw [← h7, List.take_take, Nat.min_eq_left (by omega), Nat.mul_one]
theorem Rows.cutK {w : World} {B k : Nat} {vs : List Value} {ls : List (List Int)} (h : Rows w B vs ls) : Rows w B (vs.take k) (ls.take k) := by
  refine ⟨by rw [List.length_take, List.length_take, h.1], fun j v l hv hl => ?_⟩
  rw [List.getElem?_take] at hv hl
  split at hv
  · rename_i hj
    rw [if_pos hj] at hl
    exact h.2 j v l hv hl
  · cases hv

set_option maxRecDepth 100000 in
set_option maxHeartbeats 3200000 in
theorem deskDo_stay (A : Option Addr) (n c : Nat) (A2 : Option Addr) (m c2 : Nat) (D : Dk) (k N : Int) (w : World) (h : DkR w w.heap.size A n c A2 m c2 D) (hq : deskOk D = true → ¬ undoB D k N = true ∧ stayB D k N = true) :
    Calls Tryz.prog 63 #[dsk A n c A2 m c2, deed k N] w fun e w' => ∃ A3 n3 c3 A4 m4 c4, e = .returned (.tuple #[dsk A3 n3 c3 A4 m4 c4, .bool (deskDo D (k, N)).2]) ∧ DkP w' w.heap.size D.past.length A3 n3 c3 A4 m4 c4 (deskDo D (k, N)).1 ∧ Below w.heap.size w w' := by
  obtain ⟨j0, hj, hjz0, hjz1, hjz2⟩ := info_rows
  have z1 : (w.alloc (.cells #[.slice A n c, .slice A2 m c2] 31)).heap.size = w.heap.size + 1 := by simp
  have z2 : ((w.alloc (.cells #[.slice A n c, .slice A2 m c2] 31)).alloc (.cells #[.int .i64 k, .int .i64 N] 39)).heap.size = w.heap.size + 2 := by simp
  have g1 := grown_alloc (w.alloc (.cells #[.slice A n c, .slice A2 m c2] 31)) (.cells #[.int .i64 k, .int .i64 N] 39) none
  have g2 := grown_alloc ((w.alloc (.cells #[.slice A n c, .slice A2 m c2] 31)).alloc (.cells #[.int .i64 k, .int .i64 N] 39)) (.cells #[.slice none 0 0, .slice none 0 0] 31) none
  have X0 := ((Db.new w (.slice A n c) (.slice A2 m c2)).on (row := none) g1 (by simp)).on (row := none) g2 (by simp)
  have XA := (g2.block (w.heap.size + 1) (by simp) (by simp)).trans (show ((w.alloc (.cells #[.slice A n c, .slice A2 m c2] 31)).alloc (.cells #[.int .i64 k, .int .i64 N] 39)).heap[w.heap.size + 1]? = some (.cells #[.int .i64 k, .int .i64 N] 39 (0, 0)) from by rw [← z1]; exact heap_alloc_new _ _)
  have XR := Db.new ((w.alloc (.cells #[.slice A n c, .slice A2 m c2] 31)).alloc (.cells #[.int .i64 k, .int .i64 N] 39)) (.slice none 0 0) (.slice none 0 0)
  rw [z2] at XR
  have B0 := ((Below.refl w.heap.size w).alloc (Nat.le_refl _) (.cells #[.slice A n c, .slice A2 m c2] 31)).alloc (by simp) (.cells #[.int .i64 k, .int .i64 N] 39)
  replace B0 := B0.alloc (by simp; omega) (.cells #[.slice none 0 0, .slice none 0 0] 31)
  go_enter Tryz.func63, Tryz.ntmps63
  obtain ⟨w0, e0⟩ : ∃ W, ((w.alloc (.cells #[.slice A n c, .slice A2 m c2] 31)).alloc (.cells #[.int .i64 k, .int .i64 N] 39)).alloc (.cells #[.slice none 0 0, .slice none 0 0] 31) = W := ⟨_, rfl⟩
  have hz0 : w0.heap.size = w.heap.size + 3 := by rw [← e0]; simp
  rw [e0] at X0 XA XR B0
  clear g1 g2
  have c0 := X0.c0
  have c1 := X0.c1
  have H0 := h.on B0
  have CK := hid (specDeskOk_any A n c A2 m c2 D w0 H0)
  have CC := hid (fun (W : World) (hW : DkR W W.heap.size A n c A2 m c2 D) => copyDesk_any A n c A2 m c2 D W hW)
  have HX0 := hid X0
  have HXA := hid XA
  have HXR := hid XR
  have HB0 := hid B0
  have HH := hid h
  clear X0 XA XR B0 H0 h z1 z2
  cases hok : deskOk D with
  | false =>
    have HV := hid (show deskDo D (k, N) = (noDk, false) from by unfold deskDo; rw [hok]; rfl)
    rw [hok] at CK
    clear hok
    go_wp2_with fail
    with_reducible refine Calls.mono CK.out ?_
    rintro e w1 ⟨rfl, g1⟩
    have Y := HXR.out.on (row := none) g1 (by simp)
    have d0 := Y.c0
    have d1 := Y.c1
    have f0 := Y.fz 0
    have f1 := Y.fz 1
    have HY := hid Y
    have HB1 := hid (HB0.out.trans ((below_grown g1).mono HB0.out.size))
    clear Y g1 e0
    go_wp2
    (try simp only [Exit.inBlock, Exit.then])
    refine bodyPost_ret (results_db rfl _ _ (w.heap.size + 2) 31 _ (0, 0) _ (by simp [Act.put]) (HY.out.set _ _) Tryz.underlying31 rfl size_desk) rfl ?_
    exact ⟨none, 0, 0, none, 0, 0, by rw [HV.out]; rfl, by rw [HV.out]; exact ⟨DkG.no _ _, fun _ => DkF.no _ _⟩, (HB1.out.setCell (p := ⟨w.heap.size + 2, 0, none⟩) (by simp) _).setCell (p := ⟨w.heap.size + 2, 1, none⟩) (by simp) _⟩
  | true =>
    rw [hok] at CK
    go_wp2_with fail
    with_reducible refine Calls.mono CK.out ?_
    rintro e w1 ⟨rfl, g1⟩
    have c0 : w1.cell? ⟨w.heap.size, 0, none⟩ = some (.slice A n c) := (HX0.out.on (row := none) g1 (by simp)).c0
    have c1 : w1.cell? ⟨w.heap.size, 1, none⟩ = some (.slice A2 m c2) := (HX0.out.on (row := none) g1 (by simp)).c1
    have HB1 := hid (HB0.out.trans ((below_grown g1).mono HB0.out.size))
    go_wp2_with fail
    with_reducible refine Calls.mono (CC.out w1 (HH.out.on HB1.out) hok) ?_
    rintro e w2 ⟨A3, c3, A4, c4, rfl, F2, b2⟩
    have HB2 := hid (HB1.out.trans (b2.mono HB1.out.size))
    have gO := grown_alloc w2 (.cells #[.slice A3 n c3, .slice A4 m c4] 31) none
    have hz2 := HB2.out.size
    have hb23 := b2.size
    have hg1z := g1.size
    have Z0 := ((HX0.out.on (row := none) g1 (by simp)).below b2 (by omega)).on (row := none) gO (by simp)
    have ZA := (gO.block (w.heap.size + 1) (by omega) (by simp)).trans ((b2.block (w.heap.size + 1) (by omega)).trans ((g1.block (w.heap.size + 1) (by omega) (by simp)).trans HXA.out))
    have ZR := ((HXR.out.on (row := none) g1 (by simp)).below b2 (by omega)).on (row := none) gO (by simp)
    have ZO := Db.new w2 (.slice A3 n c3) (.slice A4 m c4)
    have F3 := F2.onto gO
    have B3 := HB2.out.alloc hz2 (.cells #[.slice A3 n c3, .slice A4 m c4] 31)
    obtain ⟨w3, e3⟩ : ∃ W, w2.alloc (.cells #[.slice A3 n c3, .slice A4 m c4] 31) = W := ⟨_, rfl⟩
    have hz3 : w3.heap.size = w2.heap.size + 1 := by rw [← e3]; simp
    rw [e3] at Z0 ZA ZR ZO F3 B3
    obtain ⟨o, ho⟩ : ∃ o, w2.heap.size = o := ⟨_, rfl⟩
    rw [ho] at ZO hz3
    have hoB : w.heap.size + 3 ≤ o := by omega
    have x0 := Z0.c0
    have x1 := Z0.c1
    obtain ⟨a0, a1, _, _⟩ := pairCells ZA
    have o0 := ZO.c0
    have o1 := ZO.c1
    have of0 := ZO.fz 0
    have of1 := ZO.fz 1
    have r0 := ZR.c0
    have r1 := ZR.c1
    have rf0 := ZR.fz 0
    have rf1 := ZR.fz 1
    have HZ0 := hid Z0
    have HZR := hid ZR
    have HZO := hid ZO
    have HF3 := hid F3
    have HB3 := hid B3
    have HW1 := hid HB1.out.size
    have HG := hid HH.out.cap
    have HP1 := hid HH.out.past.len
    clear c0 c1 HX0 HXA HXR HB0 HB1 HB2 F2 b2 gO Z0 ZA ZR ZO F3 B3 CK g1 hb23 hg1z e0 hz0
    have hnow := (deskOk_iff.1 hok).2.1
    have h8 := (deskOk_iff.1 hok).2.2
    rw [HP1.out] at h8
    have hl1 := (bitsOk_iff.1 hnow).2
    rw [HH.out.now.len] at hl1
    obtain ⟨hu, hs⟩ := hq hok
    · have CM := hid (made_any A n c D.now k N w3 (HH.out.now.on HB3.out) HG.out hnow)
      · skip
        have HV := hid (show deskDo D (k, N) = (D, false) from by unfold deskDo; rw [if_pos hok, if_neg hu, if_pos hs])
        have hs' : madeL D.now k N = [] ∨ madeL D.now k N = D.now := by
          unfold stayB at hs
          simpa using hs
        obtain ⟨M, hM⟩ : ∃ M, madeL D.now k N = M := ⟨_, rfl⟩
        rw [hM] at CM hs'
        clear hM hs
        have hu0 : 0 < m → k = 6 → N = 0 → False := fun h0 h1 h2 => hu (by unfold undoB; rw [h1, h2]; simp; intro h; rw [h] at HP1; have := HP1.out; simp at this; omega)
        clear hu
        by_cases hme : M = []
        · subst hme
          clear hs'
          go_wp2_with fail
          all_goals try subst k
          all_goals try subst N
          all_goals
            clear e3 ho
            first
              | (exfalso; refine hu0 ?_ rfl rfl; omega)
              | skip
          all_goals
            with_reducible refine Calls.mono CM.out ?_
            rintro e w4 ⟨A5, m5, c5, rfl, o5, hm5, b5⟩
            have hm5l := o5.1
            have W0 := HZ0.out.below b5 (by omega)
            have WR := HZR.out.below b5 (by omega)
            have WO := HZO.out.below b5 (by omega)
            have y0 := W0.c0
            have y1 := WO.c0
            have y2 := WO.c1
            have y3 := WR.c0
            have y4 := WR.c1
            have y5 := WR.fz 0
            have y6 := WR.fz 1
            have y7 := WO.fz 0
            have y8 := WO.fz 1
            have HWR := hid WR
            have HWO := hid WO
            have HW0 := hid W0
            have F4 := hid (HF3.out.on b5)
            have B4 := hid (HB3.out.trans (b5.mono HB3.out.size))
            have O5 := hid o5
            have hsz4 := b5.size
            clear o5 b5 W0 WR WO x0 x1 a0 a1 o0 o1 of0 of1 r0 r1 rf0 rf1 HZ0 HZR HZO HF3 HB3 CM
            obtain rfl : m5 = 0 := by simpa using hm5l.symm
            go_wp2
            go_region
            go_wp2
            (try simp only [Exit.inBlock, Exit.then])
            refine bodyPost_ret (results_db rfl _ _ (w.heap.size + 2) 31 _ (0, 0) _ (by simp [Act.put]) (HWR.out.set (.slice A3 n c3) (.slice A4 m c4)) Tryz.underlying31 rfl size_desk) rfl ?_
            exact ⟨A3, n, c3, A4, m, c4, by rw [HV.out]; rfl, by rw [HV.out]; exact ⟨DkG.of_own (((F4.out.box2 HWR.out _ _).onto (drewN_gA _ 1)).mono HW1.out), fun _ => ((F4.out.box2 HWR.out _ _).onto (drewN_gA _ 1)).mono HW1.out⟩, ((B4.out.setCell (p := ⟨w.heap.size + 2, 0, none⟩) (by simp) _).setCell (p := ⟨w.heap.size + 2, 1, none⟩) (by simp) _).drew⟩
        · have hMe : M = D.now := hs'.resolve_left hme
          have hMl : 0 < M.length := List.length_pos_iff.2 hme
          have hTT := hid (show (rowTextOut M == rowTextOut D.now) = true from by rw [text_eq (by rw [hMe]; exact hnow) hnow, hMe]; simp)
          clear hs' hMe
          go_wp2_with fail
          all_goals try subst k
          all_goals try subst N
          all_goals
            clear e3 ho
            first
              | (exfalso; refine hu0 ?_ rfl rfl; omega)
              | skip
          all_goals
            with_reducible refine Calls.mono CM.out ?_
            rintro e w4 ⟨A5, m5, c5, rfl, o5, hm5, b5⟩
            have hm5l := o5.1
            have W0 := HZ0.out.below b5 (by omega)
            have WR := HZR.out.below b5 (by omega)
            have WO := HZO.out.below b5 (by omega)
            have y0 := W0.c0
            have y1 := WO.c0
            have y2 := WO.c1
            have y3 := WR.c0
            have y4 := WR.c1
            have y5 := WR.fz 0
            have y6 := WR.fz 1
            have y7 := WO.fz 0
            have y8 := WO.fz 1
            have HWR := hid WR
            have HWO := hid WO
            have HW0 := hid W0
            have F4 := hid (HF3.out.on b5)
            have B4 := hid (HB3.out.trans (b5.mono HB3.out.size))
            have O5 := hid o5
            have hsz4 := b5.size
            clear o5 b5 W0 WR WO x0 x1 a0 a1 o0 o1 of0 of1 r0 r1 rf0 rf1 HZ0 HZR HZO HF3 HB3 CM
            have hm5p : 0 < m5 := by rw [List.length_map] at hm5l; omega
            have hm5i : (0 : Int) < (m5 : Int) := by omega
            have hm5z : ((m5 : Int) == 0) = false := by simp; omega
            have hm5y : ¬ (m5 : Int) = 0 := by omega
            have CT1 := hid (fun (W : World) (hW : Below w4.heap.size w4 W) => specRowText_any A5 m5 c5 M W ((Sl.of_own O5.out).on hW))
            have CT2 := hid (fun (W : World) (hW : Below w.heap.size w W) => specRowText_any A n c D.now W (HH.out.now.on hW))
            have hBd : Below w4.heap.size w4 w4.drew := (Below.refl _ _).drew
            have KX := hid (fun (W : World) (hW : Below w4.drew.heap.size w4.drew W) => show Below w4.heap.size w4 W ∧ Below w.heap.size w W ∧ W.cell? ⟨w.heap.size, 0, none⟩ = some (.slice A n c) from by
              have h1 : Below w4.heap.size w4 W := hBd.trans hW
              exact ⟨h1, B4.out.trans (h1.mono B4.out.size), (HW0.out.below h1 (by omega)).c0⟩)
            go_wp2
            go_region_held3 (fun w' => w'.cell? ⟨w.heap.size, 0, none⟩ = some (.slice A n c))
              (first
                | go_keep
                | assumption)
              (first
                | (go_at_call 64; with_reducible refine Calls.mono (CT1.out _ hBd) ?_; rintro e w5 ⟨rfl, b6⟩; obtain ⟨hB6, hC6, kx⟩ := KX.out _ b6)
                | (go_at_call 64; with_reducible refine Calls.mono (CT2.out _ hC6) ?_; rintro e w6 ⟨rfl, b7⟩; have kz := (b7.cell (p := ⟨w.heap.size, 0, none⟩) (show w.heap.size < w5.heap.size by have := hB6.size; omega)).trans kx))
            have hB7 := hB6.trans (b7.mono hB6.size)
            have F6 := F4.out.on hB7
            have B6 := hid (hC6.trans (b7.mono hC6.size))
            have V0 := HWO.out.below hB7 (by omega)
            have VR := HWR.out.below hB7 (by omega)
            clear y1 y2 y3 y4 y5 y6 y7 y8
            have y1 := V0.c0
            have y2 := V0.c1
            have y7 := V0.fz 0
            have y8 := V0.fz 1
            have y3 := VR.c0
            have y4 := VR.c1
            have y5 := VR.fz 0
            have y6 := VR.fz 1
            have HVR := hid VR
            have HVO := hid V0
            have HF6 := hid F6
            rw [hTT.out]
            clear F6 V0 VR b6 b7 kx kz hB7 HWR HWO F4 HW0 CT1 CT2 KX
            go_wp2
            (try simp only [Exit.inBlock, Exit.then])
            refine bodyPost_ret (results_db rfl _ _ (w.heap.size + 2) 31 _ (0, 0) _ (by simp [Act.put]) (HVR.out.set (.slice A3 n c3) (.slice A4 m c4)) Tryz.underlying31 rfl size_desk) rfl ?_
            exact ⟨A3, n, c3, A4, m, c4, by rw [HV.out]; rfl, by rw [HV.out]; exact ⟨DkG.of_own ((HF6.out.box2 HVR.out _ _).mono HW1.out), fun _ => (HF6.out.box2 HVR.out _ _).mono HW1.out⟩, (B6.out.setCell (p := ⟨w.heap.size + 2, 0, none⟩) (by simp) _).setCell (p := ⟨w.heap.size + 2, 1, none⟩) (by simp) _⟩
end Go.Proofs.YtkejcajboneniabGreatDoor
