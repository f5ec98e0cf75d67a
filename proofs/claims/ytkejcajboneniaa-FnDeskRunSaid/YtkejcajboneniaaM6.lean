/-
  Texts put together: K12d K12e K12f K12g NestR NestD. No statement is proved here.
-/
import Derived.Test.YtkejcajboneniaaM5
import Derived.Test.YtkejcajboneniaaM3
import Derived.Deep.RegionHeld3
import Derived.Test.YtkejcajboneniaaM2
import Derived.Test.YtkejcajboneniaaM1
namespace Go.Proofs.Ytkejcajboneniaa
open Go.RowKit
set_option linter.unusedVariables false
set_option linter.unusedSimpArgs false

theorem rowB_inj : ∀ {a b : List Int}, (∀ x ∈ a, x = 0 ∨ x = 1) → (∀ x ∈ b, x = 0 ∨ x = 1) → rowB a = rowB b → a = b
  | [], [], _, _, _ => rfl
  | [], y :: b, _, _, h => by simp [rowB] at h
  | x :: a, [], _, _, h => by simp [rowB] at h
  | x :: a, y :: b, ha, hb, h => by
    have hx := ha x (by simp)
    have hy := hb y (by simp)
    have h' : digB x.toNat = digB y.toNat ∧ rowB a = rowB b := by
      simp only [rowB, List.map_cons, List.cons.injEq] at h
      exact h
    have hxy : x = y := by
      rcases hx with rfl | rfl <;> rcases hy with rfl | rfl <;> first | rfl | (exact absurd h'.1 (by decide))
    rw [hxy, rowB_inj (fun z hz => ha z (by simp [hz])) (fun z hz => hb z (by simp [hz])) h'.2]
theorem text_eq {a b : List Int} (ha : bitsOk a = true) (hb : bitsOk b = true) : (rowTextOut a == rowTextOut b) = decide (a = b) := by
  unfold rowTextOut
  rw [if_pos ha, if_pos hb, Bool.eq_iff_iff, beq_iff_eq, decide_eq_true_iff]
  exact ⟨rowB_inj (bitsOk_iff.1 ha).1 (bitsOk_iff.1 hb).1, fun h => by rw [h]⟩

theorem Rows.dropK {w : World} {B k : Nat} {vs : List Value} {ls : List (List Int)} (h : Rows w B vs ls) : Rows w B (vs.drop k) (ls.drop k) := by
  refine ⟨by rw [List.length_drop, List.length_drop, h.1], fun j v l hv hl => ?_⟩
  rw [List.getElem?_drop] at hv hl
  exact h.2 (k + j) v l hv hl
/-- A desk of one's own; what was before may be a piece of a row of one's own. -/
def DkG (w : World) (B : Nat) (A : Option Addr) (n c : Nat) (A2 : Option Addr) (m c2 : Nat) (D : Dk) : Prop :=
  w.ownsRow B 3 1 (.slice A n c) n (ints D.now) ∧ (m ≤ c2 ∧ c2 ≤ 9223372036854775807) ∧
    ((A2 = none ∧ m = 0 ∧ D.past = []) ∨ ∃ (g off M C : Nat) (V : List Value), A2 = some ⟨g, off, none⟩ ∧ w.ownsRow B 23 1 (.slice (some ⟨g, 0, none⟩) M C) M V ∧ off + m ≤ M ∧ Rows w B ((V.drop off).take m) D.past)
section
variable {w w' : World} {B B' n c m c2 : Nat} {A A2 : Option Addr} {D : Dk}
theorem DkG.keep (h : DkG w B A n c A2 m c2 D) (h1 : ∀ v n xs, w.ownsRow B 3 1 v n xs → w'.ownsRow B' 3 1 v n xs) (h2 : ∀ v n xs, w.ownsRow B 23 1 v n xs → w'.ownsRow B' 23 1 v n xs) : DkG w' B' A n c A2 m c2 D := by
  refine ⟨h1 _ _ _ h.1, h.2.1, ?_⟩
  rcases h.2.2 with h3 | ⟨g, off, M, C, V, e, ho, hm, hr⟩
  · exact .inl h3
  · exact .inr ⟨g, off, M, C, V, e, h2 _ _ _ ho, hm, hr.1, fun j v l hv hl => by
      obtain ⟨A3, n3, c3, e3, ho3⟩ := hr.2 j v l hv hl
      exact ⟨A3, n3, c3, e3, h1 _ _ _ ho3⟩⟩
theorem DkG.on (h : DkG w B A n c A2 m c2 D) (hb : Below w.heap.size w w') : DkG w' B A n c A2 m c2 D := h.keep (fun _ _ _ ho => own_on ho hb) (fun _ _ _ ho => own_on ho hb)
theorem DkG.onto (h : DkG w B A n c A2 m c2 D) (hg : w.grownBy w' none) : DkG w' B A n c A2 m c2 D := h.keep (fun _ _ _ ho => own_kept_none ho hg) (fun _ _ _ ho => own_kept_none ho hg)
theorem DkG.mono (h : DkG w B A n c A2 m c2 D) (hB : B' ≤ B) : DkG w B' A n c A2 m c2 D := h.keep (fun _ _ _ ho => own_mono ho hB) (fun _ _ _ ho => own_mono ho hB)
theorem DkG.box2 {b : Nat} {u v : Value} (h : DkG w B A n c A2 m c2 D) (hd : Db w b u v) (x y : Value) : DkG ((w.setCell ⟨b, 0, none⟩ x).setCell ⟨b, 1, none⟩ y) B A n c A2 m c2 D :=
  h.keep (fun _ _ _ ho => own_box y (own_box x ho (hd.ne_int ho)) ((hd.set0 x).ne_int (own_box (k := 0) x ho (hd.ne_int ho)))) (fun _ _ _ ho => own_box y (own_box x ho (hd.ne_row ho)) ((hd.set0 x).ne_row (own_box (k := 0) x ho (hd.ne_row ho))))
theorem DkG.of_own (h : DkF w B A n c A2 m c2 D) : DkG w B A n c A2 m c2 D := by
  obtain ⟨vs, h1, h2, h3⟩ := h
  refine ⟨h1, own_capK h2, ?_⟩
  rcases h2.2 with ⟨e, hm⟩ | ⟨g, cap, cur, e, _⟩
  · injection e with e1 e2 e3
    refine .inl ⟨e1, hm, ?_⟩
    have hl := h2.1
    have := h3.1
    exact List.eq_nil_of_length_eq_zero (by omega)
  · injection e with e1 e2 e3
    subst e1
    have hl := h2.1
    refine .inr ⟨g, 0, m, c2, vs, rfl, h2, by omega, ?_⟩
    rw [List.drop_zero, List.take_of_length_le (by omega)]
    exact h3
theorem DkG.read (h : DkG w B A n c A2 m c2 D) : DkR w w.heap.size A n c A2 m c2 D := by
  refine ⟨Sl.of_own h.1, ?_, own_capK h.1, h.2.1⟩
  rcases h.2.2 with ⟨rfl, rfl, e⟩ | ⟨g, off, M, C, V, rfl, ho, hm, hr⟩
  · rw [e]; exact SlS.nil _ _
  · have hl := ho.1
    refine ⟨(V.drop off).take m, ⟨by rw [List.length_take, List.length_drop]; omega, by have := h.2.1; simp only [maxLen]; omega, fun h0 => ⟨g, off, rfl, ?_, fun j v hv => ?_⟩⟩, hr.1, fun j v l h1 h2 => ?_⟩
    · exact (ho.lt g rfl).2
    · have hj : j < m := by have := (List.getElem?_eq_some_iff.1 hv).1; rw [List.length_take] at this; omega
      rw [ho.cellAt (off + j) (by omega)]
      rw [List.getElem?_take, if_pos hj, List.getElem?_drop] at hv
      exact hv
    · obtain ⟨A3, n3, c3, e3, ho3⟩ := hr.2 j v l h1 h2
      exact ⟨A3, n3, c3, e3, Sl.of_own ho3, own_capK ho3⟩
theorem DkG.no (w : World) (B : Nat) : DkG w B none 0 0 none 0 0 noDk := DkG.of_own (DkF.no w B)
end
/-- What DeskDo hands back: a desk of the call's own, whole rows where the desk was not full. -/
def DkP (w : World) (B q : Nat) (A : Option Addr) (n c : Nat) (A2 : Option Addr) (m c2 : Nat) (D : Dk) : Prop := DkG w B A n c A2 m c2 D ∧ (q < 8 → DkF w B A n c A2 m c2 D)
theorem own_cutK {w : World} {B n k c : Nat} {A : Option Addr} {e : TypeId} {xs : List Value} (h : w.ownsRow B e 1 (.slice A n c) n xs) (hk : k ≤ n) (hA : A ≠ none) : w.ownsRow B e 1 (.slice A k c) k (xs.take k) := by
  have hl := h.1
  refine ⟨by rw [List.length_take]; omega, ?_⟩
  rcases h.2 with ⟨h1, h2⟩ | ⟨g, cap, cur, h1, h2, h3, h4, h5, h6, h7⟩
  · injection h1 with h1; exact absurd h1 hA
  · injection h1 with e1 e2 e3
    subst e1; subst e3
    refine .inr ⟨g, c, cur, rfl, h2, h3, Nat.le_trans hk h4, h5, h6, ?_⟩
    rw [← h7, List.take_take, Nat.min_eq_left (by omega), Nat.mul_one]
theorem Rows.cutK {w : World} {B k : Nat} {vs : List Value} {ls : List (List Int)} (h : Rows w B vs ls) : Rows w B (vs.take k) (ls.take k) := by
  refine ⟨by rw [List.length_take, List.length_take, h.1], fun j v l hv hl => ?_⟩
  rw [List.getElem?_take] at hv hl
  split at hv
  · rename_i hj
    rw [if_pos hj] at hl
    exact h.2 j v l hv hl
  · cases hv

set_option maxRecDepth 100000 in
set_option maxHeartbeats 3200000 in
theorem deskDo_stay (A : Option Addr) (n c : Nat) (A2 : Option Addr) (m c2 : Nat) (D : Dk) (k N : Int) (w : World) (h : DkR w w.heap.size A n c A2 m c2 D) (hq : deskOk D = true → ¬ undoB D k N = true ∧ stayB D k N = true) :
    Calls Try.prog 32 #[dsk A n c A2 m c2, deed k N] w fun e w' => ∃ A3 n3 c3 A4 m4 c4, e = .returned (.tuple #[dsk A3 n3 c3 A4 m4 c4, .bool (deskDo D (k, N)).2]) ∧ DkP w' w.heap.size D.past.length A3 n3 c3 A4 m4 c4 (deskDo D (k, N)).1 ∧ Below w.heap.size w w' := by
  obtain ⟨j0, hj, hjz0, hjz1, hjz2⟩ := info_rows
  have z1 : (w.alloc (.cells #[.slice A n c, .slice A2 m c2] 26)).heap.size = w.heap.size + 1 := by simp
  have z2 : ((w.alloc (.cells #[.slice A n c, .slice A2 m c2] 26)).alloc (.cells #[.int .i64 k, .int .i64 N] 45)).heap.size = w.heap.size + 2 := by simp
  have g1 := grown_alloc (w.alloc (.cells #[.slice A n c, .slice A2 m c2] 26)) (.cells #[.int .i64 k, .int .i64 N] 45) none
  have g2 := grown_alloc ((w.alloc (.cells #[.slice A n c, .slice A2 m c2] 26)).alloc (.cells #[.int .i64 k, .int .i64 N] 45)) (.cells #[.slice none 0 0, .slice none 0 0] 26) none
  have X0 := ((Db.new w (.slice A n c) (.slice A2 m c2)).on (row := none) g1 (by simp)).on (row := none) g2 (by simp)
  have XA := (g2.block (w.heap.size + 1) (by simp) (by simp)).trans (show ((w.alloc (.cells #[.slice A n c, .slice A2 m c2] 26)).alloc (.cells #[.int .i64 k, .int .i64 N] 45)).heap[w.heap.size + 1]? = some (.cells #[.int .i64 k, .int .i64 N] 45 (0, 0)) from by rw [← z1]; exact heap_alloc_new _ _)
  have XR := Db.new ((w.alloc (.cells #[.slice A n c, .slice A2 m c2] 26)).alloc (.cells #[.int .i64 k, .int .i64 N] 45)) (.slice none 0 0) (.slice none 0 0)
  rw [z2] at XR
  have B0 := ((Below.refl w.heap.size w).alloc (Nat.le_refl _) (.cells #[.slice A n c, .slice A2 m c2] 26)).alloc (by simp) (.cells #[.int .i64 k, .int .i64 N] 45)
  replace B0 := B0.alloc (by simp; omega) (.cells #[.slice none 0 0, .slice none 0 0] 26)
  go_enter Try.func32, Try.ntmps32
  obtain ⟨w0, e0⟩ : ∃ W, ((w.alloc (.cells #[.slice A n c, .slice A2 m c2] 26)).alloc (.cells #[.int .i64 k, .int .i64 N] 45)).alloc (.cells #[.slice none 0 0, .slice none 0 0] 26) = W := ⟨_, rfl⟩
  have hz0 : w0.heap.size = w.heap.size + 3 := by rw [← e0]; simp
  rw [e0] at X0 XA XR B0
  clear g1 g2
  have c0 := X0.c0
  have c1 := X0.c1
  have H0 := h.on B0
  have CK := hid (specDeskOk_any A n c A2 m c2 D w0 H0)
  have CC := hid (fun (W : World) (hW : DkR W W.heap.size A n c A2 m c2 D) => copyDesk_any A n c A2 m c2 D W hW)
  have HX0 := hid X0
  have HXA := hid XA
  have HXR := hid XR
  have HB0 := hid B0
  have HH := hid h
  clear X0 XA XR B0 H0 h z1 z2
  cases hok : deskOk D with
  | false =>
    have HV := hid (show deskDo D (k, N) = (noDk, false) from by unfold deskDo; rw [hok]; rfl)
    rw [hok] at CK
    clear hok
    go_wp2_with fail
    with_reducible refine Calls.mono CK.out ?_
    rintro e w1 ⟨rfl, g1⟩
    have Y := HXR.out.on (row := none) g1 (by simp)
    have d0 := Y.c0
    have d1 := Y.c1
    have f0 := Y.fz 0
    have f1 := Y.fz 1
    have HY := hid Y
    have HB1 := hid (HB0.out.trans ((below_grown g1).mono HB0.out.size))
    clear Y g1 e0
    go_wp2
    (try simp only [Exit.inBlock, Exit.then])
    refine bodyPost_ret (results_db rfl _ _ (w.heap.size + 2) 26 _ (0, 0) _ (by simp [Act.put]) (HY.out.set _ _) Try.underlying26 rfl size_desk) rfl ?_
    exact ⟨none, 0, 0, none, 0, 0, by rw [HV.out]; rfl, by rw [HV.out]; exact ⟨DkG.no _ _, fun _ => DkF.no _ _⟩, (HB1.out.setCell (p := ⟨w.heap.size + 2, 0, none⟩) (by simp) _).setCell (p := ⟨w.heap.size + 2, 1, none⟩) (by simp) _⟩
  | true =>
    rw [hok] at CK
    go_wp2_with fail
    with_reducible refine Calls.mono CK.out ?_
    rintro e w1 ⟨rfl, g1⟩
    have c0 : w1.cell? ⟨w.heap.size, 0, none⟩ = some (.slice A n c) := (HX0.out.on (row := none) g1 (by simp)).c0
    have c1 : w1.cell? ⟨w.heap.size, 1, none⟩ = some (.slice A2 m c2) := (HX0.out.on (row := none) g1 (by simp)).c1
    have HB1 := hid (HB0.out.trans ((below_grown g1).mono HB0.out.size))
    go_wp2_with fail
    with_reducible refine Calls.mono (CC.out w1 (HH.out.on HB1.out) hok) ?_
    rintro e w2 ⟨A3, c3, A4, c4, rfl, F2, b2⟩
    have HB2 := hid (HB1.out.trans (b2.mono HB1.out.size))
    have gO := grown_alloc w2 (.cells #[.slice A3 n c3, .slice A4 m c4] 26) none
    have hz2 := HB2.out.size
    have hb23 := b2.size
    have hg1z := g1.size
    have Z0 := ((HX0.out.on (row := none) g1 (by simp)).below b2 (by omega)).on (row := none) gO (by simp)
    have ZA := (gO.block (w.heap.size + 1) (by omega) (by simp)).trans ((b2.block (w.heap.size + 1) (by omega)).trans ((g1.block (w.heap.size + 1) (by omega) (by simp)).trans HXA.out))
    have ZR := ((HXR.out.on (row := none) g1 (by simp)).below b2 (by omega)).on (row := none) gO (by simp)
    have ZO := Db.new w2 (.slice A3 n c3) (.slice A4 m c4)
    have F3 := F2.onto gO
    have B3 := HB2.out.alloc hz2 (.cells #[.slice A3 n c3, .slice A4 m c4] 26)
    obtain ⟨w3, e3⟩ : ∃ W, w2.alloc (.cells #[.slice A3 n c3, .slice A4 m c4] 26) = W := ⟨_, rfl⟩
    have hz3 : w3.heap.size = w2.heap.size + 1 := by rw [← e3]; simp
    rw [e3] at Z0 ZA ZR ZO F3 B3
    obtain ⟨o, ho⟩ : ∃ o, w2.heap.size = o := ⟨_, rfl⟩
    rw [ho] at ZO hz3
    have hoB : w.heap.size + 3 ≤ o := by omega
    have x0 := Z0.c0
    have x1 := Z0.c1
    obtain ⟨a0, a1, _, _⟩ := pairCells ZA
    have o0 := ZO.c0
    have o1 := ZO.c1
    have of0 := ZO.fz 0
    have of1 := ZO.fz 1
    have r0 := ZR.c0
    have r1 := ZR.c1
    have rf0 := ZR.fz 0
    have rf1 := ZR.fz 1
    have HZ0 := hid Z0
    have HZR := hid ZR
    have HZO := hid ZO
    have HF3 := hid F3
    have HB3 := hid B3
    have HW1 := hid HB1.out.size
    have HG := hid HH.out.cap
    have HP1 := hid HH.out.past.len
    clear c0 c1 HX0 HXA HXR HB0 HB1 HB2 F2 b2 gO Z0 ZA ZR ZO F3 B3 CK g1 hb23 hg1z e0 hz0
    have hnow := (deskOk_iff.1 hok).2.1
    have h8 := (deskOk_iff.1 hok).2.2
    rw [HP1.out] at h8
    have hl1 := (bitsOk_iff.1 hnow).2
    rw [HH.out.now.len] at hl1
    obtain ⟨hu, hs⟩ := hq hok
    · have CM := hid (made_any A n c D.now k N w3 (HH.out.now.on HB3.out) HG.out hnow)
      · skip
        have HV := hid (show deskDo D (k, N) = (D, false) from by unfold deskDo; rw [if_pos hok, if_neg hu, if_pos hs])
        have hs' : madeL D.now k N = [] ∨ madeL D.now k N = D.now := by
          unfold stayB at hs
          simpa using hs
        obtain ⟨M, hM⟩ : ∃ M, madeL D.now k N = M := ⟨_, rfl⟩
        rw [hM] at CM hs'
        clear hM hs
        have hu0 : 0 < m → k = 6 → N = 0 → False := fun h0 h1 h2 => hu (by unfold undoB; rw [h1, h2]; simp; intro h; rw [h] at HP1; have := HP1.out; simp at this; omega)
        clear hu
        by_cases hme : M = []
        · subst hme
          clear hs'
          go_wp2_with fail
          all_goals try subst k
          all_goals try subst N
          all_goals
            clear e3 ho
            first
              | (exfalso; refine hu0 ?_ rfl rfl; omega)
              | skip
          all_goals
            with_reducible refine Calls.mono CM.out ?_
            rintro e w4 ⟨A5, m5, c5, rfl, o5, hm5, b5⟩
            have hm5l := o5.1
            have W0 := HZ0.out.below b5 (by omega)
            have WR := HZR.out.below b5 (by omega)
            have WO := HZO.out.below b5 (by omega)
            have y0 := W0.c0
            have y1 := WO.c0
            have y2 := WO.c1
            have y3 := WR.c0
            have y4 := WR.c1
            have y5 := WR.fz 0
            have y6 := WR.fz 1
            have y7 := WO.fz 0
            have y8 := WO.fz 1
            have HWR := hid WR
            have HWO := hid WO
            have HW0 := hid W0
            have F4 := hid (HF3.out.on b5)
            have B4 := hid (HB3.out.trans (b5.mono HB3.out.size))
            have O5 := hid o5
            have hsz4 := b5.size
            clear o5 b5 W0 WR WO x0 x1 a0 a1 o0 o1 of0 of1 r0 r1 rf0 rf1 HZ0 HZR HZO HF3 HB3 CM
            obtain rfl : m5 = 0 := by simpa using hm5l.symm
            go_wp2
            go_region
            go_wp2
            (try simp only [Exit.inBlock, Exit.then])
            refine bodyPost_ret (results_db rfl _ _ (w.heap.size + 2) 26 _ (0, 0) _ (by simp [Act.put]) (HWR.out.set (.slice A3 n c3) (.slice A4 m c4)) Try.underlying26 rfl size_desk) rfl ?_
            exact ⟨A3, n, c3, A4, m, c4, by rw [HV.out]; rfl, by rw [HV.out]; exact ⟨DkG.of_own (((F4.out.box2 HWR.out _ _).onto (drewN_gA _ 1)).mono HW1.out), fun _ => ((F4.out.box2 HWR.out _ _).onto (drewN_gA _ 1)).mono HW1.out⟩, ((B4.out.setCell (p := ⟨w.heap.size + 2, 0, none⟩) (by simp) _).setCell (p := ⟨w.heap.size + 2, 1, none⟩) (by simp) _).drew⟩
        · have hMe : M = D.now := hs'.resolve_left hme
          have hMl : 0 < M.length := List.length_pos_iff.2 hme
          have hTT := hid (show (rowTextOut M == rowTextOut D.now) = true from by rw [text_eq (by rw [hMe]; exact hnow) hnow, hMe]; simp)
          clear hs' hMe
          go_wp2_with fail
          all_goals try subst k
          all_goals try subst N
          all_goals
            clear e3 ho
            first
              | (exfalso; refine hu0 ?_ rfl rfl; omega)
              | skip
          all_goals
            with_reducible refine Calls.mono CM.out ?_
            rintro e w4 ⟨A5, m5, c5, rfl, o5, hm5, b5⟩
            have hm5l := o5.1
            have W0 := HZ0.out.below b5 (by omega)
            have WR := HZR.out.below b5 (by omega)
            have WO := HZO.out.below b5 (by omega)
            have y0 := W0.c0
            have y1 := WO.c0
            have y2 := WO.c1
            have y3 := WR.c0
            have y4 := WR.c1
            have y5 := WR.fz 0
            have y6 := WR.fz 1
            have y7 := WO.fz 0
            have y8 := WO.fz 1
            have HWR := hid WR
            have HWO := hid WO
            have HW0 := hid W0
            have F4 := hid (HF3.out.on b5)
            have B4 := hid (HB3.out.trans (b5.mono HB3.out.size))
            have O5 := hid o5
            have hsz4 := b5.size
            clear o5 b5 W0 WR WO x0 x1 a0 a1 o0 o1 of0 of1 r0 r1 rf0 rf1 HZ0 HZR HZO HF3 HB3 CM
            have hm5p : 0 < m5 := by rw [List.length_map] at hm5l; omega
            have hm5i : (0 : Int) < (m5 : Int) := by omega
            have hm5z : ((m5 : Int) == 0) = false := by simp; omega
            have hm5y : ¬ (m5 : Int) = 0 := by omega
            have CT1 := hid (fun (W : World) (hW : Below w4.heap.size w4 W) => specRowText_any A5 m5 c5 M W ((Sl.of_own O5.out).on hW))
            have CT2 := hid (fun (W : World) (hW : Below w.heap.size w W) => specRowText_any A n c D.now W (HH.out.now.on hW))
            have hBd : Below w4.heap.size w4 w4.drew := (Below.refl _ _).drew
            have KX := hid (fun (W : World) (hW : Below w4.drew.heap.size w4.drew W) => show Below w4.heap.size w4 W ∧ Below w.heap.size w W ∧ W.cell? ⟨w.heap.size, 0, none⟩ = some (.slice A n c) from by
              have h1 : Below w4.heap.size w4 W := hBd.trans hW
              exact ⟨h1, B4.out.trans (h1.mono B4.out.size), (HW0.out.below h1 (by omega)).c0⟩)
            go_wp2
            go_region_held3 (fun w' => w'.cell? ⟨w.heap.size, 0, none⟩ = some (.slice A n c))
              (first
                | go_keep
                | assumption)
              (first
                | (go_at_call 61; with_reducible refine Calls.mono (CT1.out _ hBd) ?_; rintro e w5 ⟨rfl, b6⟩; obtain ⟨hB6, hC6, kx⟩ := KX.out _ b6)
                | (go_at_call 61; with_reducible refine Calls.mono (CT2.out _ hC6) ?_; rintro e w6 ⟨rfl, b7⟩; have kz := (b7.cell (p := ⟨w.heap.size, 0, none⟩) (show w.heap.size < w5.heap.size by have := hB6.size; omega)).trans kx))
            have hB7 := hB6.trans (b7.mono hB6.size)
            have F6 := F4.out.on hB7
            have B6 := hid (hC6.trans (b7.mono hC6.size))
            have V0 := HWO.out.below hB7 (by omega)
            have VR := HWR.out.below hB7 (by omega)
            clear y1 y2 y3 y4 y5 y6 y7 y8
            have y1 := V0.c0
            have y2 := V0.c1
            have y7 := V0.fz 0
            have y8 := V0.fz 1
            have y3 := VR.c0
            have y4 := VR.c1
            have y5 := VR.fz 0
            have y6 := VR.fz 1
            have HVR := hid VR
            have HVO := hid V0
            have HF6 := hid F6
            rw [hTT.out]
            clear F6 V0 VR b6 b7 kx kz hB7 HWR HWO F4 HW0 CT1 CT2 KX
            go_wp2
            (try simp only [Exit.inBlock, Exit.then])
            refine bodyPost_ret (results_db rfl _ _ (w.heap.size + 2) 26 _ (0, 0) _ (by simp [Act.put]) (HVR.out.set (.slice A3 n c3) (.slice A4 m c4)) Try.underlying26 rfl size_desk) rfl ?_
            exact ⟨A3, n, c3, A4, m, c4, by rw [HV.out]; rfl, by rw [HV.out]; exact ⟨DkG.of_own ((HF6.out.box2 HVR.out _ _).mono HW1.out), fun _ => (HF6.out.box2 HVR.out _ _).mono HW1.out⟩, (B6.out.setCell (p := ⟨w.heap.size + 2, 0, none⟩) (by simp) _).setCell (p := ⟨w.heap.size + 2, 1, none⟩) (by simp) _⟩
end Go.Proofs.Ytkejcajboneniaa

namespace Go.Proofs.Ytkejcajboneniaa
open Go.RowKit
set_option linter.unusedVariables false
set_option linter.unusedSimpArgs false

theorem SlS.cutK {w : World} {B m k : Nat} {A : Option Addr} {ls : List (List Int)} (h : SlS w B A m ls) (hk : k ≤ m) : SlS w B A k (ls.take k) := by
  obtain ⟨vs, h1, h2⟩ := h
  refine ⟨vs.take k, ⟨by rw [List.length_take, h1.1]; omega, Nat.le_trans hk h1.2.1, fun h0 => ?_⟩, by rw [List.length_take, List.length_take, h2.1], fun j v l hv hl => ?_⟩
  · obtain ⟨b, off, e, hb, hc⟩ := h1.2.2 (by omega)
    exact ⟨b, off, e, hb, fun j v hv => hc j v (by rw [List.getElem?_take] at hv; split at hv; exact hv; cases hv)⟩
  · rw [List.getElem?_take] at hv hl
    split at hv
    · rename_i hj
      rw [if_pos hj] at hl
      exact h2.2 j v l hv hl
    · cases hv
theorem own_same {w w' : World} {B n : Nat} {v : Value} {e : TypeId} {xs : List Value} (h : w.ownsRow B e 1 v n xs) (hk : ∀ k, v.ownBlock = some k → w'.heap[k]? = w.heap[k]?) : w'.ownsRow B e 1 v n xs := by
  refine ⟨h.1, ?_⟩
  rcases h.2 with h2 | ⟨g, cap, cur, h1, h2, h3, h4⟩
  · exact .inl h2
  · exact .inr ⟨g, cap, cur, h1, h2, (hk g (by rw [h1]; rfl)).trans h3, h4⟩
theorem SlS.tailK {w : World} {B m b off : Nat} {ls : List (List Int)} (h : SlS w B (some ⟨b, off, none⟩) (m + 1) ls) : SlS w B (some ⟨b, off + 1, none⟩) m (ls.drop 1) := by
  obtain ⟨vs, h1, h2⟩ := h
  refine ⟨vs.drop 1, ⟨by rw [List.length_drop, h1.1]; omega, by have := h1.2.1; omega, fun h0 => ?_⟩, by rw [List.length_drop, List.length_drop, h2.1], fun j v l hv hl => ?_⟩
  · obtain ⟨b', off', e, hb, hc⟩ := h1.2.2 (by omega)
    injection e with e
    injection e with e1 e2 e3
    subst e1; subst e2
    refine ⟨b, off + 1, rfl, hb, fun j v hv => ?_⟩
    rw [List.getElem?_drop] at hv
    rw [show off + 1 + j = off + (1 + j) by omega]
    exact hc (1 + j) v hv
  · rw [List.getElem?_drop] at hv hl
    exact h2.2 (1 + j) v l hv hl

set_option maxRecDepth 100000 in
set_option maxHeartbeats 3200000 in
theorem deskDo_done (A : Option Addr) (n c : Nat) (A2 : Option Addr) (m c2 : Nat) (D : Dk) (k N : Int) (w : World) (h : DkR w w.heap.size A n c A2 m c2 D) (hok : deskOk D = true) (hu : ¬ undoB D k N = true) (hs : stayB D k N = false) :
    Calls Try.prog 32 #[dsk A n c A2 m c2, deed k N] w fun e w' => ∃ A3 n3 c3 A4 m4 c4, e = .returned (.tuple #[dsk A3 n3 c3 A4 m4 c4, .bool (deskDo D (k, N)).2]) ∧ DkP w' w.heap.size D.past.length A3 n3 c3 A4 m4 c4 (deskDo D (k, N)).1 ∧ Below w.heap.size w w' := by
  obtain ⟨j0, hj, hjz0, hjz1, hjz2⟩ := info_rows
  have z1 : (w.alloc (.cells #[.slice A n c, .slice A2 m c2] 26)).heap.size = w.heap.size + 1 := by simp
  have z2 : ((w.alloc (.cells #[.slice A n c, .slice A2 m c2] 26)).alloc (.cells #[.int .i64 k, .int .i64 N] 45)).heap.size = w.heap.size + 2 := by simp
  have g1 := grown_alloc (w.alloc (.cells #[.slice A n c, .slice A2 m c2] 26)) (.cells #[.int .i64 k, .int .i64 N] 45) none
  have g2 := grown_alloc ((w.alloc (.cells #[.slice A n c, .slice A2 m c2] 26)).alloc (.cells #[.int .i64 k, .int .i64 N] 45)) (.cells #[.slice none 0 0, .slice none 0 0] 26) none
  have X0 := ((Db.new w (.slice A n c) (.slice A2 m c2)).on (row := none) g1 (by simp)).on (row := none) g2 (by simp)
  have XA := (g2.block (w.heap.size + 1) (by simp) (by simp)).trans (show ((w.alloc (.cells #[.slice A n c, .slice A2 m c2] 26)).alloc (.cells #[.int .i64 k, .int .i64 N] 45)).heap[w.heap.size + 1]? = some (.cells #[.int .i64 k, .int .i64 N] 45 (0, 0)) from by rw [← z1]; exact heap_alloc_new _ _)
  have XR := Db.new ((w.alloc (.cells #[.slice A n c, .slice A2 m c2] 26)).alloc (.cells #[.int .i64 k, .int .i64 N] 45)) (.slice none 0 0) (.slice none 0 0)
  rw [z2] at XR
  have B0 := ((Below.refl w.heap.size w).alloc (Nat.le_refl _) (.cells #[.slice A n c, .slice A2 m c2] 26)).alloc (by simp) (.cells #[.int .i64 k, .int .i64 N] 45)
  replace B0 := B0.alloc (by simp; omega) (.cells #[.slice none 0 0, .slice none 0 0] 26)
  go_enter Try.func32, Try.ntmps32
  obtain ⟨w0, e0⟩ : ∃ W, ((w.alloc (.cells #[.slice A n c, .slice A2 m c2] 26)).alloc (.cells #[.int .i64 k, .int .i64 N] 45)).alloc (.cells #[.slice none 0 0, .slice none 0 0] 26) = W := ⟨_, rfl⟩
  have hz0 : w0.heap.size = w.heap.size + 3 := by rw [← e0]; simp
  rw [e0] at X0 XA XR B0
  clear g1 g2
  have c0 := X0.c0
  have c1 := X0.c1
  have H0 := h.on B0
  have CK := hid (specDeskOk_any A n c A2 m c2 D w0 H0)
  have CC := hid (fun (W : World) (hW : DkR W W.heap.size A n c A2 m c2 D) => copyDesk_any A n c A2 m c2 D W hW)
  have HX0 := hid X0
  have HXA := hid XA
  have HXR := hid XR
  have HB0 := hid B0
  have HH := hid h
  clear X0 XA XR B0 H0 h z1 z2
  rw [hok] at CK
  go_wp2_with fail
  with_reducible refine Calls.mono CK.out ?_
  rintro e w1 ⟨rfl, g1⟩
  have c0 : w1.cell? ⟨w.heap.size, 0, none⟩ = some (.slice A n c) := (HX0.out.on (row := none) g1 (by simp)).c0
  have c1 : w1.cell? ⟨w.heap.size, 1, none⟩ = some (.slice A2 m c2) := (HX0.out.on (row := none) g1 (by simp)).c1
  have HB1 := hid (HB0.out.trans ((below_grown g1).mono HB0.out.size))
  go_wp2_with fail
  with_reducible refine Calls.mono (CC.out w1 (HH.out.on HB1.out) hok) ?_
  rintro e w2 ⟨A3, c3, A4, c4, rfl, F2, b2⟩
  have HB2 := hid (HB1.out.trans (b2.mono HB1.out.size))
  have gO := grown_alloc w2 (.cells #[.slice A3 n c3, .slice A4 m c4] 26) none
  have hz2 := HB2.out.size
  have hb23 := b2.size
  have hg1z := g1.size
  have Z0 := ((HX0.out.on (row := none) g1 (by simp)).below b2 (by omega)).on (row := none) gO (by simp)
  have ZA := (gO.block (w.heap.size + 1) (by omega) (by simp)).trans ((b2.block (w.heap.size + 1) (by omega)).trans ((g1.block (w.heap.size + 1) (by omega) (by simp)).trans HXA.out))
  have ZR := ((HXR.out.on (row := none) g1 (by simp)).below b2 (by omega)).on (row := none) gO (by simp)
  have ZO := Db.new w2 (.slice A3 n c3) (.slice A4 m c4)
  have F3 := F2.onto gO
  have B3 := HB2.out.alloc hz2 (.cells #[.slice A3 n c3, .slice A4 m c4] 26)
  obtain ⟨w3, e3⟩ : ∃ W, w2.alloc (.cells #[.slice A3 n c3, .slice A4 m c4] 26) = W := ⟨_, rfl⟩
  have hz3 : w3.heap.size = w2.heap.size + 1 := by rw [← e3]; simp
  rw [e3] at Z0 ZA ZR ZO F3 B3
  obtain ⟨o, ho⟩ : ∃ o, w2.heap.size = o := ⟨_, rfl⟩
  rw [ho] at ZO hz3
  have hoB : w.heap.size + 3 ≤ o := by omega
  have x0 := Z0.c0
  have x1 := Z0.c1
  obtain ⟨a0, a1, _, _⟩ := pairCells ZA
  have o0 := ZO.c0
  have o1 := ZO.c1
  have of0 := ZO.fz 0
  have of1 := ZO.fz 1
  have r0 := ZR.c0
  have r1 := ZR.c1
  have rf0 := ZR.fz 0
  have rf1 := ZR.fz 1
  have HZ0 := hid Z0
  have HZR := hid ZR
  have HZO := hid ZO
  have HF3 := hid F3
  have HB3 := hid B3
  have HW1 := hid HB1.out.size
  have HB3z := hid B3.size
  have HG := hid HH.out.cap
  have HP1 := hid HH.out.past.len
  clear c0 c1 HX0 HXA HXR HB0 HB1 HB2 F2 b2 gO Z0 ZA ZR ZO F3 B3 CK g1 hb23 hg1z e0 hz0
  have hnow := (deskOk_iff.1 hok).2.1
  have h8 := (deskOk_iff.1 hok).2.2
  rw [HP1.out] at h8
  have hl1 := (bitsOk_iff.1 hnow).2
  rw [HH.out.now.len] at hl1
  have CM := hid (made_any A n c D.now k N w3 (HH.out.now.on HB3.out) HG.out hnow)
  have HV := hid (show deskDo D (k, N) = (⟨madeL D.now k N, trimL (D.past ++ [D.now])⟩, true) from by unfold deskDo; rw [if_pos hok, if_neg hu, if_neg (by rw [hs]; simp)])
  have hne : (madeL D.now k N).isEmpty = false ∧ madeL D.now k N ≠ D.now := by
    unfold stayB at hs
    rw [Bool.or_eq_false_iff] at hs
    exact ⟨hs.1, by simpa using hs.2⟩
  have hk6 : ¬ k = 6 := by
    intro h6
    have := hne.1
    rw [show madeL D.now k N = [] from by unfold madeL; simp [h6]] at this
    cases this
  have hk6' : (k == 6) = false := by simpa using hk6
  have hmo := made_ok hnow k N hne.1
  obtain ⟨M, hM⟩ : ∃ M, madeL D.now k N = M := ⟨_, rfl⟩
  rw [hM] at CM hne hmo HV
  have hTT := hid (show (rowTextOut M == rowTextOut D.now) = false from by rw [text_eq hmo hnow]; simpa using hne.2)
  have hMl : 0 < M.length := by have := (bitsOk_iff.1 hmo).2; omega
  have hu0 : 0 < m → k = 6 → N = 0 → False := fun h0 h1 h2 => hu (by unfold undoB; rw [h1, h2]; simp; intro h; rw [h] at HP1; have := HP1.out; simp at this; omega)
  clear hM hs hu hne hmo
  go_wp2_with fail
  all_goals clear e3 ho
  all_goals
    with_reducible refine Calls.mono CM.out ?_
    rintro e w4 ⟨A5, m5, c5, rfl, o5, hm5, b5⟩
    have hm5l := o5.1
    have W0 := HZ0.out.below b5 (by omega)
    have WR := HZR.out.below b5 (by omega)
    have WO := HZO.out.below b5 (by omega)
    have y0 := W0.c0
    have y1 := WO.c0
    have y2 := WO.c1
    have y3 := WR.c0
    have y4 := WR.c1
    have y5 := WR.fz 0
    have y6 := WR.fz 1
    have y7 := WO.fz 0
    have y8 := WO.fz 1
    have HWR := hid WR
    have HWO := hid WO
    have HW0 := hid W0
    have F4 := hid (HF3.out.on b5)
    have B4 := hid (HB3.out.trans (b5.mono HB3.out.size))
    have O5 := hid o5
    have hsz4 := b5.size
    clear o5 b5 W0 WR WO x0 x1 a0 a1 o0 o1 of0 of1 r0 r1 rf0 rf1 HZ0 HZR HZO HF3 HB3 CM
    have hm5p : 0 < m5 := by rw [List.length_map] at hm5l; omega
    have hm5i : (0 : Int) < (m5 : Int) := by omega
    have hm5z : ((m5 : Int) == 0) = false := by simp; omega
    have hm5y : ¬ (m5 : Int) = 0 := by omega
    have CT1 := hid (fun (W : World) (hW : Below w4.heap.size w4 W) => specRowText_any A5 m5 c5 M W ((Sl.of_own O5.out).on hW))
    have CT2 := hid (fun (W : World) (hW : Below w.heap.size w W) => specRowText_any A n c D.now W (HH.out.now.on hW))
    have hBd : Below w4.heap.size w4 w4.drew := (Below.refl _ _).drew
    have KX := hid (fun (W : World) (hW : Below w4.drew.heap.size w4.drew W) => show Below w4.heap.size w4 W ∧ Below w.heap.size w W ∧ W.cell? ⟨w.heap.size, 0, none⟩ = some (.slice A n c) from by
      have h1 : Below w4.heap.size w4 W := hBd.trans hW
      exact ⟨h1, B4.out.trans (h1.mono B4.out.size), (HW0.out.below h1 (by omega)).c0⟩)
    go_wp2
    go_region_held3 (fun w' => w'.cell? ⟨w.heap.size, 0, none⟩ = some (.slice A n c))
      (first
        | go_keep
        | assumption)
      (first
        | (go_at_call 61; with_reducible refine Calls.mono (CT1.out _ hBd) ?_; rintro e w5 ⟨rfl, b6⟩; obtain ⟨hB6, hC6, kx⟩ := KX.out _ b6)
        | (go_at_call 61; with_reducible refine Calls.mono (CT2.out _ hC6) ?_; rintro e w6 ⟨rfl, b7⟩; have kz := (b7.cell (p := ⟨w.heap.size, 0, none⟩) (show w.heap.size < w5.heap.size by have := hB6.size; omega)).trans kx))
    have hB7 := hB6.trans (b7.mono hB6.size)
    have F6 := F4.out.on hB7
    have B6 := hid (hC6.trans (b7.mono hC6.size))
    have V0 := HWO.out.below hB7 (by omega)
    have VR := HWR.out.below hB7 (by omega)
    clear y1 y2 y3 y4 y5 y6 y7 y8
    have y1 := V0.c0
    have y2 := V0.c1
    have y7 := V0.fz 0
    have y8 := V0.fz 1
    have y3 := VR.c0
    have y4 := VR.c1
    have y5 := VR.fz 0
    have y6 := VR.fz 1
    have HVR := hid VR
    have HVO := hid V0
    have HF6 := hid F6
    rw [hTT.out]
    obtain ⟨vs, ON, OP, OR⟩ := HF6.out
    have OX := own_on O5.out hB7
    clear F6 V0 VR b6 b7 kx kz HWR HWO F4 HW0 CT1 CT2 KX HF6
    have hsz6 := B6.out.size
    have hw1B : w.heap.size ≤ w1.heap.size := HW1.out
    have OP' := own_mono (base' := w.heap.size) OP hw1B
    have ga6 := grown_alloc w6 (.cells #[.slice A3 n c3] 23) none
    have oP2 := own_kept_none OP' ga6
    have U0 := HVO.out.on (row := none) ga6 (by simp)
    have UR := HVR.out.on (row := none) ga6 (by simp)
    have hHQ := hid hsz6
    have HR6 := hid ((OR.mono hw1B).onto ga6)
    have HN6 := hid (own_kept_none (own_mono (base' := w.heap.size) ON hw1B) ga6)
    have HX6 := hid (own_kept_none (own_mono (base' := w.heap.size) OX HB3z.out) ga6)
    have HB6 := hid (B6.out.alloc hsz6 (.cells #[.slice A3 n c3] 23))
    have HP2 := hid oP2
    clear OR ON OX
    by_cases h8m : m = 8
    · have c8a : (m : Int) + 1 > 8 := by omega
      have c8b : (8 : Int) < (m : Int) + 1 := by omega
      have c8c : decide ((8 : Int) < (m : Int) + 1) = true := by simp; omega
      have c8d : (1 : Int) ≤ (m : Int) + 1 := by omega
      have H8 := hid h8m
      clear h8m
      go_wp2_with (at_builtin; refine wpList_append_own _ rfl _ _ 24 rfl w.heap.size 23 j0 (.slice none 0 0) 1 24 Try.underlying24 hj hjz0 hjz1 hjz2 rfl (by decide) (.slice A4 m c4) _ _ rfl oP2 ⟨w6.heap.size, 0, none⟩ 1 1 [.slice A3 n c3] rfl rfl (cell_one_new w6 _ _) (by simp [Value.oneCell']) (by simp only [maxLen]; omega) (by omega) (by simp; omega) ?_; intro v7 w7 o7 g7 _; obtain ⟨g7b, c7, rfl, hg7b, hlt7⟩ := own_shape1 o7 (by omega); have U7 := U0.on g7 (U0.ne_row oP2); have u0 := U7.c0; have u1 := U7.c1; have t0 := U7.fz 0; have t1 := U7.fz 1; have UR7 := UR.on g7 (UR.ne_row oP2); have q0 := UR7.c0; have q1 := UR7.c1; have q2 := UR7.fz 0; have q3 := UR7.fz 1; have hcc := own_capK o7; have k8 : (1 : Int) ≤ (c7 : Int) := (by omega); have k9 : 1 ≤ c7 := (by omega); have k10 : (m : Int) + 1 ≤ (c7 : Int) := (by omega))
      have HK : ∀ k, k ≠ o → k ≠ w.heap.size + 2 → (((((w7.setCell ⟨o, 1, none⟩ (.slice (some ⟨g7b, 0, none⟩) (m + 1) c7)).setCell ⟨o, 1, none⟩ (.slice (some ⟨g7b, 1, none⟩) m (c7 - 1))).setCell ⟨o, 0, none⟩ (.slice A5 m5 c5)).setCell ⟨w.heap.size + 1 + 1, 0, none⟩ (.slice A5 m5 c5)).setCell ⟨w.heap.size + 1 + 1, 1, none⟩ (.slice (some ⟨g7b, 1, none⟩) m (c7 - 1))).heap[k]? = w7.heap[k]? := fun k h1 h2 =>
        (heap_setCell_other _ _ _ _ h2).trans ((heap_setCell_other _ _ _ _ h2).trans ((heap_setCell_other _ _ _ _ h1).trans ((heap_setCell_other _ _ _ _ h1).trans (heap_setCell_other _ _ _ _ h1))))
      have RX := (HR6.out.beside HP2.out g7).snoc ⟨_, _, _, rfl, own_beside HN6.out HP2.out g7⟩
      have X7 := own_beside HX6.out HP2.out g7
      have FX := own_same X7 (fun k hk => HK k (fun e => U7.ne_int X7 (by rw [hk, e])) (fun e => UR7.ne_int X7 (by rw [hk, e])))
      have FP := own_same o7 (fun k hk => HK k (fun e => U7.ne_row o7 (by rw [hk, e])) (fun e => UR7.ne_row o7 (by rw [hk, e])))
      have FR := RX.keep (fun v n xs ho => own_same ho (fun k hk => HK k (fun e => U7.ne_int ho (by rw [hk, e])) (fun e => UR7.ne_int ho (by rw [hk, e]))))
      have FD := ((((UR7.other (g := o) (by omega) 1 (.slice (some ⟨g7b, 0, none⟩) (m + 1) c7)).other (g := o) (by omega) 1 (.slice (some ⟨g7b, 1, none⟩) m (c7 - 1))).other (g := o) (by omega) 0 (.slice A5 m5 c5)).set (.slice A5 m5 c5) (.slice (some ⟨g7b, 1, none⟩) m (c7 - 1)))
      have FB := (((((HB6.out.grown g7 (by have := hHQ.out; simp; omega) (by intro j hj; exact (HP2.out.lt j hj).1)).setCell (p := ⟨o, 1, none⟩) (show w.heap.size ≤ o by omega) (.slice (some ⟨g7b, 0, none⟩) (m + 1) c7)).setCell (p := ⟨o, 1, none⟩) (show w.heap.size ≤ o by omega) (.slice (some ⟨g7b, 1, none⟩) m (c7 - 1))).setCell (p := ⟨o, 0, none⟩) (show w.heap.size ≤ o by omega) (.slice A5 m5 c5)).setCell (p := ⟨w.heap.size + 1 + 1, 0, none⟩) (show w.heap.size ≤ w.heap.size + 1 + 1 by omega) (.slice A5 m5 c5)).setCell (p := ⟨w.heap.size + 1 + 1, 1, none⟩) (show w.heap.size ≤ w.heap.size + 1 + 1 by omega) (.slice (some ⟨g7b, 1, none⟩) m (c7 - 1))
      have hTR : trimL (D.past ++ [D.now]) = (D.past ++ [D.now]).drop 1 := by unfold trimL; rw [if_pos (by rw [List.length_append, HP1.out, H8.out]; simp)]
      (try simp only [Exit.inBlock, Exit.then])
      refine bodyPost_ret (results_db rfl _ _ (w.heap.size + 2) 26 _ (0, 0) _ (by simp [Act.put]) FD Try.underlying26 rfl size_desk) rfl ?_
      exact ⟨A5, m5, c5, some ⟨g7b, 1, none⟩, m, c7 - 1, by rw [HV.out]; rfl, by rw [HV.out]; exact ⟨⟨own_mono FX (Nat.le_refl _), by omega, .inr ⟨g7b, 1, m + 1, c7, _, rfl, FP, by omega, by rw [hTR, List.take_of_length_le (by rw [List.length_drop]; have := FP.1; omega)]; exact FR.dropK⟩⟩, fun h => absurd h (by rw [HP1.out, H8.out]; omega)⟩, FB⟩
    · have c8b : ¬ (8 : Int) < (m : Int) + 1 := by omega
      have c8c : decide ((8 : Int) < (m : Int) + 1) = false := by simp; omega
      go_wp2_with (at_builtin; refine wpList_append_own _ rfl _ _ 24 rfl w.heap.size 23 j0 (.slice none 0 0) 1 24 Try.underlying24 hj hjz0 hjz1 hjz2 rfl (by decide) (.slice A4 m c4) _ _ rfl oP2 ⟨w6.heap.size, 0, none⟩ 1 1 [.slice A3 n c3] rfl rfl (cell_one_new w6 _ _) (by simp [Value.oneCell']) (by simp only [maxLen]; omega) (by omega) (by simp; omega) ?_; intro v7 w7 o7 g7 _; obtain ⟨g7b, c7, rfl, hg7b, hlt7⟩ := own_shape1 o7 (by omega); have U7 := U0.on g7 (U0.ne_row oP2); have u0 := U7.c0; have u1 := U7.c1; have t0 := U7.fz 0; have t1 := U7.fz 1; have UR7 := UR.on g7 (UR.ne_row oP2); have q0 := UR7.c0; have q1 := UR7.c1; have q2 := UR7.fz 0; have q3 := UR7.fz 1; have hcc := own_capK o7; have k8 : (1 : Int) ≤ (c7 : Int) := (by omega); have k9 : 1 ≤ c7 := (by omega); have k10 : (m : Int) + 1 ≤ (c7 : Int) := (by omega))
      have HK : ∀ k, k ≠ o → k ≠ w.heap.size + 2 → ((((w7.setCell ⟨o, 1, none⟩ (.slice (some ⟨g7b, 0, none⟩) (m + 1) c7)).setCell ⟨o, 0, none⟩ (.slice A5 m5 c5)).setCell ⟨w.heap.size + 1 + 1, 0, none⟩ (.slice A5 m5 c5)).setCell ⟨w.heap.size + 1 + 1, 1, none⟩ (.slice (some ⟨g7b, 0, none⟩) (m + 1) c7)).heap[k]? = w7.heap[k]? := fun k h1 h2 =>
        (heap_setCell_other _ _ _ _ h2).trans ((heap_setCell_other _ _ _ _ h2).trans ((heap_setCell_other _ _ _ _ h1).trans (heap_setCell_other _ _ _ _ h1)))
      have RX := (HR6.out.beside HP2.out g7).snoc ⟨_, _, _, rfl, own_beside HN6.out HP2.out g7⟩
      have X7 := own_beside HX6.out HP2.out g7
      have FX := own_same X7 (fun k hk => HK k (fun e => U7.ne_int X7 (by rw [hk, e])) (fun e => UR7.ne_int X7 (by rw [hk, e])))
      have FP := own_same o7 (fun k hk => HK k (fun e => U7.ne_row o7 (by rw [hk, e])) (fun e => UR7.ne_row o7 (by rw [hk, e])))
      have FR := RX.keep (fun v n xs ho => own_same ho (fun k hk => HK k (fun e => U7.ne_int ho (by rw [hk, e])) (fun e => UR7.ne_int ho (by rw [hk, e]))))
      have FD := (((UR7.other (g := o) (by omega) 1 (.slice (some ⟨g7b, 0, none⟩) (m + 1) c7)).other (g := o) (by omega) 0 (.slice A5 m5 c5)).set (.slice A5 m5 c5) (.slice (some ⟨g7b, 0, none⟩) (m + 1) c7))
      have FB := ((((HB6.out.grown g7 (by have := hHQ.out; simp; omega) (by intro j hj; exact (HP2.out.lt j hj).1)).setCell (p := ⟨o, 1, none⟩) (show w.heap.size ≤ o by omega) (.slice (some ⟨g7b, 0, none⟩) (m + 1) c7)).setCell (p := ⟨o, 0, none⟩) (show w.heap.size ≤ o by omega) (.slice A5 m5 c5)).setCell (p := ⟨w.heap.size + 1 + 1, 0, none⟩) (show w.heap.size ≤ w.heap.size + 1 + 1 by omega) (.slice A5 m5 c5)).setCell (p := ⟨w.heap.size + 1 + 1, 1, none⟩) (show w.heap.size ≤ w.heap.size + 1 + 1 by omega) (.slice (some ⟨g7b, 0, none⟩) (m + 1) c7)
      have hTR : trimL (D.past ++ [D.now]) = D.past ++ [D.now] := by unfold trimL; rw [if_neg (by rw [List.length_append, HP1.out]; simp; omega)]
      (try simp only [Exit.inBlock, Exit.then])
      refine bodyPost_ret (results_db rfl _ _ (w.heap.size + 2) 26 _ (0, 0) _ (by simp [Act.put]) FD Try.underlying26 rfl size_desk) rfl ?_
      exact ⟨A5, m5, c5, some ⟨g7b, 0, none⟩, m + 1, c7, by rw [HV.out]; rfl, by rw [HV.out]; exact ⟨DkG.of_own ⟨_, FX, FP, by rw [hTR]; exact FR⟩, fun _ => ⟨_, FX, FP, by rw [hTR]; exact FR⟩⟩, FB⟩
end Go.Proofs.Ytkejcajboneniaa

namespace Go.Proofs.Ytkejcajboneniaa
open Go.RowKit
set_option linter.unusedVariables false
set_option linter.unusedSimpArgs false

set_option maxRecDepth 100000 in
set_option maxHeartbeats 3200000 in
theorem deskDo_back (A : Option Addr) (n c : Nat) (A2 : Option Addr) (m c2 : Nat) (D : Dk) (k N : Int) (w : World) (h : DkR w w.heap.size A n c A2 m c2 D) (hok : deskOk D = true) (hu : undoB D k N = true) :
    Calls Try.prog 32 #[dsk A n c A2 m c2, deed k N] w fun e w' => ∃ A3 n3 c3 A4 m4 c4, e = .returned (.tuple #[dsk A3 n3 c3 A4 m4 c4, .bool (deskDo D (k, N)).2]) ∧ DkP w' w.heap.size D.past.length A3 n3 c3 A4 m4 c4 (deskDo D (k, N)).1 ∧ Below w.heap.size w w' := by
  obtain ⟨rfl, rfl, hne⟩ : k = 6 ∧ N = 0 ∧ D.past.isEmpty = false := by
    unfold undoB at hu
    rw [Bool.and_eq_true, decide_eq_true_iff] at hu
    exact ⟨hu.1.1, hu.1.2, by simpa using hu.2⟩
  obtain ⟨q, l, hql, hq1, hq2⟩ := last_getD hne
  obtain ⟨p, rfl⟩ : ∃ p, m = p + 1 := ⟨m - 1, by have := h.past.len; rw [hql] at this; simp at this; omega⟩
  obtain ⟨j0, hj, hjz0, hjz1, hjz2⟩ := info_rows
  have z1 : (w.alloc (.cells #[.slice A n c, .slice A2 (p + 1) c2] 26)).heap.size = w.heap.size + 1 := by simp
  have z2 : ((w.alloc (.cells #[.slice A n c, .slice A2 (p + 1) c2] 26)).alloc (.cells #[.int .i64 6, .int .i64 0] 45)).heap.size = w.heap.size + 2 := by simp
  have g1 := grown_alloc (w.alloc (.cells #[.slice A n c, .slice A2 (p + 1) c2] 26)) (.cells #[.int .i64 6, .int .i64 0] 45) none
  have g2 := grown_alloc ((w.alloc (.cells #[.slice A n c, .slice A2 (p + 1) c2] 26)).alloc (.cells #[.int .i64 6, .int .i64 0] 45)) (.cells #[.slice none 0 0, .slice none 0 0] 26) none
  have X0 := ((Db.new w (.slice A n c) (.slice A2 (p + 1) c2)).on (row := none) g1 (by simp)).on (row := none) g2 (by simp)
  have XA := (g2.block (w.heap.size + 1) (by simp) (by simp)).trans (show ((w.alloc (.cells #[.slice A n c, .slice A2 (p + 1) c2] 26)).alloc (.cells #[.int .i64 6, .int .i64 0] 45)).heap[w.heap.size + 1]? = some (.cells #[.int .i64 6, .int .i64 0] 45 (0, 0)) from by rw [← z1]; exact heap_alloc_new _ _)
  have XR := Db.new ((w.alloc (.cells #[.slice A n c, .slice A2 (p + 1) c2] 26)).alloc (.cells #[.int .i64 6, .int .i64 0] 45)) (.slice none 0 0) (.slice none 0 0)
  rw [z2] at XR
  have B0 := ((Below.refl w.heap.size w).alloc (Nat.le_refl _) (.cells #[.slice A n c, .slice A2 (p + 1) c2] 26)).alloc (by simp) (.cells #[.int .i64 6, .int .i64 0] 45)
  replace B0 := B0.alloc (by simp; omega) (.cells #[.slice none 0 0, .slice none 0 0] 26)
  go_enter Try.func32, Try.ntmps32
  obtain ⟨w0, e0⟩ : ∃ W, ((w.alloc (.cells #[.slice A n c, .slice A2 (p + 1) c2] 26)).alloc (.cells #[.int .i64 6, .int .i64 0] 45)).alloc (.cells #[.slice none 0 0, .slice none 0 0] 26) = W := ⟨_, rfl⟩
  have hz0 : w0.heap.size = w.heap.size + 3 := by rw [← e0]; simp
  rw [e0] at X0 XA XR B0
  clear g1 g2
  have c0 := X0.c0
  have c1 := X0.c1
  have H0 := h.on B0
  have CK := hid (specDeskOk_any A n c A2 (p + 1) c2 D w0 H0)
  have CC := hid (fun (W : World) (hW : DkR W W.heap.size A n c A2 (p + 1) c2 D) => copyDesk_any A n c A2 (p + 1) c2 D W hW)
  have HX0 := hid X0
  have HXA := hid XA
  have HXR := hid XR
  have HB0 := hid B0
  have HH := hid h
  clear X0 XA XR B0 H0 h z1 z2
  rw [hok] at CK
  go_wp2_with fail
  with_reducible refine Calls.mono CK.out ?_
  rintro e w1 ⟨rfl, g1⟩
  have c0 : w1.cell? ⟨w.heap.size, 0, none⟩ = some (.slice A n c) := (HX0.out.on (row := none) g1 (by simp)).c0
  have c1 : w1.cell? ⟨w.heap.size, 1, none⟩ = some (.slice A2 (p + 1) c2) := (HX0.out.on (row := none) g1 (by simp)).c1
  have HB1 := hid (HB0.out.trans ((below_grown g1).mono HB0.out.size))
  go_wp2_with fail
  with_reducible refine Calls.mono (CC.out w1 (HH.out.on HB1.out) hok) ?_
  rintro e w2 ⟨A3, c3, A4, c4, rfl, F2, b2⟩
  have HB2 := hid (HB1.out.trans (b2.mono HB1.out.size))
  have gO := grown_alloc w2 (.cells #[.slice A3 n c3, .slice A4 (p + 1) c4] 26) none
  have hz2 := HB2.out.size
  have hb23 := b2.size
  have hg1z := g1.size
  have Z0 := ((HX0.out.on (row := none) g1 (by simp)).below b2 (by omega)).on (row := none) gO (by simp)
  have ZA := (gO.block (w.heap.size + 1) (by omega) (by simp)).trans ((b2.block (w.heap.size + 1) (by omega)).trans ((g1.block (w.heap.size + 1) (by omega) (by simp)).trans HXA.out))
  have ZR := ((HXR.out.on (row := none) g1 (by simp)).below b2 (by omega)).on (row := none) gO (by simp)
  have ZO := Db.new w2 (.slice A3 n c3) (.slice A4 (p + 1) c4)
  have F3 := F2.onto gO
  have B3 := HB2.out.alloc hz2 (.cells #[.slice A3 n c3, .slice A4 (p + 1) c4] 26)
  obtain ⟨w3, e3⟩ : ∃ W, w2.alloc (.cells #[.slice A3 n c3, .slice A4 (p + 1) c4] 26) = W := ⟨_, rfl⟩
  have hz3 : w3.heap.size = w2.heap.size + 1 := by rw [← e3]; simp
  rw [e3] at Z0 ZA ZR ZO F3 B3
  obtain ⟨o, ho⟩ : ∃ o, w2.heap.size = o := ⟨_, rfl⟩
  rw [ho] at ZO hz3
  have hoB : w.heap.size + 3 ≤ o := by omega
  have x0 := Z0.c0
  have x1 := Z0.c1
  obtain ⟨a0, a1, _, _⟩ := pairCells ZA
  have o0 := ZO.c0
  have o1 := ZO.c1
  have of0 := ZO.fz 0
  have of1 := ZO.fz 1
  have r0 := ZR.c0
  have r1 := ZR.c1
  have rf0 := ZR.fz 0
  have rf1 := ZR.fz 1
  have HZ0 := hid Z0
  have HZR := hid ZR
  have HZO := hid ZO
  have HF3 := hid F3
  have HB3 := hid B3
  have HW1 := hid HB1.out.size
  have HG := hid HH.out.cap
  have HP1 := hid HH.out.past.len
  clear c0 c1 HX0 HXA HXR HB0 HB1 HB2 F2 b2 gO Z0 ZA ZR ZO F3 B3 CK g1 hb23 hg1z e0 hz0
  have hnow := (deskOk_iff.1 hok).2.1
  have h8 := (deskOk_iff.1 hok).2.2
  rw [HP1.out] at h8
  have hl1 := (bitsOk_iff.1 hnow).2
  rw [HH.out.now.len] at hl1
  have HV := hid (show deskDo D (6, 0) = (⟨l, q⟩, true) from by unfold deskDo; rw [if_pos hok, if_pos hu, hq1, hq2])
  obtain ⟨vs, ON, OP, OR⟩ := HF3.out
  have hqp : q.length = p := by have := HP1.out; rw [hql] at this; simpa using this
  have hpl : D.past[p]? = some l := by rw [hql, ← hqp]; simp
  obtain ⟨Al, nl, cl, hvl, OL⟩ := OR.at hpl
  obtain ⟨g4, c4', hA4, hg4B, hg4⟩ := own_shape1 OP (by omega)
  injection hA4 with hA4 _ hc4
  subst hA4
  subst hc4
  have hcell : w3.cell? ⟨g4, p, none⟩ = some (.slice Al nl cl) := (OP.cellAt p (by omega)).trans hvl
  have hcc := own_capK OP
  have k8 : (p : Int) ≤ (c4 : Int) := by omega
  have k9 : p ≤ c4 := by omega
  have k10 : (0 : Int) < (p : Int) + 1 := by omega
  have k11 : (p : Int) < (p : Int) + 1 := by omega
  have k12 : (0 : Int) ≤ (p : Int) := by omega
  have k13 : (p : Int) ≤ (p : Int) + 1 := by omega
  have hgo : g4 ≠ o := fun e => HZO.out.ne_row OP (by rw [e]; rfl)
  have hgR : g4 ≠ w.heap.size + 2 := fun e => HZR.out.ne_row OP (by rw [e]; rfl)
  have ho4 : (w3.setCell ⟨o, 0, none⟩ (.slice Al nl cl)).cell? ⟨o, 1, none⟩ = some (.slice (some ⟨g4, 0, none⟩) (p + 1) c4) := (HZO.out.set0 (.slice Al nl cl)).c1
  go_wp2
  have HK : ∀ k, k ≠ o → k ≠ w.heap.size + 2 → ((((w3.setCell ⟨o, 0, none⟩ (.slice Al nl cl)).setCell ⟨o, 1, none⟩ (.slice (some ⟨g4, 0, none⟩) p c4)).setCell ⟨w.heap.size + 1 + 1, 0, none⟩ (.slice Al nl cl)).setCell ⟨w.heap.size + 1 + 1, 1, none⟩ (.slice (some ⟨g4, 0, none⟩) p c4)).heap[k]? = w3.heap[k]? := fun k h1 h2 =>
    (heap_setCell_other _ _ _ _ h2).trans ((heap_setCell_other _ _ _ _ h2).trans ((heap_setCell_other _ _ _ _ h1).trans (heap_setCell_other _ _ _ _ h1)))
  have FX := own_same OL (fun k hk => HK k (fun e => HZO.out.ne_int OL (by rw [hk, e])) (fun e => HZR.out.ne_int OL (by rw [hk, e])))
  have FP := own_same OP (fun k hk => HK k (fun e => HZO.out.ne_row OP (by rw [hk, e])) (fun e => HZR.out.ne_row OP (by rw [hk, e])))
  have FR := OR.keep (fun v n xs ho => own_same ho (fun k hk => HK k (fun e => HZO.out.ne_int ho (by rw [hk, e])) (fun e => HZR.out.ne_int ho (by rw [hk, e]))))
  have FD := (((HZR.out.other (g := o) (by omega) 0 (.slice Al nl cl)).other (g := o) (by omega) 1 (.slice (some ⟨g4, 0, none⟩) p c4)).set (.slice Al nl cl) (.slice (some ⟨g4, 0, none⟩) p c4))
  have FB := (((HB3.out.setCell (p := ⟨o, 0, none⟩) (show w.heap.size ≤ o by omega) (.slice Al nl cl)).setCell (p := ⟨o, 1, none⟩) (show w.heap.size ≤ o by omega) (.slice (some ⟨g4, 0, none⟩) p c4)).setCell (p := ⟨w.heap.size + 1 + 1, 0, none⟩) (show w.heap.size ≤ w.heap.size + 1 + 1 by omega) (.slice Al nl cl)).setCell (p := ⟨w.heap.size + 1 + 1, 1, none⟩) (show w.heap.size ≤ w.heap.size + 1 + 1 by omega) (.slice (some ⟨g4, 0, none⟩) p c4)
  have hqt : D.past.take p = q := by rw [hql, ← hqp]; simp
  have FF : DkF ((((w3.setCell ⟨o, 0, none⟩ (.slice Al nl cl)).setCell ⟨o, 1, none⟩ (.slice (some ⟨g4, 0, none⟩) p c4)).setCell ⟨w.heap.size + 1 + 1, 0, none⟩ (.slice Al nl cl)).setCell ⟨w.heap.size + 1 + 1, 1, none⟩ (.slice (some ⟨g4, 0, none⟩) p c4)) w.heap.size Al nl cl (some ⟨g4, 0, none⟩) p c4 ⟨l, q⟩ := ⟨vs.take p, own_mono FX HW1.out, own_mono (own_cutK FP (by omega) (by simp)) HW1.out, by rw [← hqt]; exact (FR.mono HW1.out).cutK⟩
  (try simp only [Exit.inBlock, Exit.then])
  refine bodyPost_ret (results_db rfl _ _ (w.heap.size + 2) 26 _ (0, 0) _ (by simp [Act.put]) FD Try.underlying26 rfl size_desk) rfl ?_
  exact ⟨Al, nl, cl, some ⟨g4, 0, none⟩, p, c4, by rw [HV.out]; rfl, by rw [HV.out]; exact ⟨DkG.of_own FF, fun _ => FF⟩, FB⟩

/-- DeskDo of the model. -/
theorem specDeskDo_any (A : Option Addr) (n c : Nat) (A2 : Option Addr) (m c2 : Nat) (D : Dk) (k N : Int) (w : World) (h : DkR w w.heap.size A n c A2 m c2 D) :
    Calls Try.prog 32 #[dsk A n c A2 m c2, deed k N] w fun e w' => ∃ A3 n3 c3 A4 m4 c4, e = .returned (.tuple #[dsk A3 n3 c3 A4 m4 c4, .bool (deskDo D (k, N)).2]) ∧ DkP w' w.heap.size D.past.length A3 n3 c3 A4 m4 c4 (deskDo D (k, N)).1 ∧ Below w.heap.size w w' := by
  by_cases hok : deskOk D = true
  · by_cases hu : undoB D k N = true
    · exact deskDo_back A n c A2 m c2 D k N w h hok hu
    · cases hs : stayB D k N with
      | true => exact deskDo_stay A n c A2 m c2 D k N w h (fun _ => ⟨hu, hs⟩)
      | false => exact deskDo_done A n c A2 m c2 D k N w h hok hu hs
  · exact deskDo_stay A n c A2 m c2 D k N w h (fun h' => absurd h' hok)
end Go.Proofs.Ytkejcajboneniaa

namespace Go.Proofs.Ytkejcajboneniaa
open Go.RowKit
set_option linter.unusedVariables false
set_option linter.unusedSimpArgs false

theorem take_deed {l : List (Int × Int)} {k : Nat} (h : k < l.length) : l.take (k + 1) = l.take k ++ [l.getD k (0, 0)] := by
  rw [List.take_succ_eq_append_getElem h, List.getD_eq_getElem?_getD, List.getElem?_eq_getElem h]
  rfl
theorem SlD.at {w : World} {B n : Nat} {A : Option Addr} {l : List (Int × Int)} (h : SlD w B A n l) {k : Nat} (hk : k < n) : ∃ b off, A = some ⟨b, off, none⟩ ∧ b < B ∧ w.cell? ⟨b, off + k * 2, none⟩ = some (.int .i64 (l.getD k (0, 0)).1) ∧ w.cell? ⟨b, off + k * 2 + 1, none⟩ = some (.int .i64 (l.getD k (0, 0)).2) := by
  obtain ⟨b, off, e, hb, hc⟩ := h.2.2 (by omega)
  refine ⟨b, off, e, hb, ?_, ?_⟩
  · rw [hc (k * 2) (by omega), nth_flat0]
  · rw [show off + k * 2 + 1 = off + (k * 2 + 1) by omega, hc (k * 2 + 1) (by omega), nth_flat1]

set_option maxRecDepth 100000 in
set_option maxHeartbeats 3200000 in
theorem specDeskRun_any (A : Option Addr) (n c : Nat) (A2 : Option Addr) (m c2 : Nat) (D : Dk) (AL : Option Addr) (nL cL : Nat) (l : List (Int × Int)) (w : World) (h : DkR w w.heap.size A n c A2 m c2 D) (hL : SlD w w.heap.size AL nL l) :
    Calls Try.prog 37 #[dsk A n c A2 m c2, .slice AL nL cL] w fun e w' => ∃ A3 n3 c3 A4 m4 c4, e = .returned (.tuple #[dsk A3 n3 c3 A4 m4 c4, .int .i64 ((runOut D l).2 : Nat)]) ∧ DkG w' w.heap.size A3 n3 c3 A4 m4 c4 (runOut D l).1 ∧ Below w.heap.size w w' := by
  have z1 : (w.alloc (.cells #[.slice A n c, .slice A2 m c2] 26)).heap.size = w.heap.size + 1 := by simp
  have g1 := grown_alloc (w.alloc (.cells #[.slice A n c, .slice A2 m c2] 26)) (.cells #[.slice none 0 0, .slice none 0 0] 26) none
  have X0 := (Db.new w (.slice A n c) (.slice A2 m c2)).on (row := none) g1 (by simp)
  have XR := Db.new (w.alloc (.cells #[.slice A n c, .slice A2 m c2] 26)) (.slice none 0 0) (.slice none 0 0)
  rw [z1] at XR
  have B0 := ((Below.refl w.heap.size w).alloc (Nat.le_refl _) (.cells #[.slice A n c, .slice A2 m c2] 26)).alloc (by simp) (.cells #[.slice none 0 0, .slice none 0 0] 26)
  have hLl := hL.len
  have hLm := hL.max
  go_enter Try.func37, Try.ntmps37
  obtain ⟨w0, e0⟩ : ∃ W, (w.alloc (.cells #[.slice A n c, .slice A2 m c2] 26)).alloc (.cells #[.slice none 0 0, .slice none 0 0] 26) = W := ⟨_, rfl⟩
  have hz0 : w0.heap.size = w.heap.size + 2 := by rw [← e0]; simp
  rw [e0] at X0 XR B0
  clear g1
  have c0 := X0.c0
  have c1 := X0.c1
  have H0 := h.on B0
  have CK := hid (specDeskOk_any A n c A2 m c2 D w0 H0)
  have CC := hid (fun (W : World) (hW : DkR W W.heap.size A n c A2 m c2 D) (hok : deskOk D = true) => copyDesk_any A n c A2 m c2 D W hW hok)
  have HXR := hid XR
  have HX0 := hid X0
  have HB0 := hid B0
  have HH := hid h
  have HLS := hid hL
  have HLL := hid hLl
  clear X0 XR B0 H0 h z1 hL hLl
  by_cases hq : runOk D l = true
  · have hq' := hq
    unfold runOk at hq'
    rw [Bool.and_eq_true, decide_eq_true_iff] at hq'
    obtain ⟨hok, h40⟩ := hq'
    rw [HLL.out] at h40
    have h40i : ¬ (40 : Int) < (nL : Int) := by omega
    have h40d : decide ((40 : Int) < (nL : Int)) = false := by simp; omega
    have HV := hid (show runOut D l = runL D l from by unfold runOut; rw [if_pos hq])
    rw [hok] at CK
    go_wp2_with fail
    with_reducible refine Calls.mono CK.out ?_
    rintro e w1 ⟨rfl, g1⟩
    have HB1 := hid (HB0.out.trans ((below_grown g1).mono HB0.out.size))
    have YR := HXR.out.on (row := none) g1 (by simp)
    have Y0 := HX0.out.on (row := none) g1 (by simp)
    have k0 := Y0.c0
    have k1 := Y0.c1
    have hz1 := g1.size
    clear g1 c0 c1 e0
    go_wp2_with fail
    with_reducible refine Calls.mono (CC.out w1 (HH.out.on HB1.out) hok) ?_
    rintro e w2 ⟨A3, c3, A4, c4, rfl, F2, b2⟩
    have hz2 := b2.size
    have gO := grown_alloc w2 (.cells #[.slice A3 n c3, .slice A4 m c4] 26) none
    have ZR := (YR.below b2 (by omega)).on (row := none) gO (by simp)
    have ZO := Db.new w2 (.slice A3 n c3) (.slice A4 m c4)
    have F3 := (DkG.of_own (F2.onto gO)).mono HB1.out.size
    have B3 := (HB1.out.trans (b2.mono HB1.out.size)).alloc (by have := HB1.out.size; omega) (.cells #[.slice A3 n c3, .slice A4 m c4] 26)
    obtain ⟨w3, e3⟩ : ∃ W, w2.alloc (.cells #[.slice A3 n c3, .slice A4 m c4] 26) = W := ⟨_, rfl⟩
    have hz3 : w3.heap.size = w2.heap.size + 1 := by rw [← e3]; simp
    rw [e3] at ZR ZO F3 B3
    obtain ⟨o, ho⟩ : ∃ o, w2.heap.size = o := ⟨_, rfl⟩
    rw [ho] at ZO hz3
    have hoB : w.heap.size + 2 ≤ o := by omega
    have HZR := hid ZR
    have HZO := hid ZO
    have HF3 := hid F3
    have HB3 := hid B3
    have HOK := hid (fun (j : Nat) => run_ok hok (l.take j))
    have HLE := hid (fun (j : Nat) => run_le D (l.take j))
    clear YR Y0 k0 k1 F2 b2 gO ZR ZO F3 B3 CK CC HXR HX0 HB0 HB1 hz1 hz2 hz0
    go_wp2
    clear e3 ho
    go_loopw [7, 8] (fun nn kk wr => ∃ (k : Nat) (Ao : Option Addr) (no co : Nat) (Po : Option Addr) (mo cp : Nat), nn = .int .i64 ((runL D (l.take k)).2 : Nat) ∧ kk = .int .i64 k ∧ k ≤ nL ∧ Hid (Db wr (w.heap.size + 1) (.slice none 0 0) (.slice none 0 0)) ∧ Hid (Db wr o (.slice Ao no co) (.slice Po mo cp)) ∧ Hid (DkG wr w.heap.size Ao no co Po mo cp (runL D (l.take k)).1) ∧ Hid (Below w.heap.size w wr)) (fun _ kk _ => nL - (intOf kk).toNat)
    case atStart => exact ⟨0, A3, n, c3, A4, m, c4, rfl, rfl, Nat.zero_le _, HZR, HZO, HF3, HB3⟩
    case round =>
      clear HZR HZO HF3 HB3
      obtain ⟨k, Ao, no, co, Po, mo, cp, rfl, rfl, hk, HZR, HZO, HF3, HB3⟩ := hrel
      have o0 := HZO.out.c0
      have o1 := HZO.out.c1
      by_cases hlt : k < nL
      · obtain ⟨bl, offl, rfl, hbl, d0, d1⟩ := (HLS.out.below HB3.out).at hlt
        have hlti : (k : Int) < (nL : Int) := by omega
        have p7 : (0 : Int) ≤ (k : Int) := by omega
        have htk := hid (show runL D (l.take (k + 1)) = runF (runL D (l.take k)) (l.getD k (0, 0)) from by rw [take_deed (by rw [HLL.out]; exact hlt), run_snoc])
        have hok1 := HOK.out k
        have hle1 := HLE.out (k + 1)
        have hle0 := HLE.out k
        rw [List.length_take] at hle1 hle0
        obtain ⟨a, ha⟩ : ∃ a, l.getD k (0, 0) = a := ⟨_, rfl⟩
        rw [ha] at d0 d1 htk
        obtain ⟨E, cnt, hE⟩ : ∃ E cnt, runL D (l.take k) = (E, cnt) := ⟨_, _, rfl⟩
        rw [hE] at htk hok1 HF3 hle0
        have hdr : wr.grownBy wr.drew none := drewN_gA wr 1
        have CD := hid (specDeskDo_any Ao no co Po mo cp E a.1 a.2 wr.drew (HF3.out.onto hdr).read)
        have X1 : Db (wr.alloc (.cells #[.slice none 0 0, .slice none 0 0] 26)).drew wr.heap.size (.slice none 0 0) (.slice none 0 0) := Db.new wr (.slice none 0 0) (.slice none 0 0)
        have gW1 : wr.grownBy (wr.alloc (.cells #[.slice none 0 0, .slice none 0 0] 26)).drew none := (grown_alloc wr (.cells #[.slice none 0 0, .slice none 0 0] 26) none).trans (drewN_gA _ 1)
        have CD2 := hid (specDeskDo_any Ao no co Po mo cp E a.1 a.2 ((wr.alloc (.cells #[.slice none 0 0, .slice none 0 0] 26)).drew) (HF3.out.onto gW1).read)
        rw [hE]
        obtain ⟨E2, yes, hE2⟩ : ∃ E2 yes, deskDo E (a.1, a.2) = (E2, yes) := ⟨_, _, rfl⟩
        rw [hE2] at CD CD2
        have hE3 : deskDo E a = (E2, yes) := hE2
        have KX := hid (fun (W : World) (h1 : Below wr.heap.size wr W) => show (W.cell? ⟨o, 0, none⟩ = some (.slice Ao no co) ∧ W.cell? ⟨o, 1, none⟩ = some (.slice Po mo cp) ∧ W.cell? ⟨bl, offl + k * 2, none⟩ = some (.int .i64 a.1) ∧ W.cell? ⟨bl, offl + k * 2 + 1, none⟩ = some (.int .i64 a.2)) from by
          have h2 := HB3.out.size
          exact ⟨(HZO.out.below h1 HZO.out.lt).c0, (HZO.out.below h1 HZO.out.lt).c1, (h1.cell (p := ⟨bl, offl + k * 2, none⟩) (show bl < wr.heap.size by omega)).trans d0, (h1.cell (p := ⟨bl, offl + k * 2 + 1, none⟩) (show bl < wr.heap.size by omega)).trans d1⟩)
        have hd1 : Below wr.heap.size wr wr.drew := (Below.refl wr.heap.size wr).drew
        have hd2 : Below wr.heap.size wr (wr.alloc (.cells #[.slice none 0 0, .slice none 0 0] 26)).drew := below_grown gW1
        go_wp2
        go_region_held3 (fun w' => w'.cell? ⟨o, 0, none⟩ = some (.slice Ao no co) ∧ w'.cell? ⟨o, 1, none⟩ = some (.slice Po mo cp) ∧ w'.cell? ⟨bl, offl + k * 2, none⟩ = some (.int .i64 a.1) ∧ w'.cell? ⟨bl, offl + k * 2 + 1, none⟩ = some (.int .i64 a.2))
          (first
            | go_keep
            | assumption
            | exact kx2 _ _)
          (first
            | (go_at_call 32; (with_reducible refine Calls.mono CD.out ?_); rintro e w5 ⟨A5, n5, c5, A6, m6, c6, rfl, G5p, b5⟩; have hB5 : Below wr.heap.size wr w5 := hd1.trans b5; have kx := KX.out _ hB5)
            | (go_at_call 32; (with_reducible refine Calls.mono CD2.out ?_); rintro e w5 ⟨A5, n5, c5, A6, m6, c6, rfl, G5p, b5⟩; have hB5 : Below wr.heap.size wr w5 := hd2.trans (b5.mono hd2.size); have kx := KX.out _ hB5; have yx : Db w5 wr.heap.size (.slice none 0 0) (.slice none 0 0) := X1.below b5 (show wr.heap.size < (wr.alloc (.cells #[.slice none 0 0, .slice none 0 0] 26)).drew.heap.size by show wr.heap.size < (wr.alloc (.cells #[.slice none 0 0, .slice none 0 0] 26)).heap.size; simp); have yx0 := yx.c0; have yx1 := yx.c1; have yf0 := yx.fz 0; have yf1 := yx.fz 1; have kx2 : ∀ x y, ((w5.setCell ⟨wr.heap.size, 0, none⟩ x).setCell ⟨wr.heap.size, 1, none⟩ y).cell? ⟨o, 0, none⟩ = some (.slice Ao no co) ∧ ((w5.setCell ⟨wr.heap.size, 0, none⟩ x).setCell ⟨wr.heap.size, 1, none⟩ y).cell? ⟨o, 1, none⟩ = some (.slice Po mo cp) ∧ ((w5.setCell ⟨wr.heap.size, 0, none⟩ x).setCell ⟨wr.heap.size, 1, none⟩ y).cell? ⟨bl, offl + k * 2, none⟩ = some (.int .i64 a.1) ∧ ((w5.setCell ⟨wr.heap.size, 0, none⟩ x).setCell ⟨wr.heap.size, 1, none⟩ y).cell? ⟨bl, offl + k * 2 + 1, none⟩ = some (.int .i64 a.2) := fun x y => KX.out _ ((hB5.setCell (p := ⟨wr.heap.size, 0, none⟩) (Nat.le_refl _) x).setCell (p := ⟨wr.heap.size, 1, none⟩) (Nat.le_refl _) y)))
        · have G5 := G5p.1
          have hB6 := HB3.out.trans (hB5.mono HB3.out.size)
          have hsz5 := hB5.size
          have hwz := HB3.out.size
          have gX := grown_alloc w5 (.cells #[.slice A5 n5 c5, .slice A6 m6 c6] 26) none
          have VO := (HZO.out.below hB5 HZO.out.lt).on (row := none) gX (by simp)
          have VR := (HZR.out.below hB5 HZR.out.lt).on (row := none) gX (by simp)
          have VX := Db.new w5 (.slice A5 n5 c5) (.slice A6 m6 c6)
          have GO := hid ((HF3.out.on hB5).onto gX)
          have GX := hid ((G5.mono (show w.heap.size ≤ wr.drew.heap.size from hwz)).onto gX)
          have BX := hid (hB6.alloc (by omega) (.cells #[.slice A5 n5 c5, .slice A6 m6 c6] 26))
          have hoX : o < w5.heap.size := by have := HZO.out.lt; omega
          obtain ⟨w6, e6⟩ : ∃ W, w5.alloc (.cells #[.slice A5 n5 c5, .slice A6 m6 c6] 26) = W := ⟨_, rfl⟩
          rw [e6] at VO VR VX GO GX BX ⊢
          have x0 := VX.c0
          have x1 := VX.c1
          have v0 := VO.c0
          have v1 := VO.c1
          have v2 := VO.fz 0
          have v3 := VO.fz 1
          have HVO := hid VO
          have HVR := hid VR
          clear VO VR VX gX G5 G5p b5 hB5 hB6 kx d0 d1 o0 o1 CD CD2 KX HZO HZR HF3 HB3 e6
          cases yes with
          | true =>
            have HS := hid (show runL D (l.take (k + 1)) = (E2, cnt + 1) from by rw [htk.out]; unfold runF; simp only [hE3, if_true])
            have hcl : cnt + 1 ≤ nL := by rw [HS.out] at hle1; simp at hle1; omega
            go_wp2
            have QO := hid (HVO.out.set (.slice A5 n5 c5) (.slice A6 m6 c6))
            have QR : Hid (Db ((w6.setCell ⟨o, 0, none⟩ (.slice A5 n5 c5)).setCell ⟨o, 1, none⟩ (.slice A6 m6 c6)) (w.heap.size + 1) (.slice none 0 0) (.slice none 0 0)) := hid ((HVR.out.other (g := o) (by omega) 0 (.slice A5 n5 c5)).other (g := o) (by omega) 1 (.slice A6 m6 c6))
            have QG := hid (GX.out.box2 HVO.out (.slice A5 n5 c5) (.slice A6 m6 c6))
            have QB := hid ((BX.out.setCell (p := ⟨o, 0, none⟩) (show w.heap.size ≤ o by omega) (.slice A5 n5 c5)).setCell (p := ⟨o, 1, none⟩) (show w.heap.size ≤ o by omega) (.slice A6 m6 c6))
            go_roundw
            case rel => exact ⟨k + 1, A5, n5, c5, A6, m6, c6, by rw [HS.out]; go_num, by go_num, by omega, QR, QO, by rw [HS.out]; exact QG, QB⟩
            case measure => simp [intOf]; omega
          | false =>
            have HS := hid (show runL D (l.take (k + 1)) = (E, cnt) from by rw [htk.out]; unfold runF; simp [hE3])
            go_wp2
            go_roundw
            case rel => exact ⟨k + 1, Ao, no, co, Po, mo, cp, by rw [HS.out], by go_num, by omega, HVR, HVO, by rw [HS.out]; exact GO, BX⟩
            case measure => simp [intOf]; omega
        · have G5 := G5p.1
          have hB6 := HB3.out.trans (hB5.mono HB3.out.size)
          have hsz5 := hB5.size
          have hwz := HB3.out.size
          have hoX : o < wr.heap.size := HZO.out.lt
          have hRX : w.heap.size + 1 < wr.heap.size := HZR.out.lt
          have VO := ((HZO.out.below hB5 HZO.out.lt).other (g := wr.heap.size) (by omega) 0 (.slice A5 n5 c5)).other (g := wr.heap.size) (by omega) 1 (.slice A6 m6 c6)
          have VR := ((HZR.out.below hB5 HZR.out.lt).other (g := wr.heap.size) (by omega) 0 (.slice A5 n5 c5)).other (g := wr.heap.size) (by omega) 1 (.slice A6 m6 c6)
          have VX := yx.set (.slice A5 n5 c5) (.slice A6 m6 c6)
          have GO := hid ((HF3.out.on hB5).box2 yx (.slice A5 n5 c5) (.slice A6 m6 c6))
          have GX := hid ((G5.mono (show w.heap.size ≤ (wr.alloc (.cells #[.slice none 0 0, .slice none 0 0] 26)).drew.heap.size from Nat.le_trans hwz hd2.size)).box2 yx (.slice A5 n5 c5) (.slice A6 m6 c6))
          have BX := hid ((hB6.setCell (p := ⟨wr.heap.size, 0, none⟩) hwz (.slice A5 n5 c5)).setCell (p := ⟨wr.heap.size, 1, none⟩) hwz (.slice A6 m6 c6))
          obtain ⟨w6, e6⟩ : ∃ W, (w5.setCell ⟨wr.heap.size, 0, none⟩ (.slice A5 n5 c5)).setCell ⟨wr.heap.size, 1, none⟩ (.slice A6 m6 c6) = W := ⟨_, rfl⟩
          rw [e6] at VO VR VX GO GX BX ⊢
          have x0 := VX.c0
          have x1 := VX.c1
          have v0 := VO.c0
          have v1 := VO.c1
          have v2 := VO.fz 0
          have v3 := VO.fz 1
          have HVO := hid VO
          have HVR := hid VR
          clear VO VR VX G5 G5p b5 hB5 hB6 kx kx2 yx yx0 yx1 yf0 yf1 d0 d1 o0 o1 CD CD2 KX HZO HZR HF3 HB3 e6
          cases yes with
          | true =>
            have HS := hid (show runL D (l.take (k + 1)) = (E2, cnt + 1) from by rw [htk.out]; unfold runF; simp only [hE3, if_true])
            have hcl : cnt + 1 ≤ nL := by rw [HS.out] at hle1; simp at hle1; omega
            go_wp2
            have QO := hid (HVO.out.set (.slice A5 n5 c5) (.slice A6 m6 c6))
            have QR : Hid (Db ((w6.setCell ⟨o, 0, none⟩ (.slice A5 n5 c5)).setCell ⟨o, 1, none⟩ (.slice A6 m6 c6)) (w.heap.size + 1) (.slice none 0 0) (.slice none 0 0)) := hid ((HVR.out.other (g := o) (by omega) 0 (.slice A5 n5 c5)).other (g := o) (by omega) 1 (.slice A6 m6 c6))
            have QG := hid (GX.out.box2 HVO.out (.slice A5 n5 c5) (.slice A6 m6 c6))
            have QB := hid ((BX.out.setCell (p := ⟨o, 0, none⟩) (show w.heap.size ≤ o by omega) (.slice A5 n5 c5)).setCell (p := ⟨o, 1, none⟩) (show w.heap.size ≤ o by omega) (.slice A6 m6 c6))
            go_roundw
            case rel => exact ⟨k + 1, A5, n5, c5, A6, m6, c6, by rw [HS.out]; go_num, by go_num, by omega, QR, QO, by rw [HS.out]; exact QG, QB⟩
            case measure => simp [intOf]; omega
          | false =>
            have HS := hid (show runL D (l.take (k + 1)) = (E, cnt) from by rw [htk.out]; unfold runF; simp [hE3])
            go_wp2
            go_roundw
            case rel => exact ⟨k + 1, Ao, no, co, Po, mo, cp, by rw [HS.out], by go_num, by omega, HVR, HVO, by rw [HS.out]; exact GO, BX⟩
            case measure => simp [intOf]; omega
      · obtain rfl : k = nL := by omega
        have hfin : l.take k = l := List.take_of_length_le (by rw [HLL.out]; exact Nat.le_refl _)
        rw [hfin] at HF3
        have r0 := HZR.out.c0
        have r1 := HZR.out.c1
        have r2 := HZR.out.fz 0
        have r3 := HZR.out.fz 1
        have HFN := hid hfin
        clear hfin
        rw [HFN.out]
        have QG := hid (HF3.out.box2 HZR.out (.slice Ao no co) (.slice Po mo cp))
        have QB := hid ((HB3.out.setCell (p := ⟨w.heap.size + 1, 0, none⟩) (show w.heap.size ≤ w.heap.size + 1 by omega) (.slice Ao no co)).setCell (p := ⟨w.heap.size + 1, 1, none⟩) (show w.heap.size ≤ w.heap.size + 1 by omega) (.slice Po mo cp))
        go_wp2
        (try simp only [Exit.inBlock, Exit.then])
        refine bodyPost_ret (results_db rfl _ _ (w.heap.size + 1) 26 _ (0, 0) _ (by simp [Act.put]) (HZR.out.set (.slice Ao no co) (.slice Po mo cp)) Try.underlying26 rfl size_desk) rfl ?_
        exact ⟨Ao, no, co, Po, mo, cp, by rw [HV.out]; rfl, by rw [HV.out]; exact QG.out, QB.out⟩
  · have HV := hid (show runOut D l = (noDk, 0) from by unfold runOut; rw [if_neg hq])
    cases hok : deskOk D with
    | false =>
      rw [hok] at CK
      clear hq hok
      go_wp2_with fail
      with_reducible refine Calls.mono CK.out ?_
      rintro e w1 ⟨rfl, g1⟩
      have HB1 := hid (HB0.out.trans ((below_grown g1).mono HB0.out.size))
      have YR := HXR.out.on (row := none) g1 (by simp)
      have r0 := YR.c0
      have r1 := YR.c1
      have r2 := YR.fz 0
      have r3 := YR.fz 1
      have HYR := hid YR
      clear g1 c0 c1 e0 YR
      go_wp2
      (try simp only [Exit.inBlock, Exit.then])
      refine bodyPost_ret (results_db rfl _ _ (w.heap.size + 1) 26 _ (0, 0) _ (by simp [Act.put]) (HYR.out.set (.slice none 0 0) (.slice none 0 0)) Try.underlying26 rfl size_desk) rfl ?_
      exact ⟨none, 0, 0, none, 0, 0, by rw [HV.out]; rfl, by rw [HV.out]; exact DkG.no _ _, (HB1.out.setCell (p := ⟨w.heap.size + 1, 0, none⟩) (show w.heap.size ≤ w.heap.size + 1 by omega) _).setCell (p := ⟨w.heap.size + 1, 1, none⟩) (show w.heap.size ≤ w.heap.size + 1 by omega) _⟩
    | true =>
      have h40 : 40 < nL := by
        rcases Nat.lt_or_ge 40 nL with h | h
        · exact h
        · exact absurd (show runOk D l = true from by unfold runOk; rw [hok, HLL.out]; simpa using h) hq
      have h40i : (40 : Int) < (nL : Int) := by omega
      have h40d : decide ((40 : Int) < (nL : Int)) = true := by simp; omega
      rw [hok] at CK
      clear hq hok
      go_wp2_with fail
      with_reducible refine Calls.mono CK.out ?_
      rintro e w1 ⟨rfl, g1⟩
      have HB1 := hid (HB0.out.trans ((below_grown g1).mono HB0.out.size))
      have YR := HXR.out.on (row := none) g1 (by simp)
      have r0 := YR.c0
      have r1 := YR.c1
      have r2 := YR.fz 0
      have r3 := YR.fz 1
      have HYR := hid YR
      clear g1 c0 c1 e0 YR
      go_wp2
      (try simp only [Exit.inBlock, Exit.then])
      refine bodyPost_ret (results_db rfl _ _ (w.heap.size + 1) 26 _ (0, 0) _ (by simp [Act.put]) (HYR.out.set (.slice none 0 0) (.slice none 0 0)) Try.underlying26 rfl size_desk) rfl ?_
      exact ⟨none, 0, 0, none, 0, 0, by rw [HV.out]; rfl, by rw [HV.out]; exact DkG.no _ _, (HB1.out.setCell (p := ⟨w.heap.size + 1, 0, none⟩) (show w.heap.size ≤ w.heap.size + 1 by omega) _).setCell (p := ⟨w.heap.size + 1, 1, none⟩) (show w.heap.size ≤ w.heap.size + 1 by omega) _⟩
end Go.Proofs.Ytkejcajboneniaa

namespace Go.Proofs.Ytkejcajboneniaa
open Go.RowKit
set_option linter.unusedVariables false
set_option linter.unusedSimpArgs false

set_option maxHeartbeats 800000 in
theorem szIntS_okK (A : Option Addr) (n c : Nat) (s : Int) (w : World) (h : (n : Int) ≤ s) (hs : s ≤ 1048576) :
    Calls Try.prog 46 #[.slice A n c, .int .i64 s] w fun e w' => e = .returned (.int .i64 (s - n)) ∧ w = w' := by
  have h1 : decide (s - (n : Int) < 0) = false := by simp; omega
  have h2 : ¬ s - (n : Int) < 0 := by omega
  go_enter Try.func46, Try.ntmps46
  go_wp2
  go_ret
  exact ⟨rfl, rfl⟩
set_option maxHeartbeats 800000 in
theorem szIntS_bigK (A : Option Addr) (n c : Nat) (s : Int) (w : World) (h : s < (n : Int)) (hs : 0 ≤ s) (hn : n ≤ 9223372036854775807) :
    Calls Try.prog 46 #[.slice A n c, .int .i64 s] w fun e w' => e = .returned (.int .i64 (-1)) ∧ w = w' := by
  have h1 : s - (n : Int) < 0 := by omega
  go_enter Try.func46, Try.ntmps46
  go_wp2
  go_ret
  exact ⟨rfl, rfl⟩

set_option maxHeartbeats 1600000 in
theorem eqIntSS_read (A A2 : Option Addr) (m c m2 c2 : Nat) (ls : List (List Int)) (w : World) (hA : SlS w w.heap.size A m ls) (hB : SlS w w.heap.size A2 m2 ls) :
    Calls Try.prog 49 #[.slice A m c, .slice A2 m2 c2] w fun e w' => e = .returned (.bool true) ∧ Below w.heap.size w w' := by
  have h1 := hA.len
  have h2 := hB.len
  have hm := hA.max
  obtain rfl : m2 = m := by omega
  have e1 : ((m2 : Int) != (m2 : Int)) = false := by simp
  have BB := hid (Below.refl w.heap.size w)
  have HA := hid hA
  have HB := hid hB
  clear hA hB h1 h2
  go_enter Try.func49, Try.ntmps49
  go_wp2_with fail
  go_loopw [5] (fun i wr => ∃ k : Nat, i = .int .i64 k ∧ k ≤ m2 ∧ Hid (Below w.heap.size w wr)) (fun i _ => m2 - (intOf i).toNat)
  case atStart => exact ⟨0, rfl, Nat.zero_le _, BB⟩
  case round =>
    clear BB
    obtain ⟨k, rfl, hk, BB⟩ := hrel
    by_cases hlt : k < m2
    · obtain ⟨b, off, A3, n3, c3, rfl, hb, hc1, o1⟩ := (HA.out.on BB.out).at hlt
      obtain ⟨b2, off2, A4, n4, c4, rfl, hb2, hc2, o2⟩ := (HB.out.on BB.out).at hlt
      have hd : Below wr.heap.size wr wr.drew := (Below.refl _ _).drew
      have CE := hid (eqIntS_b A3 A4 n3 c3 n4 c4 _ _ wr.drew wr.drew.heap.size wr.drew.heap.size (o1.on hd) (o2.on hd))
      rw [decide_eq_true rfl] at CE
      have KX := hid (fun (W : World) (hW : Below wr.drew.heap.size wr.drew W) => show (W.cell? ⟨b, off + k, none⟩ = some (.slice A3 n3 c3) ∧ W.cell? ⟨b2, off2 + k, none⟩ = some (.slice A4 n4 c4)) from
        ⟨((hd.trans hW).cell (p := ⟨b, off + k, none⟩) hb).trans hc1, ((hd.trans hW).cell (p := ⟨b2, off2 + k, none⟩) hb2).trans hc2⟩)
      have hki : (k : Int) < (m2 : Int) := by omega
      have p7 : (0 : Int) ≤ (k : Int) := by omega
      clear o1 o2
      go_wp2_with fail
      go_region_held3 (fun w' => w'.cell? ⟨b, off + k, none⟩ = some (.slice A3 n3 c3) ∧ w'.cell? ⟨b2, off2 + k, none⟩ = some (.slice A4 n4 c4))
        (first
          | go_keep
          | assumption)
        (first
          | (go_at_call 26; (with_reducible refine Calls.mono CE.out ?_); rintro r w4 ⟨rfl, st⟩; have kx := KX.out _ st))
      have BB3 := hid (BB.out.trans ((hd.trans st).mono BB.out.size))
      clear st hc1 hc2 BB KX CE kx
      go_wp2
      go_roundw
      case rel => exact ⟨k + 1, by go_num, by omega, BB3⟩
      case measure => simp [intOf]; omega
    · obtain rfl : k = m2 := by omega
      go_wp2
      go_ret
      exact ⟨rfl, BB.out⟩

/-- How many numbers a list of rows has, counting each row once besides. -/
def szL (ls : List (List Int)) : Nat := (ls.map List.length).sum
theorem szL_take {ls : List (List Int)} {k : Nat} (h : k < ls.length) : szL (ls.take (k + 1)) = szL (ls.take k) + (ls.getD k []).length := by
  unfold szL
  rw [List.take_succ_eq_append_getElem h, List.map_append, List.sum_append, List.getD_eq_getElem?_getD, List.getElem?_eq_getElem h]
  simp

set_option maxHeartbeats 1600000 in
theorem szIntSS_read (A : Option Addr) (m c : Nat) (s : Int) (ls : List (List Int)) (w : World) (hA : SlS w w.heap.size A m ls) (hs0 : 0 ≤ s) (hs1 : s ≤ 1048576) :
    Calls Try.prog 47 #[.slice A m c, .int .i64 s] w fun e w' => (∃ r : Int, e = .returned (.int .i64 r) ∧ (r < 0 ∨ (0 ≤ r ∧ (m : Int) + szL ls ≤ s ∧ r ≤ s))) ∧ w = w' := by
  have h1 := hA.len
  have hm := hA.max
  by_cases hneg : s - (m : Int) < 0
  · go_enter Try.func47, Try.ntmps47
    go_wp2
    go_ret
    exact ⟨⟨_, rfl, .inl (by omega)⟩, rfl⟩
  · have hneg' : decide (s - (m : Int) < 0) = false := by simpa using hneg
    have HA := hid hA
    have H1 := hid h1
    clear hA h1
    go_enter Try.func47, Try.ntmps47
    go_wp2
    go_loop [1, 5] (fun x i => ∃ (k : Nat) (r : Int), x = .int .i64 r ∧ i = .int .i64 k ∧ k ≤ m ∧ 0 ≤ r ∧ r = s - m - szL (ls.take k)) (fun _ i => m - (intOf i).toNat)
    case atStart => exact ⟨0, s - m, rfl, rfl, Nat.zero_le _, by omega, by simp [szL]⟩
    case round =>
      obtain ⟨k, r, rfl, rfl, hk, hr0, hr⟩ := hrel
      have HR := hid hr
      by_cases hlt : k < m
      · obtain ⟨b, off, A3, n3, c3, rfl, hb, hc1, o1⟩ := HA.out.at hlt
        have hl3 := o1.len
        have hm3 := o1.max
        have hst := szL_take (ls := ls) (k := k) (by rw [H1.out]; exact hlt)
        rw [hl3] at hst
        have HST := hid hst
        have hrs : r ≤ 1048576 := by omega
        have hki : (k : Int) < (m : Int) := by omega
        have p7 : (0 : Int) ≤ (k : Int) := by omega
        clear hl3 hst o1 hr
        by_cases hbig : r < (n3 : Int)
        · have hq := szIntS_bigK A3 n3 c3 r w hbig hr0 hm3
          have HQ := hid hq
          clear hq
          go_wp2_with (go_at_call 46; with_reducible refine Calls.mono HQ.out ?_; rintro e w' ⟨rfl, rfl⟩)
          go_ret
          exact ⟨⟨_, rfl, .inl (by omega)⟩, rfl⟩
        · have hq := szIntS_okK A3 n3 c3 r w (by omega) hrs
          have HQ := hid hq
          have hd3 : decide (r - (n3 : Int) < 0) = false := by simp; omega
          have hd4 : ¬ r - (n3 : Int) < 0 := by omega
          clear hq
          go_wp2_with (go_at_call 46; with_reducible refine Calls.mono HQ.out ?_; rintro e w' ⟨rfl, rfl⟩)
          go_round
          case rel => exact ⟨k + 1, r - n3, rfl, by go_num, by omega, by omega, by rw [HST.out, HR.out]; omega⟩
          case measure => simp [intOf]; omega
      · obtain rfl : k = m := by omega
        have hfin : ls.take k = ls := List.take_of_length_le (by rw [H1.out]; exact Nat.le_refl _)
        rw [hfin] at HR
        go_wp2
        go_ret
        exact ⟨⟨_, rfl, .inr ⟨by have := HR.out; omega, by have := HR.out; omega, by have := HR.out; omega⟩⟩, rfl⟩

set_option maxHeartbeats 1600000 in
theorem szDesk_any (A : Option Addr) (n c : Nat) (A2 : Option Addr) (m c2 : Nat) (D : Dk) (w : World) (h : DkR w w.heap.size A n c A2 m c2 D) :
    Calls Try.prog 15 #[dsk A n c A2 m c2, .int .i64 1048576] w fun e w' => (∃ r : Int, e = .returned (.int .i64 r) ∧ (r < 0 ∨ (0 ≤ r ∧ n + m + szL D.past ≤ 1048576 ∧ r ≤ 1048576))) ∧ w.grownBy w' none := by
  have hg := grown_alloc w (.cells #[.slice A n c, .slice A2 m c2] 31) none
  have k0 : (w.alloc (.cells #[.slice A n c, .slice A2 m c2] 31)).cell? ⟨w.heap.size, 0, none⟩ = some (.slice A n c) := by simp
  have k1 : (w.alloc (.cells #[.slice A n c, .slice A2 m c2] 31)).cell? ⟨w.heap.size, 1, none⟩ = some (.slice A2 m c2) := by simp
  have hn := h.now.max
  have H := h.on (below_grown hg)
  by_cases h1 : n ≤ 1048576
  · have C1 := hid (fun W : World => szIntS_okK A n c 1048576 W (by omega) (by omega))
    have C2 := hid (szIntSS_read A2 m c2 ((1048576 : Int) - n) D.past (w.alloc (.cells #[.slice A n c, .slice A2 m c2] 31)) H.past (by omega) (by omega))
    have e1 : decide ((1048576 : Int) - (n : Int) < 0) = false := by simp; omega
    have e2 : ¬ (1048576 : Int) - (n : Int) < 0 := by omega
    clear H h
    go_enter Try.func15, Try.ntmps15
    go_wp2_with fail
    with_reducible refine Calls.mono (C1.out _) ?_
    rintro e w' ⟨rfl, rfl⟩
    go_wp2_with fail
    with_reducible refine Calls.mono C2.out ?_
    rintro e w' ⟨⟨r, rfl, hr⟩, rfl⟩
    by_cases hr0 : r < 0
    · go_wp2
      go_ret
      exact ⟨⟨_, rfl, .inl (by omega)⟩, hg⟩
    · have hr0' : decide (r < 0) = false := by simpa using hr0
      have HR := hid hr
      clear hr
      go_wp2
      go_ret
      exact ⟨⟨_, rfl, .inr (by have := HR.out; omega)⟩, hg⟩
  · have C1 := hid (fun W : World => szIntS_bigK A n c 1048576 W (by omega) (by omega) hn)
    clear H h
    go_enter Try.func15, Try.ntmps15
    go_wp2_with fail
    with_reducible refine Calls.mono (C1.out _) ?_
    rintro e w' ⟨rfl, rfl⟩
    go_wp2
    go_ret
    exact ⟨⟨_, rfl, .inl (by omega)⟩, hg⟩

theorem Rows.setK {w w' : World} {B i : Nat} {vs : List Value} {ls : List (List Int)} {u : Value} {l : List Int} (h : Rows w B (vs.take i) (ls.take i)) (hi : i < vs.length) (hl : ls[i]? = some l) (hk : ∀ v n xs, w.ownsRow B 3 1 v n xs → w'.ownsRow B 3 1 v n xs) (hr : Row1 w' B u l) : Rows w' B ((vs.set i u).take (i + 1)) (ls.take (i + 1)) := by
  have h1 := (h.keep hk).snoc hr
  have hil : i < ls.length := (List.getElem?_eq_some_iff.1 hl).1
  have e1 : (vs.set i u).take (i + 1) = vs.take i ++ [u] := by
    rw [List.take_succ_eq_append_getElem (by simpa using hi), List.take_set_of_le (Nat.le_refl _)]
    simp
  have e2 : ls.take (i + 1) = ls.take i ++ [l] := by
    rw [List.take_succ_eq_append_getElem hil, (List.getElem?_eq_some_iff.1 hl).2]
  rw [e1, e2]
  exact h1

theorem row_le {ls : List (List Int)} {k : Nat} (h : k < ls.length) : (ls.getD k []).length ≤ szL ls := by
  unfold szL
  have h1 : (ls.map List.length).sum = ((ls.take k).map List.length).sum + ((ls.drop k).map List.length).sum := by
    rw [← List.sum_append, ← List.map_append, List.take_append_drop]
  rw [h1, List.drop_eq_getElem_cons h, List.map_cons, List.sum_cons, List.getD_eq_getElem?_getD, List.getElem?_eq_getElem h]
  simp
  omega
theorem rows_hi {w : World} {B : Nat} {vs : List Value} {ls : List (List Int)} (h : Rows w B vs ls) : ∀ v ∈ vs, ∀ k, v.ownBlock = some k → k < w.heap.size := by
  intro v hv k hk
  obtain ⟨j, hj, rfl⟩ := List.getElem_of_mem hv
  obtain ⟨A, n, c, e, ho⟩ := h.2 j _ _ (List.getElem?_eq_getElem hj) (List.getElem?_eq_getElem (by have := h.1; omega))
  rw [e] at hk
  exact own_hi ho k hk
theorem apart_set {vs : List Value} {u : Value} {k : Nat} (h : Apart (vs.take k)) (hk : k < vs.length) (hu : ∀ v ∈ vs.take k, v.ownBlock = none ∨ v.ownBlock ≠ u.ownBlock) : Apart ((vs.set k u).take (k + 1)) := by
  have e1 : (vs.set k u).take (k + 1) = vs.take k ++ [u] := by
    rw [List.take_succ_eq_append_getElem (by simpa using hk), List.take_set_of_le (Nat.le_refl _)]
    simp
  rw [e1]
  have hl : (vs.take k).length = k := by rw [List.length_take]; omega
  have flip : ∀ v ∈ vs.take k, u.ownBlock = none ∨ u.ownBlock ≠ v.ownBlock := fun v hv => by
    rcases hu v hv with h1 | h1
    · rcases hq : u.ownBlock with _ | q
      · exact .inl rfl
      · exact .inr (by rw [h1]; simp)
    · exact .inr fun e => h1 e.symm
  intro i j x y hx hy hne
  rcases Nat.lt_or_ge i k with hi | hi
  · rw [List.getElem?_append_left (by omega)] at hx
    rcases Nat.lt_or_ge j k with hj | hj
    · rw [List.getElem?_append_left (by omega)] at hy
      exact h i j x y hx hy hne
    · rw [List.getElem?_append_right (by omega), hl] at hy
      have h0 : j - k = 0 := by
        rcases Nat.eq_zero_or_pos (j - k) with h0 | h0
        · exact h0
        · rw [List.getElem?_eq_none (by simp; omega)] at hy; cases hy
      rw [h0] at hy
      simp at hy
      subst hy
      exact hu x (List.mem_of_getElem? hx)
  · rw [List.getElem?_append_right (by omega), hl] at hx
    have h0 : i - k = 0 := by
      rcases Nat.eq_zero_or_pos (i - k) with h0 | h0
      · exact h0
      · rw [List.getElem?_eq_none (by simp; omega)] at hx; cases hx
    rw [h0] at hx
    simp at hx
    subst hx
    rcases Nat.lt_or_ge j k with hj | hj
    · rw [List.getElem?_append_left (by omega)] at hy
      exact flip y (List.mem_of_getElem? hy)
    · rw [List.getElem?_append_right (by omega), hl] at hy
      have h1 : j - k = 0 := by
        rcases Nat.eq_zero_or_pos (j - k) with h1 | h1
        · exact h1
        · rw [List.getElem?_eq_none (by simp; omega)] at hy; cases hy
      omega

set_option maxRecDepth 100000 in
set_option maxHeartbeats 3200000 in
theorem toIntSS_read (A : Option Addr) (m c : Nat) (ls : List (List Int)) (w : World) (hA : SlS w w.heap.size A m ls) (hsz : m + szL ls ≤ 1048576) :
    Calls Try.prog 48 #[.slice A m c] w fun e w' => ∃ g vs, e = .returned (.slice (some ⟨g, 0, none⟩) m m) ∧ w'.ownsRow w.heap.size 23 1 (.slice (some ⟨g, 0, none⟩) m m) m vs ∧ Rows w' w.heap.size vs ls ∧ Apart vs ∧ Below w.heap.size w w' := by
  obtain ⟨j0, hj, hjz0, hjz1, hjz2⟩ := info_rows
  have h1 := hA.len
  have HA := hid hA
  have H1 := hid h1
  clear hA h1
  go_enter Try.func48, Try.ntmps48
  go_wp2_with (refine wpList_make_full _ rfl (.tmp 6) (.tmp 6) 24 rfl w.heap.size 23 j0 _ 1 Try.underlying24 hj hjz0 hjz1 .i64 .i64 m m m rfl rfl rfl rfl (by rw [hjz2]; omega) (by simp only [maxLen]; omega) (Nat.le_refl _) ?_; intro w1 o1 g1)
  have hb1 := hid (below_grown g1)
  have HSZ := hid (fun (k : Nat) (hk : k < m) => row_le (ls := ls) (k := k) (by rw [H1.out]; exact hk))
  have r0 : Rows w1 w.heap.size (((madeCells (Value.slice none 0 0).cells (m * 1)).toList).take 0) (ls.take 0) := Rows.nil _ _
  have ap0 : Apart (((madeCells (Value.slice none 0 0).cells (m * 1)).toList).take 0) := fun i j u v hu => by simp at hu
  have R0 := hid r0
  have AP0 := hid ap0
  have hlt0 := own_hi o1 w.heap.size rfl
  clear g1 r0 ap0
  go_loopw [4] (fun i wr => ∃ (k : Nat) (vs : List Value), i = .int .i64 k ∧ k ≤ m ∧ wr.ownsRow w.heap.size 23 1 (.slice (some ⟨w.heap.size, 0, none⟩) m m) m vs ∧ Hid (Rows wr w.heap.size (vs.take k) (ls.take k)) ∧ Hid (Apart (vs.take k)) ∧ Hid (Below w.heap.size w wr)) (fun i _ => m - (intOf i).toNat)
  case atStart => exact ⟨0, _, rfl, Nat.zero_le _, o1, R0, AP0, hb1⟩
  case round =>
    clear o1 R0 AP0 hb1 hlt0
    obtain ⟨k, vs, rfl, hk, o1, R0, AP0, BB⟩ := hrel
    have hvl : vs.length = m := by have := o1.1; omega
    by_cases hlt : k < m
    · obtain ⟨b, off, A3, n3, c3, rfl, hb, hc1, s3⟩ := (HA.out.on BB.out).at hlt
      have hn3 := s3.len
      have hle := HSZ.out k hlt
      rw [hn3] at hle
      have hwz := BB.out.size
      have hlw := own_hi o1 w.heap.size rfl
      have hki : (k : Int) < (m : Int) := by omega
      have p7 : (0 : Int) ≤ (k : Int) := by omega
      have CT := hid (toIntS_any A3 n3 c3 _ wr s3 (by omega))
      have hlk : ls[k]? = some (ls.getD k []) := by rw [List.getD_eq_getElem?_getD, List.getElem?_eq_getElem (by rw [H1.out]; exact hlt)]; rfl
      obtain ⟨lk, hlke⟩ : ∃ lk, ls.getD k [] = lk := ⟨_, rfl⟩
      rw [hlke] at CT hlk
      have HLK := hid hlk
      have HVL := hid hvl
      have hcz := o1.cellAt k (by omega)
      obtain ⟨vk, hkv⟩ : ∃ x, vs[k]? = some x := ⟨_, List.getElem?_eq_getElem (by omega)⟩
      rw [hkv] at hcz
      have hfz := o1.frozenAt k
      clear hlke s3 hn3 hlk hkv hvl
      go_wp2_with (go_at_call 25; (with_reducible refine Calls.mono CT.out ?_); rintro e w5 ⟨g5, rfl, o5, b5⟩; have hcz5 := (b5.cell (p := ⟨w.heap.size, k, none⟩) hlw).trans hcz; have hfz5 := (own_on o1 b5).frozenAt k)
      have O5 := own_on o1 b5
      have hg5 := o5.lt g5 rfl
      obtain ⟨p1, p2⟩ := O5.stored k (.slice (some ⟨g5, 0, none⟩) n3 n3)
      have RX := R0.out.on b5
      have hm5 := own_mono (base' := w.heap.size) o5 hwz
      have RN := Rows.setK RX (u := .slice (some ⟨g5, 0, none⟩) n3 n3) (by rw [HVL.out]; exact hlt) HLK.out (fun v n xs ho => own_beside ho O5 p2) ⟨_, _, _, rfl, own_beside hm5 O5 p2⟩
      have AN : Apart ((vs.set k (.slice (some ⟨g5, 0, none⟩) n3 n3)).take (k + 1)) := apart_set AP0.out (by rw [HVL.out]; exact hlt) (fun v hv => by
        rcases hob : v.ownBlock with _ | q
        · exact .inl rfl
        · right
          have hq := rows_hi R0.out v hv q hob
          simp [Value.ownBlock]
          omega)
      have QO := hid p1
      have QR := hid RN
      have QA := hid AN
      have QB := hid ((BB.out.trans (b5.mono hwz)).grown p2 (Nat.le_trans hwz b5.size) (by intro j hj; simp [Value.ownBlock] at hj; omega))
      clear p1 p2 RX RN AN o5 b5 O5 hm5 o1 R0 AP0 BB hc1 hcz hfz
      go_roundw
      case rel => exact ⟨k + 1, vs.set k (.slice (some ⟨g5, 0, none⟩) n3 n3), by go_num, by omega, QO.out, QR, QA, QB⟩
      case measure => simp [intOf]; omega
    · obtain rfl : k = m := by omega
      rw [List.take_of_length_le (by omega), List.take_of_length_le (by rw [H1.out]; exact Nat.le_refl _)] at R0
      rw [List.take_of_length_le (by omega)] at AP0
      have O1 := hid o1
      clear o1
      go_wp2
      go_ret
      exact ⟨_, vs, rfl, O1.out, R0.out, AP0.out, BB.out⟩
end Go.Proofs.Ytkejcajboneniaa

namespace Go.Proofs.Ytkejcajboneniaa
open Go.RowKit
set_option linter.unusedVariables false
set_option linter.unusedSimpArgs false

/-- A desk of one's own whose rows lie apart. -/
def DkY (w : World) (B : Nat) (A : Option Addr) (n c : Nat) (A2 : Option Addr) (m c2 : Nat) (D : Dk) : Prop :=
  w.ownsRow B 3 1 (.slice A n c) n (ints D.now) ∧ (m ≤ c2 ∧ c2 ≤ 9223372036854775807) ∧
    ((A2 = none ∧ m = 0 ∧ D.past = []) ∨ ∃ (g off M C : Nat) (V : List Value), A2 = some ⟨g, off, none⟩ ∧ w.ownsRow B 23 1 (.slice (some ⟨g, 0, none⟩) M C) M V ∧ off + m ≤ M ∧ Rows w B ((V.drop off).take m) D.past ∧ Apart (.slice A n c :: (V.drop off).take m))
section
variable {w w' : World} {B B' n c m c2 : Nat} {A A2 : Option Addr} {D : Dk}
theorem DkY.g (h : DkY w B A n c A2 m c2 D) : DkG w B A n c A2 m c2 D := by
  refine ⟨h.1, h.2.1, ?_⟩
  rcases h.2.2 with h3 | ⟨g, off, M, C, V, e, ho, hm, hr, _⟩
  · exact .inl h3
  · exact .inr ⟨g, off, M, C, V, e, ho, hm, hr⟩
theorem DkY.keep (h : DkY w B A n c A2 m c2 D) (h1 : ∀ v n xs, w.ownsRow B 3 1 v n xs → w'.ownsRow B' 3 1 v n xs) (h2 : ∀ v n xs, w.ownsRow B 23 1 v n xs → w'.ownsRow B' 23 1 v n xs) : DkY w' B' A n c A2 m c2 D := by
  refine ⟨h1 _ _ _ h.1, h.2.1, ?_⟩
  rcases h.2.2 with h3 | ⟨g, off, M, C, V, e, ho, hm, hr, ha⟩
  · exact .inl h3
  · exact .inr ⟨g, off, M, C, V, e, h2 _ _ _ ho, hm, ⟨hr.1, fun j v l hv hl => by
      obtain ⟨A3, n3, c3, e3, ho3⟩ := hr.2 j v l hv hl
      exact ⟨A3, n3, c3, e3, h1 _ _ _ ho3⟩⟩, ha⟩
theorem DkY.on (h : DkY w B A n c A2 m c2 D) (hb : Below w.heap.size w w') : DkY w' B A n c A2 m c2 D := h.keep (fun _ _ _ ho => own_on ho hb) (fun _ _ _ ho => own_on ho hb)
theorem DkY.onto (h : DkY w B A n c A2 m c2 D) (hg : w.grownBy w' none) : DkY w' B A n c A2 m c2 D := h.keep (fun _ _ _ ho => own_kept_none ho hg) (fun _ _ _ ho => own_kept_none ho hg)
theorem DkY.mono (h : DkY w B A n c A2 m c2 D) (hB : B' ≤ B) : DkY w B' A n c A2 m c2 D := h.keep (fun _ _ _ ho => own_mono ho hB) (fun _ _ _ ho => own_mono ho hB)
theorem DkY.box2 {b : Nat} {u v : Value} (h : DkY w B A n c A2 m c2 D) (hd : Db w b u v) (x y : Value) : DkY ((w.setCell ⟨b, 0, none⟩ x).setCell ⟨b, 1, none⟩ y) B A n c A2 m c2 D :=
  h.keep (fun _ _ _ ho => own_box y (own_box x ho (hd.ne_int ho)) ((hd.set0 x).ne_int (own_box (k := 0) x ho (hd.ne_int ho)))) (fun _ _ _ ho => own_box y (own_box x ho (hd.ne_row ho)) ((hd.set0 x).ne_row (own_box (k := 0) x ho (hd.ne_row ho))))
theorem DkY.put {b i : Nat} {u v : Value} (h : DkY w B A n c A2 m c2 D) (hd : Db w b u v) (x : Value) : DkY (w.setCell ⟨b, i, none⟩ x) B A n c A2 m c2 D :=
  h.keep (fun _ _ _ ho => own_box x ho (hd.ne_int ho)) (fun _ _ _ ho => own_box x ho (hd.ne_row ho))
theorem DkY.read (h : DkY w B A n c A2 m c2 D) : DkR w w.heap.size A n c A2 m c2 D := h.g.read
/-- Below a world's size nothing of it is touched: it stays. -/
theorem DkY.belowB {C : Nat} (h : DkY w B A n c A2 m c2 D) (hb : Below C w w') (hC : w.heap.size ≤ C) : DkY w' B A n c A2 m c2 D := h.on (hb.mono hC)
end
theorem DkY.no (w : World) (B : Nat) : DkY w B none 0 0 none 0 0 noDk := ⟨World.ownsRow_nil _ _ _ _, by omega, .inl ⟨rfl, rfl, rfl⟩⟩
theorem apart_cons {u : Value} {vs : List Value} (h : Apart vs) (hu : ∀ v ∈ vs, u.ownBlock = none ∨ u.ownBlock ≠ v.ownBlock) : Apart (u :: vs) := by
  intro i j x y hx hy hne
  rcases i with _ | i
  · simp at hx
    subst hx
    rcases j with _ | j
    · omega
    · simp at hy
      exact hu y (List.mem_of_getElem? hy)
  · simp at hx
    rcases j with _ | j
    · simp at hy
      subst hy
      rcases hu x (List.mem_of_getElem? hx) with h1 | h1
      · rcases hq : x.ownBlock with _ | q
        · exact .inl rfl
        · exact .inr (by rw [h1]; simp)
      · exact .inr fun e => h1 e.symm
    · simp at hy
      exact h i j x y hx hy (by omega)

set_option maxRecDepth 100000 in
set_option maxHeartbeats 3200000 in
theorem toDesk_any (A : Option Addr) (n c : Nat) (A2 : Option Addr) (m c2 : Nat) (D : Dk) (w : World) (h : DkR w w.heap.size A n c A2 m c2 D) (hsz : n + m + szL D.past ≤ 1048576) :
    Calls Try.prog 16 #[dsk A n c A2 m c2] w fun e w' => ∃ A3 c3 A4 c4, e = .returned (dsk A3 n c3 A4 m c4) ∧ DkY w' w.heap.size A3 n c3 A4 m c4 D ∧ Below w.heap.size w w' := by
  have z1 : (w.alloc (.cells #[.slice A n c, .slice A2 m c2] 31)).heap.size = w.heap.size + 1 := by simp
  have z2 : ((w.alloc (.cells #[.slice A n c, .slice A2 m c2] 31)).alloc (.cells #[.slice none 0 0, .slice none 0 0] 26)).heap.size = w.heap.size + 2 := by simp
  have g1 := grown_alloc (w.alloc (.cells #[.slice A n c, .slice A2 m c2] 31)) (.cells #[.slice none 0 0, .slice none 0 0] 26) none
  have g2 := grown_alloc ((w.alloc (.cells #[.slice A n c, .slice A2 m c2] 31)).alloc (.cells #[.slice none 0 0, .slice none 0 0] 26)) (.cells #[.slice none 0 0, .slice none 0 0] 26) none
  have g12 := g1.trans g2
  have XA := (g12.block w.heap.size (by simp) (by simp)).trans (heap_alloc_new w (.cells #[.slice A n c, .slice A2 m c2] 31))
  have XR := Db.new (w.alloc (.cells #[.slice A n c, .slice A2 m c2] 31)) (.slice none 0 0) (.slice none 0 0)
  rw [z1] at XR
  replace XR := XR.on (row := none) g2 (by simp)
  have XO := Db.new ((w.alloc (.cells #[.slice A n c, .slice A2 m c2] 31)).alloc (.cells #[.slice none 0 0, .slice none 0 0] 26)) (.slice none 0 0) (.slice none 0 0)
  rw [z2] at XO
  have B0 := (((Below.refl w.heap.size w).alloc (Nat.le_refl _) (.cells #[.slice A n c, .slice A2 m c2] 31)).alloc (by simp) (.cells #[.slice none 0 0, .slice none 0 0] 26)).alloc (by simp; omega) (.cells #[.slice none 0 0, .slice none 0 0] 26)
  obtain ⟨w0, e0⟩ : ∃ W, ((w.alloc (.cells #[.slice A n c, .slice A2 m c2] 31)).alloc (.cells #[.slice none 0 0, .slice none 0 0] 26)).alloc (.cells #[.slice none 0 0, .slice none 0 0] 26) = W := ⟨_, rfl⟩
  have hz0 : w0.heap.size = w.heap.size + 3 := by rw [← e0]; simp
  go_enter Try.func16, Try.ntmps16
  rw [e0] at XA XR XO B0
  obtain ⟨a0, a1, _, _⟩ := pairCells XA
  have C1 := hid (toIntS_any A n c D.now w0 (h.now.on B0) (by omega))
  have C2 := hid (fun (W : World) (hb : Below w.heap.size w W) => toIntSS_read A2 m c2 D.past W (h.past.on hb) (by omega))
  have HXA := hid XA
  have HXR := hid XR
  have HXO := hid XO
  have HB0 := hid B0
  clear g1 g2 g12 XA XR XO B0 z1 z2 h
  go_wp2_with fail
  with_reducible refine Calls.mono C1.out ?_
  rintro e w1 ⟨g1, rfl, o1, b1⟩
  have hg1 := o1.lt g1 rfl
  have hsz1 := b1.size
  have Y2 := HXO.out.below b1 (by omega)
  have YR := HXR.out.below b1 (by omega)
  have YA := (b1.block w.heap.size (by omega)).trans HXA.out
  have f0 := Y2.fz 0
  have t0 := Y2.c0
  have d1 := Below.setCell (Below.refl (w.heap.size + 2) w1) (p := ⟨w.heap.size + 2, 0, none⟩) (Nat.le_refl _) (.slice (some ⟨g1, 0, none⟩) n n)
  have Q2 := Y2.set0 (.slice (some ⟨g1, 0, none⟩) n n)
  have QR := YR.other (g := w.heap.size + 2) (by omega) 0 (.slice (some ⟨g1, 0, none⟩) n n)
  have QA := (d1.block w.heap.size (by omega)).trans YA
  have QO := own_box (k := 0) (.slice (some ⟨g1, 0, none⟩) n n) o1 (Y2.ne_int o1)
  have HB2 := hid ((HB0.out.trans (b1.mono (by omega))).setCell (p := ⟨w.heap.size + 2, 0, none⟩) (show w.heap.size ≤ w.heap.size + 2 by omega) (.slice (some ⟨g1, 0, none⟩) n n))
  obtain ⟨w2, e2⟩ : ∃ W, w1.setCell ⟨w.heap.size + 2, 0, none⟩ (.slice (some ⟨g1, 0, none⟩) n n) = W := ⟨_, rfl⟩
  have hz2 : w2.heap.size = w1.heap.size := by rw [← e2]; simp [World.setCell]
  rw [e2] at Q2 QR QA QO HB2
  obtain ⟨k0, k1, _, _⟩ := pairCells QA
  have HQ2 := hid Q2
  have HQR := hid QR
  have HQO := hid QO
  clear d1 Y2 YR YA b1 o1 Q2 QR QA QO HXA HXR HXO HB0 a0 a1 C1
  go_wp2_with fail
  with_reducible refine Calls.mono (C2.out _ HB2.out) ?_
  rintro e w3 ⟨g3, vs, rfl, o3, R3, AP3, b3⟩
  have Z2 := HQ2.out.below b3 HQ2.out.lt
  have ZR := HQR.out.below b3 HQR.out.lt
  have f1 := Z2.fz 1
  have t1 := Z2.c1
  have t2 := Z2.c0
  have r0 := ZR.c0
  have r1 := ZR.c1
  have r2 := ZR.fz 0
  have r3 := ZR.fz 1
  have ON := own_on HQO.out b3
  have hw2 := HB2.out.size
  have APN : Apart (.slice (some ⟨g1, 0, none⟩) n n :: vs) := apart_cons AP3 (fun v hv => by
    right
    intro e
    obtain ⟨j, hj, rfl⟩ := List.getElem_of_mem hv
    obtain ⟨A5, n5, c5, e5, ho5⟩ := R3.2 j _ _ (List.getElem?_eq_getElem hj) (List.getElem?_eq_getElem (by have := R3.1; omega))
    rw [e5] at e
    have h1 : (Value.slice A5 n5 c5).ownBlock = some g1 := by rw [← e]; rfl
    have := (ho5.lt g1 h1).1
    omega)
  have FY : DkY w3 w.heap.size (some ⟨g1, 0, none⟩) n n (some ⟨g3, 0, none⟩) m m D := ⟨own_mono ON (by omega), by omega, .inr ⟨g3, 0, m, m, vs, rfl, own_mono o3 hw2, by omega, by rw [List.drop_zero, List.take_of_length_le (by have := o3.1; omega)]; exact R3.mono hw2, by rw [List.drop_zero, List.take_of_length_le (by have := o3.1; omega)]; exact APN⟩⟩
  have HZ2 := hid Z2
  have HZR := hid ZR
  have HFY := hid FY
  have HB3 := hid (HB2.out.trans (b3.mono hw2))
  clear FY Z2 ZR o3 R3 AP3 b3 ON APN HQ2 HQR HQO k0 k1
  go_wp2
  (try simp only [Exit.inBlock, Exit.then])
  refine bodyPost_ret (results_cell_row rfl _ _ (w.heap.size + 1) 26 _ (0, 0) _ (by simp [Act.put]) ((HZR.out.other (g := w.heap.size + 2) (by omega) 1 (.slice (some ⟨g3, 0, none⟩) m m)).set (.slice (some ⟨g1, 0, none⟩) n n) (.slice (some ⟨g3, 0, none⟩) m m)) Try.underlying26 rfl size_desk) rfl ?_
  exact ⟨_, _, _, _, rfl, (HFY.out.put HZ2.out _).box2 (HZR.out.other (g := w.heap.size + 2) (by omega) 1 (.slice (some ⟨g3, 0, none⟩) m m)) _ _, ((HB3.out.setCell (p := ⟨w.heap.size + 2, 1, none⟩) (show w.heap.size ≤ w.heap.size + 2 by omega) _).setCell (p := ⟨w.heap.size + 1, 0, none⟩) (show w.heap.size ≤ w.heap.size + 1 by omega) _).setCell (p := ⟨w.heap.size + 1, 1, none⟩) (show w.heap.size ≤ w.heap.size + 1 by omega) _⟩

set_option maxRecDepth 100000 in
set_option maxHeartbeats 1600000 in
theorem eqDesk_any (A : Option Addr) (n c : Nat) (A2 : Option Addr) (m c2 : Nat) (A3 : Option Addr) (n3 c3 : Nat) (A4 : Option Addr) (m4 c4 : Nat) (D : Dk) (w : World) (h1 : DkR w w.heap.size A n c A2 m c2 D) (h2 : DkR w w.heap.size A3 n3 c3 A4 m4 c4 D) :
    Calls Try.prog 17 #[dsk A n c A2 m c2, dsk A3 n3 c3 A4 m4 c4] w fun e w' => e = .returned (.bool true) ∧ Below w.heap.size w w' := by
  have z1 : (w.alloc (.cells #[.slice A n c, .slice A2 m c2] 26)).heap.size = w.heap.size + 1 := by simp
  have g1 := grown_alloc (w.alloc (.cells #[.slice A n c, .slice A2 m c2] 26)) (.cells #[.slice A3 n3 c3, .slice A4 m4 c4] 26) none
  have X0 := (Db.new w (.slice A n c) (.slice A2 m c2)).on (row := none) g1 (by simp)
  have X1 := Db.new (w.alloc (.cells #[.slice A n c, .slice A2 m c2] 26)) (.slice A3 n3 c3) (.slice A4 m4 c4)
  rw [z1] at X1
  have B0 := ((Below.refl w.heap.size w).alloc (Nat.le_refl _) (.cells #[.slice A n c, .slice A2 m c2] 26)).alloc (by simp) (.cells #[.slice A3 n3 c3, .slice A4 m4 c4] 26)
  go_enter Try.func17, Try.ntmps17
  obtain ⟨w0, e0⟩ : ∃ W, (w.alloc (.cells #[.slice A n c, .slice A2 m c2] 26)).alloc (.cells #[.slice A3 n3 c3, .slice A4 m4 c4] 26) = W := ⟨_, rfl⟩
  have hz0 : w0.heap.size = w.heap.size + 2 := by rw [← e0]; simp
  rw [e0] at X0 X1 B0
  have x0 := X0.c0
  have x1 := X0.c1
  have y0 := X1.c0
  have y1 := X1.c1
  have CE := hid (eqIntS_b A A3 n c n3 c3 D.now D.now w0 w0.heap.size w0.heap.size (h1.now.on B0) (h2.now.on B0))
  rw [decide_eq_true rfl] at CE
  have CR := hid (fun (W : World) (hW : Below w.heap.size w W) => eqIntSS_read A2 A4 m c2 m4 c4 D.past W (h1.past.on hW) (h2.past.on hW))
  have HX0 := hid X0
  have HX1 := hid X1
  have HB0 := hid B0
  clear X0 X1 B0 g1 z1 h1 h2
  go_wp2_with fail
  with_reducible refine Calls.mono CE.out ?_
  rintro e w1 ⟨rfl, b1⟩
  have Y0 := HX0.out.below b1 (by omega)
  have Y1 := HX1.out.below b1 (by omega)
  have u1 := Y0.c1
  have v1 := Y1.c1
  have HB1 := hid (HB0.out.trans (b1.mono (by omega)))
  clear b1 x0 x1 y0 y1 e0
  go_wp2_with fail
  with_reducible refine Calls.mono (CR.out _ HB1.out) ?_
  rintro e w2 ⟨rfl, b2⟩
  have HB2 := hid (HB1.out.trans (b2.mono HB1.out.size))
  clear b2
  go_wp2
  go_ret
  exact ⟨rfl, HB2.out⟩
end Go.Proofs.Ytkejcajboneniaa
