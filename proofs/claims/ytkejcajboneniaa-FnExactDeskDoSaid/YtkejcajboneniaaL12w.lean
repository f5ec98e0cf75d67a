/-
  The walk of the exact law of DeskDo. No statement is proved here.
-/
import Derived.Test.YtkejcajboneniaaM9
import Derived.Test.YtkejcajboneniaaM7
import Derived.Test.YtkejcajboneniaaM5
import Derived.Test.YtkejcajboneniaaM3
import Derived.Deep.RegionHeld3
namespace Go.Proofs.Ytkejcajboneniaa
open Go.RowKit
set_option linter.unusedVariables false
set_option linter.unusedSimpArgs false

theorem cutT {T G : Prop} (h : Hid T → G) (r : T) : G := h (hid r)

theorem szL_le {ls : List (List Int)} (h : ∀ l ∈ ls, l.length ≤ 16) : szL ls ≤ 16 * ls.length := by
  unfold szL
  induction ls with
  | nil => simp
  | cons a ls ih =>
    have h1 := ih (fun l hl => h l (List.mem_cons_of_mem _ hl))
    have h2 := h a (List.mem_cons_self ..)
    simp only [List.map_cons, List.sum_cons, List.length_cons]
    omega
theorem ok_sz {D : Dk} (h : deskOk D = true) : D.now.length ≤ 16 ∧ D.past.length ≤ 8 ∧ szL D.past ≤ 128 := by
  obtain ⟨h1, h2, h3⟩ := deskOk_iff.1 h
  have h4 := szL_le (ls := D.past) (fun l hl => (bitsOk_iff.1 (h1 l hl)).2.2)
  exact ⟨(bitsOk_iff.1 h2).2.2, h3, by omega⟩
theorem do_sz (D : Dk) (a : Int × Int) : (deskDo D a).1.now.length ≤ 16 ∧ (deskDo D a).1.past.length ≤ 8 ∧ szL (deskDo D a).1.past ≤ 128 := by
  by_cases h : deskOk D = true
  · exact ok_sz (do_ok h a)
  · unfold deskDo
    rw [if_neg h]
    simp [noDk, szL]
theorem DkY.lens {w : World} {B n c m c2 : Nat} {A A2 : Option Addr} {D : Dk} (h : DkY w B A n c A2 m c2 D) : n = D.now.length ∧ m = D.past.length :=
  ⟨by have := h.read.now.len; omega, by have := h.read.past.len; omega⟩

set_option maxRecDepth 100000 in
set_option maxHeartbeats 6400000 in
theorem fnExactDeskDo_walk (A : Option Addr) (n c : Nat) (A2 : Option Addr) (m c2 : Nat) (D : Dk) (k N : Int) (w : World) (h : DkR w w.heap.size A n c A2 m c2 D) (hwk : (Lit.int .i64 k).wf = true) (hwN : (Lit.int .i64 N).wf = true) :
    Calls Try.prog 8 #[dsk A n c A2 m c2, deed k N] w fun e w' => e = .returned (.bool true) ∧ Below w.heap.size w w' := by
  have gA := grown_alloc w (.cells #[.slice A n c, .slice A2 m c2] 31) none
  have gB := grown_alloc (w.alloc (.cells #[.slice A n c, .slice A2 m c2] 31)) (.cells #[.int .i64 k, .int .i64 N] 50) none
  have XB := heap_alloc_new (w.alloc (.cells #[.slice A n c, .slice A2 m c2] 31)) (.cells #[.int .i64 k, .int .i64 N] 50)
  have XA := (gB.block w.heap.size (by simp) (by simp)).trans (heap_alloc_new w (.cells #[.slice A n c, .slice A2 m c2] 31))
  have B0 := below_grown (gA.trans gB)
  have H0 := h.on B0
  go_enter Try.func8, Try.ntmps8
  obtain ⟨w0, e0⟩ : ∃ W, (w.alloc (.cells #[.slice A n c, .slice A2 m c2] 31)).alloc (.cells #[.int .i64 k, .int .i64 N] 50) = W := ⟨_, rfl⟩
  have hz0 : w0.heap.size = w.heap.size + 2 := by rw [← e0]; simp
  rw [e0] at XA XB B0 H0
  have hza : (w.alloc (.cells #[.slice A n c, .slice A2 m c2] 31)).heap.size = w.heap.size + 1 := by simp
  rw [hza] at XB
  clear hza
  obtain ⟨a0, a1, _, _⟩ := pairCells XA
  obtain ⟨d0, d1, _, _⟩ := pairCells XB
  have CS := hid (szDesk_any A n c A2 m c2 D w0 H0)
  have HA := hid XA
  have HXB := hid XB
  have HB0 := hid B0
  have HH := hid h
  clear XA XB B0 H0 gA gB h
  go_wp2_with fail
  with_reducible refine Calls.mono CS.out ?_
  rintro e w1 ⟨⟨r, rfl, hr⟩, g1⟩
  have YA := (g1.block w.heap.size (by omega) (by simp)).trans HA.out
  have YB := (g1.block (w.heap.size + 1) (by omega) (by simp)).trans HXB.out
  have hz1 := g1.size
  have HB1 := hid (HB0.out.trans ((below_grown g1).mono HB0.out.size))
  clear g1 a0 a1 d0 d1 e0
  obtain ⟨a0, a1, _, _⟩ := pairCells YA
  obtain ⟨d0, d1, _, _⟩ := pairCells YB
  by_cases hr0 : r < 0
  · go_wp2
    go_ret
    exact ⟨rfl, HB1.out⟩
  have hsz : n + m + szL D.past ≤ 1048576 := by omega
  have hr0' : decide (r < 0) = false := by simpa using hr0
  have hzw : w.heap.size + 2 ≤ w1.heap.size := by omega
  go_wp2
  rename_i KK hKK
  replace hKK := hid hKK
  have HYA := hid YA
  have HYB := hid YB
  have KX := hid (fun (W : World) (hW : Below w1.heap.size w1 W) => show W.cell? ⟨w.heap.size, 0, none⟩ = some (.slice A n c) ∧ W.cell? ⟨w.heap.size, 1, none⟩ = some (.slice A2 m c2) ∧ W.cell? ⟨w.heap.size + 1, 0, none⟩ = some (.int .i64 k) ∧ W.cell? ⟨w.heap.size + 1, 1, none⟩ = some (.int .i64 N) from by
    obtain ⟨p0, p1, _, _⟩ := pairCells ((hW.block w.heap.size (by omega)).trans HYA.out)
    obtain ⟨p2, p3, _, _⟩ := pairCells ((hW.block (w.heap.size + 1) (by omega)).trans HYB.out)
    exact ⟨p0, p1, p2, p3⟩)
  have CT := hid (fun (W : World) (hW : Below w1.heap.size w1 W) => toDesk_any A n c A2 m c2 D W (HH.out.on (HB1.out.trans (hW.mono HB1.out.size))) hsz)
  have CDD := hid (fun (W : World) => toDeed_any k N W)
  have CSD := hid (fun (W : World) (Aa : Option Addr) (ca : Nat) (Ab : Option Addr) (cb : Nat) (h0 : DkR W W.heap.size Aa n ca Ab m cb D) => specDeskDo_any Aa n ca Ab m cb D k N W h0)
  have CID := hid (fun (W : World) (Aa : Option Addr) (ca : Nat) (Ab : Option Addr) (cb : Nat) (h0 : DkR W W.heap.size Aa n ca Ab m cb D) => implDeskDo_any Aa n ca Ab m cb D k N W h0)
  obtain ⟨E, yes, hE⟩ : ∃ E yes, deskDo D (k, N) = (E, yes) := ⟨_, _, rfl⟩
  have HSZ := hid (do_sz D (k, N))
  rw [hE] at HSZ
  simp only [hE] at CSD CID
  clear hr hz1 hz0 HA HXB CS YA YB HYA HYB
  have hd1 : Below w1.heap.size w1 w1.drew := (Below.refl w1.heap.size w1).drew
  have gW1 : w1.grownBy (w1.alloc (.cells #[.slice none 0 0, .slice none 0 0] 26)).drew none := (grown_alloc w1 (.cells #[.slice none 0 0, .slice none 0 0] 26) none).trans (drewN_gA _ 1)
  have hd2 : Below w1.heap.size w1 (w1.alloc (.cells #[.slice none 0 0, .slice none 0 0] 26)).drew := below_grown gW1
  have X1 : Db (w1.alloc (.cells #[.slice none 0 0, .slice none 0 0] 26)).drew w1.heap.size (.slice none 0 0) (.slice none 0 0) := Db.new w1 (.slice none 0 0) (.slice none 0 0)
  have hX1 : w1.heap.size < (w1.alloc (.cells #[.slice none 0 0, .slice none 0 0] 26)).drew.heap.size := by show w1.heap.size < (w1.alloc (.cells #[.slice none 0 0, .slice none 0 0] 26)).heap.size; simp
  have HX1 := hid X1
  have HG1 := hid gW1
  clear X1 gW1
  apply cutT
  · intro REST
    go_region_held3 (fun w' => w'.cell? ⟨w.heap.size, 0, none⟩ = some (.slice A n c) ∧ w'.cell? ⟨w.heap.size, 1, none⟩ = some (.slice A2 m c2) ∧ w'.cell? ⟨w.heap.size + 1, 0, none⟩ = some (.int .i64 k) ∧ w'.cell? ⟨w.heap.size + 1, 1, none⟩ = some (.int .i64 N))
      (first
        | go_keep
        | assumption
        | exact KX.out _ ‹_›
        | exact kx2 _ _)
      (first
        | (go_at_call 16; (with_reducible refine Calls.mono (CT.out w1.drew hd1) ?_); rintro e w5 ⟨Aa, ca, Ab, cb, rfl, F5, b5⟩; have hB5 : Below w1.heap.size w1 w5 := hd1.trans (b5.mono hd1.size); have kx := KX.out _ hB5; have g5 := grown_alloc w5 (.cells #[.slice none 0 0, .slice none 0 0] 26) none; have hB5a : Below w1.heap.size w1 (w5.alloc (.cells #[.slice none 0 0, .slice none 0 0] 26)) := hB5.trans ((below_grown g5).mono hB5.size); have kxa := KX.out _ hB5a)
        | (go_at_call 16; (with_reducible refine Calls.mono (CT.out (w1.alloc (.cells #[.slice none 0 0, .slice none 0 0] 26)).drew hd2) ?_); rintro e w5 ⟨Aa, ca, Ab, cb, rfl, F5, b5⟩; have hB5 : Below w1.heap.size w1 w5 := hd2.trans (b5.mono hd2.size); have kx := KX.out _ hB5; have yx5 : Db w5 w1.heap.size (.slice none 0 0) (.slice none 0 0) := HX1.out.below b5 hX1; have hq : w1.heap.size ≤ w1.heap.size := Nat.le_refl _)
        | (go_at_call 34; (with_reducible refine Calls.mono (CDD.out w5) ?_); rintro e w6 ⟨rfl, b6⟩; have hB6 : Below w1.heap.size w1 w6 := hB5.trans (b6.mono hB5.size); have kx6 := KX.out _ hB6; have F6 := F5.on b6; (try have yx6 := yx5.below b6 yx5.lt); have g6 := grown_alloc w6 (.cells #[.slice none 0 0, .slice none 0 0] 26) none; have hB6a : Below w1.heap.size w1 (w6.alloc (.cells #[.slice none 0 0, .slice none 0 0] 26)) := hB6.trans ((below_grown g6).mono hB6.size); have kxa := KX.out _ hB6a)
        | (go_at_call 34; (with_reducible refine Calls.mono (CDD.out (w5.alloc (.cells #[.slice none 0 0, .slice none 0 0] 26))) ?_); rintro e w6 ⟨rfl, b6⟩; have hB6 : Below w1.heap.size w1 w6 := hB5a.trans (b6.mono hB5a.size); have kx6 := KX.out _ hB6; have F6 := (F5.onto g5).on b6; have yx6 : Db w6 w5.heap.size (.slice none 0 0) (.slice none 0 0) := (Db.new w5 _ _).below b6 (by simp); have hq : w1.heap.size ≤ w5.heap.size := hB5.size)
        | (go_at_call 32; (with_reducible refine Calls.mono (CSD.out w6 _ _ _ _ F6.read) ?_); rintro e w7 ⟨A3, n3, c3, A4, m4, c4, rfl, G7p, b7⟩; have hB7 : Below w1.heap.size w1 w7 := hB6.trans (b7.mono hB6.size); have kx7 := KX.out _ hB7; have G7 := G7p.1.mono hB6.size; (try (have yx7 := yx6.below b7 yx6.lt; have yx0 := yx7.c0; have yx1 := yx7.c1; have yf0 := yx7.fz 0; have yf1 := yx7.fz 1; have kx2 := fun x y => KX.out _ ((hB7.setCell (p := ⟨_, 0, none⟩) hq x).setCell (p := ⟨_, 1, none⟩) hq y))))
        | (go_at_call 32; (with_reducible refine Calls.mono (CSD.out (w6.alloc (.cells #[.slice none 0 0, .slice none 0 0] 26)) _ _ _ _ (F6.onto g6).read) ?_); rintro e w7 ⟨A3, n3, c3, A4, m4, c4, rfl, G7p, b7⟩; have hB7 : Below w1.heap.size w1 w7 := hB6a.trans (b7.mono hB6a.size); have kx7 := KX.out _ hB7; have G7 := G7p.1.mono hB6a.size; have hq : w1.heap.size ≤ w6.heap.size := hB6.size; have yx7 : Db w7 w6.heap.size (.slice none 0 0) (.slice none 0 0) := (Db.new w6 _ _).below b7 (by simp); have yx0 := yx7.c0; have yx1 := yx7.c1; have yf0 := yx7.fz 0; have yf1 := yx7.fz 1; have kx2 := fun x y => KX.out _ ((hB7.setCell (p := ⟨_, 0, none⟩) hq x).setCell (p := ⟨_, 1, none⟩) hq y)))
    · have VX := Db.new w7 (.slice A3 n3 c3) (.slice A4 m4 c4)
      have GX := G7.onto (grown_alloc w7 (.cells #[.slice A3 n3 c3, .slice A4 m4 c4] 26) none)
      have BX := hB7.alloc hB7.size (.cells #[.slice A3 n3 c3, .slice A4 m4 c4] 26)
      have hqs := hB7.size
      obtain ⟨W, e⟩ : ∃ W, w7.alloc (.cells #[.slice A3 n3 c3, .slice A4 m4 c4] 26) = W := ⟨_, rfl⟩
      rw [e] at VX GX BX ⊢
      obtain ⟨q, hqq⟩ : ∃ q, w7.heap.size = q := ⟨_, rfl⟩
      rw [hqq] at VX hqs ⊢
      rename_i hh
      clear hh e hqq G7p G7 F5 F6
      revert hqs
      revert BX
      revert GX
      revert VX
      revert q
      revert W
      revert c4
      revert m4
      revert A4
      revert c3
      revert n3
      revert A3
      revert cb
      revert Ab
      revert ca
      revert Aa
      exact REST.out
    all_goals exact REST.out Aa ca Ab cb A3 n3 c3 A4 m4 c4 _ _ (yx7.set _ _) (G7.box2 yx7 _ _) ((hB7.setCell (p := ⟨_, 0, none⟩) hq _).setCell (p := ⟨_, 1, none⟩) hq _) hq
  intro Aa ca Ab cb A3 n3 c3 A4 m4 c4 W q VX GX BX hqs
  refine hKK.out _ _ ?_
  clear hd1 hd2 hX1 HX1 HG1 a0 a1 d0 d1 hKK
  -- the model's desk lies in the box q of the world W; below W's size nothing changes any more
  have hqW := VX.lt
  have hWz := BX.size
  have KQ := hid (fun (W' : World) (hW : Below W.heap.size W W') => VX.below hW hqW)
  have KG := hid (fun (W' : World) (hW : Below W.heap.size W W') => (GX.on hW).read)
  have KY := hid (fun (W' : World) (hW : Below W.heap.size W W') => KX.out W' (BX.trans (hW.mono hWz)))
  have KT := hid (fun (W' : World) (hW : Below W.heap.size W W') => CT.out W' (BX.trans (hW.mono hWz)))
  have HBW := hid (HB1.out.trans (BX.mono HB1.out.size))
  clear VX GX BX CT KX HB1
  obtain ⟨a0, a1, _, _⟩ := KY.out W (Below.refl _ _)
  have C2 := hid (KT.out W (Below.refl _ _))
  go_wp2_with fail
  with_reducible refine Calls.mono C2.out ?_
  rintro e w8 ⟨A5, c5, A6, c6, rfl, F8, b8⟩
  have hz8 := b8.size
  obtain ⟨w9, e9⟩ : ∃ W', w8.alloc (.cells #[.slice A5 n c5, .slice A6 m c6] 26) = W' := ⟨_, rfl⟩
  have g9 : w8.grownBy w9 none := by rw [← e9]; exact grown_alloc _ _ _
  have X9 : Db w9 w8.heap.size (.slice A5 n c5) (.slice A6 m c6) := by rw [← e9]; exact Db.new _ _ _
  have hz9 : w9.heap.size = w8.heap.size + 1 := by rw [← e9]; simp
  have F9 := F8.onto g9
  have B9 := b8.trans ((below_grown g9).mono hz8)
  have q9 : W.heap.size ≤ w9.heap.size := B9.size
  obtain ⟨p, hp⟩ : ∃ p, w8.heap.size = p := ⟨_, rfl⟩
  rw [hp] at X9 hz9
  have hpW : W.heap.size ≤ p := by omega
  have hp9 : p < w9.heap.size := X9.lt
  have HX9 := hid X9
  have HF9 := hid F9
  have HB9 := hid B9
  have HKO := hid (fun (j : Nat) => KQ.out w9 HB9.out)
  clear a0 a1 g9 X9 F9 B9 F8 b8 C2
  go_wp2
  clear e9 hp
  rename_i KK2 hKK2
  replace hKK2 := hid hKK2
  have KX9 := hid (fun (W' : World) (hW : Below w9.heap.size w9 W') => show W'.cell? ⟨p, 0, none⟩ = some (.slice A5 n c5) ∧ W'.cell? ⟨p, 1, none⟩ = some (.slice A6 m c6) ∧ W'.cell? ⟨w.heap.size + 1, 0, none⟩ = some (.int .i64 k) ∧ W'.cell? ⟨w.heap.size + 1, 1, none⟩ = some (.int .i64 N) from by
    have h1 := HX9.out.below hW hp9
    obtain ⟨_, _, h2, h3⟩ := KY.out W' (HB9.out.trans (hW.mono q9))
    exact ⟨h1.c0, h1.c1, h2, h3⟩)
  have hd1 : Below w9.heap.size w9 w9.drew := (Below.refl w9.heap.size w9).drew
  have gW1 : w9.grownBy (w9.alloc (.cells #[.slice none 0 0, .slice none 0 0] 26)).drew none := (grown_alloc w9 (.cells #[.slice none 0 0, .slice none 0 0] 26) none).trans (drewN_gA _ 1)
  have hd2 : Below w9.heap.size w9 (w9.alloc (.cells #[.slice none 0 0, .slice none 0 0] 26)).drew := below_grown gW1
  have X1 : Db (w9.alloc (.cells #[.slice none 0 0, .slice none 0 0] 26)).drew w9.heap.size (.slice none 0 0) (.slice none 0 0) := Db.new w9 (.slice none 0 0) (.slice none 0 0)
  have hX1 : w9.heap.size < (w9.alloc (.cells #[.slice none 0 0, .slice none 0 0] 26)).drew.heap.size := by show w9.heap.size < (w9.alloc (.cells #[.slice none 0 0, .slice none 0 0] 26)).heap.size; simp
  have HX1 := hid X1
  have KF := hid (fun (W' : World) (hW : Below w9.heap.size w9 W') => (HF9.out.on hW).read)
  obtain ⟨a0, a1, d0, d1⟩ := KX9.out w9 (Below.refl _ _)
  clear X1 gW1 hz9 hz8 hpW hqs hWz hzw hqW
  apply cutT
  · intro REST
    go_region_held3 (fun w' => w'.cell? ⟨p, 0, none⟩ = some (.slice A5 n c5) ∧ w'.cell? ⟨p, 1, none⟩ = some (.slice A6 m c6) ∧ w'.cell? ⟨w.heap.size + 1, 0, none⟩ = some (.int .i64 k) ∧ w'.cell? ⟨w.heap.size + 1, 1, none⟩ = some (.int .i64 N))
      (first
        | go_keep
        | assumption
        | exact KX9.out _ ‹_›
        | exact kx2 _ _)
      (first
        | (go_at_call 34; (with_reducible refine Calls.mono (CDD.out w9.drew) ?_); rintro e w6 ⟨rfl, b6⟩; have hB6 : Below w9.heap.size w9 w6 := hd1.trans (b6.mono hd1.size); have kx6 := KX9.out _ hB6; have g6 := grown_alloc w6 (.cells #[.slice none 0 0, .slice none 0 0] 26) none; have hB6a : Below w9.heap.size w9 (w6.alloc (.cells #[.slice none 0 0, .slice none 0 0] 26)) := hB6.trans ((below_grown g6).mono hB6.size); have kxa := KX9.out _ hB6a)
        | (go_at_call 34; (with_reducible refine Calls.mono (CDD.out (w9.alloc (.cells #[.slice none 0 0, .slice none 0 0] 26)).drew) ?_); rintro e w6 ⟨rfl, b6⟩; have hB6 : Below w9.heap.size w9 w6 := hd2.trans (b6.mono hd2.size); have kx6 := KX9.out _ hB6; have yx6 : Db w6 w9.heap.size (.slice none 0 0) (.slice none 0 0) := HX1.out.below b6 hX1; have hq : w9.heap.size ≤ w9.heap.size := Nat.le_refl _)
        | (go_at_call 31; (with_reducible refine Calls.mono (CID.out w6 _ _ _ _ (KF.out w6 hB6)) ?_); rintro e w7 ⟨A7, n7, c7, A8, m8, c8, rfl, G7p, b7⟩; have hB7 : Below w9.heap.size w9 w7 := hB6.trans (b7.mono hB6.size); have kx7 := KX9.out _ hB7; have G7 := G7p.mono hB6.size; (try (have yx7 := yx6.below b7 yx6.lt; have yx0 := yx7.c0; have yx1 := yx7.c1; have yf0 := yx7.fz 0; have yf1 := yx7.fz 1; have kx2 := fun x y => KX9.out _ ((hB7.setCell (p := ⟨_, 0, none⟩) hq x).setCell (p := ⟨_, 1, none⟩) hq y))))
        | (go_at_call 31; (with_reducible refine Calls.mono (CID.out (w6.alloc (.cells #[.slice none 0 0, .slice none 0 0] 26)) _ _ _ _ (KF.out _ hB6a)) ?_); rintro e w7 ⟨A7, n7, c7, A8, m8, c8, rfl, G7p, b7⟩; have hB7 : Below w9.heap.size w9 w7 := hB6a.trans (b7.mono hB6a.size); have kx7 := KX9.out _ hB7; have G7 := G7p.mono hB6a.size; have hq : w9.heap.size ≤ w6.heap.size := hB6.size; have yx7 : Db w7 w6.heap.size (.slice none 0 0) (.slice none 0 0) := (Db.new w6 _ _).below b7 (by simp); have yx0 := yx7.c0; have yx1 := yx7.c1; have yf0 := yx7.fz 0; have yf1 := yx7.fz 1; have kx2 := fun x y => KX9.out _ ((hB7.setCell (p := ⟨_, 0, none⟩) hq x).setCell (p := ⟨_, 1, none⟩) hq y)))
    · have VX := Db.new w7 (.slice A7 n7 c7) (.slice A8 m8 c8)
      have GX := G7.onto (grown_alloc w7 (.cells #[.slice A7 n7 c7, .slice A8 m8 c8] 26) none)
      have BX := hB7.alloc hB7.size (.cells #[.slice A7 n7 c7, .slice A8 m8 c8] 26)
      have hqs := hB7.size
      obtain ⟨V, e⟩ : ∃ V, w7.alloc (.cells #[.slice A7 n7 c7, .slice A8 m8 c8] 26) = V := ⟨_, rfl⟩
      rw [e] at VX GX BX ⊢
      obtain ⟨s, hqq⟩ : ∃ s, w7.heap.size = s := ⟨_, rfl⟩
      rw [hqq] at VX hqs ⊢
      rename_i hh
      clear hh e hqq G7p G7
      revert hqs
      revert BX
      revert GX
      revert VX
      revert s
      revert V
      revert c8
      revert m8
      revert A8
      revert c7
      revert n7
      revert A7
      exact REST.out
    all_goals exact REST.out A7 n7 c7 A8 m8 c8 _ _ (yx7.set _ _) (G7.box2 yx7 _ _) ((hB7.setCell (p := ⟨_, 0, none⟩) hq _).setCell (p := ⟨_, 1, none⟩) hq _) hq
  intro A7 n7 c7 A8 m8 c8 V s VX GX BX hsV
  refine hKK2.out _ _ ?_
  clear hd1 hd2 hX1 HX1 a0 a1 d0 d1 hKK2
  have hVz := BX.size
  have hsv := VX.lt
  have BW := HB9.out.trans (BX.mono q9)
  have y := KQ.out V BW
  have x0 := VX.c0
  have x1 := VX.c1
  have y0 := y.c0
  have y1 := y.c1
  have hyy : (yes != yes) = false := by simp
  have C10 := hid (eqDesk_any A7 n7 c7 A8 m8 c8 A3 n3 c3 A4 m4 c4 E V GX.read (KG.out V BW))
  have HVX := hid VX
  have HGX := hid GX
  have HBX := hid BX
  have HBW2 := hid BW
  clear y BW VX GX BX CSD
  go_wp2_with fail
  with_reducible refine Calls.mono C10.out ?_
  rintro e w10 ⟨rfl, b10⟩
  have HX10 := hid (HVX.out.below b10 hsv)
  have HG10 := hid (HGX.out.on b10)
  have HB10 := hid (HBX.out.trans (b10.mono hVz))
  have hz10 : w9.heap.size ≤ w10.heap.size := HB10.out.size
  have hzW : W.heap.size ≤ w10.heap.size := Nat.le_trans q9 hz10
  have HBW10 := hid (HBW2.out.trans (b10.mono (Nat.le_trans q9 hVz)))
  clear x0 x1 y0 y1 b10 C10 HVX HGX HBX HBW2
  have hd : Below w10.heap.size w10 w10.drew := (Below.refl _ _).drew
  have KXa := hid (fun (W' : World) (hW : Below w10.heap.size w10 W') => show W'.cell? ⟨w.heap.size, 0, none⟩ = some (.slice A n c) ∧ W'.cell? ⟨w.heap.size, 1, none⟩ = some (.slice A2 m c2) ∧ W'.cell? ⟨p, 0, none⟩ = some (.slice A5 n c5) ∧ W'.cell? ⟨p, 1, none⟩ = some (.slice A6 m c6) from by
    obtain ⟨h1, h2, _, _⟩ := KY.out W' (HBW10.out.trans (hW.mono hzW))
    have h3 := HX9.out.below (HB10.out.trans (hW.mono hz10)) hp9
    exact ⟨h1, h2, h3.c0, h3.c1⟩)
  obtain ⟨a0, a1, x0, x1⟩ := KXa.out w10 (Below.refl _ _)
  have C11 := hid (KT.out w10.drew (HBW10.out.trans (hd.mono hzW)))
  have C12 := hid (fun (W' : World) (A7 : Option Addr) (c7 : Nat) (A8 : Option Addr) (c8 : Nat) (hW : Below w10.heap.size w10 W') (h7 : DkR W' W'.heap.size A7 n c7 A8 m c8 D) => eqDesk_any A5 n c5 A6 m c6 A7 n c7 A8 m c8 D W' (KF.out W' (HB10.out.trans (hW.mono hz10))) h7)
  go_wp2
  go_region_held3 (fun w' => w'.cell? ⟨w.heap.size, 0, none⟩ = some (.slice A n c) ∧ w'.cell? ⟨w.heap.size, 1, none⟩ = some (.slice A2 m c2) ∧ w'.cell? ⟨p, 0, none⟩ = some (.slice A5 n c5) ∧ w'.cell? ⟨p, 1, none⟩ = some (.slice A6 m c6))
    (first
      | go_keep
      | assumption)
    (first
      | (go_at_call 16; (with_reducible refine Calls.mono C11.out ?_); rintro e w11 ⟨A11, c11, A12, c12, rfl, F11, b11⟩; have hB11 : Below w10.heap.size w10 w11 := hd.trans b11; have kx := KXa.out _ hB11)
      | (go_at_call 17; (with_reducible refine Calls.mono (C12.out _ _ _ _ _ hB11 F11.read) ?_); rintro e w12 ⟨rfl, b12⟩; have hB12 : Below w10.heap.size w10 w12 := hB11.trans (b12.mono hB11.size); have ky := KXa.out _ hB12))
  have HX12 := hid (HX10.out.below hB12 HX10.out.lt)
  have HG12 := hid (HG10.out.on hB12)
  have HB12 := hid (HB10.out.trans (hB12.mono hz10))
  have HBW12 := hid (HBW10.out.trans (hB12.mono hzW))
  have hz12 : w9.heap.size ≤ w12.heap.size := HB12.out.size
  obtain ⟨P, hP9, hap, _⟩ := HF9.out.pc
  have C13 := hid (markDeskP_any A5 n c5 A6 m c6 W.heap.size w9.heap.size P D w12 (hP9.on HB12.out) (own_on HF9.out.1 HB12.out) hap (own_hi HF9.out.1) hP9.hi (by omega) (by omega) (by omega))
  have hp1 : ¬ 1 + (n : Int) + (szL D.past : Int) < 0 := by omega
  clear F11 b11 b12 hB11 hB12 kx ky a0 a1 x0 x1 C11 C12 KXa hd hP9 hap HX10 HG10 HB10 HBW10
  have X9 := HX9.out.below HB12.out hp9
  have x0 := X9.c0
  have x1 := X9.c1
  clear X9
  go_wp2_with fail
  with_reducible refine Calls.mono C13.out ?_
  rintro e w13 ⟨rfl, _, _, b13, i13, u13⟩
  have HX13 := hid (HX12.out.only i13)
  have HG13 := hid (HG12.out.up u13 (Nat.le_refl _))
  have HBW13 := hid (HBW12.out.trans b13)
  have hz13 : w9.heap.size ≤ w13.heap.size := Nat.le_trans hz12 i13.1
  have Y := KQ.out w13 HBW13.out
  have y0 := Y.c0
  have y1 := Y.c1
  have s0 := HX13.out.c0
  have s1 := HX13.out.c1
  have C14 := hid (eqDesk_any A7 n7 c7 A8 m8 c8 A3 n3 c3 A4 m4 c4 E w13 HG13.out.read (KG.out w13 HBW13.out))
  clear x0 x1 b13 i13 u13 Y C13 HX12 HG12 HBW12
  go_wp2_with fail
  with_reducible refine Calls.mono C14.out ?_
  rintro e w14 ⟨rfl, b14⟩
  have HX14 := hid (HX13.out.below b14 HX13.out.lt)
  have HG14 := hid (HG13.out.on b14)
  have HBW14 := hid (HBW13.out.trans (b14.mono (by omega)))
  have hz14 : w9.heap.size ≤ w14.heap.size := Nat.le_trans hz13 b14.size
  have hbo : n7 + szL E.past ≤ 1000000000 ∧ m8 ≤ 1000000000 := by
    have h1 := HG14.out.lens
    have h2 := HSZ.out
    omega
  have C15 := hid (markDesk_any A7 n7 c7 A8 m8 c8 w9.heap.size E w14 HG14.out hbo.1 hbo.2 hz14)
  have hbo1 := hbo.1
  have hbo2 := hbo.2
  have s2 := HX14.out.c0
  have s3 := HX14.out.c1
  clear s0 s1 y0 y1 b14 C14 HX13 HG13 HBW13 hp1 hbo
  go_wp2_with fail
  with_reducible refine Calls.mono C15.out ?_
  rintro e w15 ⟨rfl, Y15, b15, i15⟩
  have hz15 : w9.heap.size ≤ w15.heap.size := Nat.le_trans hz14 i15.1
  have HX15 := hid (HX14.out.only i15)
  have HBW15 := hid (HBW14.out.trans (b15.mono q9))
  have CH := hid (fun (W' : World) (hW : Below w15.heap.size w15 W') => heldDesk_any A7 n7 c7 A8 m8 c8 w9.heap.size (E.past.map List.length) W' (Y15.on hW) hbo1 hbo2)
  obtain ⟨t, ht⟩ : ∃ t : Int, 1 + (n7 : Int) + ((E.past.map List.length).sum : Int) = t := ⟨_, rfl⟩
  have ht2 : 1 + (n7 : Int) + (szL E.past : Int) = t := ht
  rw [ht2]
  rw [ht] at CH
  have hp : ¬ t < 0 := by omega
  have hne : (t != t) = false := by simp
  have s0 := HX15.out.c0
  have s1 := HX15.out.c1
  clear Y15 b15 i15 C15 s2 s3 ht ht2 HX14 HG14 HBW14 hbo1 hbo2
  go_wp2_with fail
  with_reducible refine Calls.mono (CH.out _ (Below.refl _ _)) ?_
  rintro e w16 ⟨rfl, b16⟩
  have HBW16 := hid (HBW15.out.trans (b16.mono (by omega)))
  have HL16 := hid b16
  have hz16 := b16.size
  clear b16 s0 s1
  go_wp2
  rename_i KK3 hKK3
  replace hKK3 := hid hKK3
  have hzW16 : W.heap.size ≤ w16.heap.size := by omega
  have KXb := hid (fun (W' : World) (hW : Below w16.heap.size w16 W') => KY.out W' (HBW16.out.trans (hW.mono hzW16)))
  have KTb := hid (fun (W' : World) (hW : Below w16.heap.size w16 W') => KT.out W' (HBW16.out.trans (hW.mono hzW16)))
  have hd1 : Below w16.heap.size w16 w16.drew := (Below.refl w16.heap.size w16).drew
  have gW1 : w16.grownBy (w16.alloc (.cells #[.slice none 0 0, .slice none 0 0] 26)).drew none := (grown_alloc w16 (.cells #[.slice none 0 0, .slice none 0 0] 26) none).trans (drewN_gA _ 1)
  have hd2 : Below w16.heap.size w16 (w16.alloc (.cells #[.slice none 0 0, .slice none 0 0] 26)).drew := below_grown gW1
  have X1 : Db (w16.alloc (.cells #[.slice none 0 0, .slice none 0 0] 26)).drew w16.heap.size (.slice none 0 0) (.slice none 0 0) := Db.new w16 (.slice none 0 0) (.slice none 0 0)
  have hX1 : w16.heap.size < (w16.alloc (.cells #[.slice none 0 0, .slice none 0 0] 26)).drew.heap.size := by show w16.heap.size < (w16.alloc (.cells #[.slice none 0 0, .slice none 0 0] 26)).heap.size; simp
  have HX1 := hid X1
  obtain ⟨a0, a1, d0, d1⟩ := KXb.out w16 (Below.refl _ _)
  clear X1 gW1
  apply cutT
  · intro REST
    go_region_held3 (fun w' => w'.cell? ⟨w.heap.size, 0, none⟩ = some (.slice A n c) ∧ w'.cell? ⟨w.heap.size, 1, none⟩ = some (.slice A2 m c2) ∧ w'.cell? ⟨w.heap.size + 1, 0, none⟩ = some (.int .i64 k) ∧ w'.cell? ⟨w.heap.size + 1, 1, none⟩ = some (.int .i64 N))
      (first
        | go_keep
        | assumption
        | exact KXb.out _ ‹_›
        | exact kx2 _ _)
      (first
        | (go_at_call 16; (with_reducible refine Calls.mono (KTb.out w16.drew hd1) ?_); rintro e w5 ⟨Aa, ca, Ab, cb, rfl, F5, b5⟩; have hB5 : Below w16.heap.size w16 w5 := hd1.trans (b5.mono hd1.size); have kx := KXb.out _ hB5; have g5 := grown_alloc w5 (.cells #[.slice none 0 0, .slice none 0 0] 26) none; have hB5a : Below w16.heap.size w16 (w5.alloc (.cells #[.slice none 0 0, .slice none 0 0] 26)) := hB5.trans ((below_grown g5).mono hB5.size); have kxa := KXb.out _ hB5a)
        | (go_at_call 16; (with_reducible refine Calls.mono (KTb.out (w16.alloc (.cells #[.slice none 0 0, .slice none 0 0] 26)).drew hd2) ?_); rintro e w5 ⟨Aa, ca, Ab, cb, rfl, F5, b5⟩; have hB5 : Below w16.heap.size w16 w5 := hd2.trans (b5.mono hd2.size); have kx := KXb.out _ hB5; have yx5 : Db w5 w16.heap.size (.slice none 0 0) (.slice none 0 0) := HX1.out.below b5 hX1; have hq : w16.heap.size ≤ w16.heap.size := Nat.le_refl _)
        | (go_at_call 34; (with_reducible refine Calls.mono (CDD.out w5) ?_); rintro e w6 ⟨rfl, b6⟩; have hB6 : Below w16.heap.size w16 w6 := hB5.trans (b6.mono hB5.size); have kx6 := KXb.out _ hB6; have F6 := F5.on b6; (try have yx6 := yx5.below b6 yx5.lt); have g6 := grown_alloc w6 (.cells #[.slice none 0 0, .slice none 0 0] 26) none; have hB6a : Below w16.heap.size w16 (w6.alloc (.cells #[.slice none 0 0, .slice none 0 0] 26)) := hB6.trans ((below_grown g6).mono hB6.size); have kxa := KXb.out _ hB6a)
        | (go_at_call 34; (with_reducible refine Calls.mono (CDD.out (w5.alloc (.cells #[.slice none 0 0, .slice none 0 0] 26))) ?_); rintro e w6 ⟨rfl, b6⟩; have hB6 : Below w16.heap.size w16 w6 := hB5a.trans (b6.mono hB5a.size); have kx6 := KXb.out _ hB6; have F6 := (F5.onto g5).on b6; have yx6 : Db w6 w5.heap.size (.slice none 0 0) (.slice none 0 0) := (Db.new w5 _ _).below b6 (by simp); have hq : w16.heap.size ≤ w5.heap.size := hB5.size)
        | (go_at_call 31; (with_reducible refine Calls.mono (CID.out w6 _ _ _ _ F6.read) ?_); rintro e w7 ⟨A13, n13, c13, A14, m14, c14, rfl, G7p, b7⟩; have hB7 : Below w16.heap.size w16 w7 := hB6.trans (b7.mono hB6.size); have kx7 := KXb.out _ hB7; have G7 := G7p.mono hB6.size; (try (have yx7 := yx6.below b7 yx6.lt; have yx0 := yx7.c0; have yx1 := yx7.c1; have yf0 := yx7.fz 0; have yf1 := yx7.fz 1; have kx2 := fun x y => KXb.out _ ((hB7.setCell (p := ⟨_, 0, none⟩) hq x).setCell (p := ⟨_, 1, none⟩) hq y))))
        | (go_at_call 31; (with_reducible refine Calls.mono (CID.out (w6.alloc (.cells #[.slice none 0 0, .slice none 0 0] 26)) _ _ _ _ (F6.onto g6).read) ?_); rintro e w7 ⟨A13, n13, c13, A14, m14, c14, rfl, G7p, b7⟩; have hB7 : Below w16.heap.size w16 w7 := hB6a.trans (b7.mono hB6a.size); have kx7 := KXb.out _ hB7; have G7 := G7p.mono hB6a.size; have hq : w16.heap.size ≤ w6.heap.size := hB6.size; have yx7 : Db w7 w6.heap.size (.slice none 0 0) (.slice none 0 0) := (Db.new w6 _ _).below b7 (by simp); have yx0 := yx7.c0; have yx1 := yx7.c1; have yf0 := yx7.fz 0; have yf1 := yx7.fz 1; have kx2 := fun x y => KXb.out _ ((hB7.setCell (p := ⟨_, 0, none⟩) hq x).setCell (p := ⟨_, 1, none⟩) hq y)))
    · have VX := Db.new w7 (.slice A13 n13 c13) (.slice A14 m14 c14)
      have GX := G7.onto (grown_alloc w7 (.cells #[.slice A13 n13 c13, .slice A14 m14 c14] 26) none)
      have BX := hB7.alloc hB7.size (.cells #[.slice A13 n13 c13, .slice A14 m14 c14] 26)
      obtain ⟨U, e⟩ : ∃ U, w7.alloc (.cells #[.slice A13 n13 c13, .slice A14 m14 c14] 26) = U := ⟨_, rfl⟩
      rw [e] at VX GX BX ⊢
      obtain ⟨u, hqq⟩ : ∃ u, w7.heap.size = u := ⟨_, rfl⟩
      rw [hqq] at VX ⊢
      rename_i hh
      clear hh e hqq G7p G7 F5 F6
      revert BX
      revert GX
      revert VX
      revert u
      revert U
      revert c14
      revert m14
      revert A14
      revert c13
      revert n13
      revert A13
      revert cb
      revert Ab
      revert ca
      revert Aa
      exact REST.out
    all_goals exact REST.out Aa ca Ab cb A13 n13 c13 A14 m14 c14 _ _ (yx7.set _ _) (G7.box2 yx7 _ _) ((hB7.setCell (p := ⟨_, 0, none⟩) hq _).setCell (p := ⟨_, 1, none⟩) hq _)
  intro Aa2 ca2 Ab2 cb2 A13 n13 c13 A14 m14 c14 U u VX GX BX
  refine hKK3.out _ _ ?_
  clear hd1 hd2 hX1 HX1 a0 a1 d0 d1 hKK3
  have hUz := BX.size
  have BU := HBW16.out.trans (BX.mono hzW16)
  have Y := KQ.out U BU
  have y0 := Y.c0
  have y1 := Y.c1
  have u0 := VX.c0
  have u1 := VX.c1
  have C17 := hid (eqDesk_any A13 n13 c13 A14 m14 c14 A3 n3 c3 A4 m4 c4 E U GX.read (KG.out U BU))
  have HBU := hid BU
  have HLU := hid (HL16.out.trans (BX.mono hz16))
  clear Y BU VX GX BX CID CDD
  go_wp2_with fail
  with_reducible refine Calls.mono C17.out ?_
  rintro e w17 ⟨rfl, b17⟩
  have HBW17 := hid (HBU.out.trans (b17.mono (by omega)))
  have HL17 := hid (HLU.out.trans (b17.mono (by omega)))
  have X17 := HX15.out.below HL17.out HX15.out.lt
  have s0 := X17.c0
  have s1 := X17.c1
  clear y0 y1 u0 u1 b17 X17 C17
  go_wp2_with fail
  with_reducible refine Calls.mono (CH.out _ HL17.out) ?_
  rintro e w18 ⟨rfl, b18⟩
  have hz17 := HBW17.out.size
  have HB18 := hid (HBW17.out.trans (b18.mono hz17))
  clear b18 s0 s1
  go_wp2
  go_ret
  exact ⟨rfl, HBW.out.trans (HB18.out.mono HBW.out.size)⟩
end Go.Proofs.Ytkejcajboneniaa
