/-
  The walk of the exact law of DeskLine. No statement is proved here.
-/
import Derived.Test.YtkejcajboneniabGreatDoorQM0
import Derived.Test.YtkejcajboneniabGreatDoorQK12l
import Derived.Test.YtkejcajboneniabGreatDoorQMn
import Derived.Test.YtkejcajboneniabGreatDoorQMi
import Derived.Deep.RegionHeld3
namespace Go.Proofs.YtkejcajboneniabGreatDoor
open Go.RowKit
set_option linter.unusedVariables false
set_option linter.unusedSimpArgs false

theorem szL_leL {ls : List (List Int)} (h : ∀ l ∈ ls, l.length ≤ 16) : szL ls ≤ 16 * ls.length := by
  unfold szL
  induction ls with
  | nil => simp
  | cons a ls ih =>
    have h1 := ih (fun l hl => h l (List.mem_cons_of_mem _ hl))
    have h2 := h a (List.mem_cons_self ..)
    simp only [List.map_cons, List.sum_cons, List.length_cons]
    omega
theorem ok_szL {D : Dk} (h : deskOk D = true) : D.now.length ≤ 16 ∧ D.past.length ≤ 8 ∧ szL D.past ≤ 128 := by
  obtain ⟨h1, h2, h3⟩ := deskOk_iff.1 h
  have h4 := szL_leL (ls := D.past) (fun l hl => (bitsOk_iff.1 (h1 l hl)).2.2)
  exact ⟨(bitsOk_iff.1 h2).2.2, h3, by omega⟩
theorem line_sz (D : Dk) (s : List UInt8) : (lineOut D s).1.now.length ≤ 16 ∧ (lineOut D s).1.past.length ≤ 8 ∧ szL (lineOut D s).1.past ≤ 128 := by
  by_cases h : deskOk D = true
  · exact ok_szL (line_ok h s)
  · unfold lineOut
    rw [if_neg h]
    simp [noDk, szL]
theorem DkY.lensL {w : World} {B n c m c2 : Nat} {A A2 : Option Addr} {D : Dk} (h : DkY w B A n c A2 m c2 D) : n = D.now.length ∧ m = D.past.length :=
  ⟨by have := h.read.now.len; omega, by have := h.read.past.len; omega⟩

set_option maxRecDepth 100000 in
set_option maxHeartbeats 6400000 in
theorem fnExactDeskLine_walk (A : Option Addr) (n c : Nat) (A2 : Option Addr) (m c2 : Nat) (D : Dk) (s : List UInt8) (w : World) (h : DkR w w.heap.size A n c A2 m c2 D) (hm : s.length ≤ maxLen) (hT : TabsL w) :
    Calls Tryz.prog 5 #[dsk A n c A2 m c2, encStr s] w fun e w' => e = .returned (.bool true) ∧ Below w.heap.size w w' := by
  have hmm : s.length ≤ 9223372036854775807 := by simpa [maxLen] using hm
  have hsz0 : (⟨s.toArray⟩ : ByteArray).size = s.length := by show s.toArray.size = _; simp
  have gA := grown_alloc w (.cells #[.slice A n c, .slice A2 m c2] 48) none
  have XA := heap_alloc_new w (.cells #[.slice A n c, .slice A2 m c2] 48)
  have B0 := below_grown gA
  have H0 := h.on B0
  go_enter Tryz.func5, Tryz.ntmps5
  obtain ⟨w0, e0⟩ : ∃ W, w.alloc (.cells #[.slice A n c, .slice A2 m c2] 48) = W := ⟨_, rfl⟩
  have hz0 : w0.heap.size = w.heap.size + 1 := by rw [← e0]; simp
  rw [e0] at XA B0 H0
  obtain ⟨a0, a1, _, _⟩ := pairCells XA
  have CS := hid (szDesk_any A n c A2 m c2 D w0 H0)
  have HA := hid XA
  have HB0 := hid B0
  have HH := hid h
  have HT := hid hT
  clear XA B0 H0 gA h hT
  by_cases hbig : 1048576 < s.length
  · have hbi : (1048576 : Int) < (s.length : Int) := by omega
    go_wp2
    go_ret
    exact ⟨rfl, HB0.out⟩
  have hbi : ¬ (1048576 : Int) < (s.length : Int) := by omega
  go_wp2_with fail
  with_reducible refine Calls.mono CS.out ?_
  rintro e w1 ⟨⟨r, rfl, hr⟩, g1⟩
  have YA := (g1.block w.heap.size (by omega) (by simp)).trans HA.out
  have hz1 := g1.size
  have HB1 := hid (HB0.out.trans ((below_grown g1).mono HB0.out.size))
  clear g1 a0 a1 e0
  obtain ⟨a0, a1, _, _⟩ := pairCells YA
  by_cases hr0 : r < 0
  · go_wp2
    go_ret
    exact ⟨rfl, HB1.out⟩
  have hsz : n + m + szL D.past ≤ 1048576 := by omega
  have hr1 : r ≤ 1048576 := by omega
  have hr0' : decide (r < 0) = false := by simpa using hr0
  clear hr
  have hzw : w.heap.size < w1.heap.size := by omega
  have HYA := hid YA
  have KA := hid (fun (W : World) (hW : Below w1.heap.size w1 W) => show W.cell? ⟨w.heap.size, 0, none⟩ = some (.slice A n c) ∧ W.cell? ⟨w.heap.size, 1, none⟩ = some (.slice A2 m c2) from by
    obtain ⟨p0, p1, _, _⟩ := pairCells ((hW.block w.heap.size hzw).trans HYA.out)
    exact ⟨p0, p1⟩)
  have CT := hid (fun (W : World) (hW : Below w1.heap.size w1 W) => toDesk_any A n c A2 m c2 D W (HH.out.on (HB1.out.trans (hW.mono HB1.out.size))) hsz)
  have KT := hid (fun (W : World) (hW : Below w1.heap.size w1 W) => HT.out.below (HB1.out.trans (hW.mono HB1.out.size)))
  have CSR := hid (fun (W : World) (Aa : Option Addr) (ca : Nat) (Ab : Option Addr) (cb : Nat) (h0 : DkR W W.heap.size Aa n ca Ab m cb D) => specDeskLine_any Aa n ca Ab m cb D s W h0 (by omega))
  have CIR := hid (fun (W : World) (Aa : Option Addr) (ca : Nat) (Ab : Option Addr) (cb : Nat) (h0 : DkR W W.heap.size Aa n ca Ab m cb D) (hT : TabsL W) => implDeskLine_any Aa n ca Ab m cb D s W h0 (by omega) hT)
  have HSZ := hid (line_sz D s)
  obtain ⟨E, N, hE⟩ : ∃ E N, lineOut D s = (E, N) := ⟨_, _, rfl⟩
  rw [hE] at HSZ
  simp only [hE] at CSR CIR
  clear hz0 HA CS YA HYA hE HH HT
  have C2 := hid (CT.out w1 (Below.refl _ _))
  go_wp2_with fail
  with_reducible refine Calls.mono C2.out ?_
  rintro e w2 ⟨A5, c5, A6, c6, rfl, F2, b2⟩
  have HF2 := hid F2
  have HB2 := hid b2
  have C4 := hid (CSR.out w2 A5 c5 A6 c6 F2.read)
  clear a0 a1 F2 b2 C2 CSR HF2
  go_wp2_with fail
  with_reducible refine Calls.mono C4.out ?_
  rintro e w4 ⟨A3, n3, c3, A4, m4, c4, rfl, G4, b4⟩
  have HB4 := hid (HB2.out.trans (b4.mono HB2.out.size))
  obtain ⟨W, e5⟩ : ∃ W, w4.alloc (.cells #[.slice A3 n3 c3, .slice A4 m4 c4] 31) = W := ⟨_, rfl⟩
  have g5 : w4.grownBy W none := by rw [← e5]; exact grown_alloc _ _ _
  have X5 : Db W w4.heap.size (.slice A3 n3 c3) (.slice A4 m4 c4) := by rw [← e5]; exact Db.new _ _ _
  have hz5 : W.heap.size = w4.heap.size + 1 := by rw [← e5]; simp
  have G5 := G4.onto g5
  have HB5 := hid (HB4.out.trans ((below_grown g5).mono HB4.out.size))
  obtain ⟨q, hq⟩ : ∃ q, w4.heap.size = q := ⟨_, rfl⟩
  rw [hq] at X5 hz5
  have hWz : w1.heap.size ≤ W.heap.size := HB5.out.size
  have KQ := hid (fun (W' : World) (hW : Below W.heap.size W W') => X5.below hW X5.lt)
  have KG := hid (fun (W' : World) (hW : Below W.heap.size W W') => (G5.on hW).read)
  have KW := hid (fun (W' : World) (hW : Below W.heap.size W W') => HB5.out.trans (hW.mono hWz))
  obtain ⟨a0, a1⟩ := KA.out W HB5.out
  have C6 := hid (CT.out W HB5.out)
  clear g5 X5 G5 G4 b4 C4 HB2 HB4 hz5
  go_wp2_with fail
  clear e5 hq
  with_reducible refine Calls.mono C6.out ?_
  rintro e w8 ⟨A5, c5, A6, c6, rfl, F8, b8⟩
  have hz8 := b8.size
  obtain ⟨w9, e9⟩ : ∃ W', w8.alloc (.cells #[.slice A5 n c5, .slice A6 m c6] 31) = W' := ⟨_, rfl⟩
  have g9 : w8.grownBy w9 none := by rw [← e9]; exact grown_alloc _ _ _
  have X9 : Db w9 w8.heap.size (.slice A5 n c5) (.slice A6 m c6) := by rw [← e9]; exact Db.new _ _ _
  have hz9 : w9.heap.size = w8.heap.size + 1 := by rw [← e9]; simp
  have F9 := F8.onto g9
  have B9 := b8.trans ((below_grown g9).mono hz8)
  have q9 : W.heap.size ≤ w9.heap.size := B9.size
  obtain ⟨p, hp⟩ : ∃ p, w8.heap.size = p := ⟨_, rfl⟩
  rw [hp] at X9 hz9
  have hpW : W.heap.size ≤ p := by omega
  have hp9 : p < w9.heap.size := X9.lt
  have HX9 := hid X9
  have HF9 := hid F9
  have HB9 := hid B9
  have H9 := hid (Below.refl w9.heap.size w9)
  have HB10 := hid B9
  have hz10 : w9.heap.size ≤ w9.heap.size := Nat.le_refl _
  have C11 := hid (CIR.out w9 A5 c5 A6 c6 F9.read (KT.out _ (KW.out _ B9)))
  have x0 := X9.c0
  have x1 := X9.c1
  clear a0 a1 g9 X9 F9 B9 F8 b8 C6 hz9 hz8
  go_wp2_with fail
  clear e9 hp
  with_reducible refine Calls.mono C11.out ?_
  rintro e w11 ⟨A7, n7, c7, A8, m8, c8, rfl, Y11, b11⟩
  have hz11 := b11.size
  obtain ⟨V, e12⟩ : ∃ W', w11.alloc (.cells #[.slice A7 n7 c7, .slice A8 m8 c8] 31) = W' := ⟨_, rfl⟩
  have g12 : w11.grownBy V none := by rw [← e12]; exact grown_alloc _ _ _
  have VX : Db V w11.heap.size (.slice A7 n7 c7) (.slice A8 m8 c8) := by rw [← e12]; exact Db.new _ _ _
  have hzV : V.heap.size = w11.heap.size + 1 := by rw [← e12]; simp
  have YV := Y11.onto g12
  have b12 := b11.trans ((below_grown g12).mono hz11)
  obtain ⟨s, hs⟩ : ∃ s, w11.heap.size = s := ⟨_, rfl⟩
  rw [hs] at VX hzV
  have hs10 : w9.heap.size ≤ s := by omega
  have hVz : w9.heap.size ≤ V.heap.size := by omega
  have H9V := hid (H9.out.trans (b12.mono hz10))
  have BWV := HB10.out.trans (b12.mono (Nat.le_trans q9 hz10))
  have Y := KQ.out V BWV
  have y0 := Y.c0
  have y1 := Y.c1
  have s0 := VX.c0
  have s1 := VX.c1
  have hyy : (N != N) = false := by simp
  have hye : (N == N) = true := by simp
  have C12 := hid (eqDesk_any A7 n7 c7 A8 m8 c8 A3 n3 c3 A4 m4 c4 E V YV.read (KG.out V BWV))
  have HVX := hid VX
  have HVY := hid YV
  have HBWV := hid BWV
  clear x0 x1 g12 VX Y11 YV b11 b12 Y BWV C11 H9 hz11 hzV HB10
  go_wp2_with fail
  clear e12 hs
  with_reducible refine Calls.mono C12.out ?_
  rintro e w12 ⟨rfl, b12⟩
  have HX12 := hid (HVX.out.below b12 HVX.out.lt)
  have HY12 := hid (HVY.out.on b12)
  have H12 := hid (H9V.out.trans (b12.mono (Nat.le_trans hz10 hVz)))
  have HW12 := hid (HBWV.out.trans (b12.mono (Nat.le_trans q9 (Nat.le_trans hz10 hVz))))
  have hz12 : w9.heap.size ≤ w12.heap.size := Nat.le_trans hVz b12.size
  clear s0 s1 y0 y1 b12 C12 HVX HVY H9V HBWV
  have h912 : w9.heap.size ≤ w12.heap.size := by omega
  have hW12 : W.heap.size ≤ w12.heap.size := by omega
  have hd : Below w12.heap.size w12 w12.drew := (Below.refl _ _).drew
  have KXa := hid (fun (W' : World) (hW : Below w12.heap.size w12 W') => show W'.cell? ⟨w.heap.size, 0, none⟩ = some (.slice A n c) ∧ W'.cell? ⟨w.heap.size, 1, none⟩ = some (.slice A2 m c2) ∧ W'.cell? ⟨p, 0, none⟩ = some (.slice A5 n c5) ∧ W'.cell? ⟨p, 1, none⟩ = some (.slice A6 m c6) from by
    obtain ⟨h1, h2⟩ := KA.out W' (KW.out _ (HW12.out.trans (hW.mono hW12)))
    have h3 := HX9.out.below (H12.out.trans (hW.mono h912)) hp9
    exact ⟨h1, h2, h3.c0, h3.c1⟩)
  obtain ⟨a0, a1, x0, x1⟩ := KXa.out w12 (Below.refl _ _)
  have C11 := hid (CT.out w12.drew (KW.out _ (HW12.out.trans (hd.mono hW12))))
  have C12 := hid (fun (W' : World) (A7 : Option Addr) (c7 : Nat) (A8 : Option Addr) (c8 : Nat) (hW : Below w12.heap.size w12 W') (h7 : DkR W' W'.heap.size A7 n c7 A8 m c8 D) => eqDesk_any A5 n c5 A6 m c6 A7 n c7 A8 m c8 D W' (HF9.out.on (H12.out.trans (hW.mono h912))).read h7)
  go_wp2
  go_region_held3 (fun w' => w'.cell? ⟨w.heap.size, 0, none⟩ = some (.slice A n c) ∧ w'.cell? ⟨w.heap.size, 1, none⟩ = some (.slice A2 m c2) ∧ w'.cell? ⟨p, 0, none⟩ = some (.slice A5 n c5) ∧ w'.cell? ⟨p, 1, none⟩ = some (.slice A6 m c6))
    (first
      | go_keep
      | assumption)
    (first
      | (go_at_call 25; (with_reducible refine Calls.mono C11.out ?_); rintro e w11 ⟨A11, c11, A12, c12, rfl, F11, b11⟩; have hB11 : Below w12.heap.size w12 w11 := hd.trans b11; have kx := KXa.out _ hB11)
      | (go_at_call 26; (with_reducible refine Calls.mono (C12.out _ _ _ _ _ hB11 F11.read) ?_); rintro e w13 ⟨rfl, b13⟩; have hB13 : Below w12.heap.size w12 w13 := hB11.trans (b13.mono hB11.size); have ky := KXa.out _ hB13))
  have HX13 := hid (HX12.out.below hB13 HX12.out.lt)
  have HY13 := hid (HY12.out.on hB13)
  have H13 := hid (H12.out.trans (hB13.mono h912))
  have HW13 := hid (HW12.out.trans (hB13.mono hW12))
  have hz13 : w9.heap.size ≤ w13.heap.size := Nat.le_trans hz12 hB13.size
  clear F11 b11 b13 hB11 hB13 kx ky a0 a1 x0 x1 C11 C12 KXa hd HX12 HY12 H12 HW12
  have hW13 : W.heap.size ≤ w13.heap.size := by omega
  obtain ⟨P, hP9, hap, _⟩ := HF9.out.pc
  have C16 := hid (markDeskP_any A5 n c5 A6 m c6 W.heap.size w9.heap.size P D w13 (hP9.on H13.out) (own_on HF9.out.1 H13.out) hap (own_hi HF9.out.1) hP9.hi (by omega) (by omega) (by omega))
  have hp1 : ¬ 1 + (n : Int) + (szL D.past : Int) < 0 := by omega
  have X9 := HX9.out.below H13.out hp9
  have x0 := X9.c0
  have x1 := X9.c1
  clear hP9 hap X9
  go_wp2_with fail
  with_reducible refine Calls.mono C16.out ?_
  rintro e w16 ⟨rfl, _, _, b16, i16, u16⟩
  have HX16 := hid (HX13.out.only i16)
  have HY16 := hid (HY13.out.up u16 (by omega))
  have HW16 := hid (HW13.out.trans b16)
  have hz16 : w9.heap.size ≤ w16.heap.size := Nat.le_trans hz13 i16.1
  clear x0 x1 b16 i16 u16 C16 HX13 HY13 H13 HW13
  have Y := KQ.out w16 HW16.out
  have y0 := Y.c0
  have y1 := Y.c1
  have s0 := HX16.out.c0
  have s1 := HX16.out.c1
  have C18 := hid (eqDesk_any A7 n7 c7 A8 m8 c8 A3 n3 c3 A4 m4 c4 E w16 HY16.out.read (KG.out w16 HW16.out))
  clear Y
  go_wp2_with fail
  with_reducible refine Calls.mono C18.out ?_
  rintro e w18 ⟨rfl, b18⟩
  have HX18 := hid (HX16.out.below b18 HX16.out.lt)
  have HY18 := hid (HY16.out.on b18)
  have HW18 := hid (HW16.out.trans (b18.mono (by omega)))
  have hz18 : w9.heap.size ≤ w18.heap.size := Nat.le_trans hz16 b18.size
  have hbo : n7 + szL E.past ≤ 1000000000 ∧ m8 ≤ 1000000000 := by
    have h1 := HY18.out.lensL
    have h2 := HSZ.out
    omega
  have C19 := hid (markDesk_any A7 n7 c7 A8 m8 c8 w9.heap.size E w18 HY18.out hbo.1 hbo.2 hz18)
  have hbo1 := hbo.1
  have hbo2 := hbo.2
  have s2 := HX18.out.c0
  have s3 := HX18.out.c1
  clear s0 s1 y0 y1 b18 C18 HX16 HY16 HW16 hp1 hbo
  go_wp2_with fail
  with_reducible refine Calls.mono C19.out ?_
  rintro e w19 ⟨rfl, Y19, b19, i19⟩
  have hz19 : w9.heap.size ≤ w19.heap.size := Nat.le_trans hz18 i19.1
  have HX19 := hid (HX18.out.only i19)
  have HW19 := hid (HW18.out.trans (b19.mono (by omega)))
  have CH := hid (fun (W' : World) (hW : Below w19.heap.size w19 W') => heldDesk_any A7 n7 c7 A8 m8 c8 w9.heap.size (E.past.map List.length) W' (Y19.on hW) hbo1 hbo2)
  obtain ⟨t, ht⟩ : ∃ t : Int, 1 + (n7 : Int) + ((E.past.map List.length).sum : Int) = t := ⟨_, rfl⟩
  have ht2 : 1 + (n7 : Int) + (szL E.past : Int) = t := ht
  rw [ht2]
  rw [ht] at CH
  have hp : ¬ t < 0 := by omega
  have hne : (t != t) = false := by simp
  have s0 := HX19.out.c0
  have s1 := HX19.out.c1
  clear Y19 b19 i19 C19 s2 s3 ht ht2 HX18 HY18 HW18 hbo1 hbo2
  go_wp2_with fail
  with_reducible refine Calls.mono (CH.out _ (Below.refl _ _)) ?_
  rintro e w20 ⟨rfl, b20⟩
  have hz20 : w9.heap.size ≤ w20.heap.size := Nat.le_trans hz19 b20.size
  have HW20 := hid (HW19.out.trans (b20.mono (by omega)))
  have HL20 := hid b20
  have h1920 := b20.size
  obtain ⟨a0, a1⟩ := KA.out w20 (KW.out _ HW20.out)
  have C21 := hid (CT.out w20 (KW.out _ HW20.out))
  clear b20 s0 s1
  go_wp2_with fail
  with_reducible refine Calls.mono C21.out ?_
  rintro e w21 ⟨A15, c15, A16, c16, rfl, F21, b21⟩
  have HW21 := hid (HW20.out.trans (b21.mono (by omega)))
  have HL21 := hid (HL20.out.trans (b21.mono h1920))
  have C23 := hid (CIR.out w21 A15 c15 A16 c16 F21.read (KT.out _ (KW.out _ HW21.out)))
  clear a0 a1 F21 b21 C21
  go_wp2_with fail
  with_reducible refine Calls.mono C23.out ?_
  rintro e w23 ⟨A13, n13, c13, A14, m14, c14, rfl, Y23, b23⟩
  obtain ⟨U, e24⟩ : ∃ W', w23.alloc (.cells #[.slice A13 n13 c13, .slice A14 m14 c14] 31) = W' := ⟨_, rfl⟩
  have g24 : w23.grownBy U none := by rw [← e24]; exact grown_alloc _ _ _
  have UX : Db U w23.heap.size (.slice A13 n13 c13) (.slice A14 m14 c14) := by rw [← e24]; exact Db.new _ _ _
  have YU := Y23.onto g24
  have b24 := b23.trans ((below_grown g24).mono b23.size)
  have HLU := hid (HL21.out.trans (b24.mono HL21.out.size))
  have BU := HW21.out.trans (b24.mono HW21.out.size)
  obtain ⟨u, hu⟩ : ∃ s, w23.heap.size = s := ⟨_, rfl⟩
  rw [hu] at UX
  have Y := KQ.out U BU
  have y0 := Y.c0
  have y1 := Y.c1
  have u0 := UX.c0
  have u1 := UX.c1
  have C24 := hid (eqDesk_any A13 n13 c13 A14 m14 c14 A3 n3 c3 A4 m4 c4 E U YU.read (KG.out U BU))
  have HBU := hid BU
  clear g24 UX YU Y23 b23 b24 BU Y C23
  go_wp2_with fail
  clear e24 hu
  with_reducible refine Calls.mono C24.out ?_
  rintro e w24 ⟨rfl, b24⟩
  have HL24 := hid (HLU.out.trans (b24.mono HLU.out.size))
  have HW24 := hid (HBU.out.trans (b24.mono HBU.out.size))
  have X24 := HX19.out.below HL24.out HX19.out.lt
  have s0 := X24.c0
  have s1 := X24.c1
  clear y0 y1 u0 u1 b24 X24 C24
  go_wp2_with fail
  with_reducible refine Calls.mono (CH.out _ HL24.out) ?_
  rintro e w25 ⟨rfl, b25⟩
  have HW25 := hid (HW24.out.trans (b25.mono HW24.out.size))
  clear b25 s0 s1
  go_wp2
  go_ret
  exact ⟨rfl, HB1.out.trans ((KW.out _ HW25.out).mono HB1.out.size)⟩
end Go.Proofs.YtkejcajboneniabGreatDoor
