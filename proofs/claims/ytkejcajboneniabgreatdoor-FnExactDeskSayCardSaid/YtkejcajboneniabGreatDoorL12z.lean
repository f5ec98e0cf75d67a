/-
  The walk of the exact law of DeskSay. No statement is proved here.
-/
import Derived.Test.YtkejcajboneniabGreatDoorQM0
import Derived.Test.YtkejcajboneniabGreatDoorQMk
import Derived.Test.YtkejcajboneniabGreatDoorQMo
import Derived.Test.YtkejcajboneniabGreatDoorQMn
import Derived.Test.YtkejcajboneniabGreatDoorQMi
import Derived.Deep.RegionHeld3
namespace Go.Proofs.YtkejcajboneniabGreatDoor
open Go.RowKit
set_option linter.unusedVariables false
set_option linter.unusedSimpArgs false

theorem szL_leX {ls : List (List Int)} (h : ∀ l ∈ ls, l.length ≤ 16) : szL ls ≤ 16 * ls.length := by
  unfold szL
  induction ls with
  | nil => simp
  | cons a ls ih =>
    have h1 := ih (fun l hl => h l (List.mem_cons_of_mem _ hl))
    have h2 := h a (List.mem_cons_self ..)
    simp only [List.map_cons, List.sum_cons, List.length_cons]
    omega
theorem ok_szX {D : Dk} (h : deskOk D = true) : D.now.length ≤ 16 ∧ D.past.length ≤ 8 ∧ szL D.past ≤ 128 := by
  obtain ⟨h1, h2, h3⟩ := deskOk_iff.1 h
  have h4 := szL_leX (ls := D.past) (fun l hl => (bitsOk_iff.1 (h1 l hl)).2.2)
  exact ⟨(bitsOk_iff.1 h2).2.2, h3, by omega⟩
theorem say_sz (D : Dk) (l : List (List UInt8)) : (sayOut D l).1.now.length ≤ 16 ∧ (sayOut D l).1.past.length ≤ 8 ∧ szL (sayOut D l).1.past ≤ 128 := by
  unfold sayOut
  by_cases h : sayOk D l = true
  · rw [if_pos h]
    unfold sayOk at h
    rw [Bool.and_eq_true] at h
    exact ok_szX (say_ok h.1 l)
  · rw [if_neg h]
    simp [noDk, szL]
theorem DkY.lensX {w : World} {B n c m c2 : Nat} {A A2 : Option Addr} {D : Dk} (h : DkY w B A n c A2 m c2 D) : n = D.now.length ∧ m = D.past.length :=
  ⟨by have := h.read.now.len; omega, by have := h.read.past.len; omega⟩
theorem own_only2 {w w' : World} {B n sz : Nat} {v : Value} {e : TypeId} {xs : List Value} (h : w.ownsRow B e sz v n xs) (he : e ≠ 3) (ho : OnlyInt w w') : w'.ownsRow B e sz v n xs := by
  refine ⟨h.1, ?_⟩
  rcases h.2 with h2 | ⟨g, cap, cur, h1, h2, h3, h4⟩
  · exact .inl h2
  · exact .inr ⟨g, cap, cur, h1, h2, ho.2 _ _ _ _ h3 he, h4⟩
theorem DkY.text {w w' : World} {B B2 n c m c2 k sz : Nat} {A A2 : Option Addr} {D : Dk} {v : Value} {xs : List Value} (h : DkY w B A n c A2 m c2 D) (ho : w.ownsRow B2 9 sz v k xs) (hg : w.grownBy w' v.ownBlock) : DkY w' B A n c A2 m c2 D := by
  have hne : ∀ {e : TypeId} {u : Value} {j : Nat} {ys : List Value}, e ≠ 9 → w.ownsRow B e 1 u j ys → u.ownBlock = none ∨ u.ownBlock ≠ v.ownBlock := by
    intro e u j ys he hu
    rcases hu.2 with ⟨h1, _⟩ | ⟨g, cap, cur, h1, _, h3, _⟩
    · left; rw [h1]; rfl
    · right
      intro hv
      rw [h1] at hv
      rcases ho.2 with ⟨k1, _⟩ | ⟨g2, cap2, cur2, k1, _, k3, _⟩
      · rw [k1] at hv; simp [Value.ownBlock] at hv
      · rw [k1] at hv
        simp [Value.ownBlock] at hv
        subst hv
        rw [h3] at k3
        injection k3 with k3
        injection k3 with _ k4
        exact he k4
  exact h.keep (fun _ _ _ hu => hu.kept hg (hne (by decide) hu)) (fun _ _ _ hu => hu.kept hg (hne (by decide) hu))
theorem Db.text {w w' : World} {b B k sz : Nat} {u x v : Value} {xs : List Value} (h : Db w b u x) (ho : w.ownsRow B 9 sz v k xs) (hg : w.grownBy w' v.ownBlock) : Db w' b u x := by
  have hne : some b ≠ v.ownBlock := by
    rcases ho.2 with ⟨k1, _⟩ | ⟨g2, cap2, cur2, k1, _, k3, _⟩
    · rw [k1]; simp [Value.ownBlock]
    · rw [k1]
      intro e
      simp [Value.ownBlock] at e
      subst e
      rw [show w.heap[b]? = _ from h] at k3
      injection k3 with k3
      injection k3 with _ k4
      exact absurd k4 (by decide)
  exact (hg.block b (Array.getElem?_eq_some_iff.1 h).1 hne).trans h
theorem DkY.lo {w w' : World} {B n c m c2 g : Nat} {A A2 : Option Addr} {D : Dk} (h : DkY w B A n c A2 m c2 D) (hg : w.grownBy w' (some g)) (hlt : g < B) : DkY w' B A n c A2 m c2 D :=
  h.keep (fun v n xs ho => ho.kept hg (.inr fun e => by have := own_lo ho g e; omega)) (fun v n xs ho => ho.kept hg (.inr fun e => by have := own_lo ho g e; omega))

set_option maxRecDepth 100000 in
set_option maxHeartbeats 6400000 in
theorem fnExactDeskSay_walk (A : Option Addr) (n c : Nat) (A2 : Option Addr) (m c2 : Nat) (D : Dk) (AL : Option Addr) (nL cL : Nat) (l : List (List UInt8)) (w : World) (h : DkR w w.heap.size A n c A2 m c2 D) (hL : SlT w w.heap.size AL nL l) (hm : ∀ s ∈ l, s.length ≤ maxLen) (hT : TabsL w) :
    Calls Tryz.prog 7 #[dsk A n c A2 m c2, .slice AL nL cL] w fun e w' => e = .returned (.bool true) ∧ Below w.heap.size w w' := by
  have hLm := hL.max
  have HTT := hid hT
  have HMM := hid (fun (s : List UInt8) (hs : s ∈ l) => show s.length ≤ 9223372036854775807 from by have := hm s hs; simpa [maxLen] using this)
  clear hT hm
  have gA := grown_alloc w (.cells #[.slice A n c, .slice A2 m c2] 48) none
  have XA := heap_alloc_new w (.cells #[.slice A n c, .slice A2 m c2] 48)
  have B0 := below_grown gA
  have H0 := h.on B0
  go_enter Tryz.func7, Tryz.ntmps7
  obtain ⟨w0, e0⟩ : ∃ W, w.alloc (.cells #[.slice A n c, .slice A2 m c2] 48) = W := ⟨_, rfl⟩
  have hz0 : w0.heap.size = w.heap.size + 1 := by rw [← e0]; simp
  rw [e0] at XA B0 H0
  obtain ⟨a0, a1, _, _⟩ := pairCells XA
  have CS := hid (szDesk_any A n c A2 m c2 D w0 H0)
  have HA := hid XA
  have HB0 := hid B0
  have HH := hid h
  have HHL := hid hL
  clear XA B0 H0 gA h hL
  go_wp2_with fail
  with_reducible refine Calls.mono CS.out ?_
  rintro e w1 ⟨⟨r, rfl, hr⟩, g1⟩
  have YA := (g1.block w.heap.size (by omega) (by simp)).trans HA.out
  have hz1 := g1.size
  have HB1 := hid (HB0.out.trans ((below_grown g1).mono HB0.out.size))
  clear g1 a0 a1 e0
  obtain ⟨a0, a1, _, _⟩ := pairCells YA
  by_cases hr0 : r < 0
  · go_wp2
    go_ret
    exact ⟨rfl, HB1.out⟩
  have hsz : n + m + szL D.past ≤ 1048576 := by omega
  have hr1 : r ≤ 1048576 := by omega
  have hr0' : decide (r < 0) = false := by simpa using hr0
  have CS2 := hid (szStringS_any AL nL cL l r w1 (HHL.out.on HB1.out) HMM.out (by omega) (by omega))
  clear hr HMM
  go_wp2_with fail
  with_reducible refine Calls.mono CS2.out ?_
  rintro e w2 ⟨⟨r2, rfl, hr2⟩, rfl⟩
  clear CS2
  by_cases hr20 : r2 < 0
  · go_wp2
    go_ret
    exact ⟨rfl, HB1.out⟩
  have hr2' : decide (r2 < 0) = false := by simpa using hr20
  have hsL : (szT l : Int) ≤ 1048576 := by omega
  have HLEN := hid (fun (s : List UInt8) (hs : s ∈ l) => show s.length ≤ 2000000 from by have := szT_mem (ls := l) (s := s) hs; omega)
  have hnL : nL ≤ 2000000 := by omega
  have hzw : w.heap.size < w1.heap.size := by omega
  have HYA := hid YA
  have KA := hid (fun (W : World) (hW : Below w1.heap.size w1 W) => show W.cell? ⟨w.heap.size, 0, none⟩ = some (.slice A n c) ∧ W.cell? ⟨w.heap.size, 1, none⟩ = some (.slice A2 m c2) from by
    obtain ⟨p0, p1, _, _⟩ := pairCells ((hW.block w.heap.size hzw).trans HYA.out)
    exact ⟨p0, p1⟩)
  have CT := hid (fun (W : World) (hW : Below w1.heap.size w1 W) => toDesk_any A n c A2 m c2 D W (HH.out.on (HB1.out.trans (hW.mono HB1.out.size))) hsz)
  have CL := hid (fun (W : World) (hW : Below w1.heap.size w1 W) => toStringS_any AL nL cL l W (HHL.out.on (HB1.out.trans (hW.mono HB1.out.size))) hnL)
  have CSR := hid (fun (W : World) (Aa : Option Addr) (ca : Nat) (Ab : Option Addr) (cb : Nat) (AX : Option Addr) (h0 : DkR W W.heap.size Aa n ca Ab m cb D) (h1 : SlT W W.heap.size AX nL l) => specDeskSay_any Aa n ca Ab m cb D AX nL nL l W h0 h1 HLEN.out)
  have CIR := hid (fun (W : World) (Aa : Option Addr) (ca : Nat) (Ab : Option Addr) (cb : Nat) (AX : Option Addr) (h0 : DkR W W.heap.size Aa n ca Ab m cb D) (h1 : SlT W W.heap.size AX nL l) (hb : Below w1.heap.size w1 W) => implDeskSay_any Aa n ca Ab m cb D AX nL nL l W h0 h1 HLEN.out (HTT.out.below (HB1.out.trans (hb.mono HB1.out.size))))
  have HSZ := hid (say_sz D l)
  obtain ⟨E, R, hE⟩ : ∃ E R, sayOut D l = (E, R) := ⟨_, _, rfl⟩
  rw [hE] at HSZ
  simp only [hE] at CSR CIR
  clear hz0 HA CS YA HYA hE HH HHL
  have C2 := hid (CT.out w1 (Below.refl _ _))
  go_wp2_with fail
  with_reducible refine Calls.mono C2.out ?_
  rintro e w2 ⟨A5, c5, A6, c6, rfl, F2, b2⟩
  have HF2 := hid F2
  have HB2 := hid b2
  have C3 := hid (CL.out w2 b2)
  clear a0 a1 F2 b2 C2
  go_wp2_with fail
  with_reducible refine Calls.mono C3.out ?_
  rintro e w3 ⟨g3, rfl, o3, b3⟩
  have HB3 := hid (HB2.out.trans (b3.mono HB2.out.size))
  have C4 := hid (CSR.out w3 A5 c5 A6 c6 _ (HF2.out.on b3).read (SlT.of_own o3))
  clear o3 b3 C3 HF2 HB2 CSR
  go_wp2_with fail
  with_reducible refine Calls.mono C4.out ?_
  rintro e w4 ⟨A3, n3, c3, A4, m4, c4, AX, nX, cX, rfl, G4, oX4, hnX, b4⟩
  have HB4 := hid (HB3.out.trans (b4.mono HB3.out.size))
  obtain ⟨W, e5⟩ : ∃ W, w4.alloc (.cells #[.slice A3 n3 c3, .slice A4 m4 c4] 31) = W := ⟨_, rfl⟩
  have g5 : w4.grownBy W none := by rw [← e5]; exact grown_alloc _ _ _
  have X5 : Db W w4.heap.size (.slice A3 n3 c3) (.slice A4 m4 c4) := by rw [← e5]; exact Db.new _ _ _
  have hz5 : W.heap.size = w4.heap.size + 1 := by rw [← e5]; simp
  have G5 := G4.onto g5
  have HB5 := hid (HB4.out.trans ((below_grown g5).mono HB4.out.size))
  obtain ⟨q, hq⟩ : ∃ q, w4.heap.size = q := ⟨_, rfl⟩
  rw [hq] at X5 hz5
  have hWz : w1.heap.size ≤ W.heap.size := HB5.out.size
  have KQ := hid (fun (W' : World) (hW : Below W.heap.size W W') => X5.below hW X5.lt)
  have KG := hid (fun (W' : World) (hW : Below W.heap.size W W') => (G5.on hW).read)
  have oX5 := SlT.of_own (own_kept_none oX4 g5)
  have HRL := hid (show R.length = nX from oX5.len)
  have KX := hid (fun (W' : World) (hW : Below W.heap.size W W') => oX5.on hW)
  have KW := hid (fun (W' : World) (hW : Below W.heap.size W W') => HB5.out.trans (hW.mono hWz))
  obtain ⟨a0, a1⟩ := KA.out W HB5.out
  have C6 := hid (CT.out W HB5.out)
  clear g5 X5 G5 G4 b4 C4 HB3 HB4 hz5 oX4 oX5
  go_wp2_with fail
  clear e5 hq
  with_reducible refine Calls.mono C6.out ?_
  rintro e w8 ⟨A5, c5, A6, c6, rfl, F8, b8⟩
  have hz8 := b8.size
  obtain ⟨w9, e9⟩ : ∃ W', w8.alloc (.cells #[.slice A5 n c5, .slice A6 m c6] 31) = W' := ⟨_, rfl⟩
  have g9 : w8.grownBy w9 none := by rw [← e9]; exact grown_alloc _ _ _
  have X9 : Db w9 w8.heap.size (.slice A5 n c5) (.slice A6 m c6) := by rw [← e9]; exact Db.new _ _ _
  have hz9 : w9.heap.size = w8.heap.size + 1 := by rw [← e9]; simp
  have F9 := F8.onto g9
  have B9 := b8.trans ((below_grown g9).mono hz8)
  have q9 : W.heap.size ≤ w9.heap.size := B9.size
  obtain ⟨p, hp⟩ : ∃ p, w8.heap.size = p := ⟨_, rfl⟩
  rw [hp] at X9 hz9
  have hpW : W.heap.size ≤ p := by omega
  have hp9 : p < w9.heap.size := X9.lt
  have HX9 := hid X9
  have HF9 := hid F9
  have HB9 := hid B9
  have C10 := hid (CL.out w9 (KW.out _ B9))
  clear a0 a1 g9 X9 F9 B9 F8 b8 C6 hz9 hz8
  go_wp2_with fail
  clear e9 hp
  with_reducible refine Calls.mono C10.out ?_
  rintro e w10 ⟨gx, rfl, ox, b10⟩
  have hgx := ox.lt gx rfl
  have HB10 := hid (HB9.out.trans (b10.mono q9))
  have hz10 := b10.size
  have C11 := hid (CIR.out w10 A5 c5 A6 c6 _ (HF9.out.on b10).read (SlT.of_own ox) (KW.out _ HB10.out))
  have H9 := hid b10
  have HOX := hid ox
  have X10 := HX9.out.below b10 hp9
  have x0 := X10.c0
  have x1 := X10.c1
  clear ox b10 C10 X10
  go_wp2_with fail
  with_reducible refine Calls.mono C11.out ?_
  rintro e w11 ⟨A7, n7, c7, A8, m8, c8, AY, nY, cY, rfl, Y11, oY11, hnY, b11⟩
  have hz11 := b11.size
  obtain ⟨V, e12⟩ : ∃ W', w11.alloc (.cells #[.slice A7 n7 c7, .slice A8 m8 c8] 31) = W' := ⟨_, rfl⟩
  have g12 : w11.grownBy V none := by rw [← e12]; exact grown_alloc _ _ _
  have VX : Db V w11.heap.size (.slice A7 n7 c7) (.slice A8 m8 c8) := by rw [← e12]; exact Db.new _ _ _
  have hzV : V.heap.size = w11.heap.size + 1 := by rw [← e12]; simp
  have YV := Y11.onto g12
  have HRV := hid (own_kept_none oY11 g12)
  have b12 := b11.trans ((below_grown g12).mono hz11)
  obtain ⟨s, hs⟩ : ∃ s, w11.heap.size = s := ⟨_, rfl⟩
  rw [hs] at VX hzV
  have hs10 : w10.heap.size ≤ s := by omega
  have hVz : w10.heap.size ≤ V.heap.size := by omega
  have HOV := hid (own_on2 HOX.out b12)
  have H9V := hid (H9.out.trans (b12.mono hz10))
  have BWV := HB10.out.trans (b12.mono (Nat.le_trans q9 hz10))
  have Y := KQ.out V BWV
  have y0 := Y.c0
  have y1 := Y.c1
  have s0 := VX.c0
  have s1 := VX.c1
  have C12 := hid (eqDesk_any A7 n7 c7 A8 m8 c8 A3 n3 c3 A4 m4 c4 E V YV.read (KG.out V BWV))
  have HVX := hid VX
  have HVY := hid YV
  have HBWV := hid BWV
  clear x0 x1 g12 VX Y11 YV b11 b12 Y BWV C11 HOX H9 hz11 hzV HB10 oY11
  go_wp2_with fail
  clear e12 hs
  with_reducible refine Calls.mono C12.out ?_
  rintro e w12a ⟨rfl, b12a⟩
  have HA12 := hid b12a
  have C12b := hid (eqStringS_any AY AX nY cY nX cX R w12a (SlT.of_own (own_on HRV.out b12a)) (KX.out _ (HBWV.out.trans (b12a.mono (Nat.le_trans q9 (Nat.le_trans hz10 hVz))))))
  clear s0 s1 y0 y1 b12a C12
  go_wp2_with fail
  with_reducible refine Calls.mono C12b.out ?_
  rintro e w12 ⟨rfl, b12b⟩
  have b12 := HA12.out.trans (b12b.mono HA12.out.size)
  have HR12 := hid (own_on HRV.out b12)
  have HX12 := hid (HVX.out.below b12 HVX.out.lt)
  have HY12 := hid (HVY.out.on b12)
  have HO12 := hid (own_on2 HOV.out b12)
  have H12 := hid (H9V.out.trans (b12.mono (Nat.le_trans hz10 hVz)))
  have HW12 := hid (HBWV.out.trans (b12.mono (Nat.le_trans q9 (Nat.le_trans hz10 hVz))))
  have hz12 : w10.heap.size ≤ w12.heap.size := Nat.le_trans hVz b12.size
  clear b12 b12b HA12 C12b HVX HVY HOV H9V HBWV HRV
  have h912 : w9.heap.size ≤ w12.heap.size := by omega
  have hW12 : W.heap.size ≤ w12.heap.size := by omega
  have hd : Below w12.heap.size w12 w12.drew := (Below.refl _ _).drew
  have KXa := hid (fun (W' : World) (hW : Below w12.heap.size w12 W') => show W'.cell? ⟨w.heap.size, 0, none⟩ = some (.slice A n c) ∧ W'.cell? ⟨w.heap.size, 1, none⟩ = some (.slice A2 m c2) ∧ W'.cell? ⟨p, 0, none⟩ = some (.slice A5 n c5) ∧ W'.cell? ⟨p, 1, none⟩ = some (.slice A6 m c6) from by
    obtain ⟨h1, h2⟩ := KA.out W' (KW.out _ (HW12.out.trans (hW.mono hW12)))
    have h3 := HX9.out.below (H12.out.trans (hW.mono h912)) hp9
    exact ⟨h1, h2, h3.c0, h3.c1⟩)
  obtain ⟨a0, a1, x0, x1⟩ := KXa.out w12 (Below.refl _ _)
  have C11 := hid (CT.out w12.drew (KW.out _ (HW12.out.trans (hd.mono hW12))))
  have C12 := hid (fun (W' : World) (A7 : Option Addr) (c7 : Nat) (A8 : Option Addr) (c8 : Nat) (hW : Below w12.heap.size w12 W') (h7 : DkR W' W'.heap.size A7 n c7 A8 m c8 D) => eqDesk_any A5 n c5 A6 m c6 A7 n c7 A8 m c8 D W' (HF9.out.on (H12.out.trans (hW.mono h912))).read h7)
  go_wp2
  go_region_held3 (fun w' => w'.cell? ⟨w.heap.size, 0, none⟩ = some (.slice A n c) ∧ w'.cell? ⟨w.heap.size, 1, none⟩ = some (.slice A2 m c2) ∧ w'.cell? ⟨p, 0, none⟩ = some (.slice A5 n c5) ∧ w'.cell? ⟨p, 1, none⟩ = some (.slice A6 m c6))
    (first
      | go_keep
      | assumption)
    (first
      | (go_at_call 25; (with_reducible refine Calls.mono C11.out ?_); rintro e w11 ⟨A11, c11, A12, c12, rfl, F11, b11⟩; have hB11 : Below w12.heap.size w12 w11 := hd.trans b11; have kx := KXa.out _ hB11)
      | (go_at_call 26; (with_reducible refine Calls.mono (C12.out _ _ _ _ _ hB11 F11.read) ?_); rintro e w13 ⟨rfl, b13⟩; have hB13 : Below w12.heap.size w12 w13 := hB11.trans (b13.mono hB11.size); have ky := KXa.out _ hB13))
  have HX13 := hid (HX12.out.below hB13 HX12.out.lt)
  have HY13 := hid (HY12.out.on hB13)
  have HR13 := hid (own_on HR12.out hB13)
  have HO13 := hid (own_on2 HO12.out hB13)
  have H13 := hid (H12.out.trans (hB13.mono h912))
  have HW13 := hid (HW12.out.trans (hB13.mono hW12))
  have hz13 : w10.heap.size ≤ w13.heap.size := Nat.le_trans hz12 hB13.size
  have C14 := hid (CL.out w13 (KW.out _ HW13.out))
  clear F11 b11 b13 hB11 hB13 kx ky a0 a1 x0 x1 C11 C12 KXa hd HX12 HY12 HO12 H12 HW12 HR12
  go_wp2_with fail
  with_reducible refine Calls.mono C14.out ?_
  rintro e w14 ⟨g14, rfl, o14, b14⟩
  have O14 := own_on2 HO13.out b14
  have C15 := hid (eqStringS_any (some ⟨gx, 0, none⟩) (some ⟨g14, 0, none⟩) nL nL nL nL l w14 (SlT.of_own O14) (SlT.of_own o14))
  have HB14 := hid b14
  clear O14 o14 b14 C14
  go_wp2_with fail
  with_reducible refine Calls.mono C15.out ?_
  rintro e w15 ⟨rfl, b15⟩
  have hB15 := HB14.out.trans (b15.mono HB14.out.size)
  have HX15 := hid (HX13.out.below hB15 HX13.out.lt)
  have HY15 := hid (HY13.out.on hB15)
  have HR15 := hid (own_on HR13.out hB15)
  have HO15 := hid (own_on2 HO13.out hB15)
  have h913 : w9.heap.size ≤ w13.heap.size := by omega
  have hW13 : W.heap.size ≤ w13.heap.size := by omega
  have H15 := hid (H13.out.trans (hB15.mono h913))
  have HW15 := hid (HW13.out.trans (hB15.mono hW13))
  have hz15 : w10.heap.size ≤ w15.heap.size := Nat.le_trans hz13 hB15.size
  obtain ⟨P, hP9, hap, _⟩ := HF9.out.pc
  have C16 := hid (markDeskP_any A5 n c5 A6 m c6 W.heap.size w9.heap.size P D w15 (hP9.on H15.out) (own_on HF9.out.1 H15.out) hap (own_hi HF9.out.1) hP9.hi (by omega) (by omega) (by omega))
  obtain ⟨t1, ht0⟩ : ∃ t : Nat, 1 + n + szL D.past = t := ⟨_, rfl⟩
  have ht1b : 1 ≤ t1 ∧ t1 ≤ 2000000 := by omega
  have ht1 : 1 + (n : Int) + (szL D.past : Int) = (t1 : Int) := by omega
  rw [ht1] at C16
  have X9 := HX9.out.below H15.out hp9
  have x0 := X9.c0
  have x1 := X9.c1
  clear hB15 b15 HB14 C15 hP9 hap HX13 HY13 HO13 H13 HW13 X9 ht1 ht0 HR13
  go_wp2_with fail
  with_reducible refine Calls.mono C16.out ?_
  rintro e w16 ⟨rfl, _, _, b16, i16, u16⟩
  have HX16 := hid (HX15.out.only i16)
  have HY16 := hid (HY15.out.up u16 (by omega))
  have HO16 := hid (own_only2 HO15.out (by decide) i16)
  have HR16 := hid (own_only2 HR15.out (by decide) i16)
  have HW16 := hid (HW15.out.trans b16)
  have hz16 : w10.heap.size ≤ w16.heap.size := Nat.le_trans hz15 i16.1
  have C17 := hid (markStringS_any (some ⟨gx, 0, none⟩) nL nL w9.heap.size l t1 w16 HO16.out (by omega) (by omega) (by omega))
  clear x0 x1 b16 i16 u16 C16 HX15 HY15 HO15 H15 HW15 HR15
  go_wp2_with fail
  with_reducible refine Calls.mono C17.out ?_
  rintro e w17 ⟨rfl, _, g17⟩
  replace g17 : w16.grownBy w17 (some gx) := g17
  have hgx1 := hgx.1
  have hgx2 := hgx.2
  have HX17 := hid (HX16.out.on g17 (fun e => by injection e with e; omega))
  have HY17 := hid (HY16.out.lo g17 (by omega))
  have HR17 := hid (HR16.out.kept g17 (.inr fun e => by have := own_lo HR16.out gx e; omega))
  have HW17 := hid (HW16.out.grown g17 (by omega) (fun k hk => by cases hk; omega))
  have hz17 : w10.heap.size ≤ w17.heap.size := Nat.le_trans hz16 g17.size
  have Y := KQ.out w17 HW17.out
  have y0 := Y.c0
  have y1 := Y.c1
  have s0 := HX17.out.c0
  have s1 := HX17.out.c1
  have C18 := hid (eqDesk_any A7 n7 c7 A8 m8 c8 A3 n3 c3 A4 m4 c4 E w17 HY17.out.read (KG.out w17 HW17.out))
  have hp1 : ¬ ((t1 + nL : Nat) : Int) < 0 := by omega
  clear Y g17 C17 HX16 HY16 HO16 HW16 HR16
  go_wp2_with fail
  with_reducible refine Calls.mono C18.out ?_
  rintro e w18a ⟨rfl, b18a⟩
  have HA18 := hid b18a
  have C18b := hid (eqStringS_any AY AX nY cY nX cX R w18a (SlT.of_own (own_on HR17.out b18a)) (KX.out _ (HW17.out.trans (b18a.mono (by omega)))))
  clear s0 s1 y0 y1 b18a C18
  go_wp2_with fail
  with_reducible refine Calls.mono C18b.out ?_
  rintro e w18 ⟨rfl, b18b⟩
  have b18 := HA18.out.trans (b18b.mono HA18.out.size)
  have HX18 := hid (HX17.out.below b18 HX17.out.lt)
  have HY18 := hid (HY17.out.on b18)
  have HR18 := hid (own_on HR17.out b18)
  have HW18 := hid (HW17.out.trans (b18.mono (by omega)))
  have hz18 : w10.heap.size ≤ w18.heap.size := Nat.le_trans hz17 b18.size
  have hbo : n7 + szL E.past ≤ 1000000000 ∧ m8 ≤ 1000000000 := by
    have h1 := HY18.out.lensX
    have h2 := HSZ.out
    omega
  have C19 := hid (markDesk_any A7 n7 c7 A8 m8 c8 w10.heap.size E w18 HY18.out hbo.1 hbo.2 hz18)
  have hbo1 := hbo.1
  have hbo2 := hbo.2
  have s2 := HX18.out.c0
  have s3 := HX18.out.c1
  clear b18 b18b HA18 C18b HX17 HY17 HW17 HR17 hp1 hbo
  go_wp2_with fail
  with_reducible refine Calls.mono C19.out ?_
  rintro e w19a ⟨rfl, Y19a, b19a, i19a⟩
  have hz19a : w10.heap.size ≤ w19a.heap.size := Nat.le_trans hz18 i19a.1
  have HX19a := hid (HX18.out.only i19a)
  have HR19a := hid (own_only2 HR18.out (by decide) i19a)
  have HW19a := hid (HW18.out.trans (b19a.mono (by omega)))
  have HY19a := hid Y19a
  obtain ⟨T, hT0⟩ : ∃ t : Nat, 1 + n7 + szL E.past = t := ⟨_, rfl⟩
  have hTb : 1 ≤ T ∧ T ≤ 2000000000 := by omega
  have hTe : 1 + (n7 : Int) + (szL E.past : Int) = (T : Int) := by omega
  rw [hTe]
  have hTs : 1 + (n7 : Int) + ((E.past.map List.length).sum : Int) = (T : Int) := hTe
  have hTc : T ≤ 900000000 := by
    have h1 := HY18.out.lensX
    have h2 := HSZ.out
    omega
  have C19b := hid (markStringS_any AY nY cY w10.heap.size R T w19a HR19a.out (by omega) (by omega) hz19a)
  clear s2 s3 Y19a b19a i19a C19 hTe hT0 HX18 HY18 HR18 HW18
  go_wp2_with fail
  with_reducible refine Calls.mono C19b.out ?_
  rintro e w19 ⟨rfl, oR19, g19⟩
  have hz19 : w10.heap.size ≤ w19.heap.size := Nat.le_trans hz19a g19.size
  have HX19 := hid (HX19a.out.text HR19a.out g19)
  have HY19 := hid (HY19a.out.text HR19a.out g19)
  have HR19 := hid oR19
  have HW19 := hid (HW19a.out.grown g19 (by omega) (fun k hk => by have := own_lo HR19a.out k hk; omega))
  have CH := hid (fun (W' : World) (hW : Below w19.heap.size w19 W') => heldDesk_any A7 n7 c7 A8 m8 c8 w10.heap.size (E.past.map List.length) W' (HY19.out.on hW) hbo1 hbo2)
  rw [hTs] at CH
  have CJ := hid (fun (W' : World) (hW : Below w19.heap.size w19 W') => heldStringS_any AY nY cY w10.heap.size T W' (own_on HR19.out hW) (by omega) (by omega))
  have hp : ¬ (T : Int) < 0 := by omega
  have hp2 : ¬ ((T + nY : Nat) : Int) < 0 := by omega
  have hne : (((T + nY : Nat) : Int) != ((T + nY : Nat) : Int)) = false := by simp
  have s0 := HX19.out.c0
  have s1 := HX19.out.c1
  clear oR19 g19 C19b hTs HX19a HY19a HR19a HW19a hbo1 hbo2
  go_wp2_with fail
  with_reducible refine Calls.mono (CH.out _ (Below.refl _ _)) ?_
  rintro e w20a ⟨rfl, b20a⟩
  have HL20a := hid b20a
  clear b20a
  go_wp2_with fail
  with_reducible refine Calls.mono (CJ.out _ HL20a.out) ?_
  rintro e w20 ⟨rfl, b20b⟩
  have b20 := HL20a.out.trans (b20b.mono HL20a.out.size)
  have hz20 : w10.heap.size ≤ w20.heap.size := Nat.le_trans hz19 b20.size
  have HW20 := hid (HW19.out.trans (b20.mono (by omega)))
  have HL20 := hid b20
  have h1920 := b20.size
  obtain ⟨a0, a1⟩ := KA.out w20 (KW.out _ HW20.out)
  have C21 := hid (CT.out w20 (KW.out _ HW20.out))
  clear b20 b20b s0 s1
  go_wp2_with fail
  with_reducible refine Calls.mono C21.out ?_
  rintro e w21 ⟨A15, c15, A16, c16, rfl, F21, b21⟩
  have HF21 := hid F21
  have HW21 := hid (HW20.out.trans (b21.mono (by omega)))
  have HL21 := hid (HL20.out.trans (b21.mono h1920))
  have C22 := hid (CL.out w21 (KW.out _ HW21.out))
  clear a0 a1 F21 b21 C21
  go_wp2_with fail
  with_reducible refine Calls.mono C22.out ?_
  rintro e w22 ⟨g22, rfl, o22, b22⟩
  have HL22 := hid (HL21.out.trans (b22.mono HL21.out.size))
  have HW22 := hid (HW21.out.trans (b22.mono HW21.out.size))
  have C23 := hid (CIR.out w22 A15 c15 A16 c16 _ (HF21.out.on b22).read (SlT.of_own o22) (KW.out _ HW22.out))
  clear o22 b22 C22 HF21
  go_wp2_with fail
  with_reducible refine Calls.mono C23.out ?_
  rintro e w23 ⟨A13, n13, c13, A14, m14, c14, AZ, nZ, cZ, rfl, Y23, oZ23, hnZ, b23⟩
  obtain ⟨U, e24⟩ : ∃ W', w23.alloc (.cells #[.slice A13 n13 c13, .slice A14 m14 c14] 31) = W' := ⟨_, rfl⟩
  have g24 : w23.grownBy U none := by rw [← e24]; exact grown_alloc _ _ _
  have UX : Db U w23.heap.size (.slice A13 n13 c13) (.slice A14 m14 c14) := by rw [← e24]; exact Db.new _ _ _
  have YU := Y23.onto g24
  have HZU := hid (own_kept_none oZ23 g24)
  have b24 := b23.trans ((below_grown g24).mono b23.size)
  have HLU := hid (HL22.out.trans (b24.mono HL22.out.size))
  have BU := HW22.out.trans (b24.mono HW22.out.size)
  obtain ⟨u, hu⟩ : ∃ s, w23.heap.size = s := ⟨_, rfl⟩
  rw [hu] at UX
  have Y := KQ.out U BU
  have y0 := Y.c0
  have y1 := Y.c1
  have u0 := UX.c0
  have u1 := UX.c1
  have C24 := hid (eqDesk_any A13 n13 c13 A14 m14 c14 A3 n3 c3 A4 m4 c4 E U YU.read (KG.out U BU))
  have HBU := hid BU
  clear g24 UX YU Y23 b23 b24 BU Y C23 oZ23
  go_wp2_with fail
  clear e24 hu
  with_reducible refine Calls.mono C24.out ?_
  rintro e w24a ⟨rfl, b24a⟩
  have HA24 := hid b24a
  have C24b := hid (eqStringS_any AZ AX nZ cZ nX cX R w24a (SlT.of_own (own_on HZU.out b24a)) (KX.out _ (HBU.out.trans (b24a.mono HBU.out.size))))
  clear y0 y1 u0 u1 b24a C24
  go_wp2_with fail
  with_reducible refine Calls.mono C24b.out ?_
  rintro e w24 ⟨rfl, b24b⟩
  have b24 := HA24.out.trans (b24b.mono HA24.out.size)
  have HL24 := hid (HLU.out.trans (b24.mono HLU.out.size))
  have HW24 := hid (HBU.out.trans (b24.mono HBU.out.size))
  have X24 := HX19.out.below HL24.out HX19.out.lt
  have s0 := X24.c0
  have s1 := X24.c1
  clear b24 b24b HA24 X24 C24b
  go_wp2_with fail
  with_reducible refine Calls.mono (CH.out _ HL24.out) ?_
  rintro e w25a ⟨rfl, b25a⟩
  have HL25a := hid (HL24.out.trans (b25a.mono HL24.out.size))
  have HW25a := hid (HW24.out.trans (b25a.mono HW24.out.size))
  clear b25a s0 s1
  go_wp2_with fail
  with_reducible refine Calls.mono (CJ.out _ HL25a.out) ?_
  rintro e w25 ⟨rfl, b25⟩
  have HW25 := hid (HW25a.out.trans (b25.mono HW25a.out.size))
  clear b25
  go_wp2
  go_ret
  exact ⟨rfl, HB1.out.trans ((KW.out _ HW25.out).mono HB1.out.size)⟩
end Go.Proofs.YtkejcajboneniabGreatDoor
