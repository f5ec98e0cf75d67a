/-
  The walk of laws.FnDeskSay. No statement is proved here.
-/
import Derived.Test.YtkejcajboneniabGreatDoorQM0
import Derived.Test.YtkejcajboneniabGreatDoorQMk
import Derived.Test.YtkejcajboneniabGreatDoorQMo
import Derived.Test.YtkejcajboneniabGreatDoorQMm
import Derived.Test.YtkejcajboneniabGreatDoorQMn
import Derived.Test.YtkejcajboneniabGreatDoorQMa
import Derived.Deep.RegionHeld3
namespace Go.Proofs.YtkejcajboneniabGreatDoor
open Go.RowKit
set_option linter.unusedVariables false
set_option linter.unusedSimpArgs false

theorem cutT {T G : Prop} (h : Hid T → G) (r : T) : G := h (hid r)
theorem own_shapeT {W : World} {base n : Nat} {v : Value} {e : TypeId} {xs : List Value} (h : W.ownsRow base e 1 v n xs) : ∃ A c, v = .slice A n c := by
  rcases h.2 with ⟨h1, h2⟩ | ⟨g, cap, cur, hv, _⟩
  · subst h2; exact ⟨_, _, h1⟩
  · exact ⟨_, _, hv⟩

set_option maxRecDepth 100000 in
set_option maxHeartbeats 6400000 in
theorem fnDeskSay_walk (A : Option Addr) (n c : Nat) (w : World) (hs : By w w.heap.size A n) (hc : n ≤ c) (hT : TabsL w) :
    Calls Tryz.prog 6 #[.slice A n c] w fun e w' => e = .returned (.bool true) ∧ Below w.heap.size w w' := by
  have hm := hs.1
  obtain ⟨i0, hi, hz0, hz1, hz2⟩ := info_parts info_str
  by_cases hbig : 1048576 < n
  · go_enter Tryz.func6, Tryz.ntmps6
    go_wp2
    go_ret
    exact ⟨rfl, Below.refl _ _⟩
  go_enter Tryz.func6, Tryz.ntmps6
  go_wp2_with fail
  refine (drawDeskSay_any A n c _ hs hc).mono ?_
  rintro e w1 ⟨A1, n1, c1, A2, m2, c2, D, AL, nL, cL, L, rfl, F1, oL, hll, hn1, hm2, hnL, b1⟩
  clear hs hc hbig hm
  obtain ⟨W, eW⟩ : ∃ W, w1.alloc (.cells #[.slice A1 n1 c1, .slice A2 m2 c2] 31) = W := ⟨_, rfl⟩
  have gW : w1.grownBy W none := by rw [← eW]; exact grown_alloc _ _ _
  have XD : Db W w1.heap.size (.slice A1 n1 c1) (.slice A2 m2 c2) := by rw [← eW]; exact Db.new w1 _ _
  have FW := F1.onto gW
  have OW := own_on2 oL (below_grown gW)
  have HB := hid (b1.trans ((below_grown gW).mono b1.size))
  have KTB := hid (fun (W' : World) (hW : Below W.heap.size W W') => hT.below (HB.out.trans (hW.mono HB.out.size)))
  have HLL := hid (show ∀ s ∈ L, s.length ≤ 2000000 from fun s hs => Nat.le_trans (hll s hs) (by decide))
  have HLL1 := hid (show ∀ s ∈ L.take (nL / 2), s.length ≤ 2000000 from fun s hs => HLL.out s (List.mem_of_mem_take hs))
  have HLL2 := hid (show ∀ s ∈ L.drop (nL / 2), s.length ≤ 2000000 from fun s hs => HLL.out s (List.mem_of_mem_drop hs))
  obtain ⟨o, ho⟩ : ∃ o, w1.heap.size = o := ⟨_, rfl⟩
  rw [ho] at XD
  have KD := hid (fun (W' : World) (hW : Below W.heap.size W W') => XD.below hW XD.lt)
  have KR := hid (fun (W' : World) (hW : Below W.heap.size W W') => (FW.read).on hW)
  have KL := hid (fun (W' : World) (hW : Below W.heap.size W W') => (SlT.of_own OW).on hW)
  have hlen := (SlT.of_own OW).len
  have HLEN := hid hlen
  -- where the deeds lie
  have HAL : (AL = none ∧ nL = 0 ∧ cL = 0) ∨ ∃ g, AL = some ⟨g, 0, none⟩ ∧ nL ≤ cL ∧ cL ≤ 9223372036854775807 := by
    rcases OW.2 with ⟨h1, h2⟩ | ⟨g, cap, cur, hv, _, _, h3, h4, _⟩
    · injection h1 with e1 e2 e3
      exact .inl ⟨e1, e2, e3⟩
    · injection hv with e1 e2 e3
      subst e3
      exact .inr ⟨g, e1, h3, h4⟩
  have x0 := XD.c0
  have x1 := XD.c1
  have C2 := hid (implDeskSay_any A1 n1 c1 A2 m2 c2 D AL nL cL L W FW.read (SlT.of_own OW) HLL.out (KTB.out W (Below.refl _ _)))
  have CS := hid (fun (W' : World) (h : DkR W' W'.heap.size A1 n1 c1 A2 m2 c2 D) (h2 : SlT W' W'.heap.size AL nL L) => specDeskSay_any A1 n1 c1 A2 m2 c2 D AL nL cL L W' h h2 HLL.out)
  have CK := hid (fun (W' : World) (h : DkR W' W'.heap.size A1 n1 c1 A2 m2 c2 D) => specDeskOk_any A1 n1 c1 A2 m2 c2 D W' h)
  have HP := hid (say_parts (D := D) (ls := L) (k := nL / 2))
  have HNO := hid (say_none (D := D) (ls := L))
  have HRO := hid (show sayOk D L = (deskOk D && decide (nL ≤ 40)) by unfold sayOk; rw [hlen])
  have HAL' := hid HAL
  obtain ⟨E, Z, hE⟩ : ∃ E b, sayOut D L = (E, b) := ⟨_, _, rfl⟩
  simp only [hE] at C2 CS HP HNO
  clear hE gW XD FW OW F1 oL b1 HAL hlen hT hll
  go_wp2_with fail
  clear eW ho
  with_reducible refine Calls.mono C2.out ?_
  rintro e w2 ⟨A3, n3, c3, A4, m4, c4, AZ, nZ, cZ, rfl, Y2, oZ, hnZ, b2⟩
  obtain ⟨V, eV⟩ : ∃ W, w2.alloc (.cells #[.slice A3 n3 c3, .slice A4 m4 c4] 31) = W := ⟨_, rfl⟩
  have gV : w2.grownBy V none := by rw [← eV]; exact grown_alloc _ _ _
  have XV : Db V w2.heap.size (.slice A3 n3 c3) (.slice A4 m4 c4) := by rw [← eV]; exact Db.new _ _ _
  have YV := Y2.onto gV
  have bV := b2.trans ((below_grown gV).mono b2.size)
  obtain ⟨p, hp⟩ : ∃ o, w2.heap.size = o := ⟨_, rfl⟩
  rw [hp] at XV
  have KX := hid (fun (W' : World) (hW : Below V.heap.size V W') => XV.below hW XV.lt)
  have KE := hid (fun (W' : World) (hW : Below V.heap.size V W') => (YV.read).on hW)
  have OZV := own_kept_none oZ gV
  have KZ := hid (fun (W' : World) (hW : Below V.heap.size V W') => own_on2 OZV hW)
  have KW := hid (fun (W' : World) (hW : Below V.heap.size V W') => bV.trans (hW.mono bV.size))
  have C3 := hid (CS.out V (KR.out V bV) (KL.out V bV))
  have XW := KD.out V bV
  have y0 := XW.c0
  have y1 := XW.c1
  clear x0 x1 YV XV gV Y2 b2 bV C2 XW OZV oZ
  go_wp2_with fail
  clear eV hp
  with_reducible refine Calls.mono C3.out ?_
  rintro e w3 ⟨A5, n5, c5, A6, m6, c6, AY, nY, cY, rfl, F3, oY, hnY, b3⟩
  obtain ⟨U, eU⟩ : ∃ W, w3.alloc (.cells #[.slice A5 n5 c5, .slice A6 m6 c6] 31) = W := ⟨_, rfl⟩
  have gU : w3.grownBy U none := by rw [← eU]; exact grown_alloc _ _ _
  have XU : Db U w3.heap.size (.slice A5 n5 c5) (.slice A6 m6 c6) := by rw [← eU]; exact Db.new _ _ _
  have GU := F3.onto gU
  have OYU := hid (own_kept_none oY gU)
  have bU := b3.trans ((below_grown gU).mono b3.size)
  obtain ⟨q, hq⟩ : ∃ o, w3.heap.size = o := ⟨_, rfl⟩
  rw [hq] at XU
  have XX := KX.out U bU
  have x0 := XX.c0
  have x1 := XX.c1
  have x2 := XU.c0
  have x3 := XU.c1
  have C4 := hid (sameDesk_any A3 n3 c3 A4 m4 c4 A5 n5 c5 A6 m6 c6 E E U (KE.out U bU) GU.read)
  rw [sameB_refl] at C4
  have H4 := hid bU
  clear y0 y1 GU XU gU F3 b3 bU C3 XX CS oY
  go_wp2_with fail
  clear eU hq
  with_reducible refine Calls.mono C4.out ?_
  rintro e w4 ⟨rfl, b4⟩
  have C4b := hid (sameTexts_any AZ AY nZ cZ nY cY Z w4 (SlT.of_own (KZ.out _ (H4.out.trans (b4.mono H4.out.size)))) (SlT.of_own (own_on2 OYU.out b4)))
  have H4' := hid (H4.out.trans (b4.mono H4.out.size))
  clear x0 x1 x2 x3 b4 C4 H4 OYU
  go_wp2_with fail
  with_reducible refine Calls.mono C4b.out ?_
  rintro e w4' ⟨rfl, b4⟩
  have HB4 := H4'.out.trans (b4.mono H4'.out.size)
  have D4 := KD.out _ (KW.out _ HB4)
  have u2 := D4.c0
  have u3 := D4.c1
  have H5 := hid HB4
  have z5 := HB4.size
  have zV : W.heap.size ≤ V.heap.size := (KW.out V (Below.refl _ _)).size
  have C5 := hid (CK.out w4' (KR.out _ (KW.out _ HB4)))
  clear D4 b4 HB4 C4b H4'
  obtain ⟨dk, hdk⟩ : ∃ b, deskOk D = b := ⟨_, rfl⟩
  rw [hdk] at C5 HRO
  clear hdk CK
  go_wp2_with fail
  with_reducible refine Calls.mono C5.out ?_
  rintro e w5 ⟨rfl, g5⟩
  have H6 := hid (H5.out.trans ((below_grown g5).mono z5))
  clear g5 C5 u2 u3
  have X6 := KX.out _ H6.out
  have v0 := X6.c0
  have v1 := X6.c1
  have z6 := H6.out.size
  clear X6
  by_cases hgood : dk = true ∧ nL ≤ 40
  · obtain ⟨rfl, h40⟩ := hgood
    have h40i : ¬ (40 : Int) < (nL : Int) := by omega
    have h40d : decide ((40 : Int) < (nL : Int)) = false := by simp; omega
    have hro : sayOk D L = true := by rw [HRO.out]; simp [h40]
    have hp := HP.out hro
    obtain ⟨H, hH⟩ : ∃ H, nL / 2 = H := ⟨_, rfl⟩
    have hHn : H ≤ nL := by omega
    have htd : (nL : Int).tdiv 2 = (H : Int) := by rw [Int.tdiv_eq_ediv_of_nonneg (by omega)]; omega
    rw [hH] at hp
    obtain ⟨P, Z1, hP⟩ : ∃ X b, sayOut D (L.take H) = (X, b) := ⟨_, _, rfl⟩
    simp only [hP] at hp
    obtain ⟨Q, Z2, hQ⟩ : ∃ X b, sayOut P (L.drop H) = (X, b) := ⟨_, _, rfl⟩
    simp only [hQ] at hp
    obtain ⟨hp1, hp2, hp3, hp4, hp5, hp6, hp7⟩ := hp
    subst hp1
    have HPS := hid hp2
    have HEK := hid hp3
    have HZL := hid hp4
    have HZN := hid hp5
    have HF9 := hid (line_fire hp3)
    have HRW := hid (line_row hp3)
    rw [hH] at HLL1 HLL2
    have hnZL := hid (show nZ = nL from by
      have h1 := (SlT.of_own (KZ.out _ H6.out)).len
      rw [← h1, hp4, HLEN.out])
    clear hp2 hp3 hp4 hp5 hp6 hp7 hro HP HNO HRO
    -- the first part
    have CP := hid (fun (W' : World) (cc : Nat) (hW : Below w5.heap.size w5 W') => implDeskSay_any A1 n1 c1 A2 m2 c2 D AL H cc (L.take H) W' (KR.out W' (KW.out _ (H6.out.trans (hW.mono z6)))) ((KL.out W' (KW.out _ (H6.out.trans (hW.mono z6)))).takeK hHn) HLL1.out (KTB.out W' (KW.out _ (H6.out.trans (hW.mono z6)))))
    have CQ := hid (fun (W' : World) (Aa : Option Addr) (na ca : Nat) (Ab : Option Addr) (ma cb : Nat) (AT : Option Addr) (nT cT : Nat) (h0 : DkR W' W'.heap.size Aa na ca Ab ma cb P) (h1 : SlT W' W'.heap.size AT nT (L.drop H)) (hT : TabsL W') => implDeskSay_any Aa na ca Ab ma cb P AT nT cT (L.drop H) W' h0 h1 HLL2.out hT)
    simp only [hP] at CP
    simp only [hQ] at CQ
    clear hP hQ
    have KD6 := hid (fun (W' : World) (hW : Below w5.heap.size w5 W') => show W'.cell? ⟨o, 0, none⟩ = some (.slice A1 n1 c1) ∧ W'.cell? ⟨o, 1, none⟩ = some (.slice A2 m2 c2) from by
      have h := KD.out _ (KW.out _ (H6.out.trans (hW.mono z6)))
      exact ⟨h.c0, h.c1⟩)
    obtain ⟨d0, d1⟩ := KD6.out w5 (Below.refl _ _)
    have hd1 : Below w5.heap.size w5 w5.drew := (Below.refl w5.heap.size w5).drew
    have gW1 : w5.grownBy (w5.alloc (.cells #[.slice none 0 0, .slice none 0 0] 31)).drew none := (grown_alloc w5 (.cells #[.slice none 0 0, .slice none 0 0] 31) none).trans (drewN_gA _ 1)
    have hd2 : Below w5.heap.size w5 (w5.alloc (.cells #[.slice none 0 0, .slice none 0 0] 31)).drew := below_grown gW1
    have X1 : Db (w5.alloc (.cells #[.slice none 0 0, .slice none 0 0] 31)).drew w5.heap.size (.slice none 0 0) (.slice none 0 0) := Db.new w5 (.slice none 0 0) (.slice none 0 0)
    have hX1 : w5.heap.size < (w5.alloc (.cells #[.slice none 0 0, .slice none 0 0] 31)).drew.heap.size := by show w5.heap.size < (w5.alloc (.cells #[.slice none 0 0, .slice none 0 0] 31)).heap.size; simp
    have HX1 := hid X1
    clear X1 gW1
    have hHi : (H : Int) ≤ (nL : Int) := by omega
    have hH0 : (0 : Int) ≤ (H : Int) := by omega
    rcases HAL'.out with ⟨rfl, rfl, rfl⟩ | ⟨g, rfl, hcap1, hcap2⟩
    · obtain rfl : H = 0 := by omega
      go_wp2_with fail
      rename_i KK hKK
      replace hKK := hid hKK
      apply cutT
      · intro REST
        go_region_held3 (fun w' => w'.cell? ⟨o, 0, none⟩ = some (.slice A1 n1 c1) ∧ w'.cell? ⟨o, 1, none⟩ = some (.slice A2 m2 c2))
          (first
            | go_keep
            | assumption
            | exact kx2 _ _)
          (first
            | (go_at_call 30; (with_reducible refine Calls.mono (CP.out (w5.drew) _ hd1) ?_); rintro e w7 ⟨A7, n7, c7, A8, m8, c8, AF, nF, cF, rfl, G7p, oF, hnq, b7⟩; have hB7 : Below w5.heap.size w5 w7 := hd1.trans (b7.mono hd1.size); have kx7 := KD6.out _ hB7; have G7 := G7p.mono hd1.size; have O7 := own_mono oF hd1.size)
            | (go_at_call 30; (with_reducible refine Calls.mono (CP.out ((w5.alloc (.cells #[.slice none 0 0, .slice none 0 0] 31)).drew) _ hd2) ?_); rintro e w7 ⟨A7, n7, c7, A8, m8, c8, AF, nF, cF, rfl, G7p, oF, hnq, b7⟩; have hB7 : Below w5.heap.size w5 w7 := hd2.trans (b7.mono hd2.size); have kx7 := KD6.out _ hB7; have G7 := G7p.mono hd2.size; have O7 := own_mono oF hd2.size; have hq : w5.heap.size ≤ w5.heap.size := Nat.le_refl _; have yx7 : Db w7 w5.heap.size (.slice none 0 0) (.slice none 0 0) := HX1.out.below b7 hX1; have yx0 := yx7.c0; have yx1 := yx7.c1; have yf0 := yx7.fz 0; have yf1 := yx7.fz 1; have kx2 := fun x y => KD6.out _ ((hB7.setCell (p := ⟨_, 0, none⟩) hq x).setCell (p := ⟨_, 1, none⟩) hq y)))
        · have VX := Db.new w7 (.slice A7 n7 c7) (.slice A8 m8 c8)
          have GX := G7.onto (grown_alloc w7 (.cells #[.slice A7 n7 c7, .slice A8 m8 c8] 31) none)
          have OX := own_kept_none O7 (grown_alloc w7 (.cells #[.slice A7 n7 c7, .slice A8 m8 c8] 31) none)
          have BX := hB7.alloc hB7.size (.cells #[.slice A7 n7 c7, .slice A8 m8 c8] 31)
          obtain ⟨V2, e⟩ : ∃ V, w7.alloc (.cells #[.slice A7 n7 c7, .slice A8 m8 c8] 31) = V := ⟨_, rfl⟩
          rw [e] at VX GX OX BX ⊢
          obtain ⟨s, hqq⟩ : ∃ s, w7.heap.size = s := ⟨_, rfl⟩
          rw [hqq] at VX ⊢
          rename_i hh
          clear hh e hqq G7p G7 O7 oF
          revert BX
          revert hnq
          revert OX
          revert GX
          revert VX
          revert s
          revert V2
          revert cF
          revert nF
          revert AF
          revert c8
          revert m8
          revert A8
          revert c7
          revert n7
          revert A7
          exact REST.out
        all_goals exact REST.out A7 n7 c7 A8 m8 c8 AF nF cF _ _ (yx7.set _ _) (G7.box2 yx7 _ _) (own_box2 O7 yx7 (by decide) _ _) hnq ((hB7.setCell (p := ⟨_, 0, none⟩) hq _).setCell (p := ⟨_, 1, none⟩) hq _)
      intro A7 n7 c7 A8 m8 c8 AF nF cF V2 s VX GX OX hnq BX
      have hnF : nF ≤ 40 := hnq
      refine hKK.out _ _ ?_
      clear hd1 hd2 hX1 HX1 d0 d1 hKK hnq
      have hsv := VX.lt
      have H7 := hid (H6.out.trans (BX.mono z6))
      have z7 : V.heap.size ≤ V2.heap.size := H7.out.size
      have zw2 := BX.size
      have KS := hid (fun (W' : World) (hW : Below V2.heap.size V2 W') => show W'.cell? ⟨s, 0, none⟩ = some (.slice A7 n7 c7) ∧ W'.cell? ⟨s, 1, none⟩ = some (.slice A8 m8 c8) from by
        have h := VX.below hW hsv
        exact ⟨h.c0, h.c1⟩)
      have KY := hid (fun (W' : World) (hW : Below V2.heap.size V2 W') => (GX.on hW).read)
      have KF := hid (fun (W' : World) (hW : Below V2.heap.size V2 W') => own_on2 OX hW)
      have KT := hid (fun (W' : World) (hW : Below V2.heap.size V2 W') => show SlT W' W'.heap.size (none) (0) (L.drop 0) from by
        have h := KL.out W' (KW.out _ (H7.out.trans (hW.mono z7)))
        simpa using h)
      have KTT := hid (fun (W' : World) (hW : Below V2.heap.size V2 W') => KTB.out W' (KW.out _ (H7.out.trans (hW.mono z7))))
      obtain ⟨s0, s1⟩ := KS.out V2 (Below.refl _ _)
      have hd1 : Below V2.heap.size V2 V2.drew := (Below.refl V2.heap.size V2).drew
      have gW1 : V2.grownBy (V2.alloc (.cells #[.slice none 0 0, .slice none 0 0] 31)).drew none := (grown_alloc V2 (.cells #[.slice none 0 0, .slice none 0 0] 31) none).trans (drewN_gA _ 1)
      have hd2 : Below V2.heap.size V2 (V2.alloc (.cells #[.slice none 0 0, .slice none 0 0] 31)).drew := below_grown gW1
      have X1 : Db (V2.alloc (.cells #[.slice none 0 0, .slice none 0 0] 31)).drew V2.heap.size (.slice none 0 0) (.slice none 0 0) := Db.new V2 (.slice none 0 0) (.slice none 0 0)
      have hX1 : V2.heap.size < (V2.alloc (.cells #[.slice none 0 0, .slice none 0 0] 31)).drew.heap.size := by show V2.heap.size < (V2.alloc (.cells #[.slice none 0 0, .slice none 0 0] 31)).heap.size; simp
      have HX1 := hid X1
      clear X1 gW1 VX GX OX BX hsv v0 v1
      go_wp2_with fail
      rename_i KK2 hKK2
      replace hKK2 := hid hKK2
      apply cutT
      · intro REST
        go_region_held3 (fun w' => w'.cell? ⟨s, 0, none⟩ = some (.slice A7 n7 c7) ∧ w'.cell? ⟨s, 1, none⟩ = some (.slice A8 m8 c8))
          (first
            | go_keep
            | assumption
            | exact kx2 _ _)
          (first
            | (go_at_call 30; (with_reducible refine Calls.mono (CQ.out (V2.drew) _ _ _ _ _ _ _ _ _ (KY.out _ hd1) (KT.out _ hd1) (KTT.out _ hd1)) ?_); rintro e w7 ⟨A9, n9, c9, A10, m10, c10, AS, nS, cS, rfl, G7p, oF, hnq, b7⟩; have hB7 : Below V2.heap.size V2 w7 := hd1.trans (b7.mono hd1.size); have kx7 := KS.out _ hB7; have G7 := G7p.mono hd1.size; have O7 := own_mono oF hd1.size)
            | (go_at_call 30; (with_reducible refine Calls.mono (CQ.out ((V2.alloc (.cells #[.slice none 0 0, .slice none 0 0] 31)).drew) _ _ _ _ _ _ _ _ _ (KY.out _ hd2) (KT.out _ hd2) (KTT.out _ hd2)) ?_); rintro e w7 ⟨A9, n9, c9, A10, m10, c10, AS, nS, cS, rfl, G7p, oF, hnq, b7⟩; have hB7 : Below V2.heap.size V2 w7 := hd2.trans (b7.mono hd2.size); have kx7 := KS.out _ hB7; have G7 := G7p.mono hd2.size; have O7 := own_mono oF hd2.size; have hq : V2.heap.size ≤ V2.heap.size := Nat.le_refl _; have yx7 : Db w7 V2.heap.size (.slice none 0 0) (.slice none 0 0) := HX1.out.below b7 hX1; have yx0 := yx7.c0; have yx1 := yx7.c1; have yf0 := yx7.fz 0; have yf1 := yx7.fz 1; have kx2 := fun x y => KS.out _ ((hB7.setCell (p := ⟨_, 0, none⟩) hq x).setCell (p := ⟨_, 1, none⟩) hq y)))
        · have VX := Db.new w7 (.slice A9 n9 c9) (.slice A10 m10 c10)
          have GX := G7.onto (grown_alloc w7 (.cells #[.slice A9 n9 c9, .slice A10 m10 c10] 31) none)
          have OX := own_kept_none O7 (grown_alloc w7 (.cells #[.slice A9 n9 c9, .slice A10 m10 c10] 31) none)
          have BX := hB7.alloc hB7.size (.cells #[.slice A9 n9 c9, .slice A10 m10 c10] 31)
          obtain ⟨V3, e⟩ : ∃ V, w7.alloc (.cells #[.slice A9 n9 c9, .slice A10 m10 c10] 31) = V := ⟨_, rfl⟩
          rw [e] at VX GX OX BX ⊢
          obtain ⟨s3, hqq⟩ : ∃ s, w7.heap.size = s := ⟨_, rfl⟩
          rw [hqq] at VX ⊢
          rename_i hh
          clear hh e hqq G7p G7 O7 oF
          revert BX
          revert hnq
          revert OX
          revert GX
          revert VX
          revert s3
          revert V3
          revert cS
          revert nS
          revert AS
          revert c10
          revert m10
          revert A10
          revert c9
          revert n9
          revert A9
          exact REST.out
        all_goals exact REST.out A9 n9 c9 A10 m10 c10 AS nS cS _ _ (yx7.set _ _) (G7.box2 yx7 _ _) (own_box2 O7 yx7 (by decide) _ _) hnq ((hB7.setCell (p := ⟨_, 0, none⟩) hq _).setCell (p := ⟨_, 1, none⟩) hq _)
      intro A9 n9 c9 A10 m10 c10 AS nS cS V3 s3 VX GX OX hnq BX
      have hnS : nS ≤ 40 := hnq
      refine hKK2.out _ _ ?_
      clear hd1 hd2 hX1 HX1 s0 s1 hKK2 hnq
      have hsv := VX.lt
      have H8 := hid (H7.out.trans (BX.mono z7))
      have z8 : V.heap.size ≤ V3.heap.size := H8.out.size
      have zw3 := BX.size
      have KS3 := hid (fun (W' : World) (hW : Below V3.heap.size V3 W') => VX.below hW hsv)
      have KY3 := hid (fun (W' : World) (hW : Below V3.heap.size V3 W') => (GX.on hW).read)
      have KFS := hid (fun (W' : World) (hW : Below V3.heap.size V3 W') => show W'.ownsRow w5.heap.size 9 1 (.slice AF nF cF) nF (strs Z1) ∧ W'.ownsRow V2.heap.size 9 1 (.slice AS nS cS) nS (strs Z2) from ⟨KF.out W' (BX.trans (hW.mono BX.size)), own_on2 OX hW⟩)
      have KZ3 := hid (fun (W' : World) (hW : Below V3.heap.size V3 W') => KZ.out W' (H8.out.trans (hW.mono z8)))
      have KX3 := hid (fun (W' : World) (hW : Below V3.heap.size V3 W') => show Db W' p (.slice A3 n3 c3) (.slice A4 m4 c4) ∧ DkR W' W'.heap.size A3 n3 c3 A4 m4 c4 Q ∧ TabsL W' ∧ Below w.heap.size w W' from ⟨KX.out W' (H8.out.trans (hW.mono z8)), KE.out W' (H8.out.trans (hW.mono z8)), KTB.out W' (KW.out _ (H8.out.trans (hW.mono z8))), HB.out.trans ((KW.out _ (H8.out.trans (hW.mono z8))).mono HB.out.size)⟩)
      have hZslt := (SlT.of_own (KZ3.out V3 (Below.refl _ _)))
      have hnZi : (nZ : Int) ≤ 40 := by omega
      have HSLT := hid hZslt
      have CF9 := hid (fun (W' : World) (h : DkR W' W'.heap.size A3 n3 c3 A4 m4 c4 Q) (hT : TabsL W') => show Calls Tryz.prog 14 #[dsk A3 n3 c3 A4 m4 c4, .string ⟨#[102, 105, 114, 101, 32, 57]⟩] W' _ from implDeskLine_any A3 n3 c3 A4 m4 c4 Q wFire9 W' h (by decide) hT)
      have CRW := hid (fun (W' : World) (h : DkR W' W'.heap.size A3 n3 c3 A4 m4 c4 Q) (hT : TabsL W') => show Calls Tryz.prog 14 #[dsk A3 n3 c3 A4 m4 c4, .string ⟨#[114, 111, 119]⟩] W' _ from implDeskLine_any A3 n3 c3 A4 m4 c4 Q wRow W' h (by decide) hT)
      have CTX := hid (fun (W' : World) (h : Sl W' W'.heap.size A3 n3 Q.now) (hT : TabsL W') => implRowText_any A3 n3 c3 Q.now W' h hT.P)
      simp only [HF9.out] at CF9
      simp only [HRW.out] at CRW
      obtain ⟨tx, htx⟩ : ∃ x, rowTextOut Q.now = x := ⟨_, rfl⟩
      simp only [htx] at CRW CTX
      have htt : (tx == tx) = true := by simp
      have hff : (([50, 51] : List UInt8) == [50, 51]) = true := by decide
      clear VX GX OX BX hsv HF9 HRW htx hZslt CP CQ HLL HLL1 HLL2
      go_wp2_with fail
      go_loop [14] (fun i => ∃ k : Nat, i = .int .i64 k ∧ k ≤ nZ) (fun i => nZ - (intOf i).toNat)
      case atStart => exact ⟨0, rfl, Nat.zero_le _⟩
      case round =>
        obtain ⟨k, rfl, hk⟩ := hrel
        by_cases hlt : k < nZ
        · obtain ⟨bz, offz, hAZ, hbz, hcz⟩ := HSLT.out.at hlt
          have hkz : (k : Int) < (nZ : Int) := by omega
          have hk0 : (0 : Int) ≤ (k : Int) := by omega
          have hne : Z.getD k [] ≠ [] := HZN.out _ (by
            have hl := HSLT.out.len
            rw [List.getD_eq_getElem?_getD, List.getElem?_eq_getElem (by omega)]
            exact List.getElem_mem _)
          obtain ⟨zt, hzt⟩ : ∃ x, Z.getD k [] = x := ⟨_, rfl⟩
          rw [hzt] at hcz hne
          have hne1 : zt.isEmpty = false := by cases zt with | nil => exact absurd rfl hne | cons a b => rfl
          have hne2 : (zt == ([] : List UInt8)) = false := by rw [beq_eq_false_iff_ne]; exact hne
          have hne3 : (([] : List UInt8) == zt) = false := by rw [beq_eq_false_iff_ne]; exact fun e => hne e.symm
          subst hAZ
          clear hzt hne
          go_wp2
          go_round
          case rel => exact ⟨k + 1, by go_num, by omega⟩
          case measure => simp [intOf]; omega
        · obtain rfl : k = nZ := by omega
          obtain ⟨X3, E3', T3, F3'⟩ := KX3.out V3 (Below.refl _ _)
          have k0 := X3.c0
          have k1 := X3.c1
          have C9 := hid (CF9.out V3 E3' T3)
          have hlz : ¬ (k : Int) < (k : Int) := by omega
          clear X3 E3' T3 F3' hnZi
          go_wp2_with fail
          with_reducible refine Calls.mono C9.out ?_
          rintro e w8 ⟨A11, n11, c11, A12, m12, c12, rfl, Y8, b8⟩
          obtain ⟨W9, e9⟩ : ∃ W, w8.alloc (.cells #[.slice A11 n11 c11, .slice A12 m12 c12] 31) = W := ⟨_, rfl⟩
          have g9 : w8.grownBy W9 none := by rw [← e9]; exact grown_alloc _ _ _
          have B9 := hid (b8.trans ((below_grown g9).mono b8.size))
          obtain ⟨X9, E9, T9, F9⟩ := KX3.out W9 B9.out
          have l0 := X9.c0
          have l1 := X9.c1
          have C10 := hid (CRW.out W9 E9 T9)
          clear X9 E9 T9 F9 Y8 b8 g9 C9 k0 k1
          go_wp2_with fail
          clear e9
          with_reducible refine Calls.mono C10.out ?_
          rintro e w10 ⟨A13, n13, c13, A14, m14, c14, rfl, Y10, b10⟩
          obtain ⟨W11, e11⟩ : ∃ W, w10.alloc (.cells #[.slice A13 n13 c13, .slice A14 m14 c14] 31) = W := ⟨_, rfl⟩
          have g11 : w10.grownBy W11 none := by rw [← e11]; exact grown_alloc _ _ _
          have B11 := hid (B9.out.trans ((b10.trans ((below_grown g11).mono b10.size)).mono B9.out.size))
          obtain ⟨X11, E11, T11, F11⟩ := KX3.out W11 B11.out
          have k0 := X11.c0
          have k1 := X11.c1
          have Z11 := KS3.out W11 B11.out
          have k2 := Z11.c0
          have k3 := Z11.c1
          have C12 := hid (sameDesk_any A9 n9 c9 A10 m10 c10 A3 n3 c3 A4 m4 c4 Q Q W11 (KY3.out _ B11.out) E11)
          rw [sameB_refl] at C12
          clear X11 E11 T11 F11 Y10 b10 g11 C10 l0 l1 Z11
          go_wp2_with fail
          clear e11
          with_reducible refine Calls.mono C12.out ?_
          rintro e w12 ⟨rfl, b12⟩
          have B12 := hid (B11.out.trans (b12.mono B11.out.size))
          have zB12 := B12.out.size
          have gE := grown_alloc w12 (.cells #[] 9) none
          have OE : (w12.alloc (.cells #[] 9)).ownsRow w12.heap.size 9 1 (.slice (some ⟨w12.heap.size, 0, none⟩) 0 0) 0 (strs []) := World.ownsRow_lit w12 #[] 0 (Nat.le_refl _) (by simp [maxLen]) rfl
          obtain ⟨OF, OS⟩ := KFS.out w12 B12.out
          have OF1 := own_kept_none OF gE
          have HOS := hid OS
          have BE := hid ((Below.refl w12.heap.size w12).alloc (Nat.le_refl _) (.cells #[] 9))
          have hOFb := OF.lt
          have hOSb := OS.lt
          clear OF OS gE b12 C12 k0 k1 k2 k3
          go_wp2_with (first
            | (at_builtin; refine append_strs (by rfl) _ _ 53 rfl w12.heap.size 9 i0 Tryz.underlying53 hi hz0 hz1 hz2 (.slice (some ⟨w12.heap.size, 0, none⟩) 0 0) 0 [] rfl OE AF nF cF _ Z1 rfl OF1 (by omega) (by simp) ?_; intro v13 w13 o13 g13; have hv13 := own_lo o13; rw [List.nil_append, Nat.zero_add] at o13; have B13 := hid (BE.out.grown g13 (by simp) (by intro j hj; simp [Value.ownBlock] at hj; omega)); have OS1 := own_on2 HOS.out B13.out; have zB13 := B13.out.size)
            | (at_builtin; refine append_strs (by rfl) _ _ 53 rfl w12.heap.size 9 i0 Tryz.underlying53 hi hz0 hz1 hz2 v13 nF Z1 rfl o13 AS nS cS _ Z2 rfl OS1 (by omega) (by omega) ?_; intro v14 w14 o14 g14))
          rw [HPS.out] at o14
          have B14 := hid (B13.out.grown g14 zB13 (fun j hj => hv13 j hj))
          obtain ⟨A15, c15, rfl⟩ := own_shapeT o14
          have B14' := hid (B12.out.trans (B14.out.mono zB12))
          have C15 := hid (sameTexts_any A15 AZ (nF + nS) c15 k cZ Z w14 (SlT.of_own o14) (SlT.of_own (KZ3.out _ B14'.out)))
          obtain ⟨X14, E14, T14, F14⟩ := KX3.out w14 B14'.out
          have hkk : ((k : Int) == (0)) = true := by have := hnZL.out; simp; omega
          clear o13 o14 g13 g14 OS1 OE OF1 BE X14 E14 T14 F14
          go_wp2_with fail
          with_reducible refine Calls.mono C15.out ?_
          rintro e w15 ⟨rfl, b15⟩
          have B15 := hid (B14'.out.trans (b15.mono B14'.out.size))
          obtain ⟨X15, E15, T15, F15⟩ := KX3.out w15 B15.out
          have k0 := X15.c0
          have k1 := X15.c1
          have C16 := hid (CTX.out w15 E15.now T15)
          clear X15 E15 T15 F15 b15 C15
          go_wp2_with fail
          with_reducible refine Calls.mono C16.out ?_
          rintro e w16 ⟨rfl, b16⟩
          have B16 := hid (B15.out.trans (b16.mono B15.out.size))
          clear b16 k0 k1
          go_wp2
          go_ret
          exact ⟨rfl, (KX3.out _ B16.out).2.2.2⟩
    · have hci : (nL : Int) ≤ (cL : Int) := by omega
      have hHc : (H : Int) ≤ (cL : Int) := by omega
      have hHcn : H ≤ cL := by omega
      by_cases hc0 : cL = 0
      · subst hc0
        obtain rfl : nL = 0 := by omega
        obtain rfl : H = 0 := by omega
        go_wp2_with fail
        rename_i KK hKK
        replace hKK := hid hKK
        apply cutT
        · intro REST
          go_region_held3 (fun w' => w'.cell? ⟨o, 0, none⟩ = some (.slice A1 n1 c1) ∧ w'.cell? ⟨o, 1, none⟩ = some (.slice A2 m2 c2))
            (first
              | go_keep
              | assumption
              | exact kx2 _ _)
            (first
              | (go_at_call 30; (with_reducible refine Calls.mono (CP.out (w5.drew) _ hd1) ?_); rintro e w7 ⟨A7, n7, c7, A8, m8, c8, AF, nF, cF, rfl, G7p, oF, hnq, b7⟩; have hB7 : Below w5.heap.size w5 w7 := hd1.trans (b7.mono hd1.size); have kx7 := KD6.out _ hB7; have G7 := G7p.mono hd1.size; have O7 := own_mono oF hd1.size)
              | (go_at_call 30; (with_reducible refine Calls.mono (CP.out ((w5.alloc (.cells #[.slice none 0 0, .slice none 0 0] 31)).drew) _ hd2) ?_); rintro e w7 ⟨A7, n7, c7, A8, m8, c8, AF, nF, cF, rfl, G7p, oF, hnq, b7⟩; have hB7 : Below w5.heap.size w5 w7 := hd2.trans (b7.mono hd2.size); have kx7 := KD6.out _ hB7; have G7 := G7p.mono hd2.size; have O7 := own_mono oF hd2.size; have hq : w5.heap.size ≤ w5.heap.size := Nat.le_refl _; have yx7 : Db w7 w5.heap.size (.slice none 0 0) (.slice none 0 0) := HX1.out.below b7 hX1; have yx0 := yx7.c0; have yx1 := yx7.c1; have yf0 := yx7.fz 0; have yf1 := yx7.fz 1; have kx2 := fun x y => KD6.out _ ((hB7.setCell (p := ⟨_, 0, none⟩) hq x).setCell (p := ⟨_, 1, none⟩) hq y)))
          · have VX := Db.new w7 (.slice A7 n7 c7) (.slice A8 m8 c8)
            have GX := G7.onto (grown_alloc w7 (.cells #[.slice A7 n7 c7, .slice A8 m8 c8] 31) none)
            have OX := own_kept_none O7 (grown_alloc w7 (.cells #[.slice A7 n7 c7, .slice A8 m8 c8] 31) none)
            have BX := hB7.alloc hB7.size (.cells #[.slice A7 n7 c7, .slice A8 m8 c8] 31)
            obtain ⟨V2, e⟩ : ∃ V, w7.alloc (.cells #[.slice A7 n7 c7, .slice A8 m8 c8] 31) = V := ⟨_, rfl⟩
            rw [e] at VX GX OX BX ⊢
            obtain ⟨s, hqq⟩ : ∃ s, w7.heap.size = s := ⟨_, rfl⟩
            rw [hqq] at VX ⊢
            rename_i hh
            clear hh e hqq G7p G7 O7 oF
            revert BX
            revert hnq
            revert OX
            revert GX
            revert VX
            revert s
            revert V2
            revert cF
            revert nF
            revert AF
            revert c8
            revert m8
            revert A8
            revert c7
            revert n7
            revert A7
            exact REST.out
          all_goals exact REST.out A7 n7 c7 A8 m8 c8 AF nF cF _ _ (yx7.set _ _) (G7.box2 yx7 _ _) (own_box2 O7 yx7 (by decide) _ _) hnq ((hB7.setCell (p := ⟨_, 0, none⟩) hq _).setCell (p := ⟨_, 1, none⟩) hq _)
        intro A7 n7 c7 A8 m8 c8 AF nF cF V2 s VX GX OX hnq BX
        have hnF : nF ≤ 40 := hnq
        refine hKK.out _ _ ?_
        clear hd1 hd2 hX1 HX1 d0 d1 hKK hnq
        have hsv := VX.lt
        have H7 := hid (H6.out.trans (BX.mono z6))
        have z7 : V.heap.size ≤ V2.heap.size := H7.out.size
        have zw2 := BX.size
        have KS := hid (fun (W' : World) (hW : Below V2.heap.size V2 W') => show W'.cell? ⟨s, 0, none⟩ = some (.slice A7 n7 c7) ∧ W'.cell? ⟨s, 1, none⟩ = some (.slice A8 m8 c8) from by
          have h := VX.below hW hsv
          exact ⟨h.c0, h.c1⟩)
        have KY := hid (fun (W' : World) (hW : Below V2.heap.size V2 W') => (GX.on hW).read)
        have KF := hid (fun (W' : World) (hW : Below V2.heap.size V2 W') => own_on2 OX hW)
        have KT := hid (fun (W' : World) (hW : Below V2.heap.size V2 W') => show SlT W' W'.heap.size (some ⟨g, 0, none⟩) (0) (L.drop 0) from by
          have h := KL.out W' (KW.out _ (H7.out.trans (hW.mono z7)))
          simpa using h)
        have KTT := hid (fun (W' : World) (hW : Below V2.heap.size V2 W') => KTB.out W' (KW.out _ (H7.out.trans (hW.mono z7))))
        obtain ⟨s0, s1⟩ := KS.out V2 (Below.refl _ _)
        have hd1 : Below V2.heap.size V2 V2.drew := (Below.refl V2.heap.size V2).drew
        have gW1 : V2.grownBy (V2.alloc (.cells #[.slice none 0 0, .slice none 0 0] 31)).drew none := (grown_alloc V2 (.cells #[.slice none 0 0, .slice none 0 0] 31) none).trans (drewN_gA _ 1)
        have hd2 : Below V2.heap.size V2 (V2.alloc (.cells #[.slice none 0 0, .slice none 0 0] 31)).drew := below_grown gW1
        have X1 : Db (V2.alloc (.cells #[.slice none 0 0, .slice none 0 0] 31)).drew V2.heap.size (.slice none 0 0) (.slice none 0 0) := Db.new V2 (.slice none 0 0) (.slice none 0 0)
        have hX1 : V2.heap.size < (V2.alloc (.cells #[.slice none 0 0, .slice none 0 0] 31)).drew.heap.size := by show V2.heap.size < (V2.alloc (.cells #[.slice none 0 0, .slice none 0 0] 31)).heap.size; simp
        have HX1 := hid X1
        clear X1 gW1 VX GX OX BX hsv v0 v1
        go_wp2_with fail
        rename_i KK2 hKK2
        replace hKK2 := hid hKK2
        apply cutT
        · intro REST
          go_region_held3 (fun w' => w'.cell? ⟨s, 0, none⟩ = some (.slice A7 n7 c7) ∧ w'.cell? ⟨s, 1, none⟩ = some (.slice A8 m8 c8))
            (first
              | go_keep
              | assumption
              | exact kx2 _ _)
            (first
              | (go_at_call 30; (with_reducible refine Calls.mono (CQ.out (V2.drew) _ _ _ _ _ _ _ _ _ (KY.out _ hd1) (KT.out _ hd1) (KTT.out _ hd1)) ?_); rintro e w7 ⟨A9, n9, c9, A10, m10, c10, AS, nS, cS, rfl, G7p, oF, hnq, b7⟩; have hB7 : Below V2.heap.size V2 w7 := hd1.trans (b7.mono hd1.size); have kx7 := KS.out _ hB7; have G7 := G7p.mono hd1.size; have O7 := own_mono oF hd1.size)
              | (go_at_call 30; (with_reducible refine Calls.mono (CQ.out ((V2.alloc (.cells #[.slice none 0 0, .slice none 0 0] 31)).drew) _ _ _ _ _ _ _ _ _ (KY.out _ hd2) (KT.out _ hd2) (KTT.out _ hd2)) ?_); rintro e w7 ⟨A9, n9, c9, A10, m10, c10, AS, nS, cS, rfl, G7p, oF, hnq, b7⟩; have hB7 : Below V2.heap.size V2 w7 := hd2.trans (b7.mono hd2.size); have kx7 := KS.out _ hB7; have G7 := G7p.mono hd2.size; have O7 := own_mono oF hd2.size; have hq : V2.heap.size ≤ V2.heap.size := Nat.le_refl _; have yx7 : Db w7 V2.heap.size (.slice none 0 0) (.slice none 0 0) := HX1.out.below b7 hX1; have yx0 := yx7.c0; have yx1 := yx7.c1; have yf0 := yx7.fz 0; have yf1 := yx7.fz 1; have kx2 := fun x y => KS.out _ ((hB7.setCell (p := ⟨_, 0, none⟩) hq x).setCell (p := ⟨_, 1, none⟩) hq y)))
          · have VX := Db.new w7 (.slice A9 n9 c9) (.slice A10 m10 c10)
            have GX := G7.onto (grown_alloc w7 (.cells #[.slice A9 n9 c9, .slice A10 m10 c10] 31) none)
            have OX := own_kept_none O7 (grown_alloc w7 (.cells #[.slice A9 n9 c9, .slice A10 m10 c10] 31) none)
            have BX := hB7.alloc hB7.size (.cells #[.slice A9 n9 c9, .slice A10 m10 c10] 31)
            obtain ⟨V3, e⟩ : ∃ V, w7.alloc (.cells #[.slice A9 n9 c9, .slice A10 m10 c10] 31) = V := ⟨_, rfl⟩
            rw [e] at VX GX OX BX ⊢
            obtain ⟨s3, hqq⟩ : ∃ s, w7.heap.size = s := ⟨_, rfl⟩
            rw [hqq] at VX ⊢
            rename_i hh
            clear hh e hqq G7p G7 O7 oF
            revert BX
            revert hnq
            revert OX
            revert GX
            revert VX
            revert s3
            revert V3
            revert cS
            revert nS
            revert AS
            revert c10
            revert m10
            revert A10
            revert c9
            revert n9
            revert A9
            exact REST.out
          all_goals exact REST.out A9 n9 c9 A10 m10 c10 AS nS cS _ _ (yx7.set _ _) (G7.box2 yx7 _ _) (own_box2 O7 yx7 (by decide) _ _) hnq ((hB7.setCell (p := ⟨_, 0, none⟩) hq _).setCell (p := ⟨_, 1, none⟩) hq _)
        intro A9 n9 c9 A10 m10 c10 AS nS cS V3 s3 VX GX OX hnq BX
        have hnS : nS ≤ 40 := hnq
        refine hKK2.out _ _ ?_
        clear hd1 hd2 hX1 HX1 s0 s1 hKK2 hnq
        have hsv := VX.lt
        have H8 := hid (H7.out.trans (BX.mono z7))
        have z8 : V.heap.size ≤ V3.heap.size := H8.out.size
        have zw3 := BX.size
        have KS3 := hid (fun (W' : World) (hW : Below V3.heap.size V3 W') => VX.below hW hsv)
        have KY3 := hid (fun (W' : World) (hW : Below V3.heap.size V3 W') => (GX.on hW).read)
        have KFS := hid (fun (W' : World) (hW : Below V3.heap.size V3 W') => show W'.ownsRow w5.heap.size 9 1 (.slice AF nF cF) nF (strs Z1) ∧ W'.ownsRow V2.heap.size 9 1 (.slice AS nS cS) nS (strs Z2) from ⟨KF.out W' (BX.trans (hW.mono BX.size)), own_on2 OX hW⟩)
        have KZ3 := hid (fun (W' : World) (hW : Below V3.heap.size V3 W') => KZ.out W' (H8.out.trans (hW.mono z8)))
        have KX3 := hid (fun (W' : World) (hW : Below V3.heap.size V3 W') => show Db W' p (.slice A3 n3 c3) (.slice A4 m4 c4) ∧ DkR W' W'.heap.size A3 n3 c3 A4 m4 c4 Q ∧ TabsL W' ∧ Below w.heap.size w W' from ⟨KX.out W' (H8.out.trans (hW.mono z8)), KE.out W' (H8.out.trans (hW.mono z8)), KTB.out W' (KW.out _ (H8.out.trans (hW.mono z8))), HB.out.trans ((KW.out _ (H8.out.trans (hW.mono z8))).mono HB.out.size)⟩)
        have hZslt := (SlT.of_own (KZ3.out V3 (Below.refl _ _)))
        have hnZi : (nZ : Int) ≤ 40 := by omega
        have HSLT := hid hZslt
        have CF9 := hid (fun (W' : World) (h : DkR W' W'.heap.size A3 n3 c3 A4 m4 c4 Q) (hT : TabsL W') => show Calls Tryz.prog 14 #[dsk A3 n3 c3 A4 m4 c4, .string ⟨#[102, 105, 114, 101, 32, 57]⟩] W' _ from implDeskLine_any A3 n3 c3 A4 m4 c4 Q wFire9 W' h (by decide) hT)
        have CRW := hid (fun (W' : World) (h : DkR W' W'.heap.size A3 n3 c3 A4 m4 c4 Q) (hT : TabsL W') => show Calls Tryz.prog 14 #[dsk A3 n3 c3 A4 m4 c4, .string ⟨#[114, 111, 119]⟩] W' _ from implDeskLine_any A3 n3 c3 A4 m4 c4 Q wRow W' h (by decide) hT)
        have CTX := hid (fun (W' : World) (h : Sl W' W'.heap.size A3 n3 Q.now) (hT : TabsL W') => implRowText_any A3 n3 c3 Q.now W' h hT.P)
        simp only [HF9.out] at CF9
        simp only [HRW.out] at CRW
        obtain ⟨tx, htx⟩ : ∃ x, rowTextOut Q.now = x := ⟨_, rfl⟩
        simp only [htx] at CRW CTX
        have htt : (tx == tx) = true := by simp
        have hff : (([50, 51] : List UInt8) == [50, 51]) = true := by decide
        clear VX GX OX BX hsv HF9 HRW htx hZslt CP CQ HLL HLL1 HLL2
        go_wp2_with fail
        go_loop [14] (fun i => ∃ k : Nat, i = .int .i64 k ∧ k ≤ nZ) (fun i => nZ - (intOf i).toNat)
        case atStart => exact ⟨0, rfl, Nat.zero_le _⟩
        case round =>
          obtain ⟨k, rfl, hk⟩ := hrel
          by_cases hlt : k < nZ
          · obtain ⟨bz, offz, hAZ, hbz, hcz⟩ := HSLT.out.at hlt
            have hkz : (k : Int) < (nZ : Int) := by omega
            have hk0 : (0 : Int) ≤ (k : Int) := by omega
            have hne : Z.getD k [] ≠ [] := HZN.out _ (by
              have hl := HSLT.out.len
              rw [List.getD_eq_getElem?_getD, List.getElem?_eq_getElem (by omega)]
              exact List.getElem_mem _)
            obtain ⟨zt, hzt⟩ : ∃ x, Z.getD k [] = x := ⟨_, rfl⟩
            rw [hzt] at hcz hne
            have hne1 : zt.isEmpty = false := by cases zt with | nil => exact absurd rfl hne | cons a b => rfl
            have hne2 : (zt == ([] : List UInt8)) = false := by rw [beq_eq_false_iff_ne]; exact hne
            have hne3 : (([] : List UInt8) == zt) = false := by rw [beq_eq_false_iff_ne]; exact fun e => hne e.symm
            subst hAZ
            clear hzt hne
            go_wp2
            go_round
            case rel => exact ⟨k + 1, by go_num, by omega⟩
            case measure => simp [intOf]; omega
          · obtain rfl : k = nZ := by omega
            obtain ⟨X3, E3', T3, F3'⟩ := KX3.out V3 (Below.refl _ _)
            have k0 := X3.c0
            have k1 := X3.c1
            have C9 := hid (CF9.out V3 E3' T3)
            have hlz : ¬ (k : Int) < (k : Int) := by omega
            clear X3 E3' T3 F3' hnZi
            go_wp2_with fail
            with_reducible refine Calls.mono C9.out ?_
            rintro e w8 ⟨A11, n11, c11, A12, m12, c12, rfl, Y8, b8⟩
            obtain ⟨W9, e9⟩ : ∃ W, w8.alloc (.cells #[.slice A11 n11 c11, .slice A12 m12 c12] 31) = W := ⟨_, rfl⟩
            have g9 : w8.grownBy W9 none := by rw [← e9]; exact grown_alloc _ _ _
            have B9 := hid (b8.trans ((below_grown g9).mono b8.size))
            obtain ⟨X9, E9, T9, F9⟩ := KX3.out W9 B9.out
            have l0 := X9.c0
            have l1 := X9.c1
            have C10 := hid (CRW.out W9 E9 T9)
            clear X9 E9 T9 F9 Y8 b8 g9 C9 k0 k1
            go_wp2_with fail
            clear e9
            with_reducible refine Calls.mono C10.out ?_
            rintro e w10 ⟨A13, n13, c13, A14, m14, c14, rfl, Y10, b10⟩
            obtain ⟨W11, e11⟩ : ∃ W, w10.alloc (.cells #[.slice A13 n13 c13, .slice A14 m14 c14] 31) = W := ⟨_, rfl⟩
            have g11 : w10.grownBy W11 none := by rw [← e11]; exact grown_alloc _ _ _
            have B11 := hid (B9.out.trans ((b10.trans ((below_grown g11).mono b10.size)).mono B9.out.size))
            obtain ⟨X11, E11, T11, F11⟩ := KX3.out W11 B11.out
            have k0 := X11.c0
            have k1 := X11.c1
            have Z11 := KS3.out W11 B11.out
            have k2 := Z11.c0
            have k3 := Z11.c1
            have C12 := hid (sameDesk_any A9 n9 c9 A10 m10 c10 A3 n3 c3 A4 m4 c4 Q Q W11 (KY3.out _ B11.out) E11)
            rw [sameB_refl] at C12
            clear X11 E11 T11 F11 Y10 b10 g11 C10 l0 l1 Z11
            go_wp2_with fail
            clear e11
            with_reducible refine Calls.mono C12.out ?_
            rintro e w12 ⟨rfl, b12⟩
            have B12 := hid (B11.out.trans (b12.mono B11.out.size))
            have zB12 := B12.out.size
            have gE := grown_alloc w12 (.cells #[] 9) none
            have OE : (w12.alloc (.cells #[] 9)).ownsRow w12.heap.size 9 1 (.slice (some ⟨w12.heap.size, 0, none⟩) 0 0) 0 (strs []) := World.ownsRow_lit w12 #[] 0 (Nat.le_refl _) (by simp [maxLen]) rfl
            obtain ⟨OF, OS⟩ := KFS.out w12 B12.out
            have OF1 := own_kept_none OF gE
            have HOS := hid OS
            have BE := hid ((Below.refl w12.heap.size w12).alloc (Nat.le_refl _) (.cells #[] 9))
            have hOFb := OF.lt
            have hOSb := OS.lt
            clear OF OS gE b12 C12 k0 k1 k2 k3
            go_wp2_with (first
              | (at_builtin; refine append_strs (by rfl) _ _ 53 rfl w12.heap.size 9 i0 Tryz.underlying53 hi hz0 hz1 hz2 (.slice (some ⟨w12.heap.size, 0, none⟩) 0 0) 0 [] rfl OE AF nF cF _ Z1 rfl OF1 (by omega) (by simp) ?_; intro v13 w13 o13 g13; have hv13 := own_lo o13; rw [List.nil_append, Nat.zero_add] at o13; have B13 := hid (BE.out.grown g13 (by simp) (by intro j hj; simp [Value.ownBlock] at hj; omega)); have OS1 := own_on2 HOS.out B13.out; have zB13 := B13.out.size)
              | (at_builtin; refine append_strs (by rfl) _ _ 53 rfl w12.heap.size 9 i0 Tryz.underlying53 hi hz0 hz1 hz2 v13 nF Z1 rfl o13 AS nS cS _ Z2 rfl OS1 (by omega) (by omega) ?_; intro v14 w14 o14 g14))
            rw [HPS.out] at o14
            have B14 := hid (B13.out.grown g14 zB13 (fun j hj => hv13 j hj))
            obtain ⟨A15, c15, rfl⟩ := own_shapeT o14
            have B14' := hid (B12.out.trans (B14.out.mono zB12))
            have C15 := hid (sameTexts_any A15 AZ (nF + nS) c15 k cZ Z w14 (SlT.of_own o14) (SlT.of_own (KZ3.out _ B14'.out)))
            obtain ⟨X14, E14, T14, F14⟩ := KX3.out w14 B14'.out
            have hkk : ((k : Int) == (0)) = true := by have := hnZL.out; simp; omega
            clear o13 o14 g13 g14 OS1 OE OF1 BE X14 E14 T14 F14
            go_wp2_with fail
            with_reducible refine Calls.mono C15.out ?_
            rintro e w15 ⟨rfl, b15⟩
            have B15 := hid (B14'.out.trans (b15.mono B14'.out.size))
            obtain ⟨X15, E15, T15, F15⟩ := KX3.out w15 B15.out
            have k0 := X15.c0
            have k1 := X15.c1
            have C16 := hid (CTX.out w15 E15.now T15)
            clear X15 E15 T15 F15 b15 C15
            go_wp2_with fail
            with_reducible refine Calls.mono C16.out ?_
            rintro e w16 ⟨rfl, b16⟩
            have B16 := hid (B15.out.trans (b16.mono B15.out.size))
            clear b16 k0 k1
            go_wp2
            go_ret
            exact ⟨rfl, (KX3.out _ B16.out).2.2.2⟩
      · have hce : ¬ cL - H = 0 := by omega
        have hce2 : ¬ cL ≤ H := by omega
        have hce3 : ¬ cL = H := by omega
        go_wp2_with fail
        rename_i KK hKK
        replace hKK := hid hKK
        apply cutT
        · intro REST
          go_region_held3 (fun w' => w'.cell? ⟨o, 0, none⟩ = some (.slice A1 n1 c1) ∧ w'.cell? ⟨o, 1, none⟩ = some (.slice A2 m2 c2))
            (first
              | go_keep
              | assumption
              | exact kx2 _ _)
            (first
              | (go_at_call 30; (with_reducible refine Calls.mono (CP.out (w5.drew) _ hd1) ?_); rintro e w7 ⟨A7, n7, c7, A8, m8, c8, AF, nF, cF, rfl, G7p, oF, hnq, b7⟩; have hB7 : Below w5.heap.size w5 w7 := hd1.trans (b7.mono hd1.size); have kx7 := KD6.out _ hB7; have G7 := G7p.mono hd1.size; have O7 := own_mono oF hd1.size)
              | (go_at_call 30; (with_reducible refine Calls.mono (CP.out ((w5.alloc (.cells #[.slice none 0 0, .slice none 0 0] 31)).drew) _ hd2) ?_); rintro e w7 ⟨A7, n7, c7, A8, m8, c8, AF, nF, cF, rfl, G7p, oF, hnq, b7⟩; have hB7 : Below w5.heap.size w5 w7 := hd2.trans (b7.mono hd2.size); have kx7 := KD6.out _ hB7; have G7 := G7p.mono hd2.size; have O7 := own_mono oF hd2.size; have hq : w5.heap.size ≤ w5.heap.size := Nat.le_refl _; have yx7 : Db w7 w5.heap.size (.slice none 0 0) (.slice none 0 0) := HX1.out.below b7 hX1; have yx0 := yx7.c0; have yx1 := yx7.c1; have yf0 := yx7.fz 0; have yf1 := yx7.fz 1; have kx2 := fun x y => KD6.out _ ((hB7.setCell (p := ⟨_, 0, none⟩) hq x).setCell (p := ⟨_, 1, none⟩) hq y)))
          · have VX := Db.new w7 (.slice A7 n7 c7) (.slice A8 m8 c8)
            have GX := G7.onto (grown_alloc w7 (.cells #[.slice A7 n7 c7, .slice A8 m8 c8] 31) none)
            have OX := own_kept_none O7 (grown_alloc w7 (.cells #[.slice A7 n7 c7, .slice A8 m8 c8] 31) none)
            have BX := hB7.alloc hB7.size (.cells #[.slice A7 n7 c7, .slice A8 m8 c8] 31)
            obtain ⟨V2, e⟩ : ∃ V, w7.alloc (.cells #[.slice A7 n7 c7, .slice A8 m8 c8] 31) = V := ⟨_, rfl⟩
            rw [e] at VX GX OX BX ⊢
            obtain ⟨s, hqq⟩ : ∃ s, w7.heap.size = s := ⟨_, rfl⟩
            rw [hqq] at VX ⊢
            rename_i hh
            clear hh e hqq G7p G7 O7 oF
            revert BX
            revert hnq
            revert OX
            revert GX
            revert VX
            revert s
            revert V2
            revert cF
            revert nF
            revert AF
            revert c8
            revert m8
            revert A8
            revert c7
            revert n7
            revert A7
            exact REST.out
          all_goals exact REST.out A7 n7 c7 A8 m8 c8 AF nF cF _ _ (yx7.set _ _) (G7.box2 yx7 _ _) (own_box2 O7 yx7 (by decide) _ _) hnq ((hB7.setCell (p := ⟨_, 0, none⟩) hq _).setCell (p := ⟨_, 1, none⟩) hq _)
        intro A7 n7 c7 A8 m8 c8 AF nF cF V2 s VX GX OX hnq BX
        have hnF : nF ≤ 40 := hnq
        refine hKK.out _ _ ?_
        clear hd1 hd2 hX1 HX1 d0 d1 hKK hnq
        have hsv := VX.lt
        have H7 := hid (H6.out.trans (BX.mono z6))
        have z7 : V.heap.size ≤ V2.heap.size := H7.out.size
        have zw2 := BX.size
        have KS := hid (fun (W' : World) (hW : Below V2.heap.size V2 W') => show W'.cell? ⟨s, 0, none⟩ = some (.slice A7 n7 c7) ∧ W'.cell? ⟨s, 1, none⟩ = some (.slice A8 m8 c8) from by
          have h := VX.below hW hsv
          exact ⟨h.c0, h.c1⟩)
        have KY := hid (fun (W' : World) (hW : Below V2.heap.size V2 W') => (GX.on hW).read)
        have KF := hid (fun (W' : World) (hW : Below V2.heap.size V2 W') => own_on2 OX hW)
        have KT := hid (fun (W' : World) (hW : Below V2.heap.size V2 W') => show SlT W' W'.heap.size (some ⟨g, H, none⟩) (nL - H) (L.drop H) from by
          have h := KL.out W' (KW.out _ (H7.out.trans (hW.mono z7)))
          have h2 := h.dropK hHn
          rwa [Nat.zero_add] at h2)
        have KTT := hid (fun (W' : World) (hW : Below V2.heap.size V2 W') => KTB.out W' (KW.out _ (H7.out.trans (hW.mono z7))))
        obtain ⟨s0, s1⟩ := KS.out V2 (Below.refl _ _)
        have hd1 : Below V2.heap.size V2 V2.drew := (Below.refl V2.heap.size V2).drew
        have gW1 : V2.grownBy (V2.alloc (.cells #[.slice none 0 0, .slice none 0 0] 31)).drew none := (grown_alloc V2 (.cells #[.slice none 0 0, .slice none 0 0] 31) none).trans (drewN_gA _ 1)
        have hd2 : Below V2.heap.size V2 (V2.alloc (.cells #[.slice none 0 0, .slice none 0 0] 31)).drew := below_grown gW1
        have X1 : Db (V2.alloc (.cells #[.slice none 0 0, .slice none 0 0] 31)).drew V2.heap.size (.slice none 0 0) (.slice none 0 0) := Db.new V2 (.slice none 0 0) (.slice none 0 0)
        have hX1 : V2.heap.size < (V2.alloc (.cells #[.slice none 0 0, .slice none 0 0] 31)).drew.heap.size := by show V2.heap.size < (V2.alloc (.cells #[.slice none 0 0, .slice none 0 0] 31)).heap.size; simp
        have HX1 := hid X1
        clear X1 gW1 VX GX OX BX hsv v0 v1
        go_wp2_with fail
        rename_i KK2 hKK2
        replace hKK2 := hid hKK2
        apply cutT
        · intro REST
          go_region_held3 (fun w' => w'.cell? ⟨s, 0, none⟩ = some (.slice A7 n7 c7) ∧ w'.cell? ⟨s, 1, none⟩ = some (.slice A8 m8 c8))
            (first
              | go_keep
              | assumption
              | exact kx2 _ _)
            (first
              | (go_at_call 30; (with_reducible refine Calls.mono (CQ.out (V2.drew) _ _ _ _ _ _ _ _ _ (KY.out _ hd1) (KT.out _ hd1) (KTT.out _ hd1)) ?_); rintro e w7 ⟨A9, n9, c9, A10, m10, c10, AS, nS, cS, rfl, G7p, oF, hnq, b7⟩; have hB7 : Below V2.heap.size V2 w7 := hd1.trans (b7.mono hd1.size); have kx7 := KS.out _ hB7; have G7 := G7p.mono hd1.size; have O7 := own_mono oF hd1.size)
              | (go_at_call 30; (with_reducible refine Calls.mono (CQ.out ((V2.alloc (.cells #[.slice none 0 0, .slice none 0 0] 31)).drew) _ _ _ _ _ _ _ _ _ (KY.out _ hd2) (KT.out _ hd2) (KTT.out _ hd2)) ?_); rintro e w7 ⟨A9, n9, c9, A10, m10, c10, AS, nS, cS, rfl, G7p, oF, hnq, b7⟩; have hB7 : Below V2.heap.size V2 w7 := hd2.trans (b7.mono hd2.size); have kx7 := KS.out _ hB7; have G7 := G7p.mono hd2.size; have O7 := own_mono oF hd2.size; have hq : V2.heap.size ≤ V2.heap.size := Nat.le_refl _; have yx7 : Db w7 V2.heap.size (.slice none 0 0) (.slice none 0 0) := HX1.out.below b7 hX1; have yx0 := yx7.c0; have yx1 := yx7.c1; have yf0 := yx7.fz 0; have yf1 := yx7.fz 1; have kx2 := fun x y => KS.out _ ((hB7.setCell (p := ⟨_, 0, none⟩) hq x).setCell (p := ⟨_, 1, none⟩) hq y)))
          · have VX := Db.new w7 (.slice A9 n9 c9) (.slice A10 m10 c10)
            have GX := G7.onto (grown_alloc w7 (.cells #[.slice A9 n9 c9, .slice A10 m10 c10] 31) none)
            have OX := own_kept_none O7 (grown_alloc w7 (.cells #[.slice A9 n9 c9, .slice A10 m10 c10] 31) none)
            have BX := hB7.alloc hB7.size (.cells #[.slice A9 n9 c9, .slice A10 m10 c10] 31)
            obtain ⟨V3, e⟩ : ∃ V, w7.alloc (.cells #[.slice A9 n9 c9, .slice A10 m10 c10] 31) = V := ⟨_, rfl⟩
            rw [e] at VX GX OX BX ⊢
            obtain ⟨s3, hqq⟩ : ∃ s, w7.heap.size = s := ⟨_, rfl⟩
            rw [hqq] at VX ⊢
            rename_i hh
            clear hh e hqq G7p G7 O7 oF
            revert BX
            revert hnq
            revert OX
            revert GX
            revert VX
            revert s3
            revert V3
            revert cS
            revert nS
            revert AS
            revert c10
            revert m10
            revert A10
            revert c9
            revert n9
            revert A9
            exact REST.out
          all_goals exact REST.out A9 n9 c9 A10 m10 c10 AS nS cS _ _ (yx7.set _ _) (G7.box2 yx7 _ _) (own_box2 O7 yx7 (by decide) _ _) hnq ((hB7.setCell (p := ⟨_, 0, none⟩) hq _).setCell (p := ⟨_, 1, none⟩) hq _)
        intro A9 n9 c9 A10 m10 c10 AS nS cS V3 s3 VX GX OX hnq BX
        have hnS : nS ≤ 40 := hnq
        refine hKK2.out _ _ ?_
        clear hd1 hd2 hX1 HX1 s0 s1 hKK2 hnq
        have hsv := VX.lt
        have H8 := hid (H7.out.trans (BX.mono z7))
        have z8 : V.heap.size ≤ V3.heap.size := H8.out.size
        have zw3 := BX.size
        have KS3 := hid (fun (W' : World) (hW : Below V3.heap.size V3 W') => VX.below hW hsv)
        have KY3 := hid (fun (W' : World) (hW : Below V3.heap.size V3 W') => (GX.on hW).read)
        have KFS := hid (fun (W' : World) (hW : Below V3.heap.size V3 W') => show W'.ownsRow w5.heap.size 9 1 (.slice AF nF cF) nF (strs Z1) ∧ W'.ownsRow V2.heap.size 9 1 (.slice AS nS cS) nS (strs Z2) from ⟨KF.out W' (BX.trans (hW.mono BX.size)), own_on2 OX hW⟩)
        have KZ3 := hid (fun (W' : World) (hW : Below V3.heap.size V3 W') => KZ.out W' (H8.out.trans (hW.mono z8)))
        have KX3 := hid (fun (W' : World) (hW : Below V3.heap.size V3 W') => show Db W' p (.slice A3 n3 c3) (.slice A4 m4 c4) ∧ DkR W' W'.heap.size A3 n3 c3 A4 m4 c4 Q ∧ TabsL W' ∧ Below w.heap.size w W' from ⟨KX.out W' (H8.out.trans (hW.mono z8)), KE.out W' (H8.out.trans (hW.mono z8)), KTB.out W' (KW.out _ (H8.out.trans (hW.mono z8))), HB.out.trans ((KW.out _ (H8.out.trans (hW.mono z8))).mono HB.out.size)⟩)
        have hZslt := (SlT.of_own (KZ3.out V3 (Below.refl _ _)))
        have hnZi : (nZ : Int) ≤ 40 := by omega
        have HSLT := hid hZslt
        have CF9 := hid (fun (W' : World) (h : DkR W' W'.heap.size A3 n3 c3 A4 m4 c4 Q) (hT : TabsL W') => show Calls Tryz.prog 14 #[dsk A3 n3 c3 A4 m4 c4, .string ⟨#[102, 105, 114, 101, 32, 57]⟩] W' _ from implDeskLine_any A3 n3 c3 A4 m4 c4 Q wFire9 W' h (by decide) hT)
        have CRW := hid (fun (W' : World) (h : DkR W' W'.heap.size A3 n3 c3 A4 m4 c4 Q) (hT : TabsL W') => show Calls Tryz.prog 14 #[dsk A3 n3 c3 A4 m4 c4, .string ⟨#[114, 111, 119]⟩] W' _ from implDeskLine_any A3 n3 c3 A4 m4 c4 Q wRow W' h (by decide) hT)
        have CTX := hid (fun (W' : World) (h : Sl W' W'.heap.size A3 n3 Q.now) (hT : TabsL W') => implRowText_any A3 n3 c3 Q.now W' h hT.P)
        simp only [HF9.out] at CF9
        simp only [HRW.out] at CRW
        obtain ⟨tx, htx⟩ : ∃ x, rowTextOut Q.now = x := ⟨_, rfl⟩
        simp only [htx] at CRW CTX
        have htt : (tx == tx) = true := by simp
        have hff : (([50, 51] : List UInt8) == [50, 51]) = true := by decide
        clear VX GX OX BX hsv HF9 HRW htx hZslt CP CQ HLL HLL1 HLL2
        go_wp2_with fail
        go_loop [14] (fun i => ∃ k : Nat, i = .int .i64 k ∧ k ≤ nZ) (fun i => nZ - (intOf i).toNat)
        case atStart => exact ⟨0, rfl, Nat.zero_le _⟩
        case round =>
          obtain ⟨k, rfl, hk⟩ := hrel
          by_cases hlt : k < nZ
          · obtain ⟨bz, offz, hAZ, hbz, hcz⟩ := HSLT.out.at hlt
            have hkz : (k : Int) < (nZ : Int) := by omega
            have hk0 : (0 : Int) ≤ (k : Int) := by omega
            have hne : Z.getD k [] ≠ [] := HZN.out _ (by
              have hl := HSLT.out.len
              rw [List.getD_eq_getElem?_getD, List.getElem?_eq_getElem (by omega)]
              exact List.getElem_mem _)
            obtain ⟨zt, hzt⟩ : ∃ x, Z.getD k [] = x := ⟨_, rfl⟩
            rw [hzt] at hcz hne
            have hne1 : zt.isEmpty = false := by cases zt with | nil => exact absurd rfl hne | cons a b => rfl
            have hne2 : (zt == ([] : List UInt8)) = false := by rw [beq_eq_false_iff_ne]; exact hne
            have hne3 : (([] : List UInt8) == zt) = false := by rw [beq_eq_false_iff_ne]; exact fun e => hne e.symm
            subst hAZ
            clear hzt hne
            go_wp2
            go_round
            case rel => exact ⟨k + 1, by go_num, by omega⟩
            case measure => simp [intOf]; omega
          · obtain rfl : k = nZ := by omega
            obtain ⟨X3, E3', T3, F3'⟩ := KX3.out V3 (Below.refl _ _)
            have k0 := X3.c0
            have k1 := X3.c1
            have C9 := hid (CF9.out V3 E3' T3)
            have hlz : ¬ (k : Int) < (k : Int) := by omega
            clear X3 E3' T3 F3' hnZi
            go_wp2_with fail
            with_reducible refine Calls.mono C9.out ?_
            rintro e w8 ⟨A11, n11, c11, A12, m12, c12, rfl, Y8, b8⟩
            obtain ⟨W9, e9⟩ : ∃ W, w8.alloc (.cells #[.slice A11 n11 c11, .slice A12 m12 c12] 31) = W := ⟨_, rfl⟩
            have g9 : w8.grownBy W9 none := by rw [← e9]; exact grown_alloc _ _ _
            have B9 := hid (b8.trans ((below_grown g9).mono b8.size))
            obtain ⟨X9, E9, T9, F9⟩ := KX3.out W9 B9.out
            have l0 := X9.c0
            have l1 := X9.c1
            have C10 := hid (CRW.out W9 E9 T9)
            clear X9 E9 T9 F9 Y8 b8 g9 C9 k0 k1
            go_wp2_with fail
            clear e9
            with_reducible refine Calls.mono C10.out ?_
            rintro e w10 ⟨A13, n13, c13, A14, m14, c14, rfl, Y10, b10⟩
            obtain ⟨W11, e11⟩ : ∃ W, w10.alloc (.cells #[.slice A13 n13 c13, .slice A14 m14 c14] 31) = W := ⟨_, rfl⟩
            have g11 : w10.grownBy W11 none := by rw [← e11]; exact grown_alloc _ _ _
            have B11 := hid (B9.out.trans ((b10.trans ((below_grown g11).mono b10.size)).mono B9.out.size))
            obtain ⟨X11, E11, T11, F11⟩ := KX3.out W11 B11.out
            have k0 := X11.c0
            have k1 := X11.c1
            have Z11 := KS3.out W11 B11.out
            have k2 := Z11.c0
            have k3 := Z11.c1
            have C12 := hid (sameDesk_any A9 n9 c9 A10 m10 c10 A3 n3 c3 A4 m4 c4 Q Q W11 (KY3.out _ B11.out) E11)
            rw [sameB_refl] at C12
            clear X11 E11 T11 F11 Y10 b10 g11 C10 l0 l1 Z11
            go_wp2_with fail
            clear e11
            with_reducible refine Calls.mono C12.out ?_
            rintro e w12 ⟨rfl, b12⟩
            have B12 := hid (B11.out.trans (b12.mono B11.out.size))
            have zB12 := B12.out.size
            have gE := grown_alloc w12 (.cells #[] 9) none
            have OE : (w12.alloc (.cells #[] 9)).ownsRow w12.heap.size 9 1 (.slice (some ⟨w12.heap.size, 0, none⟩) 0 0) 0 (strs []) := World.ownsRow_lit w12 #[] 0 (Nat.le_refl _) (by simp [maxLen]) rfl
            obtain ⟨OF, OS⟩ := KFS.out w12 B12.out
            have OF1 := own_kept_none OF gE
            have HOS := hid OS
            have BE := hid ((Below.refl w12.heap.size w12).alloc (Nat.le_refl _) (.cells #[] 9))
            have hOFb := OF.lt
            have hOSb := OS.lt
            clear OF OS gE b12 C12 k0 k1 k2 k3
            go_wp2_with (first
              | (at_builtin; refine append_strs (by rfl) _ _ 53 rfl w12.heap.size 9 i0 Tryz.underlying53 hi hz0 hz1 hz2 (.slice (some ⟨w12.heap.size, 0, none⟩) 0 0) 0 [] rfl OE AF nF cF _ Z1 rfl OF1 (by omega) (by simp) ?_; intro v13 w13 o13 g13; have hv13 := own_lo o13; rw [List.nil_append, Nat.zero_add] at o13; have B13 := hid (BE.out.grown g13 (by simp) (by intro j hj; simp [Value.ownBlock] at hj; omega)); have OS1 := own_on2 HOS.out B13.out; have zB13 := B13.out.size)
              | (at_builtin; refine append_strs (by rfl) _ _ 53 rfl w12.heap.size 9 i0 Tryz.underlying53 hi hz0 hz1 hz2 v13 nF Z1 rfl o13 AS nS cS _ Z2 rfl OS1 (by omega) (by omega) ?_; intro v14 w14 o14 g14))
            rw [HPS.out] at o14
            have B14 := hid (B13.out.grown g14 zB13 (fun j hj => hv13 j hj))
            obtain ⟨A15, c15, rfl⟩ := own_shapeT o14
            have B14' := hid (B12.out.trans (B14.out.mono zB12))
            have C15 := hid (sameTexts_any A15 AZ (nF + nS) c15 k cZ Z w14 (SlT.of_own o14) (SlT.of_own (KZ3.out _ B14'.out)))
            obtain ⟨X14, E14, T14, F14⟩ := KX3.out w14 B14'.out
            have hkk : ((k : Int) == ((nL : Int))) = true := by have := hnZL.out; simp; omega
            clear o13 o14 g13 g14 OS1 OE OF1 BE X14 E14 T14 F14
            go_wp2_with fail
            with_reducible refine Calls.mono C15.out ?_
            rintro e w15 ⟨rfl, b15⟩
            have B15 := hid (B14'.out.trans (b15.mono B14'.out.size))
            obtain ⟨X15, E15, T15, F15⟩ := KX3.out w15 B15.out
            have k0 := X15.c0
            have k1 := X15.c1
            have C16 := hid (CTX.out w15 E15.now T15)
            clear X15 E15 T15 F15 b15 C15
            go_wp2_with fail
            with_reducible refine Calls.mono C16.out ?_
            rintro e w16 ⟨rfl, b16⟩
            have B16 := hid (B15.out.trans (b16.mono B15.out.size))
            clear b16 k0 k1
            go_wp2
            go_ret
            exact ⟨rfl, (KX3.out _ B16.out).2.2.2⟩
  · have hbad : sayOk D L = false := by
      rw [HRO.out]
      cases dk with
      | false => rfl
      | true => simp at hgood ⊢; omega
    have he := HNO.out hbad
    injection he with he1 he2
    subst he1
    subst he2
    have hnz0 : nZ = 0 := by have h1 := (SlT.of_own (KZ.out _ H6.out)).len; simpa using h1.symm
    subst hnz0
    have C7 := hid (noDesk_any A3 n3 c3 A4 m4 c4 noDk w5 (KE.out _ H6.out))
    rw [sameB_refl] at C7
    have hcond : dk = false ∨ (dk = true ∧ (40 : Int) < (nL : Int)) := by
      cases dk with
      | false => exact .inl rfl
      | true => exact .inr ⟨rfl, by simp at hgood; omega⟩
    clear hgood hbad
    rcases hcond with rfl | ⟨rfl, h40⟩
    · go_wp2_with fail
      with_reducible refine Calls.mono C7.out ?_
      rintro e w6 ⟨rfl, b6⟩
      have H7 := hid (H6.out.trans (b6.mono z6))
      clear b6
      go_wp2_with fail
      refine (alive_any _).mono ?_
      rintro e w7 ⟨rfl, b7⟩
      have H8 := hid (H7.out.trans (b7.mono H7.out.size))
      clear b7
      go_wp2
      go_ret
      exact ⟨rfl, HB.out.trans ((KW.out _ H8.out).mono HB.out.size)⟩
    · go_wp2_with fail
      with_reducible refine Calls.mono C7.out ?_
      rintro e w6 ⟨rfl, b6⟩
      have H7 := hid (H6.out.trans (b6.mono z6))
      clear b6
      go_wp2_with fail
      refine (alive_any _).mono ?_
      rintro e w7 ⟨rfl, b7⟩
      have H8 := hid (H7.out.trans (b7.mono H7.out.size))
      clear b7
      go_wp2
      go_ret
      exact ⟨rfl, HB.out.trans ((KW.out _ H8.out).mono HB.out.size)⟩
end Go.Proofs.YtkejcajboneniabGreatDoor
