/-
  The walk of laws.FnDeskRun. No statement is proved here.
-/
import Derived.Test.YtkejcajboneniaaM9
import Derived.Test.YtkejcajboneniaaM7
import Derived.Test.YtkejcajboneniaaM1
import Derived.Deep.RegionHeld3
namespace Go.Proofs.Ytkejcajboneniaa
open Go.RowKit
set_option linter.unusedVariables false
set_option linter.unusedSimpArgs false

theorem cutT {T G : Prop} (h : Hid T → G) (r : T) : G := h (hid r)
theorem flat_take : ∀ (l : List (Int × Int)) (k : Nat), flat (l.take k) = (flat l).take (2 * k)
  | [], k => by simp [flat]
  | a :: l, 0 => by simp [flat]
  | a :: l, k + 1 => by
    rw [List.take_succ_cons, show 2 * (k + 1) = 2 * k + 1 + 1 by omega]
    simp only [flat, List.take_succ_cons]
    rw [flat_take l k]
theorem flat_drop : ∀ (l : List (Int × Int)) (k : Nat), flat (l.drop k) = (flat l).drop (2 * k)
  | [], k => by simp [flat]
  | a :: l, 0 => by simp
  | a :: l, k + 1 => by
    rw [List.drop_succ_cons, show 2 * (k + 1) = 2 * k + 1 + 1 by omega]
    simp only [flat, List.drop_succ_cons]
    rw [flat_drop l k]
theorem SlD.takeK {w : World} {B n k : Nat} {A : Option Addr} {l : List (Int × Int)} (h : SlD w B A n l) (hk : k ≤ n) : SlD w B A k (l.take k) := by
  refine ⟨by rw [List.length_take, h.1]; omega, by have := h.2.1; omega, fun h0 => ?_⟩
  obtain ⟨b, off, e, hb, hc⟩ := h.2.2 (by omega)
  refine ⟨b, off, e, hb, fun j hj => ?_⟩
  rw [hc j (by omega), flat_take]
  simp [nth, List.getD, List.getElem?_take, hj]
theorem SlD.dropK {w : World} {B n k b off : Nat} {l : List (Int × Int)} (h : SlD w B (some ⟨b, off, none⟩) n l) (hk : k ≤ n) : SlD w B (some ⟨b, off + k * 2, none⟩) (n - k) (l.drop k) := by
  refine ⟨by rw [List.length_drop, h.1], by have := h.2.1; omega, fun h0 => ?_⟩
  obtain ⟨b', off', e, hb, hc⟩ := h.2.2 (by omega)
  injection e with e
  injection e with e1 e2 e3
  subst e1; subst e2
  refine ⟨b, off + k * 2, rfl, hb, fun j hj => ?_⟩
  have hh := hc (k * 2 + j) (by omega)
  rw [← Nat.add_assoc] at hh
  rw [hh, flat_drop]
  simp [nth, List.getD, List.getElem?_drop, Nat.mul_comm]
theorem run_parts {D : Dk} {l : List (Int × Int)} {k : Nat} (h : runOk D l = true) : runOut (runOut D (l.take k)).1 (l.drop k) = ((runOut D l).1, (runOut (runOut D (l.take k)).1 (l.drop k)).2) ∧ (runOut D (l.take k)).2 + (runOut (runOut D (l.take k)).1 (l.drop k)).2 = (runOut D l).2 ∧ deskOk (runOut D l).1 = true ∧ (runOut D l).2 ≤ 40 ∧ deskOk D = true ∧ l.length ≤ 40 := by
  have h' := h
  unfold runOk at h'
  rw [Bool.and_eq_true] at h'
  have hl : l.length ≤ 40 := by simpa using h'.2
  have h1 : runOk D (l.take k) = true := by unfold runOk; rw [h'.1]; simp; omega
  have e1 : runOut D (l.take k) = runL D (l.take k) := by unfold runOut; rw [if_pos h1]
  have hok := run_ok h'.1 (l.take k)
  have h2 : runOk (runL D (l.take k)).1 (l.drop k) = true := by unfold runOk; rw [hok]; simp; omega
  have e2 : runOut (runL D (l.take k)).1 (l.drop k) = runL (runL D (l.take k)).1 (l.drop k) := by unfold runOut; rw [if_pos h2]
  have e3 : runOut D l = runL D l := by unfold runOut; rw [if_pos h]
  have ha := run_append D (l.take k) (l.drop k)
  rw [List.take_append_drop] at ha
  have hle := run_le D l
  rw [e1, e2, e3, ha]
  refine ⟨rfl, rfl, ?_, by rw [ha] at hle; simp only at hle ⊢; omega, h'.1, hl⟩
  have := run_ok h'.1 l
  rw [ha] at this
  exact this
theorem run_none {D : Dk} {l : List (Int × Int)} (h : runOk D l = false) : runOut D l = (noDk, 0) := by unfold runOut; rw [if_neg (by rw [h]; simp)]

set_option maxRecDepth 100000 in
set_option maxHeartbeats 6400000 in
theorem fnDeskRun_walk (A : Option Addr) (n c : Nat) (w : World) (hs : By w w.heap.size A n) (hc : n ≤ c) :
    Calls Try.prog 9 #[.slice A n c] w fun e w' => e = .returned (.bool true) ∧ Below w.heap.size w w' := by
  have hm := hs.1
  by_cases hbig : 1048576 < n
  · go_enter Try.func9, Try.ntmps9
    go_wp2
    go_ret
    exact ⟨rfl, Below.refl _ _⟩
  go_enter Try.func9, Try.ntmps9
  go_wp2_with fail
  refine (drawDeskRun_any A n c _ hs hc).mono ?_
  rintro e w1 ⟨A1, n1, c1, A2, m2, c2, D, AL, nL, cL, L, rfl, F1, oL, hn1, hm2, hnL, b1⟩
  clear hs hc hbig hm
  obtain ⟨W, eW⟩ : ∃ W, w1.alloc (.cells #[.slice A1 n1 c1, .slice A2 m2 c2] 26) = W := ⟨_, rfl⟩
  have gW : w1.grownBy W none := by rw [← eW]; exact grown_alloc _ _ _
  have XD : Db W w1.heap.size (.slice A1 n1 c1) (.slice A2 m2 c2) := by rw [← eW]; exact Db.new w1 _ _
  have FW := F1.onto gW
  have OW := own_on2 oL (below_grown gW)
  have HB := hid (b1.trans ((below_grown gW).mono b1.size))
  obtain ⟨o, ho⟩ : ∃ o, w1.heap.size = o := ⟨_, rfl⟩
  rw [ho] at XD
  have KD := hid (fun (W' : World) (hW : Below W.heap.size W W') => XD.below hW XD.lt)
  have KR := hid (fun (W' : World) (hW : Below W.heap.size W W') => (FW.read).on hW)
  have KL := hid (fun (W' : World) (hW : Below W.heap.size W W') => (SlD.of_own OW).on hW)
  have hlen := (SlD.of_own OW).len
  have HLEN := hid hlen
  -- where the deeds lie
  have HAL : (AL = none ∧ nL = 0 ∧ cL = 0) ∨ ∃ g, AL = some ⟨g, 0, none⟩ ∧ nL ≤ cL ∧ cL ≤ 9223372036854775807 := by
    rcases OW.2 with ⟨h1, h2⟩ | ⟨g, cap, cur, hv, _, _, h3, h4, _⟩
    · injection h1 with e1 e2 e3
      exact .inl ⟨e1, e2, e3⟩
    · injection hv with e1 e2 e3
      subst e3
      exact .inr ⟨g, e1, h3, h4⟩
  have x0 := XD.c0
  have x1 := XD.c1
  have C2 := hid (implDeskRun_any A1 n1 c1 A2 m2 c2 D AL nL cL L W FW.read (SlD.of_own OW))
  have CS := hid (fun (W' : World) (h : DkR W' W'.heap.size A1 n1 c1 A2 m2 c2 D) (h2 : SlD W' W'.heap.size AL nL L) => specDeskRun_any A1 n1 c1 A2 m2 c2 D AL nL cL L W' h h2)
  have CK := hid (fun (W' : World) (h : DkR W' W'.heap.size A1 n1 c1 A2 m2 c2 D) => specDeskOk_any A1 n1 c1 A2 m2 c2 D W' h)
  have HP := hid (run_parts (D := D) (l := L) (k := nL / 2))
  have HNO := hid (run_none (D := D) (l := L))
  have HRO := hid (show runOk D L = (deskOk D && decide (nL ≤ 40)) by unfold runOk; rw [hlen])
  have HAL' := hid HAL
  obtain ⟨E, N, hE⟩ : ∃ E b, runOut D L = (E, b) := ⟨_, _, rfl⟩
  simp only [hE] at C2 CS HP HNO
  have hnn : ((N : Int) != (N : Int)) = false := by simp
  clear hE gW XD FW OW F1 oL b1 HAL hlen
  go_wp2_with fail
  clear eW ho
  with_reducible refine Calls.mono C2.out ?_
  rintro e w2 ⟨A3, n3, c3, A4, m4, c4, rfl, Y2, b2⟩
  obtain ⟨V, eV⟩ : ∃ W, w2.alloc (.cells #[.slice A3 n3 c3, .slice A4 m4 c4] 26) = W := ⟨_, rfl⟩
  have gV : w2.grownBy V none := by rw [← eV]; exact grown_alloc _ _ _
  have XV : Db V w2.heap.size (.slice A3 n3 c3) (.slice A4 m4 c4) := by rw [← eV]; exact Db.new _ _ _
  have YV := Y2.onto gV
  have bV := b2.trans ((below_grown gV).mono b2.size)
  obtain ⟨p, hp⟩ : ∃ o, w2.heap.size = o := ⟨_, rfl⟩
  rw [hp] at XV
  have KX := hid (fun (W' : World) (hW : Below V.heap.size V W') => XV.below hW XV.lt)
  have KE := hid (fun (W' : World) (hW : Below V.heap.size V W') => (YV.read).on hW)
  have KW := hid (fun (W' : World) (hW : Below V.heap.size V W') => bV.trans (hW.mono bV.size))
  have C3 := hid (CS.out V (KR.out V bV) (KL.out V bV))
  have XW := KD.out V bV
  have y0 := XW.c0
  have y1 := XW.c1
  clear x0 x1 YV XV gV Y2 b2 bV C2 XW
  go_wp2_with fail
  clear eV hp
  with_reducible refine Calls.mono C3.out ?_
  rintro e w3 ⟨A5, n5, c5, A6, m6, c6, rfl, F3, b3⟩
  obtain ⟨U, eU⟩ : ∃ W, w3.alloc (.cells #[.slice A5 n5 c5, .slice A6 m6 c6] 26) = W := ⟨_, rfl⟩
  have gU : w3.grownBy U none := by rw [← eU]; exact grown_alloc _ _ _
  have XU : Db U w3.heap.size (.slice A5 n5 c5) (.slice A6 m6 c6) := by rw [← eU]; exact Db.new _ _ _
  have GU := F3.onto gU
  have bU := b3.trans ((below_grown gU).mono b3.size)
  obtain ⟨q, hq⟩ : ∃ o, w3.heap.size = o := ⟨_, rfl⟩
  rw [hq] at XU
  have XX := KX.out U bU
  have x0 := XX.c0
  have x1 := XX.c1
  have x2 := XU.c0
  have x3 := XU.c1
  have C4 := hid (sameDesk_any A3 n3 c3 A4 m4 c4 A5 n5 c5 A6 m6 c6 E E U (KE.out U bU) GU.read)
  rw [sameB_refl] at C4
  have H4 := hid bU
  clear y0 y1 GU XU gU F3 b3 bU C3 XX CS
  go_wp2_with fail
  clear eU hq
  with_reducible refine Calls.mono C4.out ?_
  rintro e w4 ⟨rfl, b4⟩
  have HB4 := H4.out.trans (b4.mono H4.out.size)
  have D4 := KD.out _ (KW.out _ HB4)
  have u2 := D4.c0
  have u3 := D4.c1
  have H5 := hid HB4
  have z5 := HB4.size
  have zV : W.heap.size ≤ V.heap.size := (KW.out V (Below.refl _ _)).size
  have C5 := hid (CK.out w4 (KR.out _ (KW.out _ HB4)))
  clear x0 x1 x2 x3 D4 b4 HB4 C4 H4
  obtain ⟨dk, hdk⟩ : ∃ b, deskOk D = b := ⟨_, rfl⟩
  rw [hdk] at C5 HRO
  clear hdk CK
  go_wp2_with fail
  with_reducible refine Calls.mono C5.out ?_
  rintro e w5 ⟨rfl, g5⟩
  have H6 := hid (H5.out.trans ((below_grown g5).mono z5))
  clear g5 C5 u2 u3
  have X6 := KX.out _ H6.out
  have v0 := X6.c0
  have v1 := X6.c1
  have z6 := H6.out.size
  clear X6
  by_cases hgood : dk = true ∧ nL ≤ 40
  · obtain ⟨rfl, h40⟩ := hgood
    have h40i : ¬ (40 : Int) < (nL : Int) := by omega
    have h40d : decide ((40 : Int) < (nL : Int)) = false := by simp; omega
    have hro : runOk D L = true := by rw [HRO.out]; simp [h40]
    have hp := HP.out hro
    obtain ⟨H, hH⟩ : ∃ H, nL / 2 = H := ⟨_, rfl⟩
    have hHn : H ≤ nL := by omega
    have htd : (nL : Int).tdiv 2 = (H : Int) := by rw [Int.tdiv_eq_ediv_of_nonneg (by omega)]; omega
    rw [hH] at hp
    obtain ⟨P, p1, hP⟩ : ∃ X b, runOut D (L.take H) = (X, b) := ⟨_, _, rfl⟩
    simp only [hP] at hp
    obtain ⟨Q, q1, hQ⟩ : ∃ X b, runOut P (L.drop H) = (X, b) := ⟨_, _, rfl⟩
    simp only [hQ] at hp
    obtain ⟨hp1, hp2, hp3, hp4, hp5, hp6⟩ := hp
    injection hp1 with hp1
    subst hp1
    have HPS := hid hp2
    have HEK := hid hp3
    have h40n : N ≤ 40 := hp4
    have hpn : p1 ≤ 40 ∧ q1 ≤ 40 := by omega
    have hpn1 := hpn.1
    have hpn2 := hpn.2
    clear hp2 hp3 hp4 hp5 hp6 hpn hro HP HNO HRO
    -- the first part
    have CP := hid (fun (W' : World) (cc : Nat) (hW : Below w5.heap.size w5 W') => implDeskRun_any A1 n1 c1 A2 m2 c2 D AL H cc (L.take H) W' (KR.out W' (KW.out _ (H6.out.trans (hW.mono z6)))) ((KL.out W' (KW.out _ (H6.out.trans (hW.mono z6)))).takeK hHn))
    have CQ := hid (fun (W' : World) (Aa : Option Addr) (na ca : Nat) (Ab : Option Addr) (ma cb : Nat) (AT : Option Addr) (nT cT : Nat) (h0 : DkR W' W'.heap.size Aa na ca Ab ma cb P) (h1 : SlD W' W'.heap.size AT nT (L.drop H)) => implDeskRun_any Aa na ca Ab ma cb P AT nT cT (L.drop H) W' h0 h1)
    simp only [hP] at CP
    simp only [hQ] at CQ
    clear hP hQ
    have KD6 := hid (fun (W' : World) (hW : Below w5.heap.size w5 W') => show W'.cell? ⟨o, 0, none⟩ = some (.slice A1 n1 c1) ∧ W'.cell? ⟨o, 1, none⟩ = some (.slice A2 m2 c2) from by
      have h := KD.out _ (KW.out _ (H6.out.trans (hW.mono z6)))
      exact ⟨h.c0, h.c1⟩)
    obtain ⟨d0, d1⟩ := KD6.out w5 (Below.refl _ _)
    have hd1 : Below w5.heap.size w5 w5.drew := (Below.refl w5.heap.size w5).drew
    have gW1 : w5.grownBy (w5.alloc (.cells #[.slice none 0 0, .slice none 0 0] 26)).drew none := (grown_alloc w5 (.cells #[.slice none 0 0, .slice none 0 0] 26) none).trans (drewN_gA _ 1)
    have hd2 : Below w5.heap.size w5 (w5.alloc (.cells #[.slice none 0 0, .slice none 0 0] 26)).drew := below_grown gW1
    have X1 : Db (w5.alloc (.cells #[.slice none 0 0, .slice none 0 0] 26)).drew w5.heap.size (.slice none 0 0) (.slice none 0 0) := Db.new w5 (.slice none 0 0) (.slice none 0 0)
    have hX1 : w5.heap.size < (w5.alloc (.cells #[.slice none 0 0, .slice none 0 0] 26)).drew.heap.size := by show w5.heap.size < (w5.alloc (.cells #[.slice none 0 0, .slice none 0 0] 26)).heap.size; simp
    have HX1 := hid X1
    clear X1 gW1
    have hHi : (H : Int) ≤ (nL : Int) := by omega
    have hH0 : (0 : Int) ≤ (H : Int) := by omega
    rcases HAL'.out with ⟨rfl, rfl, rfl⟩ | ⟨g, rfl, hcap1, hcap2⟩
    · obtain rfl : H = 0 := by omega
      go_wp2_with fail
      rename_i KK hKK
      replace hKK := hid hKK
      apply cutT
      · intro REST
        go_region_held3 (fun w' => w'.cell? ⟨o, 0, none⟩ = some (.slice A1 n1 c1) ∧ w'.cell? ⟨o, 1, none⟩ = some (.slice A2 m2 c2))
          (first
            | go_keep
            | assumption
            | exact kx2 _ _)
          (first
            | (go_at_call 36; (with_reducible refine Calls.mono (CP.out (w5.drew) _ hd1) ?_); rintro e w7 ⟨A7, n7, c7, A8, m8, c8, rfl, G7p, b7⟩; have hB7 : Below w5.heap.size w5 w7 := hd1.trans (b7.mono hd1.size); have kx7 := KD6.out _ hB7; have G7 := G7p.mono hd1.size)
            | (go_at_call 36; (with_reducible refine Calls.mono (CP.out ((w5.alloc (.cells #[.slice none 0 0, .slice none 0 0] 26)).drew) _ hd2) ?_); rintro e w7 ⟨A7, n7, c7, A8, m8, c8, rfl, G7p, b7⟩; have hB7 : Below w5.heap.size w5 w7 := hd2.trans (b7.mono hd2.size); have kx7 := KD6.out _ hB7; have G7 := G7p.mono hd2.size; have hq : w5.heap.size ≤ w5.heap.size := Nat.le_refl _; have yx7 : Db w7 w5.heap.size (.slice none 0 0) (.slice none 0 0) := HX1.out.below b7 hX1; have yx0 := yx7.c0; have yx1 := yx7.c1; have yf0 := yx7.fz 0; have yf1 := yx7.fz 1; have kx2 := fun x y => KD6.out _ ((hB7.setCell (p := ⟨_, 0, none⟩) hq x).setCell (p := ⟨_, 1, none⟩) hq y)))
        · have VX := Db.new w7 (.slice A7 n7 c7) (.slice A8 m8 c8)
          have GX := G7.onto (grown_alloc w7 (.cells #[.slice A7 n7 c7, .slice A8 m8 c8] 26) none)
          have BX := hB7.alloc hB7.size (.cells #[.slice A7 n7 c7, .slice A8 m8 c8] 26)
          obtain ⟨V2, e⟩ : ∃ V, w7.alloc (.cells #[.slice A7 n7 c7, .slice A8 m8 c8] 26) = V := ⟨_, rfl⟩
          rw [e] at VX GX BX ⊢
          obtain ⟨s, hqq⟩ : ∃ s, w7.heap.size = s := ⟨_, rfl⟩
          rw [hqq] at VX ⊢
          rename_i hh
          clear hh e hqq G7p G7
          revert BX
          revert GX
          revert VX
          revert s
          revert V2
          revert c8
          revert m8
          revert A8
          revert c7
          revert n7
          revert A7
          exact REST.out
        all_goals exact REST.out A7 n7 c7 A8 m8 c8 _ _ (yx7.set _ _) (G7.box2 yx7 _ _) ((hB7.setCell (p := ⟨_, 0, none⟩) hq _).setCell (p := ⟨_, 1, none⟩) hq _)
      intro A7 n7 c7 A8 m8 c8 V2 s VX GX BX
      refine hKK.out _ _ ?_
      clear hd1 hd2 hX1 HX1 d0 d1 hKK
      have hsv := VX.lt
      have H7 := hid (H6.out.trans (BX.mono z6))
      have z7 : V.heap.size ≤ V2.heap.size := H7.out.size
      have KS := hid (fun (W' : World) (hW : Below V2.heap.size V2 W') => show W'.cell? ⟨s, 0, none⟩ = some (.slice A7 n7 c7) ∧ W'.cell? ⟨s, 1, none⟩ = some (.slice A8 m8 c8) from by
        have h := VX.below hW hsv
        exact ⟨h.c0, h.c1⟩)
      have KY := hid (fun (W' : World) (hW : Below V2.heap.size V2 W') => (GX.on hW).read)
      have KT := hid (fun (W' : World) (hW : Below V2.heap.size V2 W') => show SlD W' W'.heap.size (none) (0) (L.drop 0) from by
        have h := KL.out W' (KW.out _ (H7.out.trans (hW.mono z7)))
        simpa using h)
      obtain ⟨s0, s1⟩ := KS.out V2 (Below.refl _ _)
      have hd1 : Below V2.heap.size V2 V2.drew := (Below.refl V2.heap.size V2).drew
      have gW1 : V2.grownBy (V2.alloc (.cells #[.slice none 0 0, .slice none 0 0] 26)).drew none := (grown_alloc V2 (.cells #[.slice none 0 0, .slice none 0 0] 26) none).trans (drewN_gA _ 1)
      have hd2 : Below V2.heap.size V2 (V2.alloc (.cells #[.slice none 0 0, .slice none 0 0] 26)).drew := below_grown gW1
      have X1 : Db (V2.alloc (.cells #[.slice none 0 0, .slice none 0 0] 26)).drew V2.heap.size (.slice none 0 0) (.slice none 0 0) := Db.new V2 (.slice none 0 0) (.slice none 0 0)
      have hX1 : V2.heap.size < (V2.alloc (.cells #[.slice none 0 0, .slice none 0 0] 26)).drew.heap.size := by show V2.heap.size < (V2.alloc (.cells #[.slice none 0 0, .slice none 0 0] 26)).heap.size; simp
      have HX1 := hid X1
      clear X1 gW1 VX GX BX hsv v0 v1
      go_wp2_with fail
      rename_i KK2 hKK2
      replace hKK2 := hid hKK2
      apply cutT
      · intro REST
        go_region_held3 (fun w' => w'.cell? ⟨s, 0, none⟩ = some (.slice A7 n7 c7) ∧ w'.cell? ⟨s, 1, none⟩ = some (.slice A8 m8 c8))
          (first
            | go_keep
            | assumption
            | exact kx2 _ _)
          (first
            | (go_at_call 36; (with_reducible refine Calls.mono (CQ.out (V2.drew) _ _ _ _ _ _ _ _ _ (KY.out _ hd1) (KT.out _ hd1)) ?_); rintro e w7 ⟨A9, n9, c9, A10, m10, c10, rfl, G7p, b7⟩; have hB7 : Below V2.heap.size V2 w7 := hd1.trans (b7.mono hd1.size); have kx7 := KS.out _ hB7; have G7 := G7p.mono hd1.size)
            | (go_at_call 36; (with_reducible refine Calls.mono (CQ.out ((V2.alloc (.cells #[.slice none 0 0, .slice none 0 0] 26)).drew) _ _ _ _ _ _ _ _ _ (KY.out _ hd2) (KT.out _ hd2)) ?_); rintro e w7 ⟨A9, n9, c9, A10, m10, c10, rfl, G7p, b7⟩; have hB7 : Below V2.heap.size V2 w7 := hd2.trans (b7.mono hd2.size); have kx7 := KS.out _ hB7; have G7 := G7p.mono hd2.size; have hq : V2.heap.size ≤ V2.heap.size := Nat.le_refl _; have yx7 : Db w7 V2.heap.size (.slice none 0 0) (.slice none 0 0) := HX1.out.below b7 hX1; have yx0 := yx7.c0; have yx1 := yx7.c1; have yf0 := yx7.fz 0; have yf1 := yx7.fz 1; have kx2 := fun x y => KS.out _ ((hB7.setCell (p := ⟨_, 0, none⟩) hq x).setCell (p := ⟨_, 1, none⟩) hq y)))
        · have VX := Db.new w7 (.slice A9 n9 c9) (.slice A10 m10 c10)
          have GX := G7.onto (grown_alloc w7 (.cells #[.slice A9 n9 c9, .slice A10 m10 c10] 26) none)
          have BX := hB7.alloc hB7.size (.cells #[.slice A9 n9 c9, .slice A10 m10 c10] 26)
          obtain ⟨V3, e⟩ : ∃ V, w7.alloc (.cells #[.slice A9 n9 c9, .slice A10 m10 c10] 26) = V := ⟨_, rfl⟩
          rw [e] at VX GX BX ⊢
          obtain ⟨s3, hqq⟩ : ∃ s, w7.heap.size = s := ⟨_, rfl⟩
          rw [hqq] at VX ⊢
          rename_i hh
          clear hh e hqq G7p G7
          revert BX
          revert GX
          revert VX
          revert s3
          revert V3
          revert c10
          revert m10
          revert A10
          revert c9
          revert n9
          revert A9
          exact REST.out
        all_goals exact REST.out A9 n9 c9 A10 m10 c10 _ _ (yx7.set _ _) (G7.box2 yx7 _ _) ((hB7.setCell (p := ⟨_, 0, none⟩) hq _).setCell (p := ⟨_, 1, none⟩) hq _)
      intro A9 n9 c9 A10 m10 c10 V3 s3 VX GX BX
      refine hKK2.out _ _ ?_
      clear hd1 hd2 hX1 HX1 s0 s1 hKK2
      have hsv := VX.lt
      have H8 := hid (H7.out.trans (BX.mono z7))
      have z8 : V.heap.size ≤ V3.heap.size := H8.out.size
      have KS3 := hid (fun (W' : World) (hW : Below V3.heap.size V3 W') => VX.below hW hsv)
      have KY3 := hid (fun (W' : World) (hW : Below V3.heap.size V3 W') => (GX.on hW).read)
      have X8 := KX.out _ H8.out
      have k0 := X8.c0
      have k1 := X8.c1
      have C9 := hid (implDeskOk_any A3 n3 c3 A4 m4 c4 Q V3 (KE.out _ H8.out))
      rw [HEK.out] at C9
      have hpe : (((p1 : Int) + (q1 : Int)) == (N : Int)) = true := by have := HPS.out; simp; omega
      clear VX GX BX hsv X8
      go_wp2_with fail
      with_reducible refine Calls.mono C9.out ?_
      rintro e w8 ⟨rfl, b8⟩
      have H9 := hid (H8.out.trans (b8.mono z8))
      have X9 := KX.out _ H9.out
      have l0 := X9.c0
      have l1 := X9.c1
      have Y9 := KS3.out _ b8
      have l2 := Y9.c0
      have l3 := Y9.c1
      have z9 := H9.out.size
      have C10 := hid (sameDesk_any A9 n9 c9 A10 m10 c10 A3 n3 c3 A4 m4 c4 Q Q w8 (KY3.out _ b8) (KE.out _ H9.out))
      rw [sameB_refl] at C10
      clear b8 k0 k1 X9 Y9 C9
      go_wp2_with fail
      with_reducible refine Calls.mono C10.out ?_
      rintro e w9 ⟨rfl, b9⟩
      have H10 := hid (H9.out.trans (b9.mono z9))
      clear b9 l0 l1 l2 l3 C10
      go_wp2
      go_ret
      exact ⟨rfl, HB.out.trans ((KW.out _ H10.out).mono HB.out.size)⟩
    · have hci : (nL : Int) ≤ (cL : Int) := by omega
      have hHc : (H : Int) ≤ (cL : Int) := by omega
      have hHcn : H ≤ cL := by omega
      by_cases hc0 : cL = 0
      · subst hc0
        obtain rfl : nL = 0 := by omega
        obtain rfl : H = 0 := by omega
        go_wp2_with fail
        rename_i KK hKK
        replace hKK := hid hKK
        apply cutT
        · intro REST
          go_region_held3 (fun w' => w'.cell? ⟨o, 0, none⟩ = some (.slice A1 n1 c1) ∧ w'.cell? ⟨o, 1, none⟩ = some (.slice A2 m2 c2))
            (first
              | go_keep
              | assumption
              | exact kx2 _ _)
            (first
              | (go_at_call 36; (with_reducible refine Calls.mono (CP.out (w5.drew) _ hd1) ?_); rintro e w7 ⟨A7, n7, c7, A8, m8, c8, rfl, G7p, b7⟩; have hB7 : Below w5.heap.size w5 w7 := hd1.trans (b7.mono hd1.size); have kx7 := KD6.out _ hB7; have G7 := G7p.mono hd1.size)
              | (go_at_call 36; (with_reducible refine Calls.mono (CP.out ((w5.alloc (.cells #[.slice none 0 0, .slice none 0 0] 26)).drew) _ hd2) ?_); rintro e w7 ⟨A7, n7, c7, A8, m8, c8, rfl, G7p, b7⟩; have hB7 : Below w5.heap.size w5 w7 := hd2.trans (b7.mono hd2.size); have kx7 := KD6.out _ hB7; have G7 := G7p.mono hd2.size; have hq : w5.heap.size ≤ w5.heap.size := Nat.le_refl _; have yx7 : Db w7 w5.heap.size (.slice none 0 0) (.slice none 0 0) := HX1.out.below b7 hX1; have yx0 := yx7.c0; have yx1 := yx7.c1; have yf0 := yx7.fz 0; have yf1 := yx7.fz 1; have kx2 := fun x y => KD6.out _ ((hB7.setCell (p := ⟨_, 0, none⟩) hq x).setCell (p := ⟨_, 1, none⟩) hq y)))
          · have VX := Db.new w7 (.slice A7 n7 c7) (.slice A8 m8 c8)
            have GX := G7.onto (grown_alloc w7 (.cells #[.slice A7 n7 c7, .slice A8 m8 c8] 26) none)
            have BX := hB7.alloc hB7.size (.cells #[.slice A7 n7 c7, .slice A8 m8 c8] 26)
            obtain ⟨V2, e⟩ : ∃ V, w7.alloc (.cells #[.slice A7 n7 c7, .slice A8 m8 c8] 26) = V := ⟨_, rfl⟩
            rw [e] at VX GX BX ⊢
            obtain ⟨s, hqq⟩ : ∃ s, w7.heap.size = s := ⟨_, rfl⟩
            rw [hqq] at VX ⊢
            rename_i hh
            clear hh e hqq G7p G7
            revert BX
            revert GX
            revert VX
            revert s
            revert V2
            revert c8
            revert m8
            revert A8
            revert c7
            revert n7
            revert A7
            exact REST.out
          all_goals exact REST.out A7 n7 c7 A8 m8 c8 _ _ (yx7.set _ _) (G7.box2 yx7 _ _) ((hB7.setCell (p := ⟨_, 0, none⟩) hq _).setCell (p := ⟨_, 1, none⟩) hq _)
        intro A7 n7 c7 A8 m8 c8 V2 s VX GX BX
        refine hKK.out _ _ ?_
        clear hd1 hd2 hX1 HX1 d0 d1 hKK
        have hsv := VX.lt
        have H7 := hid (H6.out.trans (BX.mono z6))
        have z7 : V.heap.size ≤ V2.heap.size := H7.out.size
        have KS := hid (fun (W' : World) (hW : Below V2.heap.size V2 W') => show W'.cell? ⟨s, 0, none⟩ = some (.slice A7 n7 c7) ∧ W'.cell? ⟨s, 1, none⟩ = some (.slice A8 m8 c8) from by
          have h := VX.below hW hsv
          exact ⟨h.c0, h.c1⟩)
        have KY := hid (fun (W' : World) (hW : Below V2.heap.size V2 W') => (GX.on hW).read)
        have KT := hid (fun (W' : World) (hW : Below V2.heap.size V2 W') => show SlD W' W'.heap.size (some ⟨g, 0, none⟩) (0) (L.drop 0) from by
          have h := KL.out W' (KW.out _ (H7.out.trans (hW.mono z7)))
          simpa using h)
        obtain ⟨s0, s1⟩ := KS.out V2 (Below.refl _ _)
        have hd1 : Below V2.heap.size V2 V2.drew := (Below.refl V2.heap.size V2).drew
        have gW1 : V2.grownBy (V2.alloc (.cells #[.slice none 0 0, .slice none 0 0] 26)).drew none := (grown_alloc V2 (.cells #[.slice none 0 0, .slice none 0 0] 26) none).trans (drewN_gA _ 1)
        have hd2 : Below V2.heap.size V2 (V2.alloc (.cells #[.slice none 0 0, .slice none 0 0] 26)).drew := below_grown gW1
        have X1 : Db (V2.alloc (.cells #[.slice none 0 0, .slice none 0 0] 26)).drew V2.heap.size (.slice none 0 0) (.slice none 0 0) := Db.new V2 (.slice none 0 0) (.slice none 0 0)
        have hX1 : V2.heap.size < (V2.alloc (.cells #[.slice none 0 0, .slice none 0 0] 26)).drew.heap.size := by show V2.heap.size < (V2.alloc (.cells #[.slice none 0 0, .slice none 0 0] 26)).heap.size; simp
        have HX1 := hid X1
        clear X1 gW1 VX GX BX hsv v0 v1
        go_wp2_with fail
        rename_i KK2 hKK2
        replace hKK2 := hid hKK2
        apply cutT
        · intro REST
          go_region_held3 (fun w' => w'.cell? ⟨s, 0, none⟩ = some (.slice A7 n7 c7) ∧ w'.cell? ⟨s, 1, none⟩ = some (.slice A8 m8 c8))
            (first
              | go_keep
              | assumption
              | exact kx2 _ _)
            (first
              | (go_at_call 36; (with_reducible refine Calls.mono (CQ.out (V2.drew) _ _ _ _ _ _ _ _ _ (KY.out _ hd1) (KT.out _ hd1)) ?_); rintro e w7 ⟨A9, n9, c9, A10, m10, c10, rfl, G7p, b7⟩; have hB7 : Below V2.heap.size V2 w7 := hd1.trans (b7.mono hd1.size); have kx7 := KS.out _ hB7; have G7 := G7p.mono hd1.size)
              | (go_at_call 36; (with_reducible refine Calls.mono (CQ.out ((V2.alloc (.cells #[.slice none 0 0, .slice none 0 0] 26)).drew) _ _ _ _ _ _ _ _ _ (KY.out _ hd2) (KT.out _ hd2)) ?_); rintro e w7 ⟨A9, n9, c9, A10, m10, c10, rfl, G7p, b7⟩; have hB7 : Below V2.heap.size V2 w7 := hd2.trans (b7.mono hd2.size); have kx7 := KS.out _ hB7; have G7 := G7p.mono hd2.size; have hq : V2.heap.size ≤ V2.heap.size := Nat.le_refl _; have yx7 : Db w7 V2.heap.size (.slice none 0 0) (.slice none 0 0) := HX1.out.below b7 hX1; have yx0 := yx7.c0; have yx1 := yx7.c1; have yf0 := yx7.fz 0; have yf1 := yx7.fz 1; have kx2 := fun x y => KS.out _ ((hB7.setCell (p := ⟨_, 0, none⟩) hq x).setCell (p := ⟨_, 1, none⟩) hq y)))
          · have VX := Db.new w7 (.slice A9 n9 c9) (.slice A10 m10 c10)
            have GX := G7.onto (grown_alloc w7 (.cells #[.slice A9 n9 c9, .slice A10 m10 c10] 26) none)
            have BX := hB7.alloc hB7.size (.cells #[.slice A9 n9 c9, .slice A10 m10 c10] 26)
            obtain ⟨V3, e⟩ : ∃ V, w7.alloc (.cells #[.slice A9 n9 c9, .slice A10 m10 c10] 26) = V := ⟨_, rfl⟩
            rw [e] at VX GX BX ⊢
            obtain ⟨s3, hqq⟩ : ∃ s, w7.heap.size = s := ⟨_, rfl⟩
            rw [hqq] at VX ⊢
            rename_i hh
            clear hh e hqq G7p G7
            revert BX
            revert GX
            revert VX
            revert s3
            revert V3
            revert c10
            revert m10
            revert A10
            revert c9
            revert n9
            revert A9
            exact REST.out
          all_goals exact REST.out A9 n9 c9 A10 m10 c10 _ _ (yx7.set _ _) (G7.box2 yx7 _ _) ((hB7.setCell (p := ⟨_, 0, none⟩) hq _).setCell (p := ⟨_, 1, none⟩) hq _)
        intro A9 n9 c9 A10 m10 c10 V3 s3 VX GX BX
        refine hKK2.out _ _ ?_
        clear hd1 hd2 hX1 HX1 s0 s1 hKK2
        have hsv := VX.lt
        have H8 := hid (H7.out.trans (BX.mono z7))
        have z8 : V.heap.size ≤ V3.heap.size := H8.out.size
        have KS3 := hid (fun (W' : World) (hW : Below V3.heap.size V3 W') => VX.below hW hsv)
        have KY3 := hid (fun (W' : World) (hW : Below V3.heap.size V3 W') => (GX.on hW).read)
        have X8 := KX.out _ H8.out
        have k0 := X8.c0
        have k1 := X8.c1
        have C9 := hid (implDeskOk_any A3 n3 c3 A4 m4 c4 Q V3 (KE.out _ H8.out))
        rw [HEK.out] at C9
        have hpe : (((p1 : Int) + (q1 : Int)) == (N : Int)) = true := by have := HPS.out; simp; omega
        clear VX GX BX hsv X8
        go_wp2_with fail
        with_reducible refine Calls.mono C9.out ?_
        rintro e w8 ⟨rfl, b8⟩
        have H9 := hid (H8.out.trans (b8.mono z8))
        have X9 := KX.out _ H9.out
        have l0 := X9.c0
        have l1 := X9.c1
        have Y9 := KS3.out _ b8
        have l2 := Y9.c0
        have l3 := Y9.c1
        have z9 := H9.out.size
        have C10 := hid (sameDesk_any A9 n9 c9 A10 m10 c10 A3 n3 c3 A4 m4 c4 Q Q w8 (KY3.out _ b8) (KE.out _ H9.out))
        rw [sameB_refl] at C10
        clear b8 k0 k1 X9 Y9 C9
        go_wp2_with fail
        with_reducible refine Calls.mono C10.out ?_
        rintro e w9 ⟨rfl, b9⟩
        have H10 := hid (H9.out.trans (b9.mono z9))
        clear b9 l0 l1 l2 l3 C10
        go_wp2
        go_ret
        exact ⟨rfl, HB.out.trans ((KW.out _ H10.out).mono HB.out.size)⟩
      · have hce : ¬ cL - H = 0 := by omega
        have hce2 : ¬ cL ≤ H := by omega
        have hce3 : ¬ cL = H := by omega
        go_wp2_with fail
        rename_i KK hKK
        replace hKK := hid hKK
        apply cutT
        · intro REST
          go_region_held3 (fun w' => w'.cell? ⟨o, 0, none⟩ = some (.slice A1 n1 c1) ∧ w'.cell? ⟨o, 1, none⟩ = some (.slice A2 m2 c2))
            (first
              | go_keep
              | assumption
              | exact kx2 _ _)
            (first
              | (go_at_call 36; (with_reducible refine Calls.mono (CP.out (w5.drew) _ hd1) ?_); rintro e w7 ⟨A7, n7, c7, A8, m8, c8, rfl, G7p, b7⟩; have hB7 : Below w5.heap.size w5 w7 := hd1.trans (b7.mono hd1.size); have kx7 := KD6.out _ hB7; have G7 := G7p.mono hd1.size)
              | (go_at_call 36; (with_reducible refine Calls.mono (CP.out ((w5.alloc (.cells #[.slice none 0 0, .slice none 0 0] 26)).drew) _ hd2) ?_); rintro e w7 ⟨A7, n7, c7, A8, m8, c8, rfl, G7p, b7⟩; have hB7 : Below w5.heap.size w5 w7 := hd2.trans (b7.mono hd2.size); have kx7 := KD6.out _ hB7; have G7 := G7p.mono hd2.size; have hq : w5.heap.size ≤ w5.heap.size := Nat.le_refl _; have yx7 : Db w7 w5.heap.size (.slice none 0 0) (.slice none 0 0) := HX1.out.below b7 hX1; have yx0 := yx7.c0; have yx1 := yx7.c1; have yf0 := yx7.fz 0; have yf1 := yx7.fz 1; have kx2 := fun x y => KD6.out _ ((hB7.setCell (p := ⟨_, 0, none⟩) hq x).setCell (p := ⟨_, 1, none⟩) hq y)))
          · have VX := Db.new w7 (.slice A7 n7 c7) (.slice A8 m8 c8)
            have GX := G7.onto (grown_alloc w7 (.cells #[.slice A7 n7 c7, .slice A8 m8 c8] 26) none)
            have BX := hB7.alloc hB7.size (.cells #[.slice A7 n7 c7, .slice A8 m8 c8] 26)
            obtain ⟨V2, e⟩ : ∃ V, w7.alloc (.cells #[.slice A7 n7 c7, .slice A8 m8 c8] 26) = V := ⟨_, rfl⟩
            rw [e] at VX GX BX ⊢
            obtain ⟨s, hqq⟩ : ∃ s, w7.heap.size = s := ⟨_, rfl⟩
            rw [hqq] at VX ⊢
            rename_i hh
            clear hh e hqq G7p G7
            revert BX
            revert GX
            revert VX
            revert s
            revert V2
            revert c8
            revert m8
            revert A8
            revert c7
            revert n7
            revert A7
            exact REST.out
          all_goals exact REST.out A7 n7 c7 A8 m8 c8 _ _ (yx7.set _ _) (G7.box2 yx7 _ _) ((hB7.setCell (p := ⟨_, 0, none⟩) hq _).setCell (p := ⟨_, 1, none⟩) hq _)
        intro A7 n7 c7 A8 m8 c8 V2 s VX GX BX
        refine hKK.out _ _ ?_
        clear hd1 hd2 hX1 HX1 d0 d1 hKK
        have hsv := VX.lt
        have H7 := hid (H6.out.trans (BX.mono z6))
        have z7 : V.heap.size ≤ V2.heap.size := H7.out.size
        have KS := hid (fun (W' : World) (hW : Below V2.heap.size V2 W') => show W'.cell? ⟨s, 0, none⟩ = some (.slice A7 n7 c7) ∧ W'.cell? ⟨s, 1, none⟩ = some (.slice A8 m8 c8) from by
          have h := VX.below hW hsv
          exact ⟨h.c0, h.c1⟩)
        have KY := hid (fun (W' : World) (hW : Below V2.heap.size V2 W') => (GX.on hW).read)
        have KT := hid (fun (W' : World) (hW : Below V2.heap.size V2 W') => show SlD W' W'.heap.size (some ⟨g, H * 2, none⟩) (nL - H) (L.drop H) from by
          have h := KL.out W' (KW.out _ (H7.out.trans (hW.mono z7)))
          have h2 := h.dropK hHn
          rwa [Nat.zero_add] at h2)
        obtain ⟨s0, s1⟩ := KS.out V2 (Below.refl _ _)
        have hd1 : Below V2.heap.size V2 V2.drew := (Below.refl V2.heap.size V2).drew
        have gW1 : V2.grownBy (V2.alloc (.cells #[.slice none 0 0, .slice none 0 0] 26)).drew none := (grown_alloc V2 (.cells #[.slice none 0 0, .slice none 0 0] 26) none).trans (drewN_gA _ 1)
        have hd2 : Below V2.heap.size V2 (V2.alloc (.cells #[.slice none 0 0, .slice none 0 0] 26)).drew := below_grown gW1
        have X1 : Db (V2.alloc (.cells #[.slice none 0 0, .slice none 0 0] 26)).drew V2.heap.size (.slice none 0 0) (.slice none 0 0) := Db.new V2 (.slice none 0 0) (.slice none 0 0)
        have hX1 : V2.heap.size < (V2.alloc (.cells #[.slice none 0 0, .slice none 0 0] 26)).drew.heap.size := by show V2.heap.size < (V2.alloc (.cells #[.slice none 0 0, .slice none 0 0] 26)).heap.size; simp
        have HX1 := hid X1
        clear X1 gW1 VX GX BX hsv v0 v1
        go_wp2_with fail
        rename_i KK2 hKK2
        replace hKK2 := hid hKK2
        apply cutT
        · intro REST
          go_region_held3 (fun w' => w'.cell? ⟨s, 0, none⟩ = some (.slice A7 n7 c7) ∧ w'.cell? ⟨s, 1, none⟩ = some (.slice A8 m8 c8))
            (first
              | go_keep
              | assumption
              | exact kx2 _ _)
            (first
              | (go_at_call 36; (with_reducible refine Calls.mono (CQ.out (V2.drew) _ _ _ _ _ _ _ _ _ (KY.out _ hd1) (KT.out _ hd1)) ?_); rintro e w7 ⟨A9, n9, c9, A10, m10, c10, rfl, G7p, b7⟩; have hB7 : Below V2.heap.size V2 w7 := hd1.trans (b7.mono hd1.size); have kx7 := KS.out _ hB7; have G7 := G7p.mono hd1.size)
              | (go_at_call 36; (with_reducible refine Calls.mono (CQ.out ((V2.alloc (.cells #[.slice none 0 0, .slice none 0 0] 26)).drew) _ _ _ _ _ _ _ _ _ (KY.out _ hd2) (KT.out _ hd2)) ?_); rintro e w7 ⟨A9, n9, c9, A10, m10, c10, rfl, G7p, b7⟩; have hB7 : Below V2.heap.size V2 w7 := hd2.trans (b7.mono hd2.size); have kx7 := KS.out _ hB7; have G7 := G7p.mono hd2.size; have hq : V2.heap.size ≤ V2.heap.size := Nat.le_refl _; have yx7 : Db w7 V2.heap.size (.slice none 0 0) (.slice none 0 0) := HX1.out.below b7 hX1; have yx0 := yx7.c0; have yx1 := yx7.c1; have yf0 := yx7.fz 0; have yf1 := yx7.fz 1; have kx2 := fun x y => KS.out _ ((hB7.setCell (p := ⟨_, 0, none⟩) hq x).setCell (p := ⟨_, 1, none⟩) hq y)))
          · have VX := Db.new w7 (.slice A9 n9 c9) (.slice A10 m10 c10)
            have GX := G7.onto (grown_alloc w7 (.cells #[.slice A9 n9 c9, .slice A10 m10 c10] 26) none)
            have BX := hB7.alloc hB7.size (.cells #[.slice A9 n9 c9, .slice A10 m10 c10] 26)
            obtain ⟨V3, e⟩ : ∃ V, w7.alloc (.cells #[.slice A9 n9 c9, .slice A10 m10 c10] 26) = V := ⟨_, rfl⟩
            rw [e] at VX GX BX ⊢
            obtain ⟨s3, hqq⟩ : ∃ s, w7.heap.size = s := ⟨_, rfl⟩
            rw [hqq] at VX ⊢
            rename_i hh
            clear hh e hqq G7p G7
            revert BX
            revert GX
            revert VX
            revert s3
            revert V3
            revert c10
            revert m10
            revert A10
            revert c9
            revert n9
            revert A9
            exact REST.out
          all_goals exact REST.out A9 n9 c9 A10 m10 c10 _ _ (yx7.set _ _) (G7.box2 yx7 _ _) ((hB7.setCell (p := ⟨_, 0, none⟩) hq _).setCell (p := ⟨_, 1, none⟩) hq _)
        intro A9 n9 c9 A10 m10 c10 V3 s3 VX GX BX
        refine hKK2.out _ _ ?_
        clear hd1 hd2 hX1 HX1 s0 s1 hKK2
        have hsv := VX.lt
        have H8 := hid (H7.out.trans (BX.mono z7))
        have z8 : V.heap.size ≤ V3.heap.size := H8.out.size
        have KS3 := hid (fun (W' : World) (hW : Below V3.heap.size V3 W') => VX.below hW hsv)
        have KY3 := hid (fun (W' : World) (hW : Below V3.heap.size V3 W') => (GX.on hW).read)
        have X8 := KX.out _ H8.out
        have k0 := X8.c0
        have k1 := X8.c1
        have C9 := hid (implDeskOk_any A3 n3 c3 A4 m4 c4 Q V3 (KE.out _ H8.out))
        rw [HEK.out] at C9
        have hpe : (((p1 : Int) + (q1 : Int)) == (N : Int)) = true := by have := HPS.out; simp; omega
        clear VX GX BX hsv X8
        go_wp2_with fail
        with_reducible refine Calls.mono C9.out ?_
        rintro e w8 ⟨rfl, b8⟩
        have H9 := hid (H8.out.trans (b8.mono z8))
        have X9 := KX.out _ H9.out
        have l0 := X9.c0
        have l1 := X9.c1
        have Y9 := KS3.out _ b8
        have l2 := Y9.c0
        have l3 := Y9.c1
        have z9 := H9.out.size
        have C10 := hid (sameDesk_any A9 n9 c9 A10 m10 c10 A3 n3 c3 A4 m4 c4 Q Q w8 (KY3.out _ b8) (KE.out _ H9.out))
        rw [sameB_refl] at C10
        clear b8 k0 k1 X9 Y9 C9
        go_wp2_with fail
        with_reducible refine Calls.mono C10.out ?_
        rintro e w9 ⟨rfl, b9⟩
        have H10 := hid (H9.out.trans (b9.mono z9))
        clear b9 l0 l1 l2 l3 C10
        go_wp2
        go_ret
        exact ⟨rfl, HB.out.trans ((KW.out _ H10.out).mono HB.out.size)⟩
  · have hbad : runOk D L = false := by
      rw [HRO.out]
      cases dk with
      | false => rfl
      | true => simp at hgood ⊢; omega
    have he := HNO.out hbad
    injection he with he1 he2
    subst he1
    subst he2
    have C7 := hid (noDesk_any A3 n3 c3 A4 m4 c4 noDk w5 (KE.out _ H6.out))
    rw [sameB_refl] at C7
    have hcond : dk = false ∨ (dk = true ∧ (40 : Int) < (nL : Int)) := by
      cases dk with
      | false => exact .inl rfl
      | true => exact .inr ⟨rfl, by simp at hgood; omega⟩
    clear hgood hbad
    rcases hcond with rfl | ⟨rfl, h40⟩
    · go_wp2_with fail
      with_reducible refine Calls.mono C7.out ?_
      rintro e w6 ⟨rfl, b6⟩
      have H7 := hid (H6.out.trans (b6.mono z6))
      clear b6
      go_wp2_with fail
      refine (alive_any _).mono ?_
      rintro e w7 ⟨rfl, b7⟩
      have H8 := hid (H7.out.trans (b7.mono H7.out.size))
      clear b7
      go_wp2
      go_ret
      exact ⟨rfl, HB.out.trans ((KW.out _ H8.out).mono HB.out.size)⟩
    · go_wp2_with fail
      with_reducible refine Calls.mono C7.out ?_
      rintro e w6 ⟨rfl, b6⟩
      have H7 := hid (H6.out.trans (b6.mono z6))
      clear b6
      go_wp2_with fail
      refine (alive_any _).mono ?_
      rintro e w7 ⟨rfl, b7⟩
      have H8 := hid (H7.out.trans (b7.mono H7.out.size))
      clear b7
      go_wp2
      go_ret
      exact ⟨rfl, HB.out.trans ((KW.out _ H8.out).mono HB.out.size)⟩
end Go.Proofs.Ytkejcajboneniaa
