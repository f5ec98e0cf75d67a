/-
  The walk of laws.FnReadJournal. No statement is proved here.
-/
import Derived.Test.YtkejcajboneniabGreatDoorQM0
import Derived.Test.YtkejcajboneniabGreatDoorQMo
import Derived.Test.YtkejcajboneniabGreatDoorQMm
import Derived.Test.YtkejcajboneniabGreatDoorQMn
import Derived.Test.YtkejcajboneniabGreatDoorQMa
import Derived.Lib.MinMax
import Derived.Deep.RegionHeld3
namespace Go.Proofs.YtkejcajboneniabGreatDoor
open Go.RowKit
set_option linter.unusedVariables false
set_option linter.unusedSimpArgs false

theorem cutQ {T G : Prop} (h : Hid T → G) (r : T) : G := h (hid r)
theorem flat_takeQ : ∀ (l : List (Int × Int)) (k : Nat), flat (l.take k) = (flat l).take (2 * k)
  | [], k => by simp [flat]
  | a :: l, 0 => by simp [flat]
  | a :: l, k + 1 => by
    rw [List.take_succ_cons, show 2 * (k + 1) = 2 * k + 1 + 1 by omega]
    simp only [flat, List.take_succ_cons]
    rw [flat_takeQ l k]
theorem SlD.takeQ {w : World} {B n k : Nat} {A : Option Addr} {l : List (Int × Int)} (h : SlD w B A n l) (hk : k ≤ n) : SlD w B A k (l.take k) := by
  refine ⟨by rw [List.length_take, h.1]; omega, by have := h.2.1; omega, fun h0 => ?_⟩
  obtain ⟨b, off, e, hb, hc⟩ := h.2.2 (by omega)
  refine ⟨b, off, e, hb, fun j hj => ?_⟩
  rw [hc j (by omega), flat_takeQ]
  simp [nth, List.getD, List.getElem?_take, hj]
theorem linesB_ge : ∀ l : List (Int × Int), l.length ≤ (linesB l).length
  | [] => by simp [linesB]
  | a :: l => by
    have := linesB_ge l
    simp [linesB]
    omega
theorem sub_zero (s : List UInt8) (k : Nat) : sub s 0 k = s.take k := by simp [sub]
theorem run_all {D : Dk} {l : List (Int × Int)} (h : runOk D l = true) : (runOut D l).1 = (runL D l).1 := by unfold runOut; rw [if_pos h]

set_option maxRecDepth 100000 in
set_option maxHeartbeats 1600000 in
theorem drawReadJournal_any (A : Option Addr) (n c : Nat) (w : World) (hs : By w w.heap.size A n) (hc : n ≤ c) :
    Calls Tryz.prog 8 #[.slice A n c] w fun e w' => ∃ t : List UInt8, e = .returned (encStr t) ∧ t.length ≤ 2000 ∧ Below w.heap.size w w' := by
  go_enter Tryz.func8, Tryz.ntmps8
  go_wp2_with fail
  refine (open_any A n c _ hs hc).mono ?_
  rintro e w1 ⟨g, rfl, r1, hg, b1⟩
  have CW := hid (writtenDraw_any g 0 w1 r1 (by omega))
  clear r1
  go_wp2_with fail
  with_reducible refine Calls.mono CW.out ?_
  rintro e w2 ⟨AL, nL, cL, L, rfl, oL, hnL, r2, g2⟩
  have b2 := b1.grown g2 b1.size (by intro k hk; cases hk; exact hg)
  have hLl := (SlD.of_own oL).len
  have hjl : (journalOut L).length ≤ 1206 := by
    unfold journalOut
    split
    · have := linesB_len L; omega
    · simp
  have CJ := hid (specJournalText_any AL nL cL L w2 (SlD.of_own oL) (by omega))
  obtain ⟨s, hsd⟩ : ∃ s, journalOut L = s := ⟨_, rfl⟩
  rw [hsd] at CJ hjl
  clear hsd oL hLl g2 CW
  go_wp2_with fail
  with_reducible refine Calls.mono CJ.out ?_
  rintro e w3 ⟨rfl, b23⟩
  have r3 := r2.below b23 r2.lt
  have b3 := b2.trans (b23.mono b2.size)
  clear r2 b23 CJ
  go_wp2_with fail
  refine (pick_any g _ 3 _ r3 (by omega) (by omega) (by omega)).mono ?_
  rintro e w4 ⟨x, rfl, hx0, hx1, r4, g4⟩
  have b4 := hid (b3.grown g4 b3.size (by intro k hk; cases hk; exact hg))
  have hsz : (⟨s.toArray⟩ : ByteArray).size = s.length := by show s.toArray.size = _; simp
  clear g4 b3 b2 b1 r3
  rcases (show x = 0 ∨ x = 1 ∨ x = 2 by omega) with rfl | rfl | rfl
  · go_wp2_with fail
    refine (spoil_any g _ s _ r4 (by omega) (by omega)).mono ?_
    rintro e w6 ⟨t, rfl, ht, r6, g6⟩
    have b6 := b4.out.grown g6 b4.out.size (by intro k hk; cases hk; exact hg)
    go_wp2
    go_ret
    exact ⟨t, rfl, by omega, b6⟩
  · have CP := hid (pick_any g _ ((s.length : Int) + 1) w4 r4 (by omega) (by omega) (by omega))
    have wl : IntKind.i64.wrap ((s.length : Int) + 1) = (s.length : Int) + 1 := IntWalk.i64_in _ (by omega)
    go_wp2_with fail
    with_reducible refine Calls.mono CP.out ?_
    rintro e w6 ⟨u, rfl, hu0, hu1, r6, g6⟩
    obtain ⟨k, rfl⟩ : ∃ k : Nat, u = k := Int.eq_ofNat_of_zero_le hu0
    have hki : (k : Int) ≤ (s.length : Int) := by omega
    have hsub := sub_str s 0 k
    have hsl := sub_len s 0 k
    have b6 := hid (b4.out.grown g6 b4.out.size (by intro k hk; cases hk; exact hg))
    clear g6 r6 CP
    go_wp2
    go_ret
    exact ⟨_, rfl, by omega, b6.out⟩
  · go_wp2
    go_ret
    exact ⟨s, rfl, by omega, b4.out⟩

set_option maxRecDepth 100000 in
set_option maxHeartbeats 6400000 in
theorem fnReadJournal_walk (A : Option Addr) (n c : Nat) (B : Option Addr) (n' c' : Nat) (w : World) (hs : By w w.heap.size A n) (hc : n ≤ c) (hs' : By w w.heap.size B n') (hc' : n' ≤ c') (hT : TabsL w) :
    Calls Tryz.prog 3 #[.slice A n c, .slice B n' c'] w fun e w' => e = .returned (.bool true) ∧ Below w.heap.size w w' := by
  have hm := hs.1
  have hm' := hs'.1
  by_cases hbig : 1048576 < n
  · have hbi : (1048576 : Int) < (n : Int) := by omega
    have hbd : decide ((1048576 : Int) < (n : Int)) = true := by simp; omega
    go_enter Tryz.func3, Tryz.ntmps3
    go_wp2
    go_ret
    exact ⟨rfl, Below.refl _ _⟩
  have hbi : ¬ (1048576 : Int) < (n : Int) := by omega
  have hbd : decide ((1048576 : Int) < (n : Int)) = false := by simp; omega
  by_cases hbig' : 1048576 < n'
  · have hbi2 : (1048576 : Int) < (n' : Int) := by omega
    have hbd2 : decide ((1048576 : Int) < (n' : Int)) = true := by simp; omega
    go_enter Tryz.func3, Tryz.ntmps3
    go_wp2
    go_ret
    exact ⟨rfl, Below.refl _ _⟩
  have hbi2 : ¬ (1048576 : Int) < (n' : Int) := by omega
  have hbd2 : decide ((1048576 : Int) < (n' : Int)) = false := by simp; omega
  have C1 := hid (drawReadJournal_any A n c w hs hc)
  have HY := hid hs'
  clear hs hs'
  go_enter Tryz.func3, Tryz.ntmps3
  go_wp2_with fail
  with_reducible refine Calls.mono C1.out ?_
  rintro e w1 ⟨s, rfl, hsl, b1⟩
  have HB1 := hid b1
  have KTB := hid (fun (W' : World) (hW : Below w1.heap.size w1 W') => hT.below (b1.trans (hW.mono b1.size)))
  have hsz : (⟨s.toArray⟩ : ByteArray).size = s.length := by show s.toArray.size = _; simp
  have C2 := hid (implReadJournal_any s (by omega) w1 (KTB.out w1 (Below.refl _ _)))
  have C3 := hid (fun W => specReadJournal_any s (by omega) W)
  have HCUT := hid (fun k (hk : k ≤ s.length) => cut_reads (s := s) hk)
  have HJ := hid (journal_read s)
  have CR := hid (fun (k : Nat) (hk : k ≤ s.length) (W : World) (hW : Below w1.heap.size w1 W) => implReadJournal_any (sub s 0 k) (by have := sub_len s 0 k; omega) W (KTB.out W hW))
  obtain ⟨L, nn, hJO⟩ : ∃ L q, jOut s = (L, q) := ⟨_, _, rfl⟩
  simp only [hJO] at C2 C3 HCUT HJ
  have hnnq := HJ.out.2.1
  have hnn1 : ((nn : Int) != (nn : Int)) = false := by simp
  have hnle : (nn : Int) ≤ (s.length : Int) := by omega
  clear hJO b1 C1 hT hbi hbd hbi2 hbd2 hbig
  go_wp2_with fail
  with_reducible refine Calls.mono C2.out ?_
  rintro e w2 ⟨AL, nL, cL, rfl, oL, b2⟩
  have hLl := hid (SlD.of_own oL).len
  have HAL := hid (show (AL = none ∧ nL = 0 ∧ cL = 0) ∨ ∃ g, AL = some ⟨g, 0, none⟩ ∧ nL ≤ cL ∧ cL ≤ 9223372036854775807 from by
    rcases oL.2 with ⟨h1, h2⟩ | ⟨g, cap, cur, hv, _, _, h3, h4, _⟩
    · injection h1 with e1 e2 e3
      exact .inl ⟨e1, e2, e3⟩
    · injection hv with e1 e2 e3
      subst e3
      exact .inr ⟨g, e1, h3, h4⟩)
  have KL := hid (fun (W' : World) (hW : Below w2.heap.size w2 W') => (SlD.of_own oL).on hW)
  have hnLs : nL ≤ 2000 := by
    have h1 := hLl.out
    have h2 := (HCUT.out s.length (Nat.le_refl _)).1
    have h3 : L.length ≤ s.length := by
      have := HJ.out
      have h4 := linesB_ge L
      have h5 : linesB L = s.take nn := by
        have := this.1
        unfold journalOut at this
        rw [if_pos HJ.out.2.2] at this
        exact this
      rw [h5, List.length_take] at h4
      omega
    omega
  have HB2 := hid b2
  clear oL C2
  go_wp2_with fail
  with_reducible refine Calls.mono (C3.out w2) ?_
  rintro e w3 ⟨AM, nM, cM, rfl, oM, b3⟩
  have HB3 := hid b3
  have C4 := hid (sameDeeds_any AL AM nL cL nM cM L w3 (KL.out _ b3) (SlD.of_own oM))
  clear oM b2 b3 C3
  go_wp2_with fail
  with_reducible refine Calls.mono C4.out ?_
  rintro e w4 ⟨rfl, b4⟩
  have HB4 := hid (HB3.out.trans (b4.mono HB3.out.size))
  clear b4 C4 HB3
  go_wp2_with fail
  go_loopw [10] (fun i wr => ∃ k : Nat, i = .int .i64 k ∧ k ≤ s.length + 1 ∧ Hid (Below w2.heap.size w2 wr)) (fun i _ => s.length + 1 - (intOf i).toNat)
  case atStart => exact ⟨0, rfl, Nat.zero_le _, HB4⟩
  case round =>
    clear HB4
    obtain ⟨k, rfl, hk, HB4⟩ := hrel
    have z4 := HB4.out.size
    by_cases hlt : k ≤ s.length
    · have hki : (k : Int) ≤ (s.length : Int) := by omega
      have hk0 : (0 : Int) ≤ (k : Int) := by omega
      have hsub := sub_str s 0 k
      have CX := hid (CR.out k hlt wr (HB2.out.trans (HB4.out.mono HB2.out.size)))
      have hcut := HCUT.out k hlt
      rw [← sub_zero s k] at hcut
      obtain ⟨X, mx, hX⟩ : ∃ X q, jOut (sub s 0 k) = (X, q) := ⟨_, _, rfl⟩
      simp only [hX] at CX hcut
      obtain ⟨hc1, hc2, hc3⟩ := hcut
      have HC2 := hid hc2
      have hmk : ¬ (k : Int) < (mx : Int) := by omega
      have hmd : decide ((k : Int) < (mx : Int)) = false := by simp; omega
      obtain ⟨st, hst⟩ : ∃ t, sub s 0 k = t := ⟨_, rfl⟩
      rw [hst] at CX hsub
      clear hX hc2 hst
      go_wp2_with fail
      with_reducible refine Calls.mono CX.out ?_
      rintro e w5 ⟨AX, nX, cX, rfl, oX, b5⟩
      have hnX := (SlD.of_own oX).len
      have hle : nX ≤ nL := by rw [← hnX, ← hLl.out]; exact hc1
      have HB5 := HB4.out.trans (b5.mono z4)
      have hT5 := (KL.out w5 HB5).takeQ hle
      have hXe : L.take nX = X := by rw [← hnX]; exact HC2.out
      rw [hXe] at hT5
      have HB5' := hid HB5
      have C6 := hid (fun cc => sameDeeds_any AX AL nX cX nX cc X w5 (SlD.of_own oX) hT5)
      have hlei : ¬ (nL : Int) < (nX : Int) := by omega
      have hled : decide ((nL : Int) < (nX : Int)) = false := by simp; omega
      have hmin : min (nX : Int) (nL : Int) = (nX : Int) := by omega
      have hx0 : (0 : Int) ≤ (nX : Int) := by omega
      have hxL : (nX : Int) ≤ (nL : Int) := by omega
      clear oX b5 CX hXe hT5 HB5 hnX hc1
      rcases HAL.out with ⟨rfl, rfl, rfl⟩ | ⟨g, rfl, hcap1, hcap2⟩
      · obtain rfl : nX = 0 := by omega
        go_wp2_with fail
        with_reducible refine Calls.mono (C6.out _) ?_
        rintro e w6 ⟨rfl, b6⟩
        have HB6 := hid (HB5'.out.trans (b6.mono HB5'.out.size))
        clear b6 C6
        go_wp2
        go_roundw
        case rel => exact ⟨k + 1, by go_num, by omega, HB6⟩
        case measure => simp [intOf]; omega
      · have hxc : (nX : Int) ≤ (cL : Int) := by omega
        have hxcn : nX ≤ cL := by omega
        go_wp2_with fail
        with_reducible refine Calls.mono (C6.out _) ?_
        rintro e w6 ⟨rfl, b6⟩
        have HB6 := hid (HB5'.out.trans (b6.mono HB5'.out.size))
        clear b6 C6
        go_wp2
        go_roundw
        case rel => exact ⟨k + 1, by go_num, by omega, HB6⟩
        case measure => simp [intOf]; omega
    · have hki : ¬ (k : Int) ≤ (s.length : Int) := by omega
      have hkd : decide ((k : Int) ≤ (s.length : Int)) = false := by simp; omega
      have C7 := hid (drawDeskRun_any B n' c' wr (HY.out.on (HB1.out.trans ((HB2.out.trans (HB4.out.mono HB2.out.size)).mono HB1.out.size))) hc')
      clear CR HCUT
      go_wp2_with fail
      with_reducible refine Calls.mono C7.out ?_
      rintro e w5 ⟨A1, n1, c1, A2, m2, c2, D, AR, nR, cR, LR, rfl, F5, oR, hn1, hm2, hnR, b5⟩
      have HD2 := hid (show Below w2.heap.size w2 w5 from HB4.out.trans (b5.mono HB4.out.size))
      have z5 := b5.size
      clear C7 b5 hki hkd HB4 z4 hk oR hn1 hm2 hnR
      obtain ⟨W, eW⟩ : ∃ W, w5.alloc (.cells #[.slice A1 n1 c1, .slice A2 m2 c2] 31) = W := ⟨_, rfl⟩
      have gW : w5.grownBy W none := by rw [← eW]; exact grown_alloc _ _ _
      have XD : Db W w5.heap.size (.slice A1 n1 c1) (.slice A2 m2 c2) := by rw [← eW]; exact Db.new w5 _ _
      have FW := F5.onto gW
      have BW := HD2.out.trans ((below_grown gW).mono HD2.out.size)
      obtain ⟨o, ho⟩ : ∃ o, w5.heap.size = o := ⟨_, rfl⟩
      rw [ho] at XD
      have x0 := XD.c0
      have x1 := XD.c1
      obtain ⟨V, eV⟩ : ∃ V, W.alloc (.cells #[.slice A1 n1 c1, .slice A2 m2 c2] 31) = V := ⟨_, rfl⟩
      have gV : W.grownBy V none := by rw [← eV]; exact grown_alloc _ _ _
      have XV : Db V W.heap.size (.slice A1 n1 c1) (.slice A2 m2 c2) := by rw [← eV]; exact Db.new W _ _
      have GV := DkG.of_own (FW.onto gV)
      have hqW : wr.heap.size ≤ W.heap.size := Nat.le_trans z5 gW.size
      obtain ⟨q, hq⟩ : ∃ q, wr.heap.size = q := ⟨_, rfl⟩
      rw [hq] at GV hqW

      have KD := hid (fun (W' : World) (hW : Below W.heap.size W W') => XD.below hW XD.lt)
      have KR := hid (fun (W' : World) (hW : Below W.heap.size W W') => (FW.read).on hW)
      have KLW := hid (fun (W' : World) (hW : Below W.heap.size W W') => KL.out W' (BW.trans (hW.mono BW.size)))
      have KTW := hid (fun (W' : World) (hW : Below W.heap.size W W') => KTB.out W' (HB2.out.trans ((BW.trans (hW.mono BW.size)).mono HB2.out.size)))
      have HBW := hid (HB2.out.trans (BW.mono HB2.out.size))
      have BV := hid (below_grown gV)
      obtain ⟨p, hp⟩ : ∃ p, W.heap.size = p := ⟨_, rfl⟩
      have hop : o < p := by rw [← hp]; exact XD.lt
      rw [hp] at XV
      have HXV := hid XV
      have HGV := hid GV
      have HHP := hid hp
      clear gV XV GV gW XD FW BW HD2 F5 KL KTB hq
      go_wp2_with fail
      clear eV eW ho x0 x1 hp
      go_loopw [16] (fun i wq => ∃ (k : Nat) (Ao : Option Addr) (no co : Nat) (Po : Option Addr) (mo cp : Nat), i = .int .i64 k ∧ k ≤ nL ∧ Hid (Db wq p (.slice Ao no co) (.slice Po mo cp)) ∧ Hid (DkG wq q Ao no co Po mo cp (runL D (L.take k)).1) ∧ Hid (Below W.heap.size W wq)) (fun i _ => nL - (intOf i).toNat)
      case atStart => exact ⟨0, A1, n1, c1, A2, m2, c2, rfl, Nat.zero_le _, HXV, HGV, BV⟩
      case round =>
        clear HXV HGV BV

        obtain ⟨k, Ao, no, co, Po, mo, cp, rfl, hk, HX, HG, HB⟩ := hrel
        have z4 := HB.out.size
        have ox := KD.out _ HB.out
        have x0 := ox.c0
        have x1 := ox.c1
        clear ox
        obtain ⟨dk, hdk⟩ : ∃ b, deskOk D = b := ⟨_, rfl⟩
        by_cases hlt : k < nL
        · have hlti : (k : Int) < (nL : Int) := by omega
          have hk0 : (0 : Int) ≤ (k : Int) := by omega
          have CK := hid (specDeskOk_any A1 n1 c1 A2 m2 c2 D wr (KR.out _ HB.out))
          rw [hdk] at CK
          go_wp2_with fail
          with_reducible refine Calls.mono CK.out ?_
          rintro e w6 ⟨rfl, g6⟩
          have H6 := hid (HB.out.trans ((below_grown g6).mono z4))
          have X6 := hid (HX.out.on (row := none) g6 (by simp))
          have G6 := hid (HG.out.onto g6)
          clear g6 x0 x1 CK HX HG HB z4
          cases dk with
          | true =>
            have hok := run_ok hdk (L.take k)
            obtain ⟨bl, offl, hAL, hbl, d0, d1⟩ := (KLW.out _ H6.out).at hlt
            have htk := hid (show runL D (L.take (k + 1)) = runF (runL D (L.take k)) (L.getD k (0, 0)) from by rw [take_deed (by rw [hLl.out]; exact hlt), run_snoc])
            have hta : hasText (L.getD k (0, 0)) = true := by
              have h1 := List.all_eq_true.1 HJ.out.2.2
              have h2 : k < L.length := by rw [hLl.out]; exact hlt
              rw [List.getD_eq_getElem?_getD, List.getElem?_eq_getElem h2]
              exact h1 _ (List.getElem_mem h2)
            obtain ⟨a, ha⟩ : ∃ a, L.getD k (0, 0) = a := ⟨_, rfl⟩
            rw [ha] at d0 d1 htk hta
            obtain ⟨E, cnt, hE⟩ : ∃ E cnt, runL D (L.take k) = (E, cnt) := ⟨_, _, rfl⟩
            rw [hE] at htk hok G6
            have LD := line_deed hok hta cnt
            have CT := hid (fun (W' : World) (h : Below w6.heap.size w6 W') => implDeedText_any a.1 a.2 W' (KTW.out _ (H6.out.trans (h.mono H6.out.size))).D)
            have CL := hid (fun W' (h : Below w6.heap.size w6 W') => show Calls Tryz.prog 14 #[dsk Ao no co Po mo cp, encStr (deedB a.1 a.2)] W' _ from implDeskLine_any Ao no co Po mo cp E (deedP a) W' ((G6.out.read).on h) (by have := deedB_len a.1 a.2; show (deedB a.1 a.2).length ≤ _; omega) (KTW.out _ (H6.out.trans (h.mono H6.out.size))))
            obtain ⟨E2, N, hE2⟩ : ∃ E2 N, lineOut E (deedP a) = (E2, N) := ⟨_, _, rfl⟩
            rw [hE2] at CL LD
            have HS := hid (show (runL D (L.take (k + 1))).1 = E2 from by rw [htk.out]; exact LD.1.symm)
            have hN := LD.2
            change N = wOk ∨ N = wNot at hN
            have KX := hid (fun (W' : World) (h : Below w6.heap.size w6 W') => show (W'.cell? ⟨p, 0, none⟩ = some (.slice Ao no co) ∧ W'.cell? ⟨p, 1, none⟩ = some (.slice Po mo cp) ∧ W'.cell? ⟨bl, offl + k * 2, none⟩ = some (.int .i64 a.1) ∧ W'.cell? ⟨bl, offl + k * 2 + 1, none⟩ = some (.int .i64 a.2)) from by
              have h2 := X6.out.lt
              exact ⟨(X6.out.below h h2).c0, (X6.out.below h h2).c1, (h.cell (p := ⟨bl, offl + k * 2, none⟩) hbl).trans d0, (h.cell (p := ⟨bl, offl + k * 2 + 1, none⟩) hbl).trans d1⟩)
            subst hAL
            obtain ⟨o0, o1, _, _⟩ := KX.out w6 (Below.refl _ _)
            have z6 := H6.out.size
            have hq6 : q ≤ w6.heap.size := Nat.le_trans hqW z6
            have hWp : W.heap.size ≤ p := Nat.le_of_eq HHP.out
            have hd1 : Below w6.heap.size w6 w6.drew := (Below.refl w6.heap.size w6).drew
            have hd2 : Below w6.heap.size w6 (w6.alloc (.cells #[.slice none 0 0, .slice none 0 0] 31)).drew := ((Below.refl w6.heap.size w6).alloc (Nat.le_refl _) _).drew
            have HX1 : Hid (Db (w6.alloc (.cells #[.slice none 0 0, .slice none 0 0] 31)).drew w6.heap.size (.slice none 0 0) (.slice none 0 0)) := hid (Db.new w6 (.slice none 0 0) (.slice none 0 0))
            have hX1 : w6.heap.size < (w6.alloc (.cells #[.slice none 0 0, .slice none 0 0] 31)).drew.heap.size := HX1.out.lt
            clear LD hE hE2 htk hta ha hok
            go_wp2
            go_region_held3 (fun w' => w'.cell? ⟨p, 0, none⟩ = some (.slice Ao no co) ∧ w'.cell? ⟨p, 1, none⟩ = some (.slice Po mo cp) ∧ w'.cell? ⟨bl, offl + k * 2, none⟩ = some (.int .i64 a.1) ∧ w'.cell? ⟨bl, offl + k * 2 + 1, none⟩ = some (.int .i64 a.2))
              (first
                | go_keep
                | assumption
                | exact kx2 _ _)
              (first
                | (go_at_call 15; (with_reducible refine Calls.mono (CT.out (w6.drew) hd1) ?_); rintro e w7 ⟨rfl, b7⟩; have hB7 : Below w6.heap.size w6 w7 := hd1.trans (b7.mono hd1.size); have kx7 := KX.out _ hB7)
                | (go_at_call 15; (with_reducible refine Calls.mono (CT.out ((w6.alloc (.cells #[.slice none 0 0, .slice none 0 0] 31)).drew) hd2) ?_); rintro e w7 ⟨rfl, b7⟩; have hB7 : Below w6.heap.size w6 w7 := hd2.trans (b7.mono hd2.size); have kx7 := KX.out _ hB7; have yx7 : Db w7 w6.heap.size (.slice none 0 0) (.slice none 0 0) := HX1.out.below b7 hX1)
                | (go_at_call 14; (have _t := yx7.c0); (with_reducible refine Calls.mono (CL.out w7 hB7) ?_); rintro e w8 ⟨A8, n8, c8, A9, m9, c9, rfl, Y8, b8⟩; have hB8 : Below w6.heap.size w6 w8 := hB7.trans (b8.mono hB7.size); have kx8 := KX.out _ hB8; have G8 := Y8.g.mono hB7.size; have hbq : w6.heap.size ≤ w6.heap.size := Nat.le_refl _; have yx8 : Db w8 w6.heap.size (.slice none 0 0) (.slice none 0 0) := yx7.below b8 yx7.lt; have yx0 := yx8.c0; have yx1 := yx8.c1; have yf0 := yx8.fz 0; have yf1 := yx8.fz 1; have kx2 := fun x y => KX.out _ ((hB8.setCell (p := ⟨_, 0, none⟩) hbq x).setCell (p := ⟨_, 1, none⟩) hbq y))
                | (go_at_call 14; (with_reducible refine Calls.mono (CL.out w7 hB7) ?_); rintro e w8 ⟨A8, n8, c8, A9, m9, c9, rfl, Y8, b8⟩; have hB8 : Below w6.heap.size w6 w8 := hB7.trans (b8.mono hB7.size); have kx8 := KX.out _ hB8; have G8 := Y8.g.mono hB7.size)
                | (go_at_call 14; have hd3 : Below w6.heap.size w6 (w7.alloc (.cells #[.slice none 0 0, .slice none 0 0] 31)) := hB7.alloc hB7.size _; (with_reducible refine Calls.mono (CL.out (w7.alloc (.cells #[.slice none 0 0, .slice none 0 0] 31)) hd3) ?_); rintro e w8 ⟨A8, n8, c8, A9, m9, c9, rfl, Y8, b8⟩; have hB8 : Below w6.heap.size w6 w8 := hd3.trans (b8.mono hd3.size); have kx8 := KX.out _ hB8; have G8 := Y8.g.mono hd3.size; have hbq : w6.heap.size ≤ w7.heap.size := hB7.size; have yx8 : Db w8 w7.heap.size (.slice none 0 0) (.slice none 0 0) := (Db.new w7 _ _).below b8 (Db.new w7 (.slice none 0 0) (.slice none 0 0)).lt; have yx0 := yx8.c0; have yx1 := yx8.c1; have yf0 := yx8.fz 0; have yf1 := yx8.fz 1; have kx2 := fun x y => KX.out _ ((hB8.setCell (p := ⟨_, 0, none⟩) hbq x).setCell (p := ⟨_, 1, none⟩) hbq y)))
            · have gX := grown_alloc w8 (.cells #[.slice A8 n8 c8, .slice A9 m9 c9] 31) none
              have VX := Db.new w8 (.slice A8 n8 c8) (.slice A9 m9 c9)
              have VN := (X6.out.below hB8 X6.out.lt).on (row := none) gX (by simp)
              have GN := hid ((G8.mono hq6).onto gX)
              have BN := hid ((H6.out.trans (hB8.mono z6)).alloc (Nat.le_trans z6 hB8.size) (.cells #[.slice A8 n8 c8, .slice A9 m9 c9] 31))
              clear gX
              obtain ⟨w9, e9⟩ : ∃ W', w8.alloc (.cells #[.slice A8 n8 c8, .slice A9 m9 c9] 31) = W' := ⟨_, rfl⟩
              rw [e9] at VX VN GN BN ⊢
              have x0 := VX.c0
              have x1 := VX.c1
              have y0 := VN.c0
              have y1 := VN.c1
              have f0 := VN.fz 0
              have f1 := VN.fz 1
              have HVN := hid VN
              have QN := hid (VN.set (.slice A8 n8 c8) (.slice A9 m9 c9))
              have QG := hid (GN.out.box2 VN (.slice A8 n8 c8) (.slice A9 m9 c9))
              have QB := hid ((BN.out.setCell (p := ⟨p, 0, none⟩) hWp (.slice A8 n8 c8)).setCell (p := ⟨p, 1, none⟩) hWp (.slice A9 m9 c9))
              clear VX VN GN BN e9 b8 hB8 kx8 G8 Y8 CT CL KX o0 o1 d0 d1 b7 hB7 kx7 X6 G6 H6 hd1 hd2 HX1 hX1 HVN
              rcases hN with hN | hN
              · have n1 : (N != ([111, 107] : List UInt8)) = false := by rw [hN]; decide
                have n2 : (N == ([111, 107] : List UInt8)) = true := by rw [hN]; decide
                clear hN
                go_wp2
                go_roundw
                case rel => exact ⟨k + 1, A8, n8, c8, A9, m9, c9, by go_num, by omega, QN, by rw [HS.out]; exact QG, QB⟩
                case measure => simp [intOf]; omega
              · have n1 : (N != ([111, 107] : List UInt8)) = true := by rw [hN]; decide
                have n2 : (N == ([111, 107] : List UInt8)) = false := by rw [hN]; decide
                have n3 : (N != ([110, 111, 116] : List UInt8)) = false := by rw [hN]; decide
                have n4 : (N == ([110, 111, 116] : List UInt8)) = true := by rw [hN]; decide
                clear hN
                go_wp2
                go_roundw
                case rel => exact ⟨k + 1, A8, n8, c8, A9, m9, c9, by go_num, by omega, QN, by rw [HS.out]; exact QG, QB⟩
                case measure => simp [intOf]; omega
            · have hpx : p < w7.heap.size := Nat.lt_of_lt_of_le X6.out.lt hB7.size
              have VX := yx8.set (.slice A8 n8 c8) (.slice A9 m9 c9)
              have VN := ((X6.out.below hB8 X6.out.lt).other (g := w7.heap.size) (by omega) 0 (.slice A8 n8 c8)).other (g := w7.heap.size) (by omega) 1 (.slice A9 m9 c9)
              have GN := hid ((G8.mono hq6).box2 yx8 (.slice A8 n8 c8) (.slice A9 m9 c9))
              have BN := hid (((H6.out.trans (hB8.mono z6)).setCell (p := ⟨w7.heap.size, 0, none⟩) (Nat.le_trans hWp (Nat.le_of_lt hpx)) (.slice A8 n8 c8)).setCell (p := ⟨w7.heap.size, 1, none⟩) (Nat.le_trans hWp (Nat.le_of_lt hpx)) (.slice A9 m9 c9))
              clear yx8 yx0 yx1 yf0 yf1 kx2 hbq hpx hd3
              obtain ⟨w9, e9⟩ : ∃ W', (w8.setCell ⟨w7.heap.size, 0, none⟩ (.slice A8 n8 c8)).setCell ⟨w7.heap.size, 1, none⟩ (.slice A9 m9 c9) = W' := ⟨_, rfl⟩
              rw [e9] at VX VN GN BN ⊢
              have x0 := VX.c0
              have x1 := VX.c1
              have y0 := VN.c0
              have y1 := VN.c1
              have f0 := VN.fz 0
              have f1 := VN.fz 1
              have HVN := hid VN
              have QN := hid (VN.set (.slice A8 n8 c8) (.slice A9 m9 c9))
              have QG := hid (GN.out.box2 VN (.slice A8 n8 c8) (.slice A9 m9 c9))
              have QB := hid ((BN.out.setCell (p := ⟨p, 0, none⟩) hWp (.slice A8 n8 c8)).setCell (p := ⟨p, 1, none⟩) hWp (.slice A9 m9 c9))
              clear VX VN GN BN e9 b8 hB8 kx8 G8 Y8 CT CL KX o0 o1 d0 d1 b7 hB7 kx7 X6 G6 H6 hd1 hd2 HX1 hX1 HVN
              rcases hN with hN | hN
              · have n1 : (N != ([111, 107] : List UInt8)) = false := by rw [hN]; decide
                have n2 : (N == ([111, 107] : List UInt8)) = true := by rw [hN]; decide
                clear hN
                go_wp2
                go_roundw
                case rel => exact ⟨k + 1, A8, n8, c8, A9, m9, c9, by go_num, by omega, QN, by rw [HS.out]; exact QG, QB⟩
                case measure => simp [intOf]; omega
              · have n1 : (N != ([111, 107] : List UInt8)) = true := by rw [hN]; decide
                have n2 : (N == ([111, 107] : List UInt8)) = false := by rw [hN]; decide
                have n3 : (N != ([110, 111, 116] : List UInt8)) = false := by rw [hN]; decide
                have n4 : (N == ([110, 111, 116] : List UInt8)) = true := by rw [hN]; decide
                clear hN
                go_wp2
                go_roundw
                case rel => exact ⟨k + 1, A8, n8, c8, A9, m9, c9, by go_num, by omega, QN, by rw [HS.out]; exact QG, QB⟩
                case measure => simp [intOf]; omega
            · have hpx : p < w6.heap.size := X6.out.lt
              have VX := yx8.set (.slice A8 n8 c8) (.slice A9 m9 c9)
              have VN := ((X6.out.below hB8 X6.out.lt).other (g := w6.heap.size) (by omega) 0 (.slice A8 n8 c8)).other (g := w6.heap.size) (by omega) 1 (.slice A9 m9 c9)
              have GN := hid ((G8.mono hq6).box2 yx8 (.slice A8 n8 c8) (.slice A9 m9 c9))
              have BN := hid (((H6.out.trans (hB8.mono z6)).setCell (p := ⟨w6.heap.size, 0, none⟩) (Nat.le_trans hWp (Nat.le_of_lt hpx)) (.slice A8 n8 c8)).setCell (p := ⟨w6.heap.size, 1, none⟩) (Nat.le_trans hWp (Nat.le_of_lt hpx)) (.slice A9 m9 c9))
              clear yx8 yx0 yx1 yf0 yf1 kx2 hbq hpx yx7 _t
              obtain ⟨w9, e9⟩ : ∃ W', (w8.setCell ⟨w6.heap.size, 0, none⟩ (.slice A8 n8 c8)).setCell ⟨w6.heap.size, 1, none⟩ (.slice A9 m9 c9) = W' := ⟨_, rfl⟩
              rw [e9] at VX VN GN BN ⊢
              have x0 := VX.c0
              have x1 := VX.c1
              have y0 := VN.c0
              have y1 := VN.c1
              have f0 := VN.fz 0
              have f1 := VN.fz 1
              have HVN := hid VN
              have QN := hid (VN.set (.slice A8 n8 c8) (.slice A9 m9 c9))
              have QG := hid (GN.out.box2 VN (.slice A8 n8 c8) (.slice A9 m9 c9))
              have QB := hid ((BN.out.setCell (p := ⟨p, 0, none⟩) hWp (.slice A8 n8 c8)).setCell (p := ⟨p, 1, none⟩) hWp (.slice A9 m9 c9))
              clear VX VN GN BN e9 b8 hB8 kx8 G8 Y8 CT CL KX o0 o1 d0 d1 b7 hB7 kx7 X6 G6 H6 hd1 hd2 HX1 hX1 HVN
              rcases hN with hN | hN
              · have n1 : (N != ([111, 107] : List UInt8)) = false := by rw [hN]; decide
                have n2 : (N == ([111, 107] : List UInt8)) = true := by rw [hN]; decide
                clear hN
                go_wp2
                go_roundw
                case rel => exact ⟨k + 1, A8, n8, c8, A9, m9, c9, by go_num, by omega, QN, by rw [HS.out]; exact QG, QB⟩
                case measure => simp [intOf]; omega
              · have n1 : (N != ([111, 107] : List UInt8)) = true := by rw [hN]; decide
                have n2 : (N == ([111, 107] : List UInt8)) = false := by rw [hN]; decide
                have n3 : (N != ([110, 111, 116] : List UInt8)) = false := by rw [hN]; decide
                have n4 : (N == ([110, 111, 116] : List UInt8)) = true := by rw [hN]; decide
                clear hN
                go_wp2
                go_roundw
                case rel => exact ⟨k + 1, A8, n8, c8, A9, m9, c9, by go_num, by omega, QN, by rw [HS.out]; exact QG, QB⟩
                case measure => simp [intOf]; omega
          | false =>
            have hstop : false = true → k = nL := by intro h; cases h
            have C8 := hid (implDeskRun_any A1 n1 c1 A2 m2 c2 D AL nL cL L w6 (KR.out _ H6.out) (KLW.out _ H6.out))
            have HEQ : Hid (false = true → nL ≤ 40 → (runL D (L.take k)).1 = (runOut D L).1) := hid (fun hd h40 => by
              have hr : runOk D L = true := by unfold runOk; rw [hdk, hd, hLl.out]; simp [h40]
              rw [run_all hr, hstop hd, ← hLl.out, List.take_length])
            obtain ⟨P, hP⟩ : ∃ P, (runL D (L.take k)).1 = P := ⟨_, rfl⟩
            rw [hP] at HEQ G6
            obtain ⟨E, cnt, hE⟩ : ∃ E b, runOut D L = (E, b) := ⟨_, _, rfl⟩
            rw [hE] at C8 HEQ
            replace HEQ : Hid (false = true → nL ≤ 40 → P = E) := HEQ
            clear hP hE hstop
            have zz := H6.out.size
            have oz := KD.out _ H6.out
            have z0 := oz.c0
            have z1 := oz.c1
            clear oz
            go_wp2_with fail
            with_reducible refine Calls.mono C8.out ?_
            rintro e w7 ⟨A3, n3, c3, A4, m4, c4, rfl, Y7, b7⟩
            obtain ⟨U, eU⟩ : ∃ U, w7.alloc (.cells #[.slice A3 n3 c3, .slice A4 m4 c4] 31) = U := ⟨_, rfl⟩
            have gU : w7.grownBy U none := by rw [← eU]; exact grown_alloc _ _ _
            have XU : Db U w7.heap.size (.slice A3 n3 c3) (.slice A4 m4 c4) := by rw [← eU]; exact Db.new _ _ _
            have YU := hid (Y7.onto gU)
            have bU := b7.trans ((below_grown gU).mono b7.size)
            have XN := hid (X6.out.below bU X6.out.lt)
            have GN := hid (G6.out.on bU)
            have HU := hid (H6.out.trans (bU.mono zz))
            obtain ⟨r, hr⟩ : ∃ r, w7.heap.size = r := ⟨_, rfl⟩
            rw [hr] at XU
            have HXU := hid XU
            clear C8 XU gU Y7 b7 bU X6 G6 H6 zz z0 z1
            go_wp2_with fail
            clear eU hr
            have KJ := hid (fun (W' : World) (h : Below W.heap.size W W') => implJournalText_any AL nL cL L W' (KLW.out W' h) (by omega) (KTW.out W' h).D)
            rw [HJ.out.1, ← sub_zero s nn] at KJ
            have KK := hid (fun (W' : World) (h : Below W.heap.size W W') => specDeskOk_any A1 n1 c1 A2 m2 c2 D W' (KR.out W' h))
            rw [hdk] at KK
            have KX := hid (fun (W' : World) (h : Below U.heap.size U W') => show (W'.cell? ⟨o, 0, none⟩ = some (.slice A1 n1 c1) ∧ W'.cell? ⟨o, 1, none⟩ = some (.slice A2 m2 c2) ∧ W'.cell? ⟨p, 0, none⟩ = some (.slice Ao no co) ∧ W'.cell? ⟨p, 1, none⟩ = some (.slice Po mo cp) ∧ W'.cell? ⟨r, 0, none⟩ = some (.slice A3 n3 c3) ∧ W'.cell? ⟨r, 1, none⟩ = some (.slice A4 m4 c4)) from by
              have h1 := KD.out W' (HU.out.trans (h.mono HU.out.size))
              have h2 := XN.out.below h XN.out.lt
              have h3 := HXU.out.below h HXU.out.lt
              exact ⟨h1.c0, h1.c1, h2.c0, h2.c1, h3.c0, h3.c1⟩)
            have KS := hid (fun (W' : World) (h : Below U.heap.size U W') => sameDesk_any Ao no co Po mo cp A3 n3 c3 A4 m4 c4 P E W' ((GN.out.on h).read) ((YU.out.on h).read))
            obtain ⟨v0, v1, v2, v3, v4, v5⟩ := KX.out U (Below.refl _ _)
            have hd1 : Below U.heap.size U U.drew := (Below.refl _ _).drew
            have hbe : (sub s 0 nn == sub s 0 nn) = true := by simp
            have hsubn := sub_str s 0 nn
            go_wp2
            refine wp_region_held_drew (S := (fun w' => w'.cell? ⟨o, 0, none⟩ = some (.slice A1 n1 c1) ∧ w'.cell? ⟨o, 1, none⟩ = some (.slice A2 m2 c2) ∧ w'.cell? ⟨p, 0, none⟩ = some (.slice Ao no co) ∧ w'.cell? ⟨p, 1, none⟩ = some (.slice Po mo cp) ∧ w'.cell? ⟨r, 0, none⟩ = some (.slice A3 n3 c3) ∧ w'.cell? ⟨r, 1, none⟩ = some (.slice A4 m4 c4))) (by kernel_rfl) (by go_keep) (fun hHeld => ?_)
            refine wpAnyH_take (i := 0) (v := ?v0a) rfl (by kernel_rfl) (by kernel_rfl) (by kernel_rfl) (fun _ _ _ h => h) (Or.inl ⟨by rfl, ?y0a⟩) (by assumption) ?r0a
            case y0a => (intro w hSw; (try dsimp only at hSw); go_simp; try with_reducible rfl)
            try simp only [List.getElem_toArray, List.getElem_cons_zero, List.getElem_cons_succ, Act.put, List.setIfInBounds_toArray, List.set_cons_zero, List.set_cons_succ]
            refine wpAnyH_take (i := 1) (v := ?v1a) rfl (by kernel_rfl) (by kernel_rfl) (by kernel_rfl) (fun _ _ _ h => h) (Or.inl ⟨by rfl, ?y1a⟩) (by assumption) ?r1a
            case y1a => (intro w hSw; (try dsimp only at hSw); go_simp; try with_reducible rfl)
            try simp only [List.getElem_toArray, List.getElem_cons_zero, List.getElem_cons_succ, Act.put, List.setIfInBounds_toArray, List.set_cons_zero, List.set_cons_succ]
            refine wpAnyH_take (i := 2) (v := ?v2a) rfl (by kernel_rfl) (by kernel_rfl) (by kernel_rfl) (fun _ _ _ h => h) (Or.inl ⟨by rfl, ?y2a⟩) (by assumption) ?r2a
            case y2a => (intro w hSw; (try dsimp only at hSw); go_simp; try with_reducible rfl)
            try simp only [List.getElem_toArray, List.getElem_cons_zero, List.getElem_cons_succ, Act.put, List.setIfInBounds_toArray, List.set_cons_zero, List.set_cons_succ]
            refine wpAnyH_take (i := 3) (v := ?v3a) rfl (by kernel_rfl) (by kernel_rfl) (by kernel_rfl) (fun _ _ _ h => h) (Or.inl ⟨by rfl, ?y3a⟩) (by assumption) ?r3a
            case y3a => (intro w hSw; (try dsimp only at hSw); go_simp; try with_reducible rfl)
            try simp only [List.getElem_toArray, List.getElem_cons_zero, List.getElem_cons_succ, Act.put, List.setIfInBounds_toArray, List.set_cons_zero, List.set_cons_succ]
            refine wpAnyH_take (i := 4) (v := ?v4a) rfl (by kernel_rfl) (by kernel_rfl) (by kernel_rfl) (fun _ _ _ h => h) (Or.inl ⟨by rfl, ?y4a⟩) (by assumption) ?r4a
            case y4a => (intro w hSw; (try dsimp only at hSw); go_simp; try with_reducible rfl)
            try simp only [List.getElem_toArray, List.getElem_cons_zero, List.getElem_cons_succ, Act.put, List.setIfInBounds_toArray, List.set_cons_zero, List.set_cons_succ]
            refine wpAnyH_take (i := 5) (v := ?v5a) rfl (by kernel_rfl) (by kernel_rfl) (by kernel_rfl) (fun _ _ _ h => h) (Or.inl ⟨by rfl, ?y5a⟩) (by assumption) ?r5a
            case y5a => (intro w hSw; (try dsimp only at hSw); go_simp; try with_reducible rfl)
            try simp only [List.getElem_toArray, List.getElem_cons_zero, List.getElem_cons_succ, Act.put, List.setIfInBounds_toArray, List.set_cons_zero, List.set_cons_succ]
            refine wpAnyH_take (i := 7) (v := ?v7a) rfl (by kernel_rfl) (by kernel_rfl) (by kernel_rfl) (fun _ _ _ h => h) (Or.inl ⟨by rfl, ?y7a⟩) (by assumption) ?r7a
            case y7a => (intro w hSw; (try dsimp only at hSw); go_simp; try with_reducible rfl)
            try simp only [List.getElem_toArray, List.getElem_cons_zero, List.getElem_cons_succ, Act.put, List.setIfInBounds_toArray, List.set_cons_zero, List.set_cons_succ]
            refine wpAnyH_take (i := 8) (v := ?v8a) rfl (by kernel_rfl) (by kernel_rfl) (by kernel_rfl) (fun _ _ _ h => h) (Or.inl ⟨by rfl, ?y8a⟩) (by assumption) ?r8a
            case y8a => (intro w hSw; (try dsimp only at hSw); go_simp; try with_reducible rfl)
            try simp only [List.getElem_toArray, List.getElem_cons_zero, List.getElem_cons_succ, Act.put, List.setIfInBounds_toArray, List.set_cons_zero, List.set_cons_succ]
            refine wpAnyH_take (i := 9) (v := ?v9a) rfl (by kernel_rfl) (by kernel_rfl) (by kernel_rfl) (fun _ _ _ h => h) (Or.inl ⟨by rfl, ?y9a⟩) (by assumption) ?r9a
            case y9a => (intro w hSw; (try dsimp only at hSw); go_simp; try with_reducible rfl)
            try simp only [List.getElem_toArray, List.getElem_cons_zero, List.getElem_cons_succ, Act.put, List.setIfInBounds_toArray, List.set_cons_zero, List.set_cons_succ]
            refine wpAnyH_ready (rs := [6]) (by kernel_rfl) (by simp) ?_
            refine AllReadyH.cons rfl (fun Kr hKr => ?_) AllReadyH.nil
            go_simp
            (go_at_call 17; with_reducible refine Calls.mono (KJ.out (U.drew) (HU.out.drew)) ?_; rintro e w8 ⟨rfl, b8⟩)
            try go_wp2_with fail
            have B8 : Below U.heap.size U w8 := hd1.trans (b8.mono hd1.size)
            refine hKr.out _ _ (KX.out _ B8) (fun hHeld => ?_)
            clear hKr Kr
            try simp only [List.getElem_toArray, List.getElem_cons_zero, List.getElem_cons_succ, Act.put, List.setIfInBounds_toArray, List.set_cons_zero, List.set_cons_succ]
            refine wpAnyH_take (i := 10) (v := ?v10a) rfl (by kernel_rfl) (by kernel_rfl) (by kernel_rfl) (fun _ _ _ h => h) (Or.inl ⟨by rfl, ?y10a⟩) (by assumption) ?r10a
            case y10a => (intro w hSw; (try dsimp only at hSw); go_simp; try with_reducible rfl)
            try simp only [List.getElem_toArray, List.getElem_cons_zero, List.getElem_cons_succ, Act.put, List.setIfInBounds_toArray, List.set_cons_zero, List.set_cons_succ]
            refine wpAnyH_take (i := 11) (v := ?v11a) rfl (by kernel_rfl) (by kernel_rfl) (by kernel_rfl) (fun _ _ _ h => h) (Or.inl ⟨by rfl, ?y11a⟩) (by assumption) ?r11a
            case y11a => (intro w hSw; (try dsimp only at hSw); go_simp; try with_reducible rfl)
            try simp only [List.getElem_toArray, List.getElem_cons_zero, List.getElem_cons_succ, Act.put, List.setIfInBounds_toArray, List.set_cons_zero, List.set_cons_succ]
            refine wpAnyH_take (i := 12) (v := ?v12a) rfl (by kernel_rfl) (by kernel_rfl) (by kernel_rfl) (fun _ _ _ h => h) (Or.inl ⟨by rfl, ?y12a⟩) (by assumption) ?r12a
            case y12a => (intro w hSw; (try dsimp only at hSw); go_simp; try with_reducible rfl)
            try simp only [List.getElem_toArray, List.getElem_cons_zero, List.getElem_cons_succ, Act.put, List.setIfInBounds_toArray, List.set_cons_zero, List.set_cons_succ]
            refine wpAnyH_take (i := 13) (v := ?v13a) rfl (by kernel_rfl) (by kernel_rfl) (by kernel_rfl) (fun _ _ _ h => h) (Or.inl ⟨by rfl, ?y13a⟩) (by assumption) ?r13a
            case y13a => (intro w hSw; (try dsimp only at hSw); go_simp; try with_reducible rfl)
            try simp only [List.getElem_toArray, List.getElem_cons_zero, List.getElem_cons_succ, Act.put, List.setIfInBounds_toArray, List.set_cons_zero, List.set_cons_succ]
            refine wpAnyH_ready (rs := [14]) (by kernel_rfl) (by simp) ?_
            refine AllReadyH.cons rfl (fun Kr hKr => ?_) AllReadyH.nil
            go_simp
            (go_at_call 13; with_reducible refine Calls.mono (KK.out w8 (HU.out.trans (B8.mono HU.out.size))) ?_; rintro e wA ⟨rfl, gA⟩)
            try go_wp2_with fail
            have BA : Below U.heap.size U wA := B8.trans ((below_grown gA).mono B8.size)
            refine hKr.out _ _ (KX.out _ BA) (fun hHeld => ?_)
            clear hKr Kr
            try simp only [List.getElem_toArray, List.getElem_cons_zero, List.getElem_cons_succ, Act.put, List.setIfInBounds_toArray, List.set_cons_zero, List.set_cons_succ]
            refine wpAnyH_take (i := 15) (v := ?v15a) rfl (by kernel_rfl) (by kernel_rfl) (by kernel_rfl) (fun _ _ _ h => h) (Or.inl ⟨by rfl, ?y15a⟩) (by assumption) ?r15a
            case y15a => (intro w hSw; (try dsimp only at hSw); go_simp; try with_reducible rfl)
            try simp only [List.getElem_toArray, List.getElem_cons_zero, List.getElem_cons_succ, Act.put, List.setIfInBounds_toArray, List.set_cons_zero, List.set_cons_succ]
            refine wpAnyH_take (i := 16) (v := ?v16a) rfl (by kernel_rfl) (by kernel_rfl) (by kernel_rfl) (fun _ _ _ h => h) (Or.inl ⟨by rfl, ?y16a⟩) (by assumption) ?r16a
            case y16a => (intro w hSw; (try dsimp only at hSw); go_simp; try with_reducible rfl)
            try simp only [List.getElem_toArray, List.getElem_cons_zero, List.getElem_cons_succ, Act.put, List.setIfInBounds_toArray, List.set_cons_zero, List.set_cons_succ]
            refine wpAnyH_take (i := 17) (v := undef) rfl (by kernel_rfl) (by kernel_rfl) (by kernel_rfl) (fun _ _ _ h => h) (Or.inr ⟨by rfl, rfl⟩) (by assumption) ?_
            try simp only [List.getElem_toArray, List.getElem_cons_zero, List.getElem_cons_succ, Act.put, List.setIfInBounds_toArray, List.set_cons_zero, List.set_cons_succ]
            refine wpAnyH_take (i := 18) (v := undef) rfl (by kernel_rfl) (by kernel_rfl) (by kernel_rfl) (fun _ _ _ h => h) (Or.inr ⟨by rfl, rfl⟩) (by assumption) ?_
            try simp only [List.getElem_toArray, List.getElem_cons_zero, List.getElem_cons_succ, Act.put, List.setIfInBounds_toArray, List.set_cons_zero, List.set_cons_succ]
            refine wpAnyH_take (i := 19) (v := undef) rfl (by kernel_rfl) (by kernel_rfl) (by kernel_rfl) (fun _ _ _ h => h) (Or.inr ⟨by rfl, rfl⟩) (by assumption) ?_
            try simp only [List.getElem_toArray, List.getElem_cons_zero, List.getElem_cons_succ, Act.put, List.setIfInBounds_toArray, List.set_cons_zero, List.set_cons_succ]
            refine wpAnyH_take (i := 20) (v := ?v20a) rfl (by kernel_rfl) (by kernel_rfl) (by kernel_rfl) (fun _ _ _ h => h) (Or.inl ⟨by rfl, ?y20a⟩) (by assumption) ?r20a
            case y20a => (intro w hSw; (try dsimp only at hSw); go_simp; try with_reducible rfl)
            try simp only [List.getElem_toArray, List.getElem_cons_zero, List.getElem_cons_succ, Act.put, List.setIfInBounds_toArray, List.set_cons_zero, List.set_cons_succ]
            refine wpAnyH_take (i := 21) (v := ?v21a) rfl (by kernel_rfl) (by kernel_rfl) (by kernel_rfl) (fun _ _ _ h => h) (Or.inl ⟨by rfl, ?y21a⟩) (by assumption) ?r21a
            case y21a => (intro w hSw; (try dsimp only at hSw); go_simp; try with_reducible rfl)
            try simp only [List.getElem_toArray, List.getElem_cons_zero, List.getElem_cons_succ, Act.put, List.setIfInBounds_toArray, List.set_cons_zero, List.set_cons_succ]
            refine wpAnyH_take (i := 22) (v := undef) rfl (by kernel_rfl) (by kernel_rfl) (by kernel_rfl) (fun _ _ _ h => h) (Or.inr ⟨by rfl, rfl⟩) (by assumption) ?_
            try simp only [List.getElem_toArray, List.getElem_cons_zero, List.getElem_cons_succ, Act.put, List.setIfInBounds_toArray, List.set_cons_zero, List.set_cons_succ]
            refine wpAnyH_take (i := 23) (v := undef) rfl (by kernel_rfl) (by kernel_rfl) (by kernel_rfl) (fun _ _ _ h => h) (Or.inr ⟨by rfl, rfl⟩) (by assumption) ?_
            try simp only [List.getElem_toArray, List.getElem_cons_zero, List.getElem_cons_succ, Act.put, List.setIfInBounds_toArray, List.set_cons_zero, List.set_cons_succ]
            refine wpAnyH_take (i := 24) (v := undef) rfl (by kernel_rfl) (by kernel_rfl) (by kernel_rfl) (fun _ _ _ h => h) (Or.inr ⟨by rfl, rfl⟩) (by assumption) ?_
            try simp only [List.getElem_toArray, List.getElem_cons_zero, List.getElem_cons_succ, Act.put, List.setIfInBounds_toArray, List.set_cons_zero, List.set_cons_succ]
            refine wpAnyH_take (i := 25) (v := ?v25a) rfl (by kernel_rfl) (by kernel_rfl) (by kernel_rfl) (fun _ _ _ h => h) (Or.inl ⟨by rfl, ?y25a⟩) (by assumption) ?r25a
            case y25a => (intro w hSw; (try dsimp only at hSw); go_simp; try with_reducible rfl)
            try simp only [List.getElem_toArray, List.getElem_cons_zero, List.getElem_cons_succ, Act.put, List.setIfInBounds_toArray, List.set_cons_zero, List.set_cons_succ]
            refine wpAnyH_take (i := 26) (v := ?v26a) rfl (by kernel_rfl) (by kernel_rfl) (by kernel_rfl) (fun _ _ _ h => h) (Or.inl ⟨by rfl, ?y26a⟩) (by assumption) ?r26a
            case y26a => (intro w hSw; (try dsimp only at hSw); go_simp; try with_reducible rfl)
            try simp only [List.getElem_toArray, List.getElem_cons_zero, List.getElem_cons_succ, Act.put, List.setIfInBounds_toArray, List.set_cons_zero, List.set_cons_succ]
            refine wpAnyH_take (i := 27) (v := ?v27a) rfl (by kernel_rfl) (by kernel_rfl) (by kernel_rfl) (fun _ _ _ h => h) (Or.inl ⟨by rfl, ?y27a⟩) (by assumption) ?r27a
            case y27a => (intro w hSw; (try dsimp only at hSw); go_simp; try with_reducible rfl)
            try simp only [List.getElem_toArray, List.getElem_cons_zero, List.getElem_cons_succ, Act.put, List.setIfInBounds_toArray, List.set_cons_zero, List.set_cons_succ]
            refine wpAnyH_ready (rs := [28]) (by kernel_rfl) (by simp) ?_
            refine AllReadyH.cons rfl (fun Kr hKr => ?_) AllReadyH.nil
            go_simp
            (go_at_call 19; with_reducible refine Calls.mono (alive_any wA) ?_; rintro e wB ⟨rfl, bB⟩)
            try go_wp2_with fail
            have BB : Below U.heap.size U wB := BA.trans (bB.mono BA.size)
            refine hKr.out _ _ (KX.out _ BB) (fun hHeld => ?_)
            clear hKr Kr
            try simp only [List.getElem_toArray, List.getElem_cons_zero, List.getElem_cons_succ, Act.put, List.setIfInBounds_toArray, List.set_cons_zero, List.set_cons_succ]
            refine wpAnyH_take (i := 29) (v := ?v29a) rfl (by kernel_rfl) (by kernel_rfl) (by kernel_rfl) (fun _ _ _ h => h) (Or.inl ⟨by rfl, ?y29a⟩) (by assumption) ?r29a
            case y29a => (intro w hSw; (try dsimp only at hSw); go_simp; try with_reducible rfl)
            try simp only [List.getElem_toArray, List.getElem_cons_zero, List.getElem_cons_succ, Act.put, List.setIfInBounds_toArray, List.set_cons_zero, List.set_cons_succ]
            refine wpAnyH_take (i := 30) (v := ?v30a) rfl (by kernel_rfl) (by kernel_rfl) (by kernel_rfl) (fun _ _ _ h => h) (Or.inl ⟨by rfl, ?y30a⟩) (by assumption) ?r30a
            case y30a => (intro w hSw; (try dsimp only at hSw); go_simp; try with_reducible rfl)
            try simp only [List.getElem_toArray, List.getElem_cons_zero, List.getElem_cons_succ, Act.put, List.setIfInBounds_toArray, List.set_cons_zero, List.set_cons_succ]
            refine wpAnyH_done (by kernel_rfl) ?_ _
            have HBB := hid (HU.out.trans (BB.mono HU.out.size))
            clear b8 gA bB
            go_wp2
            go_ret
            exact ⟨rfl, HB1.out.trans ((HBW.out.trans (HBB.out.mono HBW.out.size)).mono HB1.out.size)⟩
        · have hki : ¬ (k : Int) < (nL : Int) := by omega
          have hkd : decide ((k : Int) < (nL : Int)) = false := by simp; omega
          have hstop : dk = true → k = nL := fun _ => by omega
          clear x0 x1
          have C8 := hid (implDeskRun_any A1 n1 c1 A2 m2 c2 D AL nL cL L wr (KR.out _ HB.out) (KLW.out _ HB.out))
          have HEQ : Hid (dk = true → nL ≤ 40 → (runL D (L.take k)).1 = (runOut D L).1) := hid (fun hd h40 => by
            have hr : runOk D L = true := by unfold runOk; rw [hdk, hd, hLl.out]; simp [h40]
            rw [run_all hr, hstop hd, ← hLl.out, List.take_length])
          obtain ⟨P, hP⟩ : ∃ P, (runL D (L.take k)).1 = P := ⟨_, rfl⟩
          rw [hP] at HEQ HG
          obtain ⟨E, cnt, hE⟩ : ∃ E b, runOut D L = (E, b) := ⟨_, _, rfl⟩
          rw [hE] at C8 HEQ
          replace HEQ : Hid (dk = true → nL ≤ 40 → P = E) := HEQ
          clear hP hE hstop
          have zz := HB.out.size
          have oz := KD.out _ HB.out
          have z0 := oz.c0
          have z1 := oz.c1
          clear oz
          go_wp2_with fail
          with_reducible refine Calls.mono C8.out ?_
          rintro e w7 ⟨A3, n3, c3, A4, m4, c4, rfl, Y7, b7⟩
          obtain ⟨U, eU⟩ : ∃ U, w7.alloc (.cells #[.slice A3 n3 c3, .slice A4 m4 c4] 31) = U := ⟨_, rfl⟩
          have gU : w7.grownBy U none := by rw [← eU]; exact grown_alloc _ _ _
          have XU : Db U w7.heap.size (.slice A3 n3 c3) (.slice A4 m4 c4) := by rw [← eU]; exact Db.new _ _ _
          have YU := hid (Y7.onto gU)
          have bU := b7.trans ((below_grown gU).mono b7.size)
          have XN := hid (HX.out.below bU HX.out.lt)
          have GN := hid (HG.out.on bU)
          have HU := hid (HB.out.trans (bU.mono zz))
          obtain ⟨r, hr⟩ : ∃ r, w7.heap.size = r := ⟨_, rfl⟩
          rw [hr] at XU
          have HXU := hid XU
          clear C8 XU gU Y7 b7 bU HX HG HB zz z0 z1
          go_wp2_with fail
          clear eU hr
          have KJ := hid (fun (W' : World) (h : Below W.heap.size W W') => implJournalText_any AL nL cL L W' (KLW.out W' h) (by omega) (KTW.out W' h).D)
          rw [HJ.out.1, ← sub_zero s nn] at KJ
          have KK := hid (fun (W' : World) (h : Below W.heap.size W W') => specDeskOk_any A1 n1 c1 A2 m2 c2 D W' (KR.out W' h))
          rw [hdk] at KK
          have KX := hid (fun (W' : World) (h : Below U.heap.size U W') => show (W'.cell? ⟨o, 0, none⟩ = some (.slice A1 n1 c1) ∧ W'.cell? ⟨o, 1, none⟩ = some (.slice A2 m2 c2) ∧ W'.cell? ⟨p, 0, none⟩ = some (.slice Ao no co) ∧ W'.cell? ⟨p, 1, none⟩ = some (.slice Po mo cp) ∧ W'.cell? ⟨r, 0, none⟩ = some (.slice A3 n3 c3) ∧ W'.cell? ⟨r, 1, none⟩ = some (.slice A4 m4 c4)) from by
            have h1 := KD.out W' (HU.out.trans (h.mono HU.out.size))
            have h2 := XN.out.below h XN.out.lt
            have h3 := HXU.out.below h HXU.out.lt
            exact ⟨h1.c0, h1.c1, h2.c0, h2.c1, h3.c0, h3.c1⟩)
          have KS := hid (fun (W' : World) (h : Below U.heap.size U W') => sameDesk_any Ao no co Po mo cp A3 n3 c3 A4 m4 c4 P E W' ((GN.out.on h).read) ((YU.out.on h).read))
          obtain ⟨v0, v1, v2, v3, v4, v5⟩ := KX.out U (Below.refl _ _)
          have hd1 : Below U.heap.size U U.drew := (Below.refl _ _).drew
          have hbe : (sub s 0 nn == sub s 0 nn) = true := by simp
          have hsubn := sub_str s 0 nn
          cases dk with
          | false =>
            go_wp2
            refine wp_region_held_drew (S := (fun w' => w'.cell? ⟨o, 0, none⟩ = some (.slice A1 n1 c1) ∧ w'.cell? ⟨o, 1, none⟩ = some (.slice A2 m2 c2) ∧ w'.cell? ⟨p, 0, none⟩ = some (.slice Ao no co) ∧ w'.cell? ⟨p, 1, none⟩ = some (.slice Po mo cp) ∧ w'.cell? ⟨r, 0, none⟩ = some (.slice A3 n3 c3) ∧ w'.cell? ⟨r, 1, none⟩ = some (.slice A4 m4 c4))) (by kernel_rfl) (by go_keep) (fun hHeld => ?_)
            refine wpAnyH_take (i := 0) (v := ?v0b) rfl (by kernel_rfl) (by kernel_rfl) (by kernel_rfl) (fun _ _ _ h => h) (Or.inl ⟨by rfl, ?y0b⟩) (by assumption) ?r0b
            case y0b => (intro w hSw; (try dsimp only at hSw); go_simp; try with_reducible rfl)
            try simp only [List.getElem_toArray, List.getElem_cons_zero, List.getElem_cons_succ, Act.put, List.setIfInBounds_toArray, List.set_cons_zero, List.set_cons_succ]
            refine wpAnyH_take (i := 1) (v := ?v1b) rfl (by kernel_rfl) (by kernel_rfl) (by kernel_rfl) (fun _ _ _ h => h) (Or.inl ⟨by rfl, ?y1b⟩) (by assumption) ?r1b
            case y1b => (intro w hSw; (try dsimp only at hSw); go_simp; try with_reducible rfl)
            try simp only [List.getElem_toArray, List.getElem_cons_zero, List.getElem_cons_succ, Act.put, List.setIfInBounds_toArray, List.set_cons_zero, List.set_cons_succ]
            refine wpAnyH_take (i := 2) (v := ?v2b) rfl (by kernel_rfl) (by kernel_rfl) (by kernel_rfl) (fun _ _ _ h => h) (Or.inl ⟨by rfl, ?y2b⟩) (by assumption) ?r2b
            case y2b => (intro w hSw; (try dsimp only at hSw); go_simp; try with_reducible rfl)
            try simp only [List.getElem_toArray, List.getElem_cons_zero, List.getElem_cons_succ, Act.put, List.setIfInBounds_toArray, List.set_cons_zero, List.set_cons_succ]
            refine wpAnyH_take (i := 3) (v := ?v3b) rfl (by kernel_rfl) (by kernel_rfl) (by kernel_rfl) (fun _ _ _ h => h) (Or.inl ⟨by rfl, ?y3b⟩) (by assumption) ?r3b
            case y3b => (intro w hSw; (try dsimp only at hSw); go_simp; try with_reducible rfl)
            try simp only [List.getElem_toArray, List.getElem_cons_zero, List.getElem_cons_succ, Act.put, List.setIfInBounds_toArray, List.set_cons_zero, List.set_cons_succ]
            refine wpAnyH_take (i := 4) (v := ?v4b) rfl (by kernel_rfl) (by kernel_rfl) (by kernel_rfl) (fun _ _ _ h => h) (Or.inl ⟨by rfl, ?y4b⟩) (by assumption) ?r4b
            case y4b => (intro w hSw; (try dsimp only at hSw); go_simp; try with_reducible rfl)
            try simp only [List.getElem_toArray, List.getElem_cons_zero, List.getElem_cons_succ, Act.put, List.setIfInBounds_toArray, List.set_cons_zero, List.set_cons_succ]
            refine wpAnyH_take (i := 5) (v := ?v5b) rfl (by kernel_rfl) (by kernel_rfl) (by kernel_rfl) (fun _ _ _ h => h) (Or.inl ⟨by rfl, ?y5b⟩) (by assumption) ?r5b
            case y5b => (intro w hSw; (try dsimp only at hSw); go_simp; try with_reducible rfl)
            try simp only [List.getElem_toArray, List.getElem_cons_zero, List.getElem_cons_succ, Act.put, List.setIfInBounds_toArray, List.set_cons_zero, List.set_cons_succ]
            refine wpAnyH_take (i := 7) (v := ?v7b) rfl (by kernel_rfl) (by kernel_rfl) (by kernel_rfl) (fun _ _ _ h => h) (Or.inl ⟨by rfl, ?y7b⟩) (by assumption) ?r7b
            case y7b => (intro w hSw; (try dsimp only at hSw); go_simp; try with_reducible rfl)
            try simp only [List.getElem_toArray, List.getElem_cons_zero, List.getElem_cons_succ, Act.put, List.setIfInBounds_toArray, List.set_cons_zero, List.set_cons_succ]
            refine wpAnyH_take (i := 8) (v := ?v8b) rfl (by kernel_rfl) (by kernel_rfl) (by kernel_rfl) (fun _ _ _ h => h) (Or.inl ⟨by rfl, ?y8b⟩) (by assumption) ?r8b
            case y8b => (intro w hSw; (try dsimp only at hSw); go_simp; try with_reducible rfl)
            try simp only [List.getElem_toArray, List.getElem_cons_zero, List.getElem_cons_succ, Act.put, List.setIfInBounds_toArray, List.set_cons_zero, List.set_cons_succ]
            refine wpAnyH_take (i := 9) (v := ?v9b) rfl (by kernel_rfl) (by kernel_rfl) (by kernel_rfl) (fun _ _ _ h => h) (Or.inl ⟨by rfl, ?y9b⟩) (by assumption) ?r9b
            case y9b => (intro w hSw; (try dsimp only at hSw); go_simp; try with_reducible rfl)
            try simp only [List.getElem_toArray, List.getElem_cons_zero, List.getElem_cons_succ, Act.put, List.setIfInBounds_toArray, List.set_cons_zero, List.set_cons_succ]
            refine wpAnyH_ready (rs := [6]) (by kernel_rfl) (by simp) ?_
            refine AllReadyH.cons rfl (fun Kr hKr => ?_) AllReadyH.nil
            go_simp
            (go_at_call 17; with_reducible refine Calls.mono (KJ.out (U.drew) (HU.out.drew)) ?_; rintro e w8 ⟨rfl, b8⟩)
            try go_wp2_with fail
            have B8 : Below U.heap.size U w8 := hd1.trans (b8.mono hd1.size)
            refine hKr.out _ _ (KX.out _ B8) (fun hHeld => ?_)
            clear hKr Kr
            try simp only [List.getElem_toArray, List.getElem_cons_zero, List.getElem_cons_succ, Act.put, List.setIfInBounds_toArray, List.set_cons_zero, List.set_cons_succ]
            refine wpAnyH_take (i := 10) (v := ?v10b) rfl (by kernel_rfl) (by kernel_rfl) (by kernel_rfl) (fun _ _ _ h => h) (Or.inl ⟨by rfl, ?y10b⟩) (by assumption) ?r10b
            case y10b => (intro w hSw; (try dsimp only at hSw); go_simp; try with_reducible rfl)
            try simp only [List.getElem_toArray, List.getElem_cons_zero, List.getElem_cons_succ, Act.put, List.setIfInBounds_toArray, List.set_cons_zero, List.set_cons_succ]
            refine wpAnyH_take (i := 11) (v := ?v11b) rfl (by kernel_rfl) (by kernel_rfl) (by kernel_rfl) (fun _ _ _ h => h) (Or.inl ⟨by rfl, ?y11b⟩) (by assumption) ?r11b
            case y11b => (intro w hSw; (try dsimp only at hSw); go_simp; try with_reducible rfl)
            try simp only [List.getElem_toArray, List.getElem_cons_zero, List.getElem_cons_succ, Act.put, List.setIfInBounds_toArray, List.set_cons_zero, List.set_cons_succ]
            refine wpAnyH_take (i := 12) (v := ?v12b) rfl (by kernel_rfl) (by kernel_rfl) (by kernel_rfl) (fun _ _ _ h => h) (Or.inl ⟨by rfl, ?y12b⟩) (by assumption) ?r12b
            case y12b => (intro w hSw; (try dsimp only at hSw); go_simp; try with_reducible rfl)
            try simp only [List.getElem_toArray, List.getElem_cons_zero, List.getElem_cons_succ, Act.put, List.setIfInBounds_toArray, List.set_cons_zero, List.set_cons_succ]
            refine wpAnyH_take (i := 13) (v := ?v13b) rfl (by kernel_rfl) (by kernel_rfl) (by kernel_rfl) (fun _ _ _ h => h) (Or.inl ⟨by rfl, ?y13b⟩) (by assumption) ?r13b
            case y13b => (intro w hSw; (try dsimp only at hSw); go_simp; try with_reducible rfl)
            try simp only [List.getElem_toArray, List.getElem_cons_zero, List.getElem_cons_succ, Act.put, List.setIfInBounds_toArray, List.set_cons_zero, List.set_cons_succ]
            refine wpAnyH_ready (rs := [14]) (by kernel_rfl) (by simp) ?_
            refine AllReadyH.cons rfl (fun Kr hKr => ?_) AllReadyH.nil
            go_simp
            (go_at_call 13; with_reducible refine Calls.mono (KK.out w8 (HU.out.trans (B8.mono HU.out.size))) ?_; rintro e wA ⟨rfl, gA⟩)
            try go_wp2_with fail
            have BA : Below U.heap.size U wA := B8.trans ((below_grown gA).mono B8.size)
            refine hKr.out _ _ (KX.out _ BA) (fun hHeld => ?_)
            clear hKr Kr
            try simp only [List.getElem_toArray, List.getElem_cons_zero, List.getElem_cons_succ, Act.put, List.setIfInBounds_toArray, List.set_cons_zero, List.set_cons_succ]
            refine wpAnyH_take (i := 15) (v := ?v15b) rfl (by kernel_rfl) (by kernel_rfl) (by kernel_rfl) (fun _ _ _ h => h) (Or.inl ⟨by rfl, ?y15b⟩) (by assumption) ?r15b
            case y15b => (intro w hSw; (try dsimp only at hSw); go_simp; try with_reducible rfl)
            try simp only [List.getElem_toArray, List.getElem_cons_zero, List.getElem_cons_succ, Act.put, List.setIfInBounds_toArray, List.set_cons_zero, List.set_cons_succ]
            refine wpAnyH_take (i := 16) (v := ?v16b) rfl (by kernel_rfl) (by kernel_rfl) (by kernel_rfl) (fun _ _ _ h => h) (Or.inl ⟨by rfl, ?y16b⟩) (by assumption) ?r16b
            case y16b => (intro w hSw; (try dsimp only at hSw); go_simp; try with_reducible rfl)
            try simp only [List.getElem_toArray, List.getElem_cons_zero, List.getElem_cons_succ, Act.put, List.setIfInBounds_toArray, List.set_cons_zero, List.set_cons_succ]
            refine wpAnyH_take (i := 17) (v := undef) rfl (by kernel_rfl) (by kernel_rfl) (by kernel_rfl) (fun _ _ _ h => h) (Or.inr ⟨by rfl, rfl⟩) (by assumption) ?_
            try simp only [List.getElem_toArray, List.getElem_cons_zero, List.getElem_cons_succ, Act.put, List.setIfInBounds_toArray, List.set_cons_zero, List.set_cons_succ]
            refine wpAnyH_take (i := 18) (v := undef) rfl (by kernel_rfl) (by kernel_rfl) (by kernel_rfl) (fun _ _ _ h => h) (Or.inr ⟨by rfl, rfl⟩) (by assumption) ?_
            try simp only [List.getElem_toArray, List.getElem_cons_zero, List.getElem_cons_succ, Act.put, List.setIfInBounds_toArray, List.set_cons_zero, List.set_cons_succ]
            refine wpAnyH_take (i := 19) (v := undef) rfl (by kernel_rfl) (by kernel_rfl) (by kernel_rfl) (fun _ _ _ h => h) (Or.inr ⟨by rfl, rfl⟩) (by assumption) ?_
            try simp only [List.getElem_toArray, List.getElem_cons_zero, List.getElem_cons_succ, Act.put, List.setIfInBounds_toArray, List.set_cons_zero, List.set_cons_succ]
            refine wpAnyH_take (i := 20) (v := ?v20b) rfl (by kernel_rfl) (by kernel_rfl) (by kernel_rfl) (fun _ _ _ h => h) (Or.inl ⟨by rfl, ?y20b⟩) (by assumption) ?r20b
            case y20b => (intro w hSw; (try dsimp only at hSw); go_simp; try with_reducible rfl)
            try simp only [List.getElem_toArray, List.getElem_cons_zero, List.getElem_cons_succ, Act.put, List.setIfInBounds_toArray, List.set_cons_zero, List.set_cons_succ]
            refine wpAnyH_take (i := 21) (v := ?v21b) rfl (by kernel_rfl) (by kernel_rfl) (by kernel_rfl) (fun _ _ _ h => h) (Or.inl ⟨by rfl, ?y21b⟩) (by assumption) ?r21b
            case y21b => (intro w hSw; (try dsimp only at hSw); go_simp; try with_reducible rfl)
            try simp only [List.getElem_toArray, List.getElem_cons_zero, List.getElem_cons_succ, Act.put, List.setIfInBounds_toArray, List.set_cons_zero, List.set_cons_succ]
            refine wpAnyH_take (i := 22) (v := undef) rfl (by kernel_rfl) (by kernel_rfl) (by kernel_rfl) (fun _ _ _ h => h) (Or.inr ⟨by rfl, rfl⟩) (by assumption) ?_
            try simp only [List.getElem_toArray, List.getElem_cons_zero, List.getElem_cons_succ, Act.put, List.setIfInBounds_toArray, List.set_cons_zero, List.set_cons_succ]
            refine wpAnyH_take (i := 23) (v := undef) rfl (by kernel_rfl) (by kernel_rfl) (by kernel_rfl) (fun _ _ _ h => h) (Or.inr ⟨by rfl, rfl⟩) (by assumption) ?_
            try simp only [List.getElem_toArray, List.getElem_cons_zero, List.getElem_cons_succ, Act.put, List.setIfInBounds_toArray, List.set_cons_zero, List.set_cons_succ]
            refine wpAnyH_take (i := 24) (v := undef) rfl (by kernel_rfl) (by kernel_rfl) (by kernel_rfl) (fun _ _ _ h => h) (Or.inr ⟨by rfl, rfl⟩) (by assumption) ?_
            try simp only [List.getElem_toArray, List.getElem_cons_zero, List.getElem_cons_succ, Act.put, List.setIfInBounds_toArray, List.set_cons_zero, List.set_cons_succ]
            refine wpAnyH_take (i := 25) (v := ?v25b) rfl (by kernel_rfl) (by kernel_rfl) (by kernel_rfl) (fun _ _ _ h => h) (Or.inl ⟨by rfl, ?y25b⟩) (by assumption) ?r25b
            case y25b => (intro w hSw; (try dsimp only at hSw); go_simp; try with_reducible rfl)
            try simp only [List.getElem_toArray, List.getElem_cons_zero, List.getElem_cons_succ, Act.put, List.setIfInBounds_toArray, List.set_cons_zero, List.set_cons_succ]
            refine wpAnyH_take (i := 26) (v := ?v26b) rfl (by kernel_rfl) (by kernel_rfl) (by kernel_rfl) (fun _ _ _ h => h) (Or.inl ⟨by rfl, ?y26b⟩) (by assumption) ?r26b
            case y26b => (intro w hSw; (try dsimp only at hSw); go_simp; try with_reducible rfl)
            try simp only [List.getElem_toArray, List.getElem_cons_zero, List.getElem_cons_succ, Act.put, List.setIfInBounds_toArray, List.set_cons_zero, List.set_cons_succ]
            refine wpAnyH_take (i := 27) (v := ?v27b) rfl (by kernel_rfl) (by kernel_rfl) (by kernel_rfl) (fun _ _ _ h => h) (Or.inl ⟨by rfl, ?y27b⟩) (by assumption) ?r27b
            case y27b => (intro w hSw; (try dsimp only at hSw); go_simp; try with_reducible rfl)
            try simp only [List.getElem_toArray, List.getElem_cons_zero, List.getElem_cons_succ, Act.put, List.setIfInBounds_toArray, List.set_cons_zero, List.set_cons_succ]
            refine wpAnyH_ready (rs := [28]) (by kernel_rfl) (by simp) ?_
            refine AllReadyH.cons rfl (fun Kr hKr => ?_) AllReadyH.nil
            go_simp
            (go_at_call 19; with_reducible refine Calls.mono (alive_any wA) ?_; rintro e wB ⟨rfl, bB⟩)
            try go_wp2_with fail
            have BB : Below U.heap.size U wB := BA.trans (bB.mono BA.size)
            refine hKr.out _ _ (KX.out _ BB) (fun hHeld => ?_)
            clear hKr Kr
            try simp only [List.getElem_toArray, List.getElem_cons_zero, List.getElem_cons_succ, Act.put, List.setIfInBounds_toArray, List.set_cons_zero, List.set_cons_succ]
            refine wpAnyH_take (i := 29) (v := ?v29b) rfl (by kernel_rfl) (by kernel_rfl) (by kernel_rfl) (fun _ _ _ h => h) (Or.inl ⟨by rfl, ?y29b⟩) (by assumption) ?r29b
            case y29b => (intro w hSw; (try dsimp only at hSw); go_simp; try with_reducible rfl)
            try simp only [List.getElem_toArray, List.getElem_cons_zero, List.getElem_cons_succ, Act.put, List.setIfInBounds_toArray, List.set_cons_zero, List.set_cons_succ]
            refine wpAnyH_take (i := 30) (v := ?v30b) rfl (by kernel_rfl) (by kernel_rfl) (by kernel_rfl) (fun _ _ _ h => h) (Or.inl ⟨by rfl, ?y30b⟩) (by assumption) ?r30b
            case y30b => (intro w hSw; (try dsimp only at hSw); go_simp; try with_reducible rfl)
            try simp only [List.getElem_toArray, List.getElem_cons_zero, List.getElem_cons_succ, Act.put, List.setIfInBounds_toArray, List.set_cons_zero, List.set_cons_succ]
            refine wpAnyH_done (by kernel_rfl) ?_ _
            have HBB := hid (HU.out.trans (BB.mono HU.out.size))
            clear b8 gA bB
            go_wp2
            go_ret
            exact ⟨rfl, HB1.out.trans ((HBW.out.trans (HBB.out.mono HBW.out.size)).mono HB1.out.size)⟩
          | true =>
            by_cases h40 : nL ≤ 40
            · have h40i : ¬ (40 : Int) < (nL : Int) := by omega
              have h40d : decide ((40 : Int) < (nL : Int)) = false := by simp; omega
              have hEq := HEQ.out rfl h40
              subst hEq
              rw [sameB_refl] at KS
              go_wp2
              go_region_held3 (fun w' => w'.cell? ⟨o, 0, none⟩ = some (.slice A1 n1 c1) ∧ w'.cell? ⟨o, 1, none⟩ = some (.slice A2 m2 c2) ∧ w'.cell? ⟨p, 0, none⟩ = some (.slice Ao no co) ∧ w'.cell? ⟨p, 1, none⟩ = some (.slice Po mo cp) ∧ w'.cell? ⟨r, 0, none⟩ = some (.slice A3 n3 c3) ∧ w'.cell? ⟨r, 1, none⟩ = some (.slice A4 m4 c4))
                (first
                  | go_keep
                  | assumption)
                (first
                  | (go_at_call 17; (with_reducible refine Calls.mono (KJ.out (U.drew) (HU.out.drew)) ?_); rintro e w8 ⟨rfl, b8⟩; have B8 : Below U.heap.size U w8 := hd1.trans (b8.mono hd1.size); have kx8 := KX.out _ B8)
                  | (go_at_call 17; (with_reducible refine Calls.mono (KJ.out U HU.out) ?_); rintro e w8 ⟨rfl, b8⟩; have B8 : Below U.heap.size U w8 := b8; have kx8 := KX.out _ B8)
                  | (go_at_call 13; (with_reducible refine Calls.mono (KK.out w8 (HU.out.trans (B8.mono HU.out.size))) ?_); rintro e wA ⟨rfl, gA⟩; have BA : Below U.heap.size U wA := B8.trans ((below_grown gA).mono B8.size); have kxA := KX.out _ BA)
                  | (go_at_call 18; (with_reducible refine Calls.mono (KS.out wA BA) ?_); rintro e wC ⟨rfl, bC⟩; have BC : Below U.heap.size U wC := BA.trans (bC.mono BA.size); have kxC := KX.out _ BC)
                  | (go_at_call 19; (with_reducible refine Calls.mono (alive_any wC) ?_); rintro e wB ⟨rfl, bB⟩; have BB : Below U.heap.size U wB := BC.trans (bB.mono BC.size); have kxB := KX.out _ BB))
              all_goals
                have HBB := hid (HU.out.trans (BB.mono HU.out.size))
                go_wp2
                go_ret
                exact ⟨rfl, HB1.out.trans ((HBW.out.trans (HBB.out.mono HBW.out.size)).mono HB1.out.size)⟩
            · have h40i : (40 : Int) < (nL : Int) := by omega
              have h40d : decide ((40 : Int) < (nL : Int)) = true := by simp; omega
              go_wp2
              refine wp_region_held_drew (S := (fun w' => w'.cell? ⟨o, 0, none⟩ = some (.slice A1 n1 c1) ∧ w'.cell? ⟨o, 1, none⟩ = some (.slice A2 m2 c2) ∧ w'.cell? ⟨p, 0, none⟩ = some (.slice Ao no co) ∧ w'.cell? ⟨p, 1, none⟩ = some (.slice Po mo cp) ∧ w'.cell? ⟨r, 0, none⟩ = some (.slice A3 n3 c3) ∧ w'.cell? ⟨r, 1, none⟩ = some (.slice A4 m4 c4))) (by kernel_rfl) (by go_keep) (fun hHeld => ?_)
              refine wpAnyH_take (i := 0) (v := ?v0c) rfl (by kernel_rfl) (by kernel_rfl) (by kernel_rfl) (fun _ _ _ h => h) (Or.inl ⟨by rfl, ?y0c⟩) (by assumption) ?r0c
              case y0c => (intro w hSw; (try dsimp only at hSw); go_simp; try with_reducible rfl)
              try simp only [List.getElem_toArray, List.getElem_cons_zero, List.getElem_cons_succ, Act.put, List.setIfInBounds_toArray, List.set_cons_zero, List.set_cons_succ]
              refine wpAnyH_take (i := 1) (v := ?v1c) rfl (by kernel_rfl) (by kernel_rfl) (by kernel_rfl) (fun _ _ _ h => h) (Or.inl ⟨by rfl, ?y1c⟩) (by assumption) ?r1c
              case y1c => (intro w hSw; (try dsimp only at hSw); go_simp; try with_reducible rfl)
              try simp only [List.getElem_toArray, List.getElem_cons_zero, List.getElem_cons_succ, Act.put, List.setIfInBounds_toArray, List.set_cons_zero, List.set_cons_succ]
              refine wpAnyH_take (i := 2) (v := ?v2c) rfl (by kernel_rfl) (by kernel_rfl) (by kernel_rfl) (fun _ _ _ h => h) (Or.inl ⟨by rfl, ?y2c⟩) (by assumption) ?r2c
              case y2c => (intro w hSw; (try dsimp only at hSw); go_simp; try with_reducible rfl)
              try simp only [List.getElem_toArray, List.getElem_cons_zero, List.getElem_cons_succ, Act.put, List.setIfInBounds_toArray, List.set_cons_zero, List.set_cons_succ]
              refine wpAnyH_take (i := 3) (v := ?v3c) rfl (by kernel_rfl) (by kernel_rfl) (by kernel_rfl) (fun _ _ _ h => h) (Or.inl ⟨by rfl, ?y3c⟩) (by assumption) ?r3c
              case y3c => (intro w hSw; (try dsimp only at hSw); go_simp; try with_reducible rfl)
              try simp only [List.getElem_toArray, List.getElem_cons_zero, List.getElem_cons_succ, Act.put, List.setIfInBounds_toArray, List.set_cons_zero, List.set_cons_succ]
              refine wpAnyH_take (i := 4) (v := ?v4c) rfl (by kernel_rfl) (by kernel_rfl) (by kernel_rfl) (fun _ _ _ h => h) (Or.inl ⟨by rfl, ?y4c⟩) (by assumption) ?r4c
              case y4c => (intro w hSw; (try dsimp only at hSw); go_simp; try with_reducible rfl)
              try simp only [List.getElem_toArray, List.getElem_cons_zero, List.getElem_cons_succ, Act.put, List.setIfInBounds_toArray, List.set_cons_zero, List.set_cons_succ]
              refine wpAnyH_take (i := 5) (v := ?v5c) rfl (by kernel_rfl) (by kernel_rfl) (by kernel_rfl) (fun _ _ _ h => h) (Or.inl ⟨by rfl, ?y5c⟩) (by assumption) ?r5c
              case y5c => (intro w hSw; (try dsimp only at hSw); go_simp; try with_reducible rfl)
              try simp only [List.getElem_toArray, List.getElem_cons_zero, List.getElem_cons_succ, Act.put, List.setIfInBounds_toArray, List.set_cons_zero, List.set_cons_succ]
              refine wpAnyH_take (i := 7) (v := ?v7c) rfl (by kernel_rfl) (by kernel_rfl) (by kernel_rfl) (fun _ _ _ h => h) (Or.inl ⟨by rfl, ?y7c⟩) (by assumption) ?r7c
              case y7c => (intro w hSw; (try dsimp only at hSw); go_simp; try with_reducible rfl)
              try simp only [List.getElem_toArray, List.getElem_cons_zero, List.getElem_cons_succ, Act.put, List.setIfInBounds_toArray, List.set_cons_zero, List.set_cons_succ]
              refine wpAnyH_take (i := 8) (v := ?v8c) rfl (by kernel_rfl) (by kernel_rfl) (by kernel_rfl) (fun _ _ _ h => h) (Or.inl ⟨by rfl, ?y8c⟩) (by assumption) ?r8c
              case y8c => (intro w hSw; (try dsimp only at hSw); go_simp; try with_reducible rfl)
              try simp only [List.getElem_toArray, List.getElem_cons_zero, List.getElem_cons_succ, Act.put, List.setIfInBounds_toArray, List.set_cons_zero, List.set_cons_succ]
              refine wpAnyH_take (i := 9) (v := ?v9c) rfl (by kernel_rfl) (by kernel_rfl) (by kernel_rfl) (fun _ _ _ h => h) (Or.inl ⟨by rfl, ?y9c⟩) (by assumption) ?r9c
              case y9c => (intro w hSw; (try dsimp only at hSw); go_simp; try with_reducible rfl)
              try simp only [List.getElem_toArray, List.getElem_cons_zero, List.getElem_cons_succ, Act.put, List.setIfInBounds_toArray, List.set_cons_zero, List.set_cons_succ]
              refine wpAnyH_ready (rs := [6]) (by kernel_rfl) (by simp) ?_
              refine AllReadyH.cons rfl (fun Kr hKr => ?_) AllReadyH.nil
              go_simp
              (go_at_call 17; with_reducible refine Calls.mono (KJ.out (U.drew) (HU.out.drew)) ?_; rintro e w8 ⟨rfl, b8⟩)
              try go_wp2_with fail
              have B8 : Below U.heap.size U w8 := hd1.trans (b8.mono hd1.size)
              refine hKr.out _ _ (KX.out _ B8) (fun hHeld => ?_)
              clear hKr Kr
              try simp only [List.getElem_toArray, List.getElem_cons_zero, List.getElem_cons_succ, Act.put, List.setIfInBounds_toArray, List.set_cons_zero, List.set_cons_succ]
              refine wpAnyH_take (i := 10) (v := ?v10c) rfl (by kernel_rfl) (by kernel_rfl) (by kernel_rfl) (fun _ _ _ h => h) (Or.inl ⟨by rfl, ?y10c⟩) (by assumption) ?r10c
              case y10c => (intro w hSw; (try dsimp only at hSw); go_simp; try with_reducible rfl)
              try simp only [List.getElem_toArray, List.getElem_cons_zero, List.getElem_cons_succ, Act.put, List.setIfInBounds_toArray, List.set_cons_zero, List.set_cons_succ]
              refine wpAnyH_take (i := 11) (v := ?v11c) rfl (by kernel_rfl) (by kernel_rfl) (by kernel_rfl) (fun _ _ _ h => h) (Or.inl ⟨by rfl, ?y11c⟩) (by assumption) ?r11c
              case y11c => (intro w hSw; (try dsimp only at hSw); go_simp; try with_reducible rfl)
              try simp only [List.getElem_toArray, List.getElem_cons_zero, List.getElem_cons_succ, Act.put, List.setIfInBounds_toArray, List.set_cons_zero, List.set_cons_succ]
              refine wpAnyH_take (i := 12) (v := ?v12c) rfl (by kernel_rfl) (by kernel_rfl) (by kernel_rfl) (fun _ _ _ h => h) (Or.inl ⟨by rfl, ?y12c⟩) (by assumption) ?r12c
              case y12c => (intro w hSw; (try dsimp only at hSw); go_simp; try with_reducible rfl)
              try simp only [List.getElem_toArray, List.getElem_cons_zero, List.getElem_cons_succ, Act.put, List.setIfInBounds_toArray, List.set_cons_zero, List.set_cons_succ]
              refine wpAnyH_take (i := 13) (v := ?v13c) rfl (by kernel_rfl) (by kernel_rfl) (by kernel_rfl) (fun _ _ _ h => h) (Or.inl ⟨by rfl, ?y13c⟩) (by assumption) ?r13c
              case y13c => (intro w hSw; (try dsimp only at hSw); go_simp; try with_reducible rfl)
              try simp only [List.getElem_toArray, List.getElem_cons_zero, List.getElem_cons_succ, Act.put, List.setIfInBounds_toArray, List.set_cons_zero, List.set_cons_succ]
              refine wpAnyH_ready (rs := [14]) (by kernel_rfl) (by simp) ?_
              refine AllReadyH.cons rfl (fun Kr hKr => ?_) AllReadyH.nil
              go_simp
              (go_at_call 13; with_reducible refine Calls.mono (KK.out w8 (HU.out.trans (B8.mono HU.out.size))) ?_; rintro e wA ⟨rfl, gA⟩)
              try go_wp2_with fail
              have BA : Below U.heap.size U wA := B8.trans ((below_grown gA).mono B8.size)
              refine hKr.out _ _ (KX.out _ BA) (fun hHeld => ?_)
              clear hKr Kr
              try simp only [List.getElem_toArray, List.getElem_cons_zero, List.getElem_cons_succ, Act.put, List.setIfInBounds_toArray, List.set_cons_zero, List.set_cons_succ]
              refine wpAnyH_take (i := 15) (v := ?v15c) rfl (by kernel_rfl) (by kernel_rfl) (by kernel_rfl) (fun _ _ _ h => h) (Or.inl ⟨by rfl, ?y15c⟩) (by assumption) ?r15c
              case y15c => (intro w hSw; (try dsimp only at hSw); go_simp; try with_reducible rfl)
              try simp only [List.getElem_toArray, List.getElem_cons_zero, List.getElem_cons_succ, Act.put, List.setIfInBounds_toArray, List.set_cons_zero, List.set_cons_succ]
              refine wpAnyH_take (i := 16) (v := ?v16c) rfl (by kernel_rfl) (by kernel_rfl) (by kernel_rfl) (fun _ _ _ h => h) (Or.inl ⟨by rfl, ?y16c⟩) (by assumption) ?r16c
              case y16c => (intro w hSw; (try dsimp only at hSw); go_simp; try with_reducible rfl)
              try simp only [List.getElem_toArray, List.getElem_cons_zero, List.getElem_cons_succ, Act.put, List.setIfInBounds_toArray, List.set_cons_zero, List.set_cons_succ]
              refine wpAnyH_take (i := 17) (v := ?v17c) rfl (by kernel_rfl) (by kernel_rfl) (by kernel_rfl) (fun _ _ _ h => h) (Or.inl ⟨by rfl, ?y17c⟩) (by assumption) ?r17c
              case y17c => (intro w hSw; (try dsimp only at hSw); go_simp; try with_reducible rfl)
              try simp only [List.getElem_toArray, List.getElem_cons_zero, List.getElem_cons_succ, Act.put, List.setIfInBounds_toArray, List.set_cons_zero, List.set_cons_succ]
              refine wpAnyH_take (i := 18) (v := ?v18c) rfl (by kernel_rfl) (by kernel_rfl) (by kernel_rfl) (fun _ _ _ h => h) (Or.inl ⟨by rfl, ?y18c⟩) (by assumption) ?r18c
              case y18c => (intro w hSw; (try dsimp only at hSw); go_simp; try with_reducible rfl)
              try simp only [List.getElem_toArray, List.getElem_cons_zero, List.getElem_cons_succ, Act.put, List.setIfInBounds_toArray, List.set_cons_zero, List.set_cons_succ]
              refine wpAnyH_take (i := 19) (v := ?v19c) rfl (by kernel_rfl) (by kernel_rfl) (by kernel_rfl) (fun _ _ _ h => h) (Or.inl ⟨by rfl, ?y19c⟩) (by assumption) ?r19c
              case y19c => (intro w hSw; (try dsimp only at hSw); go_simp; try with_reducible rfl)
              try simp only [List.getElem_toArray, List.getElem_cons_zero, List.getElem_cons_succ, Act.put, List.setIfInBounds_toArray, List.set_cons_zero, List.set_cons_succ]
              refine wpAnyH_take (i := 20) (v := ?v20c) rfl (by kernel_rfl) (by kernel_rfl) (by kernel_rfl) (fun _ _ _ h => h) (Or.inl ⟨by rfl, ?y20c⟩) (by assumption) ?r20c
              case y20c => (intro w hSw; (try dsimp only at hSw); go_simp; try with_reducible rfl)
              try simp only [List.getElem_toArray, List.getElem_cons_zero, List.getElem_cons_succ, Act.put, List.setIfInBounds_toArray, List.set_cons_zero, List.set_cons_succ]
              refine wpAnyH_take (i := 21) (v := ?v21c) rfl (by kernel_rfl) (by kernel_rfl) (by kernel_rfl) (fun _ _ _ h => h) (Or.inl ⟨by rfl, ?y21c⟩) (by assumption) ?r21c
              case y21c => (intro w hSw; (try dsimp only at hSw); go_simp; try with_reducible rfl)
              try simp only [List.getElem_toArray, List.getElem_cons_zero, List.getElem_cons_succ, Act.put, List.setIfInBounds_toArray, List.set_cons_zero, List.set_cons_succ]
              refine wpAnyH_take (i := 22) (v := undef) rfl (by kernel_rfl) (by kernel_rfl) (by kernel_rfl) (fun _ _ _ h => h) (Or.inr ⟨by rfl, rfl⟩) (by assumption) ?_
              try simp only [List.getElem_toArray, List.getElem_cons_zero, List.getElem_cons_succ, Act.put, List.setIfInBounds_toArray, List.set_cons_zero, List.set_cons_succ]
              refine wpAnyH_take (i := 23) (v := undef) rfl (by kernel_rfl) (by kernel_rfl) (by kernel_rfl) (fun _ _ _ h => h) (Or.inr ⟨by rfl, rfl⟩) (by assumption) ?_
              try simp only [List.getElem_toArray, List.getElem_cons_zero, List.getElem_cons_succ, Act.put, List.setIfInBounds_toArray, List.set_cons_zero, List.set_cons_succ]
              refine wpAnyH_take (i := 24) (v := undef) rfl (by kernel_rfl) (by kernel_rfl) (by kernel_rfl) (fun _ _ _ h => h) (Or.inr ⟨by rfl, rfl⟩) (by assumption) ?_
              try simp only [List.getElem_toArray, List.getElem_cons_zero, List.getElem_cons_succ, Act.put, List.setIfInBounds_toArray, List.set_cons_zero, List.set_cons_succ]
              refine wpAnyH_take (i := 25) (v := ?v25c) rfl (by kernel_rfl) (by kernel_rfl) (by kernel_rfl) (fun _ _ _ h => h) (Or.inl ⟨by rfl, ?y25c⟩) (by assumption) ?r25c
              case y25c => (intro w hSw; (try dsimp only at hSw); go_simp; try with_reducible rfl)
              try simp only [List.getElem_toArray, List.getElem_cons_zero, List.getElem_cons_succ, Act.put, List.setIfInBounds_toArray, List.set_cons_zero, List.set_cons_succ]
              refine wpAnyH_take (i := 26) (v := ?v26c) rfl (by kernel_rfl) (by kernel_rfl) (by kernel_rfl) (fun _ _ _ h => h) (Or.inl ⟨by rfl, ?y26c⟩) (by assumption) ?r26c
              case y26c => (intro w hSw; (try dsimp only at hSw); go_simp; try with_reducible rfl)
              try simp only [List.getElem_toArray, List.getElem_cons_zero, List.getElem_cons_succ, Act.put, List.setIfInBounds_toArray, List.set_cons_zero, List.set_cons_succ]
              refine wpAnyH_take (i := 27) (v := ?v27c) rfl (by kernel_rfl) (by kernel_rfl) (by kernel_rfl) (fun _ _ _ h => h) (Or.inl ⟨by rfl, ?y27c⟩) (by assumption) ?r27c
              case y27c => (intro w hSw; (try dsimp only at hSw); go_simp; try with_reducible rfl)
              try simp only [List.getElem_toArray, List.getElem_cons_zero, List.getElem_cons_succ, Act.put, List.setIfInBounds_toArray, List.set_cons_zero, List.set_cons_succ]
              refine wpAnyH_ready (rs := [28]) (by kernel_rfl) (by simp) ?_
              refine AllReadyH.cons rfl (fun Kr hKr => ?_) AllReadyH.nil
              go_simp
              (go_at_call 19; with_reducible refine Calls.mono (alive_any wA) ?_; rintro e wB ⟨rfl, bB⟩)
              try go_wp2_with fail
              have BB : Below U.heap.size U wB := BA.trans (bB.mono BA.size)
              refine hKr.out _ _ (KX.out _ BB) (fun hHeld => ?_)
              clear hKr Kr
              try simp only [List.getElem_toArray, List.getElem_cons_zero, List.getElem_cons_succ, Act.put, List.setIfInBounds_toArray, List.set_cons_zero, List.set_cons_succ]
              refine wpAnyH_take (i := 29) (v := ?v29c) rfl (by kernel_rfl) (by kernel_rfl) (by kernel_rfl) (fun _ _ _ h => h) (Or.inl ⟨by rfl, ?y29c⟩) (by assumption) ?r29c
              case y29c => (intro w hSw; (try dsimp only at hSw); go_simp; try with_reducible rfl)
              try simp only [List.getElem_toArray, List.getElem_cons_zero, List.getElem_cons_succ, Act.put, List.setIfInBounds_toArray, List.set_cons_zero, List.set_cons_succ]
              refine wpAnyH_take (i := 30) (v := ?v30c) rfl (by kernel_rfl) (by kernel_rfl) (by kernel_rfl) (fun _ _ _ h => h) (Or.inl ⟨by rfl, ?y30c⟩) (by assumption) ?r30c
              case y30c => (intro w hSw; (try dsimp only at hSw); go_simp; try with_reducible rfl)
              try simp only [List.getElem_toArray, List.getElem_cons_zero, List.getElem_cons_succ, Act.put, List.setIfInBounds_toArray, List.set_cons_zero, List.set_cons_succ]
              refine wpAnyH_done (by kernel_rfl) ?_ _
              have HBB := hid (HU.out.trans (BB.mono HU.out.size))
              clear b8 gA bB
              go_wp2
              go_ret
              exact ⟨rfl, HB1.out.trans ((HBW.out.trans (HBB.out.mono HBW.out.size)).mono HB1.out.size)⟩
end Go.Proofs.YtkejcajboneniabGreatDoor
