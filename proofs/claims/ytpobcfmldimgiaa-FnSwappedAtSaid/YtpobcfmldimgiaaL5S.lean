/-
  The walk of laws.FnSwappedAt, written by program (law5.py). No statement is proved here.
-/
import Derived.Test.YtpobcfmldimgiaaC5a
import Derived.Test.YtpobcfmldimgiaaC5b
import Derived.Test.YtpobcfmldimgiaaC5i
import Derived.Test.YtpobcfmldimgiaaDr9
import Derived.Test.YtpobcfmldimgiaaExS
namespace Go.Proofs.Ytpobcfmldimgiaa
open Go.RowKit
set_option linter.unusedVariables false
set_option linter.unusedSimpArgs false

def cnt (l : List Int) (x : Int) (j : Nat) : Nat := (l.take j).countP (fun y => decide (y = x))
theorem cnt_yes {l : List Int} {x : Int} {j : Nat} (h : j < l.length) (e : nth l j = x) : cnt l x (j + 1) = cnt l x j + 1 := by
  unfold cnt; rw [take_nth h, List.countP_append]; simp [e]
theorem cnt_no {l : List Int} {x : Int} {j : Nat} (h : j < l.length) (e : nth l j ≠ x) : cnt l x (j + 1) = cnt l x j := by
  unfold cnt; rw [take_nth h, List.countP_append]; simp [e]
theorem cnt_le (l : List Int) (x : Int) (j : Nat) : cnt l x j ≤ j := by
  have := List.countP_le_length (p := fun y => decide (y = x)) (l := l.take j)
  rw [List.length_take] at this
  unfold cnt; omega
theorem cnt_perm {l m : List Int} (h : l.Perm m) (x : Int) : cnt l x l.length = cnt m x m.length := by
  unfold cnt
  rw [List.take_of_length_le (Nat.le_refl _), List.take_of_length_le (Nat.le_refl _)]
  exact h.countP_eq _

set_option maxRecDepth 100000 in
set_option maxHeartbeats 6400000 in
theorem fnSwappedAt_walk (A : Option Addr) (n c : Nat) (w : World) (hs : By w w.heap.size A n) (hc : n ≤ c) :
    Calls Try.prog 4 #[.slice A n c] w fun e w' => e = .returned (.bool true) ∧ Below w.heap.size w w' := by
  have hm : n ≤ 9223372036854775807 := hs.1
  by_cases hbig : 1048576 < n
  · go_enter Try.func4, Try.ntmps4
    go_wp2
    go_ret
    exact ⟨rfl, Below.refl _ _⟩
  go_enter Try.func4, Try.ntmps4
  go_wp2_with fail
  refine (drawSwappedAt_any A n c _ hs hc).mono ?_
  rintro e w1 ⟨A1, n1, c1, l1, z, rfl, o1, hn1, z0, z1, hb1⟩
  have HB := hid hb1
  clear hs hc hb1 hbig hm
  go_wp2_with fail
  refine (implSwappedAt_any A1 n1 c1 l1 z _ (Sl.of_own o1)).mono ?_
  rintro e w2 ⟨AG, nG, cG, rfl, oG, hnG, st2⟩
  replace o1 := own_on o1 st2
  replace HB := hid (HB.out.trans (st2.mono HB.out.size))
  clear st2
  replace oG := own_mono (base' := 0) oG (Nat.zero_le _)
  go_wp2_with fail
  refine (specSwappedAt_any A1 n1 c1 l1 z _ (Sl.of_own o1)).mono ?_
  rintro e w3 ⟨AW, nW, cW, rfl, oW, hnW, st3⟩
  replace o1 := own_on o1 st3
  replace oG := own_on oG st3
  replace HB := hid (HB.out.trans (st3.mono HB.out.size))
  clear st3
  replace oW := own_mono (base' := 0) oW (Nat.zero_le _)
  go_wp2_with fail
  refine (sameInts_b _ _ _ _ _ _ _ _ _ _ _ (Sl.of_own oG) (Sl.of_own oW)).mono ?_
  rintro e w4 ⟨rfl, st4⟩
  rw [decide_eq_true rfl]
  replace o1 := own_on o1 st4
  replace oG := own_on oG st4
  replace oW := own_on oW st4
  replace HB := hid (HB.out.trans (st4.mono HB.out.size))
  clear st4
  clear oW
  replace o1 := own_mono (base' := 0) o1 (Nat.zero_le _)
  have HL := hid (show l1.length = n1 from by have := o1.1; simpa using this)
  have HLG := hid (show (swapOut l1 z).length = nG from by have := oG.1; simpa using this)
  by_cases hok : keptOk l1 = true ∧ within z 0 60 = true
  · obtain ⟨hk, hz⟩ := hok
    have hk2 := (keptOk_iff.1 hk).2
    rw [HL.out] at hk2
    have hzb := within_iff.1 hz
    obtain ⟨K, rfl⟩ : ∃ K : Nat, z = K := Int.eq_ofNat_of_zero_le hzb.1
    have hso : swapOut l1 (K : Int) = stepS ltZ K l1 := by rw [swapOut_yes hk hz, Int.toNat_natCast]
    rw [hso] at oG HLG
    have hsx : swapOut (stepS ltZ K l1) (K : Int) = stepS ltZ K l1 := by rw [swapOut_yes (kept_step hk K) hz, Int.toNat_natCast]; exact stepS_twice (fun a b h => by simp [ltZ] at h ⊢; omega) K l1
    have hks := kept_step hk K
    have HP := hid (stepS_perm (lt := ltZ) K l1)
    have has := (astray_step K l1).1
    have hA1 : astrayOut l1 = astray l1 := by unfold astrayOut; rw [if_pos hk]
    have hA2 : astrayOut (stepS ltZ K l1) = astray (stepS ltZ K l1) := by unfold astrayOut; rw [if_pos hks]
    obtain ⟨l2, hl2⟩ : ∃ l2, stepS ltZ K l1 = l2 := ⟨_, rfl⟩
    rw [hl2] at oG HLG hsx hks HP has hA2
    obtain rfl : nG = n1 := by have := HP.out.length_eq; rw [HL.out, HLG.out] at this; omega
    have CS := hid (fun (W : World) (hs : Sl W W.heap.size AG nG l2) => implSwappedAt_any AG nG cG l2 K W hs)
    have hcap1 := own_caps o1
    have hcapG := own_caps oG
    have C1 := hid (fun (W : World) (hs : Sl W W.heap.size A1 nG l1) => implAstrayOf_any A1 nG c1 l1 W hs hcap1.1 hcap1.2)
    have C2 := hid (fun (W : World) (hs : Sl W W.heap.size AG nG l2) => implAstrayOf_any AG nG cG l2 W hs hcapG.1 hcapG.2)
    clear hcap1 hcapG
    rw [hsx] at CS
    rw [hA1] at C1
    rw [hA2] at C2
    obtain ⟨a1, ha1⟩ : ∃ a, astray l1 = a := ⟨_, rfl⟩
    obtain ⟨a2, ha2⟩ : ∃ a, astray l2 = a := ⟨_, rfl⟩
    rw [ha1] at C1 has
    rw [ha2] at C2 has
    have hle : (a2 : Int) ≤ (a1 : Int) := by omega
    clear hso hsx hks hA1 hA2 hl2 ha1 ha2 has hk hz
    have hnz : ((nG : Int) == 0) = false := by simp; omega
    have hnz2 : decide ((nG : Int) = 0) = false := by simp; omega
    obtain ⟨g1, d1, e1, _, _⟩ := own_shape1 o1 (by omega)
    injection e1 with e2 e3 e4
    subst e2
    subst e4
    obtain ⟨g2, d2, e5, _, _⟩ := own_shape1 oG (by omega)
    injection e5 with e6 e7 e8
    subst e6
    subst e8
    have H1 := hid (fun (j : Nat) (hj : j < nG) => own_cell o1 HL.out hj)
    have H2 := hid (fun (j : Nat) (hj : j < nG) => own_cell oG HLG.out hj)
    have O1 := hid o1
    have OG := hid oG
    clear o1 oG e3 e7
    go_wp2_with fail
    go_loopw [6] (fun i wr => ∃ k m : Nat, i = .int .i64 k ∧ k ≤ nG ∧ wr = w4.drewN m) (fun i _ => nG - (intOf i).toNat)
    case atStart => exact ⟨0, 0, rfl, Nat.zero_le _, rfl⟩
    case round =>
      obtain ⟨k, m, rfl, hk, rfl⟩ := hrel
      by_cases hlt : k < nG
      · have hx := H1.out k hlt
        obtain ⟨x, hxe⟩ : ∃ x, nth l1 k = x := ⟨_, rfl⟩
        rw [hxe] at hx
        clear hxe
        have q2 : (k : Int) < (nG : Int) := by omega
        go_wp2_with fail
        go_loopw [7, 8, 9] (fun a b i wr => ∃ j m2 : Nat, a = .int .i64 (cnt l1 x j) ∧ b = .int .i64 (cnt l2 x j) ∧ i = .int .i64 j ∧ j ≤ nG ∧ wr = w4.drewN m2) (fun _ _ i _ => nG - (intOf i).toNat)
        case atStart => exact ⟨0, m, rfl, rfl, rfl, Nat.zero_le _, rfl⟩
        case round =>
          obtain ⟨j, m2, rfl, rfl, rfl, hj, rfl⟩ := hrel
          by_cases hjl : j < nG
          · have hy := H1.out j hjl
            have hy2 := H2.out j hjl
            have q1 : (j : Int) < (nG : Int) := by omega
            have b1 := cnt_le l1 x j
            have b2 := cnt_le l2 x j
            have y1 := fun h => cnt_yes (l := l1) (x := x) (j := j) (by rw [HL.out]; exact hjl) h
            have y2 := fun h => cnt_no (l := l1) (x := x) (j := j) (by rw [HL.out]; exact hjl) h
            have y3 := fun h => cnt_yes (l := l2) (x := x) (j := j) (by rw [HLG.out]; exact hjl) h
            have y4 := fun h => cnt_no (l := l2) (x := x) (j := j) (by rw [HLG.out]; exact hjl) h
            obtain ⟨u, hu⟩ : ∃ u, cnt l1 x j = u := ⟨_, rfl⟩
            obtain ⟨v, hv⟩ : ∃ v, cnt l2 x j = v := ⟨_, rfl⟩
            rw [hu] at b1 y1 y2
            rw [hv] at b2 y3 y4
            rw [hu, hv]
            clear hu hv
            obtain ⟨y, hye⟩ : ∃ y, nth l1 j = y := ⟨_, rfl⟩
            obtain ⟨t, hte⟩ : ∃ t, nth l2 j = t := ⟨_, rfl⟩
            rw [hye] at hy y1 y2
            rw [hte] at hy2 y3 y4
            clear hye hte
            by_cases hyx : y = x
            · by_cases htx : t = x
              · have Y1 := hid (y1 hyx)
                have Y2 := hid (y3 htx)
                have p1 : (y == x) = true := by simpa using hyx
                have p2 : (t == x) = true := by simpa using htx
                have p3 : decide (y = x) = true := by simpa using hyx
                have p4 : decide (t = x) = true := by simpa using htx
                clear y1 y2 y3 y4 
                go_wp2
                go_quiet (fail)
                go_wp2
                go_quiet (fail)
                go_wp2
                go_roundw
                case rel => exact ⟨j + 1, _, by rw [Y1.out] <;> go_num, by rw [Y2.out] <;> go_num, by go_num, by omega, rfl⟩
                case measure => simp [intOf]; omega
              · have Y1 := hid (y1 hyx)
                have Y2 := hid (y4 htx)
                have p1 : (y == x) = true := by simpa using hyx
                have p2 : (t == x) = false := by simpa using htx
                have p3 : decide (y = x) = true := by simpa using hyx
                have p4 : decide (t = x) = false := by simpa using htx
                clear y1 y2 y3 y4 
                go_wp2
                go_quiet (fail)
                go_wp2
                go_quiet (fail)
                go_wp2
                go_roundw
                case rel => exact ⟨j + 1, _, by rw [Y1.out] <;> go_num, by rw [Y2.out] <;> go_num, by go_num, by omega, rfl⟩
                case measure => simp [intOf]; omega
            · by_cases htx : t = x
              · have Y1 := hid (y2 hyx)
                have Y2 := hid (y3 htx)
                have p1 : (y == x) = false := by simpa using hyx
                have p2 : (t == x) = true := by simpa using htx
                have p3 : decide (y = x) = false := by simpa using hyx
                have p4 : decide (t = x) = true := by simpa using htx
                clear y1 y2 y3 y4 
                go_wp2
                go_quiet (fail)
                go_wp2
                go_quiet (fail)
                go_wp2
                go_roundw
                case rel => exact ⟨j + 1, _, by rw [Y1.out] <;> go_num, by rw [Y2.out] <;> go_num, by go_num, by omega, rfl⟩
                case measure => simp [intOf]; omega
              · have Y1 := hid (y2 hyx)
                have Y2 := hid (y4 htx)
                have p1 : (y == x) = false := by simpa using hyx
                have p2 : (t == x) = false := by simpa using htx
                have p3 : decide (y = x) = false := by simpa using hyx
                have p4 : decide (t = x) = false := by simpa using htx
                clear y1 y2 y3 y4 
                go_wp2
                go_quiet (fail)
                go_wp2
                go_quiet (fail)
                go_wp2
                go_roundw
                case rel => exact ⟨j + 1, _, by rw [Y1.out] <;> go_num, by rw [Y2.out] <;> go_num, by go_num, by omega, rfl⟩
                case measure => simp [intOf]; omega
          · obtain rfl : j = nG := by omega
            have hc := cnt_perm HP.out x
            rw [HL.out, HLG.out] at hc
            obtain ⟨v, hv⟩ : ∃ v, cnt l1 x j = v := ⟨_, rfl⟩
            rw [hv] at hc
            rw [hv, hc]
            clear hv hc
            have en : ((v : Int) != (v : Int)) = false := by simp
            go_wp2
            go_roundw
            case rel => exact ⟨k + 1, m2, by go_num, by omega, rfl⟩
            case measure => simp [intOf]; omega
      · obtain rfl : k = nG := by omega
        have o1 := own_kept_none O1.out (drewN_grown w4 m)
        have oG := own_kept_none OG.out (drewN_grown w4 m)
        replace HB := hid (below_drewN HB.out m)
        go_wp2_with fail
        with_reducible refine Calls.mono (CS.out _ (Sl.of_own oG)) ?_
        rintro e w5 ⟨AH, nH, cH, rfl, oH, hnH, st5⟩
        replace o1 := own_on o1 st5
        replace oG := own_on oG st5
        replace HB := hid (HB.out.trans (st5.mono HB.out.size))
        clear st5
        replace oH := own_mono (base' := 0) oH (Nat.zero_le _)
        go_wp2_with fail
        refine (sameInts_b _ _ _ _ _ _ _ _ _ _ _ (Sl.of_own oH) (Sl.of_own oG)).mono ?_
        rintro e w6 ⟨rfl, st6⟩
        rw [decide_eq_true rfl]
        replace o1 := own_on o1 st6
        replace oG := own_on oG st6
        replace oH := own_on oH st6
        replace HB := hid (HB.out.trans (st6.mono HB.out.size))
        clear st6
        clear oH
        go_wp2_with fail
        with_reducible refine Calls.mono (C2.out _ (Sl.of_own oG)) ?_
        rintro e w7 ⟨rfl, st7⟩
        replace o1 := own_on o1 st7
        replace oG := own_on oG st7
        replace HB := hid (HB.out.trans (st7.mono HB.out.size))
        clear st7
        go_wp2_with fail
        with_reducible refine Calls.mono (C1.out _ (Sl.of_own o1)) ?_
        rintro e w8 ⟨rfl, st8⟩
        replace o1 := own_on o1 st8
        replace oG := own_on oG st8
        replace HB := hid (HB.out.trans (st8.mono HB.out.size))
        clear st8
        go_wp2_with fail
        refine (alive_any _).mono ?_
        rintro e w9 ⟨rfl, st9⟩
        replace o1 := own_on o1 st9
        replace oG := own_on oG st9
        replace HB := hid (HB.out.trans (st9.mono HB.out.size))
        clear st9
        go_wp2
        go_ret
        exact ⟨rfl, HB.out⟩
  · rw [swapOut_no hok] at oG HLG
    obtain rfl : nG = 0 := by simpa using HLG.out.symm
    clear hok
    go_wp2_with fail
    refine (alive_any _).mono ?_
    rintro e w5 ⟨rfl, st5⟩
    replace o1 := own_on o1 st5
    replace oG := own_on oG st5
    replace HB := hid (HB.out.trans (st5.mono HB.out.size))
    clear st5
    go_wp2
    go_ret
    exact ⟨rfl, HB.out⟩
end Go.Proofs.Ytpobcfmldimgiaa
