/-
  The walk of laws.FnBehindOf, written by program (law8.py). No statement is proved here.
-/
import Derived.Test.YtmkbbkpgdfpcoaaC8p
import Derived.Test.YtmkbbkpgdfpcoaaC8i
import Derived.Test.YtmkbbkpgdfpcoaaDrQ
import Derived.Test.YtmkbbkpgdfpcoaaExS
import Derived.Test.YtmkbbkpgdfpcoaaC1a
namespace Go.Proofs.Ytmkbbkpgdfpcoaa
open Go.RowKit
set_option linter.unusedVariables false
set_option linter.unusedSimpArgs false

theorem behind_ne {a b xs : List Int} (h : behindOut a b xs ≠ []) : tapsOk a = true ∧ tapsOk b = true ∧ inOk xs = true ∧ behindOut a b xs = fedL b (fedL a xs) := by
  unfold behindOut fedOut at h ⊢
  by_cases h2 : (tapsOk a && inOk xs) = true
  · rw [if_pos h2] at h ⊢
    by_cases h3 : (tapsOk b && inOk (fedL a xs)) = true
    · rw [if_pos h3]
      simp at h2 h3
      exact ⟨h2.1, h3.1, h2.2, rfl⟩
    · rw [if_neg h3] at h; exact absurd rfl h
  · rw [if_neg h2] at h
    split at h
    · exact absurd rfl h
    · exact absurd rfl h

set_option maxRecDepth 100000 in
set_option maxHeartbeats 6400000 in
theorem fnBehindOf_walk (A : Option Addr) (n c : Nat) (w : World) (hs : By w w.heap.size A n) (hc : n ≤ c) :
    Calls Try.prog 7 #[.slice A n c] w fun e w' => e = .returned (.bool true) ∧ Below w.heap.size w w' := by
  have hm : n ≤ 9223372036854775807 := hs.1
  by_cases hbig : 1048576 < n
  · go_enter Try.func7, Try.ntmps7
    go_wp2
    go_ret
    exact ⟨rfl, Below.refl _ _⟩
  go_enter Try.func7, Try.ntmps7
  go_wp2_with fail
  refine (drawBehindOf_any A n c _ hs hc).mono ?_
  rintro e w1 ⟨A1, n1, c1, l1, A2, n2, c2, l2, A3, n3, c3, l3, rfl, o1, hn1, hv1, o2, hn2, hv2, o3, hn3, hv3, hb1⟩
  have HB := hid hb1
  clear hs hc hb1 hbig hm
  replace o1 := own_mono (base' := 0) o1 (Nat.zero_le _)
  have hl1 : l1.length = n1 := by have := o1.1; simpa using this
  replace o2 := own_mono (base' := 0) o2 (Nat.zero_le _)
  have hl2 : l2.length = n2 := by have := o2.1; simpa using this
  replace o3 := own_mono (base' := 0) o3 (Nat.zero_le _)
  have hl3 : l3.length = n3 := by have := o3.1; simpa using this
  have CI := hid (fun (W : World) (h1 : Sl W W.heap.size A1 n1 l1) (h2 : Sl W W.heap.size A2 n2 l2) (h3 : Sl W W.heap.size A3 n3 l3) => implBehindOf_any A1 n1 c1 l1 A2 n2 c2 l2 A3 n3 c3 l3 W h1 h2 h3)
  have CS := hid (fun (W : World) (h1 : Sl W W.heap.size A1 n1 l1) (h2 : Sl W W.heap.size A2 n2 l2) (h3 : Sl W W.heap.size A3 n3 l3) => specBehindOf_x A1 n1 c1 l1 A2 n2 c2 l2 A3 n3 c3 l3 W h1 h2 h3)
  have CO := hid (fun (W : World) (h2 : Sl W W.heap.size A2 n2 l2) (h1 : Sl W W.heap.size A1 n1 l1) (h3 : Sl W W.heap.size A3 n3 l3) => implBehindOf_any A2 n2 c2 l2 A1 n1 c1 l1 A3 n3 c3 l3 W h2 h1 h3)
  have CP := hid (fun (W : World) (h1 : Sl W W.heap.size A1 n1 l1) (h2 : Sl W W.heap.size A2 n2 l2) => implProductOf_any A1 n1 c1 l1 A2 n2 c2 l2 W h1 h2)
  go_wp2_with fail
  refine (CI.out _ (Sl.of_own o1) (Sl.of_own o2) (Sl.of_own o3)).mono ?_
  rintro e w2 ⟨Ax, nx, cx, rfl, ox, hnx, st2⟩
  replace o1 := own_on o1 st2
  replace o2 := own_on o2 st2
  replace o3 := own_on o3 st2
  replace HB := hid (HB.out.trans (st2.mono HB.out.size))
  clear st2
  replace ox := own_mono (base' := 0) ox (Nat.zero_le _)
  go_wp2_with fail
  refine (CS.out _ (Sl.of_own o1) (Sl.of_own o2) (Sl.of_own o3)).mono ?_
  rintro e w3 ⟨Ay, ny, cy, rfl, oy, hny, st3⟩
  replace o1 := own_on o1 st3
  replace o2 := own_on o2 st3
  replace o3 := own_on o3 st3
  replace ox := own_on ox st3
  replace HB := hid (HB.out.trans (st3.mono HB.out.size))
  clear st3
  replace oy := own_mono (base' := 0) oy (Nat.zero_le _)
  go_wp2_with fail
  refine (sameInts_b _ _ _ _ _ _ _ _ _ _ _ (Sl.of_own ox) (Sl.of_own oy)).mono ?_
  rintro e w4 ⟨rfl, st4⟩
  rw [decide_eq_true rfl]
  replace o1 := own_on o1 st4
  replace o2 := own_on o2 st4
  replace o3 := own_on o3 st4
  replace ox := own_on ox st4
  replace oy := own_on oy st4
  replace HB := hid (HB.out.trans (st4.mono HB.out.size))
  clear st4
  clear oy
  have hlx : (behindOut l1 l2 l3).length = nx := by have := ox.1; simpa using this
  by_cases h0 : nx = 0
  · subst h0
    clear CI CS CO CP hlx
    go_wp2_with fail
    refine (alive_any _).mono ?_
    rintro e w5 ⟨rfl, st5⟩
    replace o1 := own_on o1 st5
    replace o2 := own_on o2 st5
    replace o3 := own_on o3 st5
    replace ox := own_on ox st5
    replace HB := hid (HB.out.trans (st5.mono HB.out.size))
    clear st5
    go_wp2
    go_ret
    exact ⟨rfl, HB.out⟩
  · have hne : behindOut l1 l2 l3 ≠ [] := by intro h; rw [h] at hlx; simp at hlx; omega
    obtain ⟨ht1, ht2, hi3, hout⟩ := behind_ne hne
    have hn3x : nx = n3 := by rw [← hlx, hout, fedL_len, fedL_len, hl3]
    subst hn3x
    have hT1 := tapsOk_iff.1 ht1
    have HOUT := hid hout
    have h0' : ((nx : Int) == 0) = false := by simp; omega
    have h0'' : ¬ (nx : Int) = 0 := by omega
    have HPO := hid (show prodOut l1 l2 = prodL l1 l2 from by unfold prodOut; rw [ht1, ht2]; rfl)
    rw [HPO.out] at CP
    clear CI CS hlx hne hout ht2 HPO
    go_wp2_with fail
    refine (CO.out _ (Sl.of_own o2) (Sl.of_own o1) (Sl.of_own o3)).mono ?_
    rintro e w5 ⟨Az, nz, cz, rfl, oz, hnz, st5⟩
    replace o1 := own_on o1 st5
    replace o2 := own_on o2 st5
    replace o3 := own_on o3 st5
    replace ox := own_on ox st5
    replace HB := hid (HB.out.trans (st5.mono HB.out.size))
    clear st5
    replace oz := own_mono (base' := 0) oz (Nat.zero_le _)
    go_wp2_with fail
    refine (CP.out _ (Sl.of_own o1) (Sl.of_own o2)).mono ?_
    rintro e w6 ⟨Ab, nb, cb, rfl, ob, hnb, st6⟩
    replace o1 := own_on o1 st6
    replace o2 := own_on o2 st6
    replace o3 := own_on o3 st6
    replace ox := own_on ox st6
    replace oz := own_on oz st6
    replace HB := hid (HB.out.trans (st6.mono HB.out.size))
    clear st6
    replace ob := own_mono (base' := 0) ob (Nat.zero_le _)
    have DT := hid (fun (W : World) (h : Sl W W.heap.size Ab nb (prodL l1 l2)) => implTapsOk_any Ab nb cb (prodL l1 l2) W h)
    have DF := hid (fun (W : World) (h : Sl W W.heap.size Ab nb (prodL l1 l2)) (h3 : Sl W W.heap.size A3 nx l3) => implFedOf_any Ab nb cb (prodL l1 l2) A3 nx c3 l3 W h h3)
    have HFD := hid (fun (hb : tapsOk (prodL l1 l2) = true) => show fedOut (prodL l1 l2) l3 = behindOut l1 l2 l3 from by unfold fedOut; rw [hb, hi3, HOUT.out]; exact fed_both hT1.2.1 l3)
    have hlz : (behindOut l2 l1 l3).length = nz := by have := oz.1; simpa using this
    have HZ := hid (show nz ≠ 0 → behindOut l2 l1 l3 = behindOut l1 l2 l3 from fun h => by
      have hne : behindOut l2 l1 l3 ≠ [] := by intro e; rw [e] at hlz; simp at hlz; omega
      rw [(behind_ne hne).2.2.2, HOUT.out, fed_swap])
    clear CO CP hT1 hi3 hlz hl1 hl2 hl3
    by_cases hz0 : nz = 0
    · subst hz0
      clear HZ
      cases hb : tapsOk (prodL l1 l2) with
      | false =>
        rw [hb] at DT
        clear hb
        go_wp2_with fail
        with_reducible refine Calls.mono (DT.out _ (Sl.of_own ob)) ?_
        rintro e w7 ⟨rfl, st7⟩
        replace o1 := own_on o1 st7
        replace o2 := own_on o2 st7
        replace o3 := own_on o3 st7
        replace ox := own_on ox st7
        replace oz := own_on oz st7
        replace ob := own_on ob st7
        replace HB := hid (HB.out.trans (st7.mono HB.out.size))
        clear st7
        go_wp2_with fail
        refine (alive_any _).mono ?_
        rintro e w8 ⟨rfl, st8⟩
        replace o1 := own_on o1 st8
        replace o2 := own_on o2 st8
        replace o3 := own_on o3 st8
        replace ox := own_on ox st8
        replace oz := own_on oz st8
        replace ob := own_on ob st8
        replace HB := hid (HB.out.trans (st8.mono HB.out.size))
        clear st8
        go_wp2
        go_ret
        exact ⟨rfl, HB.out⟩
      | true =>
        have hfd := HFD.out hb
        rw [hfd] at DF
        rw [hb] at DT
        clear hb hfd
        go_wp2_with fail
        with_reducible refine Calls.mono (DT.out _ (Sl.of_own ob)) ?_
        rintro e w7 ⟨rfl, st7⟩
        replace o1 := own_on o1 st7
        replace o2 := own_on o2 st7
        replace o3 := own_on o3 st7
        replace ox := own_on ox st7
        replace oz := own_on oz st7
        replace ob := own_on ob st7
        replace HB := hid (HB.out.trans (st7.mono HB.out.size))
        clear st7
        go_wp2_with fail
        refine (DF.out _ (Sl.of_own ob) (Sl.of_own o3)).mono ?_
        rintro e w8 ⟨Af, nf, cf, rfl, of, hnf, st8⟩
        replace o1 := own_on o1 st8
        replace o2 := own_on o2 st8
        replace o3 := own_on o3 st8
        replace ox := own_on ox st8
        replace oz := own_on oz st8
        replace ob := own_on ob st8
        replace HB := hid (HB.out.trans (st8.mono HB.out.size))
        clear st8
        replace of := own_mono (base' := 0) of (Nat.zero_le _)
        go_wp2_with fail
        refine (sameInts_b _ _ _ _ _ _ _ _ _ _ _ (Sl.of_own of) (Sl.of_own ox)).mono ?_
        rintro e w9 ⟨rfl, st9⟩
        rw [decide_eq_true rfl]
        replace o1 := own_on o1 st9
        replace o2 := own_on o2 st9
        replace o3 := own_on o3 st9
        replace ox := own_on ox st9
        replace oz := own_on oz st9
        replace ob := own_on ob st9
        replace of := own_on of st9
        replace HB := hid (HB.out.trans (st9.mono HB.out.size))
        clear st9
        go_wp2_with fail
        refine (alive_any _).mono ?_
        rintro e w10 ⟨rfl, st10⟩
        replace o1 := own_on o1 st10
        replace o2 := own_on o2 st10
        replace o3 := own_on o3 st10
        replace ox := own_on ox st10
        replace oz := own_on oz st10
        replace ob := own_on ob st10
        replace of := own_on of st10
        replace HB := hid (HB.out.trans (st10.mono HB.out.size))
        clear st10
        go_wp2
        go_ret
        exact ⟨rfl, HB.out⟩
    · have hzz := HZ.out hz0
      have HZZ := hid hzz
      have hz1 : ((nz : Int) == 0) = false := by simp; omega
      have hz2 : ¬ (nz : Int) = 0 := by omega
      clear HZ hzz
      cases hb : tapsOk (prodL l1 l2) with
      | false =>
        rw [hb] at DT
        clear hb
        go_wp2_with fail
        refine (sameInts_b _ _ _ _ _ _ _ _ _ _ _ (Sl.of_own oz) (Sl.of_own ox)).mono ?_
        rintro e w7 ⟨rfl, st7⟩
        rw [decide_eq_true (HZZ.out)]
        replace o1 := own_on o1 st7
        replace o2 := own_on o2 st7
        replace o3 := own_on o3 st7
        replace ox := own_on ox st7
        replace oz := own_on oz st7
        replace ob := own_on ob st7
        replace HB := hid (HB.out.trans (st7.mono HB.out.size))
        clear st7
        go_wp2_with fail
        with_reducible refine Calls.mono (DT.out _ (Sl.of_own ob)) ?_
        rintro e w8 ⟨rfl, st8⟩
        replace o1 := own_on o1 st8
        replace o2 := own_on o2 st8
        replace o3 := own_on o3 st8
        replace ox := own_on ox st8
        replace oz := own_on oz st8
        replace ob := own_on ob st8
        replace HB := hid (HB.out.trans (st8.mono HB.out.size))
        clear st8
        go_wp2_with fail
        refine (alive_any _).mono ?_
        rintro e w9 ⟨rfl, st9⟩
        replace o1 := own_on o1 st9
        replace o2 := own_on o2 st9
        replace o3 := own_on o3 st9
        replace ox := own_on ox st9
        replace oz := own_on oz st9
        replace ob := own_on ob st9
        replace HB := hid (HB.out.trans (st9.mono HB.out.size))
        clear st9
        go_wp2
        go_ret
        exact ⟨rfl, HB.out⟩
      | true =>
        have hfd := HFD.out hb
        rw [hfd] at DF
        rw [hb] at DT
        clear hb hfd
        go_wp2_with fail
        refine (sameInts_b _ _ _ _ _ _ _ _ _ _ _ (Sl.of_own oz) (Sl.of_own ox)).mono ?_
        rintro e w7 ⟨rfl, st7⟩
        rw [decide_eq_true (HZZ.out)]
        replace o1 := own_on o1 st7
        replace o2 := own_on o2 st7
        replace o3 := own_on o3 st7
        replace ox := own_on ox st7
        replace oz := own_on oz st7
        replace ob := own_on ob st7
        replace HB := hid (HB.out.trans (st7.mono HB.out.size))
        clear st7
        go_wp2_with fail
        with_reducible refine Calls.mono (DT.out _ (Sl.of_own ob)) ?_
        rintro e w8 ⟨rfl, st8⟩
        replace o1 := own_on o1 st8
        replace o2 := own_on o2 st8
        replace o3 := own_on o3 st8
        replace ox := own_on ox st8
        replace oz := own_on oz st8
        replace ob := own_on ob st8
        replace HB := hid (HB.out.trans (st8.mono HB.out.size))
        clear st8
        go_wp2_with fail
        refine (DF.out _ (Sl.of_own ob) (Sl.of_own o3)).mono ?_
        rintro e w9 ⟨Af, nf, cf, rfl, of, hnf, st9⟩
        replace o1 := own_on o1 st9
        replace o2 := own_on o2 st9
        replace o3 := own_on o3 st9
        replace ox := own_on ox st9
        replace oz := own_on oz st9
        replace ob := own_on ob st9
        replace HB := hid (HB.out.trans (st9.mono HB.out.size))
        clear st9
        replace of := own_mono (base' := 0) of (Nat.zero_le _)
        go_wp2_with fail
        refine (sameInts_b _ _ _ _ _ _ _ _ _ _ _ (Sl.of_own of) (Sl.of_own ox)).mono ?_
        rintro e w10 ⟨rfl, st10⟩
        rw [decide_eq_true rfl]
        replace o1 := own_on o1 st10
        replace o2 := own_on o2 st10
        replace o3 := own_on o3 st10
        replace ox := own_on ox st10
        replace oz := own_on oz st10
        replace ob := own_on ob st10
        replace of := own_on of st10
        replace HB := hid (HB.out.trans (st10.mono HB.out.size))
        clear st10
        go_wp2_with fail
        refine (alive_any _).mono ?_
        rintro e w11 ⟨rfl, st11⟩
        replace o1 := own_on o1 st11
        replace o2 := own_on o2 st11
        replace o3 := own_on o3 st11
        replace ox := own_on ox st11
        replace oz := own_on oz st11
        replace ob := own_on ob st11
        replace of := own_on of st11
        replace HB := hid (HB.out.trans (st11.mono HB.out.size))
        clear st11
        go_wp2
        go_ret
        exact ⟨rfl, HB.out⟩
end Go.Proofs.Ytmkbbkpgdfpcoaa
