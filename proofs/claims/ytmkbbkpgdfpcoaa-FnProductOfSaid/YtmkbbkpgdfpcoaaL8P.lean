/-
  The walk of laws.FnProductOf, written by program (law8.py). No statement is proved here.
-/
import Derived.Test.YtmkbbkpgdfpcoaaC8p
import Derived.Test.YtmkbbkpgdfpcoaaC8i
import Derived.Test.YtmkbbkpgdfpcoaaDrQ
import Derived.Test.YtmkbbkpgdfpcoaaExS
import Derived.Test.YtmkbbkpgdfpcoaaC1a
import Derived.IntWalk
namespace Go.Proofs.Ytmkbbkpgdfpcoaa
open Go.RowKit
set_option linter.unusedVariables false
set_option linter.unusedSimpArgs false

theorem prod_bd {a b : List Int} (ha : tapsOk a = true) (hb : tapsOk b = true) (j : Nat) : -700000000000 ≤ valL ((prodL a b).drop j) 2 ∧ valL ((prodL a b).drop j) 2 ≤ 700000000000 := by
  have hA := tapsOk_iff.1 ha
  have hB := tapsOk_iff.1 hb
  have h := valL_bd ((prodL a b).drop j) (x := 2) (by omega) (M := 648) (by omega) (fun t ht => by
    have ht2 := List.mem_of_mem_drop ht
    unfold prodL at ht2
    obtain ⟨k, _, rfl⟩ := List.mem_map.1 ht2
    have h1 := cF_bd a (f := nth b) (M := 9) (by omega) hA.1 (fun i => nth_bd (by omega) hB.1 i) k
    have h2 : (9 : Int) * 9 * a.length ≤ 648 := by omega
    omega)
  have h2 : (4 : Int) ^ ((prodL a b).drop j).length ≤ 4 ^ 15 := by
    have : ((prodL a b).drop j).length ≤ 15 := by simp [prodL_len]; omega
    exact_mod_cast Nat.pow_le_pow_right (by omega : 0 < 4) this
  omega

set_option maxRecDepth 100000 in
set_option maxHeartbeats 6400000 in
theorem fnProductOf_walk (A : Option Addr) (n c : Nat) (w : World) (hs : By w w.heap.size A n) (hc : n ≤ c) :
    Calls Try.prog 6 #[.slice A n c] w fun e w' => e = .returned (.bool true) ∧ Below w.heap.size w w' := by
  have hm : n ≤ 9223372036854775807 := hs.1
  by_cases hbig : 1048576 < n
  · go_enter Try.func6, Try.ntmps6
    go_wp2
    go_ret
    exact ⟨rfl, Below.refl _ _⟩
  go_enter Try.func6, Try.ntmps6
  go_wp2_with fail
  refine (drawProductOf_any A n c _ hs hc).mono ?_
  rintro e w1 ⟨A1, n1, c1, l1, A2, n2, c2, l2, rfl, o1, hn1, hv1, o2, hn2, hv2, hb1⟩
  have HB := hid hb1
  clear hs hc hb1 hbig hm
  replace o1 := own_mono (base' := 0) o1 (Nat.zero_le _)
  have hl1 : l1.length = n1 := by have := o1.1; simpa using this
  replace o2 := own_mono (base' := 0) o2 (Nat.zero_le _)
  have hl2 : l2.length = n2 := by have := o2.1; simpa using this
  have CI := hid (fun (W : World) (h1 : Sl W W.heap.size A1 n1 l1) (h2 : Sl W W.heap.size A2 n2 l2) => implProductOf_any A1 n1 c1 l1 A2 n2 c2 l2 W h1 h2)
  have CS := hid (fun (W : World) (h1 : Sl W W.heap.size A1 n1 l1) (h2 : Sl W W.heap.size A2 n2 l2) => specProductOf_x A1 n1 c1 l1 A2 n2 c2 l2 W h1 h2)
  have CO := hid (fun (W : World) (h2 : Sl W W.heap.size A2 n2 l2) (h1 : Sl W W.heap.size A1 n1 l1) => implProductOf_any A2 n2 c2 l2 A1 n1 c1 l1 W h2 h1)
  have T1 := hid (fun (W : World) (h1 : Sl W W.heap.size A1 n1 l1) => implTapsOk_any A1 n1 c1 l1 W h1)
  have T2 := hid (fun (W : World) (h2 : Sl W W.heap.size A2 n2 l2) => implTapsOk_any A2 n2 c2 l2 W h2)
  have V1 := hid (fun (W : World) (h1 : Sl W W.heap.size A1 n1 l1) => implValueAt_any A1 n1 c1 l1 2 W h1)
  have V2 := hid (fun (W : World) (h2 : Sl W W.heap.size A2 n2 l2) => implValueAt_any A2 n2 c2 l2 2 W h2)
  go_wp2_with fail
  refine (CI.out _ (Sl.of_own o1) (Sl.of_own o2)).mono ?_
  rintro e w2 ⟨Ax, nx, cx, rfl, ox, hnx, st2⟩
  replace o1 := own_on o1 st2
  replace o2 := own_on o2 st2
  replace HB := hid (HB.out.trans (st2.mono HB.out.size))
  clear st2
  replace ox := own_mono (base' := 0) ox (Nat.zero_le _)
  go_wp2_with fail
  refine (CS.out _ (Sl.of_own o1) (Sl.of_own o2)).mono ?_
  rintro e w3 ⟨Ay, ny, cy, rfl, oy, hny, st3⟩
  replace o1 := own_on o1 st3
  replace o2 := own_on o2 st3
  replace ox := own_on ox st3
  replace HB := hid (HB.out.trans (st3.mono HB.out.size))
  clear st3
  replace oy := own_mono (base' := 0) oy (Nat.zero_le _)
  go_wp2_with fail
  refine (sameInts_b _ _ _ _ _ _ _ _ _ _ _ (Sl.of_own ox) (Sl.of_own oy)).mono ?_
  rintro e w4 ⟨rfl, st4⟩
  rw [decide_eq_true rfl]
  replace o1 := own_on o1 st4
  replace o2 := own_on o2 st4
  replace ox := own_on ox st4
  replace oy := own_on oy st4
  replace HB := hid (HB.out.trans (st4.mono HB.out.size))
  clear st4
  clear oy
  have hlx : (prodOut l1 l2).length = nx := by have := ox.1; simpa using this
  clear CI CS
  cases ht1 : tapsOk l1 with
  | false =>
    obtain rfl : nx = 0 := by rw [← hlx]; unfold prodOut; rw [ht1]; rfl
    rw [ht1] at T1
    clear ht1 CO T2 V1 V2 hlx
    go_wp2_with fail
    with_reducible refine Calls.mono (T1.out _ (Sl.of_own o1)) ?_
    rintro e w5 ⟨rfl, st5⟩
    replace o1 := own_on o1 st5
    replace o2 := own_on o2 st5
    replace ox := own_on ox st5
    replace HB := hid (HB.out.trans (st5.mono HB.out.size))
    clear st5
    go_wp2_with fail
    refine (alive_any _).mono ?_
    rintro e w6 ⟨rfl, st6⟩
    replace o1 := own_on o1 st6
    replace o2 := own_on o2 st6
    replace ox := own_on ox st6
    replace HB := hid (HB.out.trans (st6.mono HB.out.size))
    clear st6
    go_wp2
    go_ret
    exact ⟨rfl, HB.out⟩
  | true =>
    cases ht2 : tapsOk l2 with
    | false =>
      obtain rfl : nx = 0 := by rw [← hlx]; unfold prodOut; rw [ht2, Bool.and_false]; rfl
      rw [ht1] at T1
      rw [ht2] at T2
      clear ht1 ht2 CO V1 V2 hlx
      go_wp2_with fail
      with_reducible refine Calls.mono (T1.out _ (Sl.of_own o1)) ?_
      rintro e w5 ⟨rfl, st5⟩
      replace o1 := own_on o1 st5
      replace o2 := own_on o2 st5
      replace ox := own_on ox st5
      replace HB := hid (HB.out.trans (st5.mono HB.out.size))
      clear st5
      go_wp2_with fail
      with_reducible refine Calls.mono (T2.out _ (Sl.of_own o2)) ?_
      rintro e w6 ⟨rfl, st6⟩
      replace o1 := own_on o1 st6
      replace o2 := own_on o2 st6
      replace ox := own_on ox st6
      replace HB := hid (HB.out.trans (st6.mono HB.out.size))
      clear st6
      go_wp2_with fail
      refine (alive_any _).mono ?_
      rintro e w7 ⟨rfl, st7⟩
      replace o1 := own_on o1 st7
      replace o2 := own_on o2 st7
      replace ox := own_on ox st7
      replace HB := hid (HB.out.trans (st7.mono HB.out.size))
      clear st7
      go_wp2
      go_ret
      exact ⟨rfl, HB.out⟩
    | true =>
      have hT1 := tapsOk_iff.1 ht1
      have hT2 := tapsOk_iff.1 ht2
      have hpo : prodOut l1 l2 = prodL l1 l2 := by unfold prodOut; rw [ht1, ht2]; rfl
      have hpo2 : prodOut l2 l1 = prodL l1 l2 := by unfold prodOut; rw [ht1, ht2]; exact prodL_comm
      have hv1 : valOut l1 2 = .tuple #[.int .i64 (valL l1 2), .bool true] := by unfold valOut valOk; rw [ht1]; rfl
      have hv2 : valOut l2 2 = .tuple #[.int .i64 (valL l2 2), .bool true] := by unfold valOut valOk; rw [ht2]; rfl
      have HXY := hid (valL_prod (a := l1) (b := l2) hT1.2.1 2)
      have HBD := hid (prod_bd ht1 ht2)
      rw [hpo, prodL_len, hl1, hl2] at hlx
      rw [hpo] at ox
      rw [hpo2] at CO
      rw [hv1] at V1
      rw [hv2] at V2
      rw [hl1] at hT1
      rw [hl2] at hT2
      have a1 := hT1.2.1
      have a2 := hT2.2.1
      have HLP := hid (show (prodL l1 l2).length = nx from by rw [prodL_len, hl1, hl2]; exact hlx)
      have hnxi : (n1 : Int) + (n2 : Int) - 1 = (nx : Int) := by omega
      have HNX := hid hnxi
      have h0 : 0 < nx := by omega
      have h0' : ((nx : Int) == 0) = false := by simp; omega
      have h0'' : ¬ (nx : Int) = 0 := by omega
      have b1 := HBD.out 0
      rw [List.drop_zero] at b1
      obtain ⟨X, hX⟩ : ∃ X, valL l1 2 = X := ⟨_, rfl⟩
      obtain ⟨Y, hY⟩ : ∃ Y, valL l2 2 = Y := ⟨_, rfl⟩
      rw [hX] at V1 HXY
      rw [hY] at V2 HXY
      obtain ⟨P, hP⟩ : ∃ P, prodL l1 l2 = P := ⟨_, rfl⟩
      rw [hP] at ox CO HXY HBD HLP b1
      obtain ⟨V, hV⟩ : ∃ V, valL P 2 = V := ⟨_, rfl⟩
      rw [hV] at HXY b1
      have HV := hid hV
      have wxy : IntKind.i64.wrap (X * Y) = V := by rw [← HXY.out]; exact IntWalk.i64_in _ (by omega)
      clear T1 T2 ht1 ht2 hT1 hT2 hpo hpo2 hv1 hv2 hlx hnxi hX hY hP hV
      go_wp2_with fail
      with_reducible refine Calls.mono (V1.out _ (Sl.of_own o1)) ?_
      rintro e w5 ⟨rfl, st5⟩
      replace o1 := own_on o1 st5
      replace o2 := own_on o2 st5
      replace ox := own_on ox st5
      replace HB := hid (HB.out.trans (st5.mono HB.out.size))
      clear st5
      go_wp2_with fail
      with_reducible refine Calls.mono (V2.out _ (Sl.of_own o2)) ?_
      rintro e w6 ⟨rfl, st6⟩
      replace o1 := own_on o1 st6
      replace o2 := own_on o2 st6
      replace ox := own_on ox st6
      replace HB := hid (HB.out.trans (st6.mono HB.out.size))
      clear st6
      go_wp2_with fail
      have HZ := hid (show valL (P.drop nx) 2 = 0 from by rw [List.drop_of_length_le (by rw [HLP.out]; omega)]; rfl)
      obtain ⟨m, rfl⟩ : ∃ m, nx = m + 1 := ⟨nx - 1, by omega⟩
      obtain ⟨gx, cgx, hsx, _, _⟩ := own_shape ox
      injection hsx with e1 e2 e3
      subst e1
      clear e3
      go_loop [10, 11] (fun s i => ∃ j : Nat, s = .int .i64 (valL (P.drop j) 2) ∧ i = .int .i64 ((j : Int) - 1) ∧ j ≤ m + 1) (fun _ i => (intOf i + 1).toNat)
      case atStart => exact ⟨m + 1, by rw [HZ.out], by go_num, Nat.le_refl _⟩
      case round =>
        clear HZ
        obtain ⟨j, rfl, rfl, hj⟩ := hrel
        by_cases hj0 : 0 < j
        · obtain ⟨i, rfl⟩ : ∃ q, j = q + 1 := ⟨j - 1, by omega⟩
          have x0 := own_cell ox HLP.out (show i < m + 1 by omega)
          have q1 := HBD.out (i + 1)
          have q2 := HBD.out i
          have hV2 : valL (P.drop i) 2 = valL (P.drop (i + 1)) 2 * 2 + nth P i := by rw [List.drop_eq_getElem_cons (show i < P.length by rw [HLP.out]; omega), nth_lt (by rw [HLP.out]; omega)]; rfl
          obtain ⟨s, hs⟩ : ∃ s, valL (P.drop (i + 1)) 2 = s := ⟨_, rfl⟩
          obtain ⟨y, hy⟩ : ∃ y, nth P i = y := ⟨_, rfl⟩
          obtain ⟨u, hu⟩ : ∃ u, valL (P.drop i) 2 = u := ⟨_, rfl⟩
          rw [hs] at hV2 q1
          rw [hs]
          rw [hy] at hV2 x0
          rw [hu] at hV2 q2
          have HU := hid (show valL (P.drop i) 2 = 2 * s + y from by rw [hu, hV2]; omega)
          have yb : -2200000000000 ≤ y ∧ y ≤ 2200000000000 := by omega
          have sb : -700000000000 ≤ 2 * s + y ∧ 2 * s + y ≤ 700000000000 := by omega
          have e1 : ((i + 1 : Nat) : Int) - 1 = (i : Int) := by omega
          rw [e1]
          have hi0 : (0 : Int) ≤ (i : Int) := by omega
          have hin : (i : Int) < (m : Int) + 1 := by omega
          clear hs hy hu hV2 q2 e1
          go_wp2
          go_round
          case rel => exact ⟨i, by rw [HU.out], by go_num, by omega⟩
          case measure => simp [intOf]
        · obtain rfl : j = 0 := by omega
          rw [List.drop_zero, HV.out]
          have nxe : ((m : Int) + 1 == (n1 : Int) + (n2 : Int) - 1) = true := by have := HNX.out; simp; omega
          go_wp2_with fail
          refine (CO.out _ (Sl.of_own o2) (Sl.of_own o1)).mono ?_
          rintro e w7 ⟨Az, nz, cz, rfl, oz, hnz, st7⟩
          replace o1 := own_on o1 st7
          replace o2 := own_on o2 st7
          replace ox := own_on ox st7
          replace HB := hid (HB.out.trans (st7.mono HB.out.size))
          clear st7
          replace oz := own_mono (base' := 0) oz (Nat.zero_le _)
          go_wp2_with fail
          refine (sameInts_b _ _ _ _ _ _ _ _ _ _ _ (Sl.of_own oz) (Sl.of_own ox)).mono ?_
          rintro e w8 ⟨rfl, st8⟩
          rw [decide_eq_true rfl]
          replace o1 := own_on o1 st8
          replace o2 := own_on o2 st8
          replace ox := own_on ox st8
          replace oz := own_on oz st8
          replace HB := hid (HB.out.trans (st8.mono HB.out.size))
          clear st8
          go_wp2_with fail
          go_ret
          exact ⟨rfl, HB.out⟩
end Go.Proofs.Ytmkbbkpgdfpcoaa
