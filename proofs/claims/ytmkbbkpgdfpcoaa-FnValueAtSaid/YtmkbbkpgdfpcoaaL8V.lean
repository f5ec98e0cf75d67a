/-
  The walk of laws.FnValueAt, written by program (law8.py). No statement is proved here.
-/
import Derived.Test.YtmkbbkpgdfpcoaaC8p
import Derived.Test.YtmkbbkpgdfpcoaaC8i
import Derived.Test.YtmkbbkpgdfpcoaaDrQ
import Derived.Test.YtmkbbkpgdfpcoaaC1a
import Derived.IntWalk
namespace Go.Proofs.Ytmkbbkpgdfpcoaa
open Go.RowKit
set_option linter.unusedVariables false
set_option linter.unusedSimpArgs false

theorem sum_take_succ {l : List Int} {k : Nat} (h : k < l.length) : (l.take (k + 1)).sum = (l.take k).sum + nth l k := by rw [take_nth h]; simp
theorem sum_take_bd {l : List Int} (h : ∀ k, -9 ≤ nth l k ∧ nth l k ≤ 9) (k : Nat) : -(9 * (k : Int)) ≤ (l.take k).sum ∧ (l.take k).sum ≤ 9 * (k : Int) := by
  induction k with
  | zero => simp
  | succ k ih =>
    by_cases hk : k < l.length
    · rw [sum_take_succ hk]
      have := h k
      omega
    · rw [List.take_of_length_le (by omega)]
      rw [List.take_of_length_le (by omega)] at ih
      omega
theorem sgnS_bd {l : List Int} (h : ∀ k, -9 ≤ nth l k ∧ nth l k ≤ 9) (k : Nat) : -(9 * (k : Int)) ≤ sgnS l k ∧ sgnS l k ≤ 9 * (k : Int) := by
  induction k with
  | zero => simp [sgnS]
  | succ k ih =>
    rw [sgnS_succ]
    have := h k
    have hp : nth l k * (1 - ((k : Int) % 2) * 2) = nth l k ∨ nth l k * (1 - ((k : Int) % 2) * 2) = -nth l k := by
      rcases (show (k : Int) % 2 = 0 ∨ (k : Int) % 2 = 1 by omega) with e | e
      · left; rw [e]; simp
      · right; rw [e]; omega
    omega

set_option maxRecDepth 100000 in
set_option maxHeartbeats 6400000 in
theorem fnValueAt_walk (A : Option Addr) (n c : Nat) (w : World) (hs : By w w.heap.size A n) (hc : n ≤ c) :
    Calls Try.prog 8 #[.slice A n c] w fun e w' => e = .returned (.bool true) ∧ Below w.heap.size w w' := by
  have hm : n ≤ 9223372036854775807 := hs.1
  by_cases hbig : 1048576 < n
  · go_enter Try.func8, Try.ntmps8
    go_wp2
    go_ret
    exact ⟨rfl, Below.refl _ _⟩
  go_enter Try.func8, Try.ntmps8
  go_wp2_with fail
  refine (drawValueAt_any A n c _ hs hc).mono ?_
  rintro e w1 ⟨A1, n1, c1, l1, z, rfl, o1, hn1, hv1, hz0, hz1, hb1⟩
  have HB := hid hb1
  clear hs hc hb1 hbig hm
  replace o1 := own_mono (base' := 0) o1 (Nat.zero_le _)
  have hl1 : l1.length = n1 := by have := o1.1; simpa using this
  have CI := hid (fun (W : World) (h1 : Sl W W.heap.size A1 n1 l1) => implValueAt_any A1 n1 c1 l1 z W h1)
  have C1 := hid (fun (W : World) (h1 : Sl W W.heap.size A1 n1 l1) => implValueAt_any A1 n1 c1 l1 1 W h1)
  have C0 := hid (fun (W : World) (h1 : Sl W W.heap.size A1 n1 l1) => implValueAt_any A1 n1 c1 l1 0 W h1)
  have CN := hid (fun (W : World) (h1 : Sl W W.heap.size A1 n1 l1) => implValueAt_any A1 n1 c1 l1 (-1) W h1)
  have CS := hid (fun (W : World) (h1 : Sl W W.heap.size A1 n1 l1) => specValueAt_any A1 n1 c1 l1 z W W.heap.size h1)
  cases hk : valOk l1 z with
  | false =>
    have hv : valOut l1 z = .tuple #[.int .i64 0, .bool false] := by unfold valOut; rw [hk]; rfl
    rw [hv] at CI CS
    clear hk hv C1 C0 CN
    go_wp2_with fail
    with_reducible refine Calls.mono (CI.out _ (Sl.of_own o1)) ?_
    rintro e w2 ⟨rfl, st2⟩
    replace o1 := own_on o1 st2
    replace HB := hid (HB.out.trans (st2.mono HB.out.size))
    clear st2
    go_wp2_with fail
    with_reducible refine Calls.mono (CS.out _ (Sl.of_own o1)) ?_
    rintro e w' ⟨rfl, rfl⟩
    go_wp2_with fail
    refine (alive_any _).mono ?_
    rintro e w3 ⟨rfl, st3⟩
    replace o1 := own_on o1 st3
    replace HB := hid (HB.out.trans (st3.mono HB.out.size))
    clear st3
    go_wp2
    go_ret
    exact ⟨rfl, HB.out⟩
  | true =>
    have hv : valOut l1 z = .tuple #[.int .i64 (valL l1 z), .bool true] := by unfold valOut; rw [if_pos hk]
    have ht : tapsOk l1 = true := by unfold valOk at hk; simp at hk; exact hk.1
    have hT := tapsOk_iff.1 ht
    have e1 : valOut l1 1 = .tuple #[.int .i64 l1.sum, .bool true] := by unfold valOut valOk; rw [ht, valL_one]; rfl
    have e0 : valOut l1 0 = .tuple #[.int .i64 (nth l1 0), .bool true] := by unfold valOut valOk; rw [ht, valL_zero]; rfl
    have en : valOut l1 (-1) = .tuple #[.int .i64 (sgnS l1 n1), .bool true] := by unfold valOut valOk; rw [ht, valL_neg, hl1]; rfl
    rw [hv] at CI CS
    rw [e1] at C1
    rw [e0] at C0
    rw [en] at CN
    rw [hl1] at hT
    have HNB := hid (nth_bd (l := l1) (M := 9) (by omega) hT.1)
    have HSB := hid (sum_take_bd (l := l1) HNB.out)
    have HGB := hid (sgnS_bd (l := l1) HNB.out)
    have h1 := hT.2.1
    have h8 := hT.2.2
    obtain ⟨V, hV⟩ : ∃ V, valL l1 z = V := ⟨_, rfl⟩
    rw [hV] at CI CS
    have HL := hid hl1
    clear hv ht hT e1 e0 en hk hV hl1
    go_wp2_with fail
    with_reducible refine Calls.mono (CI.out _ (Sl.of_own o1)) ?_
    rintro e w2 ⟨rfl, st2⟩
    replace o1 := own_on o1 st2
    replace HB := hid (HB.out.trans (st2.mono HB.out.size))
    clear st2
    go_wp2_with fail
    with_reducible refine Calls.mono (CS.out _ (Sl.of_own o1)) ?_
    rintro e w' ⟨rfl, rfl⟩
    go_wp2_with fail
    obtain ⟨m, rfl⟩ : ∃ m, n1 = m + 1 := ⟨n1 - 1, by omega⟩
    obtain ⟨gx, cgx, hsx, _, _⟩ := own_shape o1
    injection hsx with e1 e2 e3
    subst e1
    clear e3
    go_loop [9, 10, 11] (fun s t i => ∃ k : Nat, s = .int .i64 (l1.take k).sum ∧ t = .int .i64 (sgnS l1 k) ∧ i = .int .i64 k ∧ k ≤ m + 1) (fun _ _ i => m + 1 - (intOf i).toNat)
    case atStart => exact ⟨0, by simp, by simp [sgnS], rfl, Nat.zero_le _⟩
    case round =>
      obtain ⟨k, rfl, rfl, rfl, hk⟩ := hrel
      by_cases hlt : k < m + 1
      · have x0 := own_cell o1 HL.out hlt
        have q0 := HNB.out k
        have q1 := HSB.out k
        have q2 := HGB.out k
        have HS := hid (sum_take_succ (l := l1) (k := k) (by rw [HL.out]; exact hlt))
        have HG := hid (sgnS_succ l1 k)
        obtain ⟨y, hy⟩ : ∃ y, nth l1 k = y := ⟨_, rfl⟩
        obtain ⟨s, hs⟩ : ∃ s, (l1.take k).sum = s := ⟨_, rfl⟩
        obtain ⟨t, ht⟩ : ∃ t, sgnS l1 k = t := ⟨_, rfl⟩
        rw [hy] at x0 q0 HS HG
        rw [hs] at q1 HS
        rw [ht] at q2 HG
        rw [hs, ht]
        clear hy hs ht
        have hlti : (k : Int) < (m : Int) + 1 := by omega
        by_cases hpar : (k : Int) % 2 = 0
        · rw [hpar] at HG
          have HG2 := hid (show sgnS l1 (k + 1) = t + y from by rw [HG.out]; simp)
          clear HG
          go_wp2
          go_round
          case rel => exact ⟨k + 1, by rw [HS.out], by rw [HG2.out], by go_num, by omega⟩
          case measure => simp [intOf]; omega
        · have hp1 : (k : Int) % 2 = 1 := by omega
          rw [hp1] at HG
          have HG2 := hid (show sgnS l1 (k + 1) = t - y from by rw [HG.out]; omega)
          clear HG hpar
          go_wp2
          go_round
          case rel => exact ⟨k + 1, by rw [HS.out], by rw [HG2.out]; first | rfl | (congr 1; omega), by go_num, by omega⟩
          case measure => simp [intOf]; omega
      · obtain rfl : k = m + 1 := by omega
        have hs : (l1.take (m + 1)).sum = l1.sum := by rw [List.take_of_length_le (by rw [HL.out]; omega)]
        rw [hs]
        have x0 := own_cell o1 HL.out (show 0 < m + 1 by omega)
        have Hs := hid hs
        clear hs
        go_wp2_with fail
        with_reducible refine Calls.mono (C1.out _ (Sl.of_own o1)) ?_
        rintro e w3 ⟨rfl, st3⟩
        replace o1 := own_on o1 st3
        replace HB := hid (HB.out.trans (st3.mono HB.out.size))
        clear st3
        go_wp2_with fail
        with_reducible refine Calls.mono (C0.out _ (Sl.of_own o1)) ?_
        rintro e w4 ⟨rfl, st4⟩
        replace o1 := own_on o1 st4
        replace HB := hid (HB.out.trans (st4.mono HB.out.size))
        clear st4
        go_wp2_with fail
        with_reducible refine Calls.mono (CN.out _ (Sl.of_own o1)) ?_
        rintro e w5 ⟨rfl, st5⟩
        replace o1 := own_on o1 st5
        replace HB := hid (HB.out.trans (st5.mono HB.out.size))
        clear st5
        have x9 := own_cell o1 HL.out (show 0 < m + 1 by omega)
        have hz9 : (0 : Int) < (m : Int) + 1 := by omega
        have hz8 : 0 < m + 1 := by omega
        go_wp2_with fail
        go_ret
        exact ⟨rfl, HB.out⟩
end Go.Proofs.Ytmkbbkpgdfpcoaa
