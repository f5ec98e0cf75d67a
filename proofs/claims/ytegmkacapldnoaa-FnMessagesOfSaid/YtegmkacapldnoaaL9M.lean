/-
  The walk of laws.FnMessagesOf, written by program (law9.py). No statement is proved here.
-/
import Derived.Test.YtegmkacapldnoaaC9m
import Derived.Test.YtegmkacapldnoaaC9r
import Derived.Test.YtegmkacapldnoaaC9i
import Derived.Test.YtegmkacapldnoaaDrS
import Derived.Test.YtegmkacapldnoaaExS
import Derived.Test.YtegmkacapldnoaaC1a
import Derived.IntWalk
namespace Go.Proofs.Ytegmkacapldnoaa
open Go.RowKit
set_option linter.unusedVariables false
set_option linter.unusedSimpArgs false

set_option maxRecDepth 100000 in
set_option maxHeartbeats 6400000 in
theorem fnMessagesOf_walk (A : Option Addr) (n c : Nat) (w : World) (hs : By w w.heap.size A n) (hc : n ≤ c) :
    Calls Try.prog 6 #[.slice A n c] w fun e w' => e = .returned (.bool true) ∧ Below w.heap.size w w' := by
  have hm : n ≤ 9223372036854775807 := hs.1
  by_cases hbig : 1048576 < n
  · go_enter Try.func6, Try.ntmps6
    go_wp2
    go_ret
    exact ⟨rfl, Below.refl _ _⟩
  go_enter Try.func6, Try.ntmps6
  go_wp2_with fail
  refine (drawMessagesOf_any A n c _ hs hc).mono ?_
  rintro e w1 ⟨A1, n1, c1, l1, rfl, o1, hn1, hb1⟩
  have HB := hid hb1
  clear hs hc hb1 hbig hm
  replace o1 := own_mono (base' := 0) o1 (Nat.zero_le _)
  have hl1 : l1.length = n1 := by have := o1.1; simpa using this
  obtain ⟨hc1, hc2⟩ := own_caps9 o1
  have CI := hid (fun (W : World) (hs : Sl W W.heap.size A1 n1 l1) => implMessagesOf_any A1 n1 c1 l1 W hs hc1 hc2)
  have CS := hid (fun (W : World) (hs : Sl W W.heap.size A1 n1 l1) => specMessagesOf_any A1 n1 c1 l1 W hs)
  have CR := hid (fun (W : World) (hs : Sl W W.heap.size A1 n1 l1) => implReachOf_any A1 n1 c1 l1 W hs hc1 hc2)
  cases hk : ringOk l1 with
  | false =>
    rw [show messOut l1 = -1 from by unfold messOut; rw [hk]; rfl] at CI CS
    clear hk CR
    go_wp2_with fail
    with_reducible refine Calls.mono (CI.out _ (Sl.of_own o1)) ?_
    rintro e w2 ⟨rfl, st2⟩
    replace o1 := own_on o1 st2
    replace HB := hid (HB.out.trans (st2.mono HB.out.size))
    clear st2
    go_wp2_with fail
    with_reducible refine Calls.mono (CS.out _ (Sl.of_own o1)) ?_
    rintro e w3 ⟨rfl, st3⟩
    replace o1 := own_on o1 st3
    replace HB := hid (HB.out.trans (st3.mono HB.out.size))
    clear st3
    go_wp2_with fail
    refine (alive_any _).mono ?_
    rintro e w4 ⟨rfl, st4⟩
    replace o1 := own_on o1 st4
    replace HB := hid (HB.out.trans (st4.mono HB.out.size))
    clear st4
    go_wp2
    go_ret
    exact ⟨rfl, HB.out⟩
  | true =>
    obtain ⟨_, _, h1, h2⟩ := ringOk_iff.1 hk
    have hmess := mess_reach (ring_pos hk) (by omega)
    have hlow := mess_low (ring_apart hk) (by omega)
    have hhigh := mess_high (ring_apart hk)
    rw [← hmess] at hlow hhigh
    rw [hl1] at h1 h2 hlow hhigh hmess
    rw [show messOut l1 = (messN l1 : Int) from by unfold messOut; rw [if_pos hk]] at CI CS
    rw [show reachOut l1 = reachL l1 from by unfold reachOut; rw [if_pos hk]] at CR
    obtain ⟨N, hN⟩ : ∃ N, messN l1 = N := ⟨_, rfl⟩
    rw [hN] at CI CS hlow hhigh hmess
    have HM := hid hmess
    obtain ⟨p, hp⟩ : ∃ p, n1 * (n1 + 1) = p := ⟨_, rfl⟩
    rw [hp] at hhigh
    have hpi : (n1 : Int) * ((n1 : Int) + 1) = (p : Int) := by rw [← hp]; push_cast; rfl
    have hp2 : p ≤ 156 := by rw [← hp]; exact Nat.le_trans (Nat.mul_le_mul h2 (show n1 + 1 ≤ 13 by omega)) (by omega)
    have HRL := hid (fun (k : Nat) (h : k < n1) => nth_reachL (l := l1) (k := k) (by rw [hl1]; exact h))
    have HRB := hid (fun (k : Nat) => (show reachN l1 k ≤ 12 from Nat.le_trans (reach_le l1 k) (by rw [hl1]; exact h2)))
    have HSB := hid (fun (k : Nat) => (show sumN (reachN l1) k ≤ k * 12 from by have := sumN_le (n := k) (f := reachN l1) (g := fun _ => 12) fun j _ => HRB.out j; rwa [sumN_const] at this))
    have HLR := hid ((reachL_len l1).trans hl1)
    have HPI := hid hpi
    clear hmess hN hk hp hpi
    go_wp2_with fail
    with_reducible refine Calls.mono (CI.out _ (Sl.of_own o1)) ?_
    rintro e w2 ⟨rfl, st2⟩
    replace o1 := own_on o1 st2
    replace HB := hid (HB.out.trans (st2.mono HB.out.size))
    clear st2
    go_wp2_with fail
    with_reducible refine Calls.mono (CS.out _ (Sl.of_own o1)) ?_
    rintro e w3 ⟨rfl, st3⟩
    replace o1 := own_on o1 st3
    replace HB := hid (HB.out.trans (st3.mono HB.out.size))
    clear st3
    go_wp2_with fail
    refine (CR.out _ (Sl.of_own o1)).mono ?_
    rintro e w4 ⟨Ar, nr, cr, rfl, or, hnr, st4⟩
    replace o1 := own_on o1 st4
    replace HB := hid (HB.out.trans (st4.mono HB.out.size))
    clear st4
    replace or := own_mono (base' := 0) or (Nat.zero_le _)
    have hnr : nr = n1 := by have := or.1; simp [reachL_len] at this; omega
    subst hnr
    have hN0 : ¬ (N : Int) < 0 := by omega
    clear CI CS CR
    go_wp2_with fail
    go_loopw [5, 7] (fun s i wr => ∃ k : Nat, s = .int .i64 (sumN (reachN l1) k : Int) ∧ i = .int .i64 k ∧ k ≤ nr ∧ wr.ownsRow 0 3 1 (.slice Ar nr cr) nr (ints (reachL l1)) ∧ Hid (Below w.heap.size w wr)) (fun _ i _ => nr - (intOf i).toNat)
    case atStart => exact ⟨0, rfl, rfl, Nat.zero_le _, or, HB⟩
    case round =>
      clear or o1 HB
      obtain ⟨k, rfl, rfl, hk, or, HB⟩ := hrel
      by_cases hlt : k < nr
      · have hlti : (k : Int) < (nr : Int) := by omega
        rcases own_form9 or with ⟨_, h0, _⟩ | ⟨g1, rfl, _, _⟩
        · omega
        have xr := own_cell or HLR.out hlt
        rw [HRL.out k hlt] at xr
        have b1 := HRB.out k
        have b2 := HSB.out k
        have hss : sumN (reachN l1) (k + 1) = sumN (reachN l1) k + reachN l1 k := rfl
        obtain ⟨R, hR⟩ : ∃ R, reachN l1 k = R := ⟨_, rfl⟩
        obtain ⟨T, hT⟩ : ∃ T, sumN (reachN l1) k = T := ⟨_, rfl⟩
        rw [hR] at xr b1 hss
        rw [hT] at b2 hss
        rw [hT]
        have HS := hid hss
        have w1 : IntKind.i64.wrap ((T : Int) + (R : Int)) = (T : Int) + (R : Int) := IntWalk.i64_in _ (by omega)
        clear hR hT hss
        go_wp2
        go_roundw
        case rel => exact ⟨k + 1, by rw [HS.out]; go_num, by go_num, by omega, or, HB⟩
        case measure => simp [intOf]; omega
      · obtain rfl : k = nr := by omega
        rw [← HM.out]
        have hpi := HPI.out
        have w1 : IntKind.i64.wrap (2 * (k : Int)) = 2 * (k : Int) := IntWalk.i64_in _ (by omega)
        have w2 : IntKind.i64.wrap (2 * (k : Int) - 1) = 2 * (k : Int) - 1 := IntWalk.i64_in _ (by omega)
        have w3 : IntKind.i64.wrap ((k : Int) + 1) = (k : Int) + 1 := IntWalk.i64_in _ (by omega)
        have w4 : IntKind.i64.wrap ((k : Int) * ((k : Int) + 1)) = (p : Int) := by rw [hpi]; exact IntWalk.i64_in _ (by omega)
        have w5 : (p : Int).tdiv 2 = (p : Int) / 2 := Int.tdiv_eq_ediv_of_nonneg (by omega)
        have w6 : IntKind.i64.wrap ((p : Int) / 2) = (p : Int) / 2 := IntWalk.i64_in _ (by omega)
        have d1 : decide (2 * (k : Int) - 1 ≤ (N : Int)) = true := by simp; omega
        have d2 : decide ((N : Int) ≤ (p : Int) / 2) = true := by simp; omega
        go_wp2_with fail
        refine (alive_any _).mono ?_
        rintro e w11 ⟨rfl, st11⟩
        replace HB := hid (HB.out.trans (st11.mono HB.out.size))
        clear st11
        go_wp2
        go_ret
        exact ⟨rfl, HB.out⟩
end Go.Proofs.Ytegmkacapldnoaa
