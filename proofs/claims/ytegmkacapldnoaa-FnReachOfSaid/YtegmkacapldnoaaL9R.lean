/-
  The walk of laws.FnReachOf, written by program (law9.py). No statement is proved here.
-/
import Derived.Test.YtegmkacapldnoaaC9c
import Derived.Test.YtegmkacapldnoaaC9r
import Derived.Test.YtegmkacapldnoaaC9i
import Derived.Test.YtegmkacapldnoaaDrS
import Derived.Test.YtegmkacapldnoaaExS
import Derived.Test.YtegmkacapldnoaaC1a
import Derived.IntWalk
namespace Go.Proofs.Ytegmkacapldnoaa
open Go.RowKit
set_option linter.unusedVariables false
set_option linter.unusedSimpArgs false

set_option maxRecDepth 100000 in
set_option maxHeartbeats 6400000 in
theorem fnReachOf_walk (A : Option Addr) (n c : Nat) (w : World) (hs : By w w.heap.size A n) (hc : n ≤ c) :
    Calls Try.prog 7 #[.slice A n c] w fun e w' => e = .returned (.bool true) ∧ Below w.heap.size w w' := by
  have hm : n ≤ 9223372036854775807 := hs.1
  by_cases hbig : 1048576 < n
  · go_enter Try.func7, Try.ntmps7
    go_wp2
    go_ret
    exact ⟨rfl, Below.refl _ _⟩
  go_enter Try.func7, Try.ntmps7
  go_wp2_with fail
  refine (drawReachOf_any A n c _ hs hc).mono ?_
  rintro e w1 ⟨A1, n1, c1, l1, rfl, o1, hn1, hb1⟩
  have HB := hid hb1
  clear hs hc hb1 hbig hm
  replace o1 := own_mono (base' := 0) o1 (Nat.zero_le _)
  have hl1 : l1.length = n1 := by have := o1.1; simpa using this
  obtain ⟨hc1, hc2⟩ := own_caps9 o1
  have CI := hid (fun (W : World) (hs : Sl W W.heap.size A1 n1 l1) => implReachOf_any A1 n1 c1 l1 W hs hc1 hc2)
  have CS := hid (fun (W : World) (hs : Sl W W.heap.size A1 n1 l1) => specReachOf_any A1 n1 c1 l1 W hs)
  have CK := hid (fun (W : World) (hs : Sl W W.heap.size A1 n1 l1) => implRingOk_any A1 n1 c1 l1 W hs hc1 hc2)
  have CC := hid (fun (W : World) (hs : Sl W W.heap.size A1 n1 l1) => implChosenAt_any A1 n1 c1 l1 W hs hc1 hc2)
  cases hk : ringOk l1 with
  | false =>
    rw [show reachOut l1 = [] from by unfold reachOut; rw [hk]; rfl] at CI CS
    rw [hk] at CK
    clear hk CC
    go_wp2_with fail
    refine (CI.out _ (Sl.of_own o1)).mono ?_
    rintro e w2 ⟨Ax, nx, cx, rfl, ox, hnx, st2⟩
    replace o1 := own_on o1 st2
    replace HB := hid (HB.out.trans (st2.mono HB.out.size))
    clear st2
    replace ox := own_mono (base' := 0) ox (Nat.zero_le _)
    go_wp2_with fail
    refine (CS.out _ (Sl.of_own o1)).mono ?_
    rintro e w3 ⟨Ay, ny, cy, rfl, oy, hny, st3⟩
    replace o1 := own_on o1 st3
    replace ox := own_on ox st3
    replace HB := hid (HB.out.trans (st3.mono HB.out.size))
    clear st3
    replace oy := own_mono (base' := 0) oy (Nat.zero_le _)
    go_wp2_with fail
    refine (sameInts_b _ _ _ _ _ _ _ _ _ _ _ (Sl.of_own ox) (Sl.of_own oy)).mono ?_
    rintro e w4 ⟨rfl, st4⟩
    rw [decide_eq_true rfl]
    replace o1 := own_on o1 st4
    replace ox := own_on ox st4
    replace oy := own_on oy st4
    replace HB := hid (HB.out.trans (st4.mono HB.out.size))
    clear st4
    clear oy
    obtain rfl : nx = 0 := by have := ox.1; simpa using this.symm
    go_wp2_with fail
    with_reducible refine Calls.mono (CK.out _ (Sl.of_own o1)) ?_
    rintro e w5 ⟨rfl, st5⟩
    replace o1 := own_on o1 st5
    replace ox := own_on ox st5
    replace HB := hid (HB.out.trans (st5.mono HB.out.size))
    clear st5
    go_wp2_with fail
    refine (alive_any _).mono ?_
    rintro e w6 ⟨rfl, st6⟩
    replace o1 := own_on o1 st6
    replace ox := own_on ox st6
    replace HB := hid (HB.out.trans (st6.mono HB.out.size))
    clear st6
    go_wp2
    go_ret
    exact ⟨rfl, HB.out⟩
  | true =>
    obtain ⟨_, _, h1, h2⟩ := ringOk_iff.1 hk
    have hmx := maxAt_is (l := l1) (by omega)
    rw [show chosenOut l1 = .tuple #[.int .i64 (maxAt l1 : Int), .int .i64 ((n1 - 1 : Nat) : Int), .bool true] from by unfold chosenOut; rw [if_pos hk, hl1]] at CC
    rw [show reachOut l1 = reachL l1 from by unfold reachOut; rw [if_pos hk]] at CI CS
    obtain ⟨p, hp⟩ : ∃ p, maxAt l1 = p := ⟨_, rfl⟩
    rw [hp] at CC hmx
    have hpn := hmx.1
    have HA := hid (ring_apart hk)
    have HMX := hid hmx
    rw [hl1] at h1 h2 hpn
    have HL := hid hl1
    have HRL := hid (fun (k : Nat) (h : k < n1) => nth_reachL (l := l1) (k := k) (by rw [hl1]; exact h))
    have HRB := hid (fun (k : Nat) => (show reachN l1 k ≤ 12 from Nat.le_trans (reach_le l1 k) (by rw [hl1]; exact h2)))
    have HRF := hid (fun (k : Nat) (h : k < n1) => reach_full HA.out (j := k) (by rw [hl1]; exact h))
    have HRN := hid (fun (k : Nat) (h : k < n1) (hq : ¬ isMax l1 k) => reach_next HA.out (j := k) (by rw [hl1]; exact h) hq)
    rw [hl1] at HRF HRN
    have HLR := hid ((reachL_len l1).trans hl1)
    clear hp hk hmx CK
    go_wp2_with fail
    refine (CI.out _ (Sl.of_own o1)).mono ?_
    rintro e w2 ⟨Ax, nx, cx, rfl, ox, hnx, st2⟩
    replace o1 := own_on o1 st2
    replace HB := hid (HB.out.trans (st2.mono HB.out.size))
    clear st2
    replace ox := own_mono (base' := 0) ox (Nat.zero_le _)
    go_wp2_with fail
    refine (CS.out _ (Sl.of_own o1)).mono ?_
    rintro e w3 ⟨Ay, ny, cy, rfl, oy, hny, st3⟩
    replace o1 := own_on o1 st3
    replace ox := own_on ox st3
    replace HB := hid (HB.out.trans (st3.mono HB.out.size))
    clear st3
    replace oy := own_mono (base' := 0) oy (Nat.zero_le _)
    go_wp2_with fail
    refine (sameInts_b _ _ _ _ _ _ _ _ _ _ _ (Sl.of_own ox) (Sl.of_own oy)).mono ?_
    rintro e w4 ⟨rfl, st4⟩
    rw [decide_eq_true rfl]
    replace o1 := own_on o1 st4
    replace ox := own_on ox st4
    replace oy := own_on oy st4
    replace HB := hid (HB.out.trans (st4.mono HB.out.size))
    clear st4
    clear oy
    have hnx1 : nx = n1 := by have := ox.1; simp [reachL_len] at this; omega
    subst hnx1
    have hne : ((nx : Int) == 0) = false := by simp; omega
    have hne' : ¬ (nx : Int) = 0 := by omega
    go_wp2_with fail
    with_reducible refine Calls.mono (CC.out _ (Sl.of_own o1)) ?_
    rintro e w5 ⟨rfl, st5⟩
    replace o1 := own_on o1 st5
    replace ox := own_on ox st5
    replace HB := hid (HB.out.trans (st5.mono HB.out.size))
    clear st5
    clear CI CS CC hl1
    go_wp2_with fail
    go_loopw [8] (fun i wr => ∃ k : Nat, i = .int .i64 k ∧ k ≤ nx ∧ wr.ownsRow 0 3 1 (.slice A1 nx c1) nx (ints l1) ∧ wr.ownsRow 0 3 1 (.slice Ax nx cx) nx (ints (reachL l1)) ∧ Hid (Below w.heap.size w wr)) (fun i _ => nx - (intOf i).toNat)
    case atStart => exact ⟨0, rfl, Nat.zero_le _, o1, ox, HB⟩
    case round =>
      clear o1 ox HB
      obtain ⟨k, rfl, hk, o1, ox, HB⟩ := hrel
      by_cases hlt : k < nx
      · have hlti : (k : Int) < (nx : Int) := by omega
        have hk0 : (0 : Int) ≤ (k : Int) := by omega
        rcases own_form9 o1 with ⟨_, h0, _⟩ | ⟨g1, rfl, _, _⟩
        · omega
        rcases own_form9 ox with ⟨_, h0, _⟩ | ⟨gx, rfl, _, _⟩
        · omega
        have x0 := own_cell o1 HL.out hlt
        have xr := own_cell ox HLR.out hlt
        rw [HRL.out k hlt] at xr
        have b1 := HRB.out k
        have hrf := HRF.out k hlt
        have hrn := HRN.out k hlt
        obtain ⟨R, hR⟩ : ∃ R, reachN l1 k = R := ⟨_, rfl⟩
        rw [hR] at xr b1 hrf hrn
        obtain ⟨r, hr⟩ : ∃ r, (k + R) % nx = r := ⟨_, rfl⟩
        have hrn0 : r < nx := by rw [← hr]; exact Nat.mod_lt _ (by omega)
        rw [hr] at hrn
        have x1 := own_cell o1 HL.out hrn0
        have m1 : ((k : Int) + (R : Int)).tmod (nx : Int) = (r : Int) := by
          rw [show (k : Int) + (R : Int) = ((k + R : Nat) : Int) by omega, ← hr]; rfl
        have w1 : IntKind.i64.wrap ((k : Int) + (R : Int)) = (k : Int) + (R : Int) := IntWalk.i64_in _ (by omega)
        have hri : (r : Int) < (nx : Int) := by omega
        have hr0 : (0 : Int) ≤ (r : Int) := by omega
        by_cases hkp : k = p
        · obtain rfl : R = nx := hrf.2 (by rw [hkp]; exact HMX.out)
          subst hkp
          clear hR hr hrf hrn
          go_wp2
          go_quiet (fail)
          go_wp2
          go_roundw
          case rel => exact ⟨k + 1, by go_num, by omega, own_kept_none o1 (drewN_g9 _ _), own_kept_none ox (drewN_g9 _ _), hid (below_drewN HB.out _)⟩
          case measure => simp [intOf]; omega
        · have hnm : ¬ isMax l1 k := fun h => hkp (max_one HA.out h HMX.out)
          have hgt := hrn hnm
          have hRn : ¬ R = nx := fun h => hnm (hrf.1 h)
          obtain ⟨a, ha⟩ : ∃ a, nth l1 k = a := ⟨_, rfl⟩
          obtain ⟨b, hb⟩ : ∃ b, nth l1 r = b := ⟨_, rfl⟩
          rw [ha] at x0 hgt
          rw [hb] at x1 hgt
          have q1 : ((R : Int) == (nx : Int)) = false := by simp; omega
          have q2 : ((k : Int) == (p : Int)) = false := by simp; omega
          have q3 : decide (b ≤ a) = false := by simp; omega
          have q4 : ¬ (k : Int) = (p : Int) := by omega
          have q5 : ¬ (R : Int) = (nx : Int) := by omega
          have q6 : (R == nx) = false := by simpa using hRn
          have q7 : (k == p) = false := by simpa using hkp
          have q8 : ((k : Int) != (p : Int)) = true := by simp; omega
          have q9 : (k != p) = true := by simpa using hkp
          clear hR hr hrf hrn ha hb hnm
          go_wp2
          go_quiet (fail)
          go_wp2
          go_roundw
          case rel => exact ⟨k + 1, by go_num, by omega, own_kept_none o1 (drewN_g9 _ _), own_kept_none ox (drewN_g9 _ _), hid (below_drewN HB.out _)⟩
          case measure => simp [intOf]; omega
      · obtain rfl : k = nx := by omega
        go_wp2
        go_ret
        exact ⟨rfl, HB.out⟩
end Go.Proofs.Ytegmkacapldnoaa
