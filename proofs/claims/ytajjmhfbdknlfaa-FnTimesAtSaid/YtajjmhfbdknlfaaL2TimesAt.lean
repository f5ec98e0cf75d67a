/-
  The walk of laws.FnTimesAt, written by program (lawsig.py). No statement is proved here.
-/
import Derived.Test.YtajjmhfbdknlfaaC2i
import Derived.Test.YtajjmhfbdknlfaaC2t
import Derived.Test.YtajjmhfbdknlfaaC2u
import Derived.Test.YtajjmhfbdknlfaaDr4
import Derived.Test.YtajjmhfbdknlfaaC1a
import Derived.Test.YtajjmhfbdknlfaaExA
import Derived.Test.YtajjmhfbdknlfaaExS
import Derived.Deep.RegionHeld3
namespace Go.Proofs.Ytajjmhfbdknlfaa
open Go.RowKit
set_option linter.unusedVariables false
set_option linter.unusedSimpArgs false

theorem One.below' {w w1 w2 : World} {f e : Int} (h : One w w1 f e) (hb : Below w1.heap.size w1 w2) : One w w2 f e :=
  ⟨(hb.cell (p := ⟨w.heap.size, 0, none⟩) (by have := h.hs; simp; omega)).trans h.a0, (hb.cell (p := ⟨w.heap.size, 1, none⟩) (by have := h.hs; simp; omega)).trans h.a1, grown_below h.hg hb h.hg.size, Nat.le_trans h.hs hb.size⟩
theorem drew_grown' (w : World) : w.grownBy w.drew none := ⟨rfl, rfl, rfl, Nat.le_refl _, fun _ _ _ => rfl⟩
theorem timesTo_pw (f e last p : Int) : (timesOut f e last p).Pairwise (· < ·) := by
  unfold timesOut
  split
  · exact allAt_lt _ _
  · simp

set_option maxRecDepth 100000 in
set_option maxHeartbeats 3200000 in
theorem fnTimesAt_walk (A : Option Addr) (n c : Nat) (w : World) (hs : By w w.heap.size A n) (hc : n ≤ c) :
    Calls Try.prog 7 #[.slice A n c] w fun e w' => e = .returned (.bool true) ∧ Below w.heap.size w w' := by
  have hm : n ≤ 9223372036854775807 := hs.1
  by_cases hbig : 1048576 < n
  · go_enter Try.func7, Try.ntmps7
    go_wp2
    go_ret
    exact ⟨rfl, Below.refl _ _⟩
  go_enter Try.func7, Try.ntmps7
  go_wp2_with fail
  refine (drawTimesAt_any A n c _ hs hc).mono ?_
  rintro r w1 ⟨f, d, z, p, rfl, f0, f1, d0, d1, z0, z1, p0, p1, hb1⟩
  clear hs
  have CS := hid (fun W : World => specTimesAt_any f d z p W)
  have CI := hid (fun W : World => implTimesAt_any f d z p W)
  have CR := hid (fun W : World => implRoundOf_any f d z W)
  have HA := hid (timesTo_pw f d z p)
  have HM := hid (fun (x : Int) (hx : x ∈ timesOut f d z p) => timesOut_mem hx)
  have HL := hid (fun (h : sigOk f d z = true) (h1 : 0 ≤ p) (h2 : p ≤ z) => timesOut_len h h1 h2)
  have HN := hid (fun (h : (sigOk f d z && within p 0 z) = false) => timesOut_not h)
  obtain ⟨l, hl⟩ : ∃ l, timesOut f d z p = l := ⟨_, rfl⟩
  rw [hl] at CS CI HA HM HL HN
  clear hl
  go_wp2_with fail
  with_reducible refine Calls.mono (CI.out _) ?_
  rintro r w2 ⟨AG, nG, cG, rfl, oG, hnG, st2⟩
  have K : Hid (One w1 w2 f d) := hid (One.below' ⟨by simp, by simp, grown_alloc _ _ _, by simp⟩ st2)
  clear st2
  obtain ⟨a0, a1, _, _⟩ := K.out
  go_wp2_with fail
  with_reducible refine Calls.mono (CS.out _) ?_
  rintro r w3 ⟨AW, nW, cW, rfl, oW, hnW, st3⟩
  replace oG := own_on oG st3
  replace K := hid (K.out.below' st3)
  clear a0 a1
  clear st3
  obtain ⟨a0, a1, _, _⟩ := K.out
  go_wp2_with fail
  refine (sameInts_b _ _ _ _ _ _ _ _ _ _ _ (Sl.of_own oG) (Sl.of_own oW)).mono ?_
  rintro r w4 ⟨rfl, st4⟩
  rw [decide_eq_true rfl]
  replace oG := own_on oG st4
  replace K := hid (K.out.below' st4)
  clear st4 a0 a1 oW
  obtain ⟨a0, a1, _, _⟩ := K.out
  have hlen : l.length = nG := by have := oG.1; simpa using this
  have HLen := hid hlen; clear hlen
  replace oG := own_mono (base' := 0) oG (Nat.zero_le _)
  go_wp2_with fail
  go_loopw [7] (fun i wr => ∃ k : Nat, i = .int .i64 k ∧ k ≤ nG ∧ wr.ownsRow 0 3 1 (.slice AG nG cG) nG (ints l) ∧ Hid (One w1 wr f d)) (fun i _ => nG - (intOf i).toNat)
  case atStart => exact ⟨0, rfl, Nat.zero_le _, oG, K⟩
  case round =>
    clear K a0 a1 oG
    obtain ⟨k, rfl, hk, oG, K⟩ := hrel
    obtain ⟨a0, a1, _, _⟩ := K.out
    by_cases hlt : k < nG
    · have hmem : nth l k ∈ l := by rw [nth_lt (by rw [HLen.out]; exact hlt)]; exact List.getElem_mem _
      have hx := HM.out _ hmem
      have P1 := hid (fun W : World => implPlaceAt_any f d z (nth l k) W)
      rw [show placeOut f d z (nth l k) = p from by unfold placeOut; rw [hx.1, if_pos (by simp; omega), hx.2.2.2.2.2]] at P1
      clear hmem hx
      obtain ⟨j, rfl⟩ : ∃ j, nG = j + 1 := ⟨nG - 1, by omega⟩
      obtain ⟨g, cg, hs0, _, _⟩ := own_shape oG
      injection hs0 with e1 e2 e3
      subst e1
      have hck := own_cell oG HLen.out hlt
      clear e3
      go_wp2_with fail
      go_region_held3 (fun w' => w'.cell? ⟨w1.heap.size, 0, none⟩ = some (.int .i64 f) ∧ w'.cell? ⟨w1.heap.size, 1, none⟩ = some (.int .i64 d) ∧ w'.cell? ⟨g, k, none⟩ = some (.int .i64 (nth l k)))
        (first
          | go_keep
          | (go_split_ands
             refine ⟨?_, ?_, ?_⟩ <;> exact hg4.cell (by assumption) (by simp)))
        (first
          | (go_at_call 18; with_reducible refine Calls.mono (P1.out _) ?_; rintro r w4 ⟨rfl, hg4⟩))
      replace K := hid (K.out.on ((drew_grown' _).trans hg4))
      replace oG := own_kept_none oG ((drew_grown' _).trans hg4)
      clear hg4 hck
      go_wp2
      go_roundw
      case rel => exact ⟨k + 1, by go_num, by omega, oG, K⟩
      case measure => simp [intOf]; omega
    · obtain rfl : k = nG := by omega
      clear hlt hk HM
      by_cases h1 : sigOk f d z = true
      · have hr := round_bd h1
        have hs := slow_bd h1
        have hs' := sigOk_iff.1 h1
        rw [show roundOut f d z = 2 * z * slow d from by unfold roundOut; rw [if_pos h1]] at CR
        obtain ⟨R, hR⟩ : ∃ R : Int, 2 * z * slow d = R := ⟨_, rfl⟩
        rw [hR] at CR hr
        clear hR
        by_cases hp1 : p < 0
        · have hl0 := HN.out (by rw [h1]; simp [within]; omega)
          subst hl0
          obtain rfl : k = 0 := by have := HLen.out; simpa using this.symm
          clear HA HL HN hs hs' h1
          go_wp2_with fail
          with_reducible refine Calls.mono (CR.out _) ?_
          rintro r w5 ⟨rfl, g5⟩
          replace K := hid (K.out.on g5)
          clear g5 a0 a1 oG
          obtain ⟨a0, a1, _, _⟩ := K.out
          go_wp2_with fail
          refine (alive_any _).mono ?_
          rintro r w6 ⟨rfl, hb2⟩
          have HB := hid (hb1.trans ((Below.trans (below_one K.out) (hb2.mono K.out.hg.size)).mono hb1.size))
          clear hb2 a0 a1
          go_wp2
          go_ret
          exact ⟨rfl, HB.out⟩
        · by_cases hp2 : z < p
          · have hl0 := HN.out (by rw [h1]; simp [within]; omega)
            subst hl0
            obtain rfl : k = 0 := by have := HLen.out; simpa using this.symm
            clear HA HL HN hs hs' h1
            go_wp2_with fail
            with_reducible refine Calls.mono (CR.out _) ?_
            rintro r w5 ⟨rfl, g5⟩
            replace K := hid (K.out.on g5)
            clear g5 a0 a1 oG
            obtain ⟨a0, a1, _, _⟩ := K.out
            go_wp2_with fail
            refine (alive_any _).mono ?_
            rintro r w6 ⟨rfl, hb2⟩
            have HB := hid (hb1.trans ((Below.trans (below_one K.out) (hb2.mono K.out.hg.size)).mono hb1.size))
            clear hb2 a0 a1
            go_wp2
            go_ret
            exact ⟨rfl, HB.out⟩
          · have hll := HL.out h1 (by omega) (by omega)
            rw [HLen.out] at hll
            have hp1' : decide (p < 0) = false := by simpa using hp1
            have hp2' : decide (z < p) = false := by simpa using hp2
            have hsd : slow d = if 0 ≤ d then d else -d := rfl
            obtain ⟨q, hq⟩ : ∃ q, slow d = q := ⟨_, rfl⟩
            rw [hq] at hll hs hsd
            clear hq h1
            have hd : (0 ≤ d ∧ d = q) ∨ (d < 0 ∧ d = -q) := by
              split at hsd <;> omega
            clear hsd
            have HLL := hid hll; clear hll
            clear HL HN
            rcases hd with ⟨hd1, rfl⟩ | ⟨hd1, rfl⟩
            · by_cases hp3 : p = 0
              · subst hp3
                have hkq := hid (show (k : Int) = d from by rw [HLL.out, if_pos (.inl rfl)])
                go_wp2_with fail
                with_reducible refine Calls.mono (CR.out _) ?_
                rintro r w5 ⟨rfl, g5⟩
                replace K := hid (K.out.on g5)
                replace oG := own_kept_none oG g5
                clear g5 a0 a1
                obtain ⟨a0, a1, _, _⟩ := K.out
                go_wp2_with fail
                refine (ascend_any _ _ _ _ _ _ (Sl.of_own oG) HA.out).mono ?_
                rintro r w6 ⟨rfl, hb2⟩
                have HB := hid (hb1.trans ((Below.trans (below_one K.out) (hb2.mono K.out.hg.size)).mono hb1.size))
                clear hb2 a0 a1 oG
                go_wp2
                go_ret
                exact ⟨ret_bool (by have := hkq.out; simp; omega), HB.out⟩
              · have hp3' : decide (p = 0) = false := by simpa using hp3
                by_cases hp4 : p = z
                · subst hp4
                  have hkq := hid (show (k : Int) = d from by rw [HLL.out, if_pos (.inr rfl)])
                  go_wp2_with fail
                  with_reducible refine Calls.mono (CR.out _) ?_
                  rintro r w5 ⟨rfl, g5⟩
                  replace K := hid (K.out.on g5)
                  replace oG := own_kept_none oG g5
                  clear g5 a0 a1
                  obtain ⟨a0, a1, _, _⟩ := K.out
                  go_wp2_with fail
                  refine (ascend_any _ _ _ _ _ _ (Sl.of_own oG) HA.out).mono ?_
                  rintro r w6 ⟨rfl, hb2⟩
                  have HB := hid (hb1.trans ((Below.trans (below_one K.out) (hb2.mono K.out.hg.size)).mono hb1.size))
                  clear hb2 a0 a1 oG
                  go_wp2
                  go_ret
                  exact ⟨ret_bool (by have := hkq.out; simp; omega), HB.out⟩
                · have hp4' : (p == z) = false := by simpa using hp4
                  have hp5' : decide (p = z) = false := by simpa using hp4
                  have hkq := hid (show (k : Int) = 2 * d from by rw [HLL.out, if_neg (by omega)])
                  go_wp2_with fail
                  with_reducible refine Calls.mono (CR.out _) ?_
                  rintro r w5 ⟨rfl, g5⟩
                  replace K := hid (K.out.on g5)
                  replace oG := own_kept_none oG g5
                  clear g5 a0 a1
                  obtain ⟨a0, a1, _, _⟩ := K.out
                  go_wp2_with fail
                  refine (ascend_any _ _ _ _ _ _ (Sl.of_own oG) HA.out).mono ?_
                  rintro r w6 ⟨rfl, hb2⟩
                  have HB := hid (hb1.trans ((Below.trans (below_one K.out) (hb2.mono K.out.hg.size)).mono hb1.size))
                  clear hb2 a0 a1 oG
                  go_wp2
                  go_ret
                  exact ⟨ret_bool (by have := hkq.out; simp; omega), HB.out⟩
            · by_cases hp3 : p = 0
              · subst hp3
                have hkq := hid (show (k : Int) = q from by rw [HLL.out, if_pos (.inl rfl)])
                go_wp2_with fail
                with_reducible refine Calls.mono (CR.out _) ?_
                rintro r w5 ⟨rfl, g5⟩
                replace K := hid (K.out.on g5)
                replace oG := own_kept_none oG g5
                clear g5 a0 a1
                obtain ⟨a0, a1, _, _⟩ := K.out
                go_wp2_with fail
                refine (ascend_any _ _ _ _ _ _ (Sl.of_own oG) HA.out).mono ?_
                rintro r w6 ⟨rfl, hb2⟩
                have HB := hid (hb1.trans ((Below.trans (below_one K.out) (hb2.mono K.out.hg.size)).mono hb1.size))
                clear hb2 a0 a1 oG
                go_wp2
                go_ret
                exact ⟨ret_bool (by have := hkq.out; simp; omega), HB.out⟩
              · have hp3' : decide (p = 0) = false := by simpa using hp3
                by_cases hp4 : p = z
                · subst hp4
                  have hkq := hid (show (k : Int) = q from by rw [HLL.out, if_pos (.inr rfl)])
                  go_wp2_with fail
                  with_reducible refine Calls.mono (CR.out _) ?_
                  rintro r w5 ⟨rfl, g5⟩
                  replace K := hid (K.out.on g5)
                  replace oG := own_kept_none oG g5
                  clear g5 a0 a1
                  obtain ⟨a0, a1, _, _⟩ := K.out
                  go_wp2_with fail
                  refine (ascend_any _ _ _ _ _ _ (Sl.of_own oG) HA.out).mono ?_
                  rintro r w6 ⟨rfl, hb2⟩
                  have HB := hid (hb1.trans ((Below.trans (below_one K.out) (hb2.mono K.out.hg.size)).mono hb1.size))
                  clear hb2 a0 a1 oG
                  go_wp2
                  go_ret
                  exact ⟨ret_bool (by have := hkq.out; simp; omega), HB.out⟩
                · have hp4' : (p == z) = false := by simpa using hp4
                  have hp5' : decide (p = z) = false := by simpa using hp4
                  have hkq := hid (show (k : Int) = 2 * q from by rw [HLL.out, if_neg (by omega)])
                  go_wp2_with fail
                  with_reducible refine Calls.mono (CR.out _) ?_
                  rintro r w5 ⟨rfl, g5⟩
                  replace K := hid (K.out.on g5)
                  replace oG := own_kept_none oG g5
                  clear g5 a0 a1
                  obtain ⟨a0, a1, _, _⟩ := K.out
                  go_wp2_with fail
                  refine (ascend_any _ _ _ _ _ _ (Sl.of_own oG) HA.out).mono ?_
                  rintro r w6 ⟨rfl, hb2⟩
                  have HB := hid (hb1.trans ((Below.trans (below_one K.out) (hb2.mono K.out.hg.size)).mono hb1.size))
                  clear hb2 a0 a1 oG
                  go_wp2
                  go_ret
                  exact ⟨ret_bool (by have := hkq.out; simp; omega), HB.out⟩
      · have h1' : sigOk f d z = false := by simpa using h1
        have hl0 := HN.out (by rw [h1']; rfl)
        subst hl0
        obtain rfl : k = 0 := by have := HLen.out; simpa using this.symm
        clear HA HL HN
        rw [show roundOut f d z = -1 from by unfold roundOut; rw [h1']; rfl] at CR
        clear h1 h1'
        go_wp2_with fail
        with_reducible refine Calls.mono (CR.out _) ?_
        rintro r w5 ⟨rfl, g5⟩
        replace K := hid (K.out.on g5)
        clear g5 a0 a1 oG
        obtain ⟨a0, a1, _, _⟩ := K.out
        go_wp2_with fail
        refine (alive_any _).mono ?_
        rintro r w6 ⟨rfl, hb2⟩
        have HB := hid (hb1.trans ((Below.trans (below_one K.out) (hb2.mono K.out.hg.size)).mono hb1.size))
        clear hb2 a0 a1
        go_wp2
        go_ret
        exact ⟨rfl, HB.out⟩
end Go.Proofs.Ytajjmhfbdknlfaa
