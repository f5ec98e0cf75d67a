/-
  The walk of laws.FnBoundsOf, written by program (law5.py). No statement is proved here.
-/
import Derived.Test.YtpobcfmldimgiaaC5b
import Derived.Test.YtpobcfmldimgiaaC5i
import Derived.Test.YtpobcfmldimgiaaDr9b
import Derived.Test.YtpobcfmldimgiaaExS
namespace Go.Proofs.Ytpobcfmldimgiaa
open Go.RowKit
set_option linter.unusedVariables false
set_option linter.unusedSimpArgs false

theorem bounds_step (l : List Int) (b : Int) (k : Nat) : boundsL (afterS ltZ l k) b = afterS ltZ (boundsL l b) k := by
  unfold boundsL
  apply afterS_map
  · intro x y h
    by_cases h1 : b ≤ x
    · by_cases h2 : b ≤ y
      · simp [ltZ, h1, h2] at h
      · simp [ltZ, h1, h2] at h ⊢; omega
    · by_cases h2 : b ≤ y
      · simp [ltZ, h1, h2] at h ⊢ <;> omega
      · simp [ltZ, h1, h2] at h
  · intro x y h h'
    by_cases h1 : b ≤ x
    · by_cases h2 : b ≤ y
      · simp [h1, h2]
      · simp [ltZ, h1, h2] at h h' ⊢ <;> omega
    · by_cases h2 : b ≤ y
      · simp [ltZ, h1, h2] at h h' ⊢ <;> omega
      · simp [h1, h2]
theorem kept_bounds {l : List Int} (h : keptOk l = true) (b : Int) : keptOk (boundsL l b) = true := by
  rw [keptOk_iff] at h ⊢
  rw [boundsL_len]
  refine ⟨fun x hx => ?_, h.2⟩
  simp only [boundsL, List.mem_map] at hx
  obtain ⟨y, _, rfl⟩ := hx
  split <;> omega

set_option maxRecDepth 100000 in
set_option maxHeartbeats 6400000 in
theorem fnBoundsOf_walk (A : Option Addr) (n c : Nat) (w : World) (hs : By w w.heap.size A n) (hc : n ≤ c) :
    Calls Try.prog 8 #[.slice A n c] w fun e w' => e = .returned (.bool true) ∧ Below w.heap.size w w' := by
  have hm : n ≤ 9223372036854775807 := hs.1
  by_cases hbig : 1048576 < n
  · go_enter Try.func8, Try.ntmps8
    go_wp2
    go_ret
    exact ⟨rfl, Below.refl _ _⟩
  go_enter Try.func8, Try.ntmps8
  go_wp2_with fail
  refine (drawBoundsOf_any A n c _ hs hc).mono ?_
  rintro e w1 ⟨A1, n1, c1, l1, z, rfl, o1, hn1, z0, z1, hb1⟩
  have HB := hid hb1
  clear hs hc hb1 hbig hm
  go_wp2_with fail
  refine (implBoundsOf_any A1 n1 c1 l1 z _ (Sl.of_own o1)).mono ?_
  rintro e w2 ⟨AG, nG, cG, rfl, oG, hnG, st2⟩
  replace o1 := own_on o1 st2
  replace HB := hid (HB.out.trans (st2.mono HB.out.size))
  clear st2
  replace oG := own_mono (base' := 0) oG (Nat.zero_le _)
  go_wp2_with fail
  refine (specBoundsOf_any A1 n1 c1 l1 z _ (Sl.of_own o1)).mono ?_
  rintro e w3 ⟨AW, nW, cW, rfl, oW, hnW, st3⟩
  replace o1 := own_on o1 st3
  replace oG := own_on oG st3
  replace HB := hid (HB.out.trans (st3.mono HB.out.size))
  clear st3
  replace oW := own_mono (base' := 0) oW (Nat.zero_le _)
  go_wp2_with fail
  refine (sameInts_b _ _ _ _ _ _ _ _ _ _ _ (Sl.of_own oG) (Sl.of_own oW)).mono ?_
  rintro e w4 ⟨rfl, st4⟩
  rw [decide_eq_true rfl]
  replace o1 := own_on o1 st4
  replace oG := own_on oG st4
  replace oW := own_on oW st4
  replace HB := hid (HB.out.trans (st4.mono HB.out.size))
  clear st4
  clear oW
  have HL := hid (show l1.length = n1 from by have := o1.1; simpa using this)
  have HLG := hid (show (boundsOut l1 z).length = nG from by have := oG.1; simpa using this)
  replace o1 := own_mono (base' := 0) o1 (Nat.zero_le _)
  have CK := hid (fun (W : World) (hs : Sl W W.heap.size A1 n1 l1) => implKeptOk_any A1 n1 c1 l1 W hs)
  cases hk : keptOk l1 with
  | false =>
    rw [show boundsOut l1 z = [] from by unfold boundsOut; rw [hk]; rfl] at oG HLG
    obtain rfl : nG = 0 := by simpa using HLG.out.symm
    rw [hk] at CK
    clear hk
    clear oG
    go_wp2_with fail
    with_reducible refine Calls.mono (CK.out _ (Sl.of_own o1)) ?_
    rintro e w5 ⟨rfl, st5⟩
    replace o1 := own_on o1 st5
    replace HB := hid (HB.out.trans (st5.mono HB.out.size))
    clear st5
    go_wp2_with fail
    refine (alive_any _).mono ?_
    rintro e w6 ⟨rfl, st6⟩
    replace o1 := own_on o1 st6
    replace HB := hid (HB.out.trans (st6.mono HB.out.size))
    clear st6
    go_wp2
    go_ret
    exact ⟨rfl, HB.out⟩
  | true =>
    have hk2 := (keptOk_iff.1 hk).2
    rw [HL.out] at hk2
    have hkb := kept_bounds hk z
    rw [show boundsOut l1 z = boundsL l1 z from by unfold boundsOut; rw [hk]; rfl] at oG HLG
    rw [boundsL_len, HL.out] at HLG
    obtain rfl : n1 = nG := HLG.out
    have CA := hid (fun (k : Nat) (hk60 : k ≤ 60) (W : World) (hs : Sl W W.heap.size A1 n1 l1) => (show Calls Try.prog 27 #[.slice A1 n1 c1, .int .i64 k] W fun e w' => ∃ A2 m c2, e = .returned (.slice A2 m c2) ∧ w'.ownsRow W.heap.size 3 1 (.slice A2 m c2) m (ints (afterS ltZ l1 k)) ∧ m ≤ 14 ∧ Below W.heap.size W w' from by
      have h := implAfterSteps_any A1 n1 c1 l1 (k : Int) W hs
      rwa [show afterOut l1 (k : Int) = afterS ltZ l1 k from by rw [afterOut_yes hk (within_iff.2 (by omega)), Int.toNat_natCast]] at h))
    have CB := hid (fun (k : Nat) (A : Option Addr) (n c : Nat) (W : World) (hs : Sl W W.heap.size A n (afterS ltZ l1 k)) => (show Calls Try.prog 36 #[.slice A n c, .int .i64 z] W fun e w' => ∃ A2 m c2, e = .returned (.slice A2 m c2) ∧ w'.ownsRow W.heap.size 3 1 (.slice A2 m c2) m (ints (afterS ltZ (boundsL l1 z) k)) ∧ m ≤ 14 ∧ Below W.heap.size W w' from by
      have h := implBoundsOf_any A n c (afterS ltZ l1 k) z W hs
      rwa [show boundsOut (afterS ltZ l1 k) z = afterS ltZ (boundsL l1 z) k from by unfold boundsOut; rw [if_pos (kept_after hk k)]; exact bounds_step l1 z k] at h))
    obtain ⟨l2, hl2⟩ : ∃ l2, boundsL l1 z = l2 := ⟨_, rfl⟩
    rw [hl2] at oG hkb CB
    have CC := hid (fun (k : Nat) (hk60 : k ≤ 60) (W : World) (hs : Sl W W.heap.size AG n1 l2) => (show Calls Try.prog 27 #[.slice AG n1 cG, .int .i64 k] W fun e w' => ∃ A2 m c2, e = .returned (.slice A2 m c2) ∧ w'.ownsRow W.heap.size 3 1 (.slice A2 m c2) m (ints (afterS ltZ l2 k)) ∧ m ≤ 14 ∧ Below W.heap.size W w' from by
      have h := implAfterSteps_any AG n1 cG l2 (k : Int) W hs
      rwa [show afterOut l2 (k : Int) = afterS ltZ l2 k from by rw [afterOut_yes hkb (within_iff.2 (by omega)), Int.toNat_natCast]] at h))
    have CG := hid (fun (W : World) (hs : Sl W W.heap.size AG n1 l2) => implKeptOk_any AG n1 cG l2 W hs)
    rw [hkb] at CG
    have hnz : ((n1 : Int) == 0) = false := by simp; omega
    have hnz2 : decide ((n1 : Int) = 0) = false := by simp; omega
    clear hk hkb hl2
    go_wp2_with fail
    go_loopw [6] (fun i wr => ∃ k : Nat, i = .int .i64 k ∧ k ≤ n1 + 1 ∧ wr.ownsRow 0 3 1 (.slice A1 n1 c1) n1 (ints l1) ∧ wr.ownsRow 0 3 1 (.slice AG n1 cG) n1 (ints l2) ∧ Hid (Below w.heap.size w wr)) (fun i _ => n1 + 1 - (intOf i).toNat)
    case atStart => exact ⟨0, rfl, Nat.zero_le _, o1, oG, HB⟩
    case round =>
      clear o1 oG HB
      obtain ⟨k, rfl, hkn, o1, oG, HB⟩ := hrel
      by_cases hlt : k ≤ n1
      · have hlt2 : (k : Int) ≤ (n1 : Int) := by omega
        go_wp2_with fail
        with_reducible refine Calls.mono (CA.out k (by omega) _ (Sl.of_own o1)) ?_
        rintro e w5 ⟨AP, nP, cP, rfl, oP, hnP, st5⟩
        replace o1 := own_on o1 st5
        replace oG := own_on oG st5
        replace HB := hid (HB.out.trans (st5.mono HB.out.size))
        clear st5
        replace oP := own_mono (base' := 0) oP (Nat.zero_le _)
        go_wp2_with fail
        with_reducible refine Calls.mono (CB.out k _ _ _ _ (Sl.of_own oP)) ?_
        rintro e w6 ⟨AQ, nQ, cQ, rfl, oQ, hnQ, st6⟩
        replace o1 := own_on o1 st6
        replace oG := own_on oG st6
        replace oP := own_on oP st6
        replace HB := hid (HB.out.trans (st6.mono HB.out.size))
        clear st6
        replace oQ := own_mono (base' := 0) oQ (Nat.zero_le _)
        clear oP
        go_wp2_with fail
        with_reducible refine Calls.mono (CC.out k (by omega) _ (Sl.of_own oG)) ?_
        rintro e w7 ⟨AR, nR, cR, rfl, oR, hnR, st7⟩
        replace o1 := own_on o1 st7
        replace oG := own_on oG st7
        replace oQ := own_on oQ st7
        replace HB := hid (HB.out.trans (st7.mono HB.out.size))
        clear st7
        replace oR := own_mono (base' := 0) oR (Nat.zero_le _)
        go_wp2_with fail
        refine (sameInts_b _ _ _ _ _ _ _ _ _ _ _ (Sl.of_own oQ) (Sl.of_own oR)).mono ?_
        rintro e w8 ⟨rfl, st8⟩
        rw [decide_eq_true rfl]
        replace o1 := own_on o1 st8
        replace oG := own_on oG st8
        replace oQ := own_on oQ st8
        replace oR := own_on oR st8
        replace HB := hid (HB.out.trans (st8.mono HB.out.size))
        clear st8
        clear oQ
        clear oR
        have O1 := hid o1
        have OG := hid oG
        clear o1 oG
        go_wp2
        go_roundw
        case rel => exact ⟨k + 1, by go_num, by omega, O1.out, OG.out, HB⟩
        case measure => simp [intOf]; omega
      · have hlt2 : ¬ (k : Int) ≤ (n1 : Int) := by omega
        clear o1
        go_wp2_with fail
        with_reducible refine Calls.mono (CG.out _ (Sl.of_own oG)) ?_
        rintro e w9 ⟨rfl, st9⟩
        replace oG := own_on oG st9
        replace HB := hid (HB.out.trans (st9.mono HB.out.size))
        clear st9
        go_wp2_with fail
        refine (alive_any _).mono ?_
        rintro e w10 ⟨rfl, st10⟩
        replace oG := own_on oG st10
        replace HB := hid (HB.out.trans (st10.mono HB.out.size))
        clear st10
        go_wp2
        go_ret
        exact ⟨rfl, HB.out⟩
end Go.Proofs.Ytpobcfmldimgiaa
