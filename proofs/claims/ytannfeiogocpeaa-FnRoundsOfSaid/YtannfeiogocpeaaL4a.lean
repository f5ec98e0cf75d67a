/-
  The walk of laws.FnRoundsOf. No statement is proved here.
-/
import Derived.Test.YtannfeiogocpeaaC4
import Derived.Test.YtannfeiogocpeaaC4i
import Derived.Test.YtannfeiogocpeaaDr7
import Derived.Test.YtannfeiogocpeaaExS
import Derived.IntWalk
namespace Go.Proofs.Ytannfeiogocpeaa
open Go.RowKit
set_option linter.unusedVariables false
set_option linter.unusedSimpArgs false

theorem rounds_law : ∀ n : Nat, n ≤ 40 → 2 ≤ n → nth (roundsN n) 0 = n ∧ nth (roundsN n) ((roundsN n).length - 1) = 2 ∧ n ≤ 2 ^ (roundsN n).length ∧ 2 ^ ((roundsN n).length - 1) < n ∧ 1 ≤ (roundsN n).length ∧ (roundsN n).length ≤ 6 := by decide
theorem rounds_next : ∀ n : Nat, n ≤ 40 → 2 ≤ n → ∀ k : Nat, k < 6 → k + 1 < (roundsN n).length → nth (roundsN n) (k + 1) = (nth (roundsN n) k + 1) / 2 := by decide

set_option maxRecDepth 100000 in
set_option maxHeartbeats 3200000 in
theorem fnRoundsOf_walk (A : Option Addr) (n c : Nat) (w : World) (hs : By w w.heap.size A n) (hc : n ≤ c) :
    Calls Try.prog 4 #[.slice A n c] w fun e w' => e = .returned (.bool true) ∧ Below w.heap.size w w' := by
  have hm : n ≤ 9223372036854775807 := hs.1
  by_cases hbig : 1048576 < n
  · go_enter Try.func4, Try.ntmps4
    go_wp2
    go_ret
    exact ⟨rfl, Below.refl _ _⟩
  go_enter Try.func4, Try.ntmps4
  go_wp2_with fail
  refine (drawRoundsOf_any A n c _ hs hc).mono ?_
  rintro r w1 ⟨n0, rfl, l0, l1, hb1⟩
  clear hs
  have hwf : (Lit.int .i64 n0).wf = true := WalkArith.wf_i64 (by omega)
  have CS := hid (fun W : World => specRoundsOf_any n0 W hwf)
  have CI := hid (fun W : World => implRoundsOf_any n0 W hwf)
  clear hwf
  go_wp2_with fail
  with_reducible refine Calls.mono (CI.out _) ?_
  rintro r w2 ⟨AG, nG, cG, rfl, oG, hnG, st2⟩
  replace hb1 := hb1.trans (st2.mono hb1.size)
  clear st2
  go_wp2_with fail
  with_reducible refine Calls.mono (CS.out _) ?_
  rintro r w3 ⟨AW, nW, cW, rfl, oW, hnW, st3⟩
  replace hb1 := hb1.trans (st3.mono hb1.size)
  replace oG := own_on oG st3
  clear st3
  go_wp2_with fail
  refine (sameInts_b _ _ _ _ _ _ _ _ _ _ _ (Sl.of_own oG) (Sl.of_own oW)).mono ?_
  rintro r w4 ⟨rfl, st4⟩
  rw [decide_eq_true rfl]
  replace hb1 := hb1.trans (st4.mono hb1.size)
  replace oG := own_on oG st4
  clear st4 oW CS CI
  replace oG := own_mono (base' := 0) oG (Nat.zero_le _)
  have hlen : (roundsOut n0).length = nG := by have := oG.1; simpa using this
  have HB := hid hb1
  clear hb1
  by_cases hok : 2 ≤ n0 ∧ n0 ≤ 40
  · obtain ⟨N, rfl⟩ : ∃ N : Nat, n0 = N := Int.eq_ofNat_of_zero_le (by omega)
    rw [roundsOut_yes (by omega), Int.toNat_natCast] at oG hlen
    have hL := rounds_law N (by omega) (by omega)
    have HX := hid (rounds_next N (by omega) (by omega))
    have HM := hid (roundsN_mem N (by omega))
    obtain ⟨l, hl⟩ : ∃ l, roundsN N = l := ⟨_, rfl⟩
    rw [hl] at oG hlen hL HX HM
    clear hl
    rw [hlen] at hL
    have HLen := hid hlen
    obtain ⟨L1, L2, L3, L4, L5, L6⟩ := hL
    have hnz : ((nG : Int) == 0) = false := by simp; omega
    have hnz2 : 0 < nG := by omega
    obtain ⟨j0, rfl⟩ : ∃ j, nG = j + 1 := ⟨nG - 1, by omega⟩
    obtain ⟨g, cg, hs0, _, _⟩ := own_shape oG
    injection hs0 with e1 e2 e3
    subst e1
    have hcell := fun (k : Nat) (hk : k < j0 + 1) => own_cell oG HLen.out hk
    clear e3 hlen oG
    go_wp2_with fail
    go_loopw [5] (fun i wr => ∃ j m : Nat, i = .int .i64 ((j : Int) + 1) ∧ j ≤ j0 ∧ wr = w4.drewN m) (fun i _ => j0 + 2 - (intOf i).toNat)
    case atStart => exact ⟨0, 0, rfl, Nat.zero_le _, rfl⟩
    case round =>
      obtain ⟨j, m, rfl, hj, rfl⟩ := hrel
      by_cases hlt : j < j0
      · have hc1 := hcell j (by omega)
        have hc2 := hcell (j + 1) (by omega)
        have hx := HX.out j (by omega) (by rw [HLen.out]; omega)
        have hxm := HM.out (nth l j) (by rw [nth_lt (by rw [HLen.out]; omega)]; exact List.getElem_mem _)
        obtain ⟨x, hxe⟩ : ∃ x, nth l j = x := ⟨_, rfl⟩
        obtain ⟨y, hye⟩ : ∃ y, nth l (j + 1) = y := ⟨_, rfl⟩
        rw [hxe] at hc1 hx hxm
        rw [hye] at hc2 hx
        have e0 : ((j : Int) + 1).toNat = j + 1 := by omega
        have e2 : (0 : Int) ≤ (j : Int) + 1 := by omega
        have e3 : (j : Int) + 1 < (j0 : Int) + 1 := by omega
        have e5 : (j : Int) < (j0 : Int) + 1 := by omega
        have d1 : IntKind.i64.wrap (x + 1) = x + 1 := IntWalk.i64_in _ (by omega)
        have d2 : (x + 1).tdiv 2 = y := by rw [Int.tdiv_eq_ediv_of_nonneg (by omega)]; exact hx.symm
        have d3 : IntKind.i64.wrap y = y := IntWalk.i64_in _ (by omega)
        have e1 : IntKind.i64.wrap ((j : Int) + 1 - 1) = (j : Int) := by rw [IntWalk.i64_in _ (by omega)]; omega
        clear hx hxe hye hcell
        go_wp2
        go_quiet (fail)
        go_wp2
        go_roundw
        case rel => exact ⟨j + 1, _, by go_num, by omega, rfl⟩
        case measure => simp [intOf]; omega
      · obtain rfl : j = j0 := by omega
        have hc1 := hcell 0 (by omega)
        have hc2 := hcell j (by omega)
        rw [L1] at hc1
        rw [show j + 1 - 1 = j from rfl] at L2 L4
        rw [L2] at hc2
        clear hcell HX HM L1 L2 hlt hj
        have L3n : N ≤ 2 ^ (j + 1) := L3
        rcases (show j = 0 ∨ j = 1 ∨ j = 2 ∨ j = 3 ∨ j = 4 ∨ j = 5 by omega) with rfl | rfl | rfl | rfl | rfl | rfl
        · have M3 : (N : Int) ≤ 2 := by omega
          have M4 : (1 : Int) < (N : Int) := by omega
          clear L3 L4 L5 L6 hnz hnz2 hnG
          simp only [Nat.reduceAdd, show ((0 : Nat) : Int) = 0 from rfl, Int.reduceAdd, Nat.zero_add, Int.zero_add]
          go_wp2
          go_ret
          exact ⟨rfl, HB.out.trans (below_drewN (Below.refl _ _) _)⟩
        · have M3 : (N : Int) ≤ 4 := by omega
          have M4 : (2 : Int) < (N : Int) := by omega
          clear L3 L4 L5 L6 hnz hnz2 hnG
          simp only [Nat.reduceAdd, show ((1 : Nat) : Int) = 1 from rfl, Int.reduceAdd, Nat.zero_add, Int.zero_add]
          go_wp2
          go_ret
          exact ⟨rfl, HB.out.trans (below_drewN (Below.refl _ _) _)⟩
        · have M3 : (N : Int) ≤ 8 := by omega
          have M4 : (4 : Int) < (N : Int) := by omega
          clear L3 L4 L5 L6 hnz hnz2 hnG
          simp only [Nat.reduceAdd, show ((2 : Nat) : Int) = 2 from rfl, Int.reduceAdd, Nat.zero_add, Int.zero_add]
          go_wp2
          go_ret
          exact ⟨rfl, HB.out.trans (below_drewN (Below.refl _ _) _)⟩
        · have M3 : (N : Int) ≤ 16 := by omega
          have M4 : (8 : Int) < (N : Int) := by omega
          clear L3 L4 L5 L6 hnz hnz2 hnG
          simp only [Nat.reduceAdd, show ((3 : Nat) : Int) = 3 from rfl, Int.reduceAdd, Nat.zero_add, Int.zero_add]
          go_wp2
          go_ret
          exact ⟨rfl, HB.out.trans (below_drewN (Below.refl _ _) _)⟩
        · have M3 : (N : Int) ≤ 32 := by omega
          have M4 : (16 : Int) < (N : Int) := by omega
          clear L3 L4 L5 L6 hnz hnz2 hnG
          simp only [Nat.reduceAdd, show ((4 : Nat) : Int) = 4 from rfl, Int.reduceAdd, Nat.zero_add, Int.zero_add]
          go_wp2
          go_ret
          exact ⟨rfl, HB.out.trans (below_drewN (Below.refl _ _) _)⟩
        · have M3 : (N : Int) ≤ 64 := by omega
          have M4 : (32 : Int) < (N : Int) := by omega
          clear L3 L4 L5 L6 hnz hnz2 hnG
          simp only [Nat.reduceAdd, show ((5 : Nat) : Int) = 5 from rfl, Int.reduceAdd, Nat.zero_add, Int.zero_add]
          go_wp2
          go_ret
          exact ⟨rfl, HB.out.trans (below_drewN (Below.refl _ _) _)⟩
  · have h0 : roundsOut n0 = [] := by
      by_cases h1 : 1 ≤ n0 ∧ n0 ≤ 40
      · rw [roundsOut_yes h1]; exact roundsN_none (by omega)
      · exact roundsOut_no h1
    rw [h0] at oG hlen
    obtain rfl : nG = 0 := by simpa using hlen.symm
    clear oG hlen h0
    rcases (show n0 < 2 ∨ 40 < n0 by omega) with hno | hno
    · clear hok
      go_wp2_with fail
      refine (alive_any _).mono ?_
      rintro r w5 ⟨rfl, hb2⟩
      replace HB := hid (HB.out.trans (hb2.mono HB.out.size))
      clear hb2
      go_wp2
      go_ret
      exact ⟨rfl, HB.out⟩
    · have hno2 : decide (n0 < 2) = false := by simp; omega
      clear hok
      go_wp2_with fail
      refine (alive_any _).mono ?_
      rintro r w5 ⟨rfl, hb2⟩
      replace HB := hid (HB.out.trans (hb2.mono HB.out.size))
      clear hb2
      go_wp2
      go_ret
      exact ⟨rfl, HB.out⟩
end Go.Proofs.Ytannfeiogocpeaa
