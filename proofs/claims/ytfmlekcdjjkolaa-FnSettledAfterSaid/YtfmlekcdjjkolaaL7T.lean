/-
  The walk of laws.FnSettledAfter, written by program (law7.py). No statement is proved here.
-/
import Derived.Test.YtfmlekcdjjkolaaC7s
import Derived.Test.YtfmlekcdjjkolaaC7i
import Derived.Test.YtfmlekcdjjkolaaDrW
import Derived.Test.YtfmlekcdjjkolaaExS
import Derived.Test.YtfmlekcdjjkolaaC1a
import Derived.Lib.MinMax
namespace Go.Proofs.Ytfmlekcdjjkolaa
open Go.RowKit
set_option linter.unusedVariables false
set_option linter.unusedSimpArgs false

theorem settle_is {l : List Int} (hb : bitsL l) (hl : l.length ≤ 40) : settled l (settleL l) ∧ settleL l ≤ 20 := by
  rcases hf : (List.range 64).find? (fun s => decide (voteL (voteN s l) = voteN s l)) with _ | s
  · rw [List.find?_eq_none] at hf
    exact absurd (by simpa using voteN_still hb (s := 20) (by omega)) (hf 20 (by simp))
  · have e : settleL l = s := by unfold settleL; rw [hf]; rfl
    rw [List.find?_range_eq_some] at hf
    rw [e]
    have hs : settled l s := ⟨by simpa using hf.1, fun j hj => by simpa using hf.2.2 j hj⟩
    refine ⟨hs, ?_⟩
    have := settled_half hb hs
    omega

set_option maxRecDepth 100000 in
set_option maxHeartbeats 6400000 in
theorem fnSettledAfter_walk (A : Option Addr) (n c : Nat) (w : World) (hs : By w w.heap.size A n) (hc : n ≤ c) :
    Calls Try.prog 5 #[.slice A n c] w fun e w' => e = .returned (.bool true) ∧ Below w.heap.size w w' := by
  have hm : n ≤ 9223372036854775807 := hs.1
  by_cases hbig : 1048576 < n
  · go_enter Try.func5, Try.ntmps5
    go_wp2
    go_ret
    exact ⟨rfl, Below.refl _ _⟩
  go_enter Try.func5, Try.ntmps5
  go_wp2_with fail
  refine (drawSettledAfter_any A n c _ hs hc).mono ?_
  rintro e w1 ⟨A1, n1, c1, l1, rfl, o1, hn1, hb1⟩
  have HB := hid hb1
  clear hs hc hb1 hbig hm
  replace o1 := own_mono (base' := 0) o1 (Nat.zero_le _)
  have hl1 : l1.length = n1 := by have := o1.1; simpa using this
  have CI := hid (fun (W : World) (hs : Sl W W.heap.size A1 n1 l1) => implSettledAfter_any A1 n1 c1 l1 W hs)
  have CS := hid (fun (W : World) (hs : Sl W W.heap.size A1 n1 l1) => specSettledAfter_any A1 n1 c1 l1 W hs)
  have CK := hid (fun (W : World) (hs : Sl W W.heap.size A1 n1 l1) => implVotesOk_any A1 n1 c1 l1 W hs)
  cases hk : votesOk l1 with
  | false =>
    have hz : settleC l1 = -1 := by unfold settleC; rw [hk]; rfl
    rw [hz] at CI CS
    rw [hk] at CK
    clear hk hz
    go_wp2_with fail
    with_reducible refine Calls.mono (CI.out _ (Sl.of_own o1)) ?_
    rintro e w2 ⟨rfl, st2⟩
    replace o1 := own_on o1 st2
    replace HB := hid (HB.out.trans (st2.mono HB.out.size))
    clear st2
    go_wp2_with fail
    with_reducible refine Calls.mono (CS.out _ (Sl.of_own o1)) ?_
    rintro e w3 ⟨rfl, st3⟩
    replace o1 := own_on o1 st3
    replace HB := hid (HB.out.trans (st3.mono HB.out.size))
    clear st3
    go_wp2_with fail
    with_reducible refine Calls.mono (CK.out _ (Sl.of_own o1)) ?_
    rintro e w4 ⟨rfl, st4⟩
    replace o1 := own_on o1 st4
    replace HB := hid (HB.out.trans (st4.mono HB.out.size))
    clear st4
    go_wp2_with fail
    refine (alive_any _).mono ?_
    rintro e w5 ⟨rfl, st5⟩
    replace o1 := own_on o1 st5
    replace HB := hid (HB.out.trans (st5.mono HB.out.size))
    clear st5
    go_wp2
    go_ret
    exact ⟨rfl, HB.out⟩
  | true =>
    obtain ⟨h5, hb⟩ := votesOk_iff.1 hk
    obtain ⟨hset, h20⟩ := settle_is hb h5.2
    have hz : settleC l1 = settleL l1 := by unfold settleC; rw [if_pos hk]
    obtain ⟨S, hS⟩ : ∃ S, settleL l1 = S := ⟨_, rfl⟩
    rw [hS] at hz hset h20
    rw [hz] at CI CS
    have hhalf := settled_half hb hset
    rw [hl1] at hhalf h5
    have HN := hid (fun (k : Nat) (h : k ≤ 60) => show votedN l1 (k : Int) = voteN k l1 from by unfold votedN; rw [if_pos (by rw [hk, within_iff.2 ⟨by omega, by omega⟩]; rfl), Int.toNat_natCast])
    have HV := hid (fun (k : Nat) => show votedOut (voteN k l1) = voteL (voteN k l1) from by unfold votedOut; rw [if_pos (votesOk_iff.2 ⟨by rw [voteN_len, hl1]; exact h5, voteN_bits hb k⟩)])
    have HS := hid hset
    have e1 : max ((S : Int) - 1) 0 = ((S - 1 : Nat) : Int) := by omega
    have w1 : IntKind.i64.wrap ((S : Int) - 1) = (S : Int) - 1 := IntWalk.i64_in _ (by omega)
    have w2 : IntKind.i64.wrap (2 * (S : Int)) = 2 * (S : Int) := IntWalk.i64_in _ (by omega)
    have w3 : IntKind.i64.wrap ((n1 : Int) - 1) = (n1 : Int) - 1 := IntWalk.i64_in _ (by omega)
    have e3 : decide (2 * (S : Int) ≤ (n1 : Int) - 1) = true := by simp; omega
    have e4 : ¬ (S : Int) < 0 := by omega
    have DN := hid (fun (W : World) (hs : Sl W W.heap.size A1 n1 l1) => implVotedAfter_any A1 n1 c1 l1 (S : Int) W hs)
    have DB := hid (fun (W : World) (hs : Sl W W.heap.size A1 n1 l1) => implVotedAfter_any A1 n1 c1 l1 ((S - 1 : Nat) : Int) W hs)
    rw [HN.out S (by omega)] at DN
    rw [HN.out (S - 1) (by omega)] at DB
    clear hz hset hb hk hS hhalf
    go_wp2_with fail
    with_reducible refine Calls.mono (CI.out _ (Sl.of_own o1)) ?_
    rintro e w2 ⟨rfl, st2⟩
    replace o1 := own_on o1 st2
    replace HB := hid (HB.out.trans (st2.mono HB.out.size))
    clear st2
    go_wp2_with fail
    with_reducible refine Calls.mono (CS.out _ (Sl.of_own o1)) ?_
    rintro e w3 ⟨rfl, st3⟩
    replace o1 := own_on o1 st3
    replace HB := hid (HB.out.trans (st3.mono HB.out.size))
    clear st3
    go_wp2_with fail
    refine (DN.out _ (Sl.of_own o1)).mono ?_
    rintro e w4 ⟨Ax, nx, cx, rfl, ox, hnx, st4⟩
    replace o1 := own_on o1 st4
    replace HB := hid (HB.out.trans (st4.mono HB.out.size))
    clear st4
    replace ox := own_mono (base' := 0) ox (Nat.zero_le _)
    have DV := hid (fun (W : World) (hs : Sl W W.heap.size Ax nx (voteN S l1)) => implVotedOf_any Ax nx cx (voteN S l1) W hs)
    rw [HV.out S, HS.out.1] at DV
    go_wp2_with fail
    refine (DV.out _ (Sl.of_own ox)).mono ?_
    rintro e w5 ⟨Av, nv, cv, rfl, ov, hnv, st5⟩
    replace o1 := own_on o1 st5
    replace ox := own_on ox st5
    replace HB := hid (HB.out.trans (st5.mono HB.out.size))
    clear st5
    replace ov := own_mono (base' := 0) ov (Nat.zero_le _)
    go_wp2_with fail
    refine (sameInts_b _ _ _ _ _ _ _ _ _ _ _ (Sl.of_own ov) (Sl.of_own ox)).mono ?_
    rintro e w6 ⟨rfl, st6⟩
    rw [decide_eq_true rfl]
    replace o1 := own_on o1 st6
    replace ox := own_on ox st6
    replace ov := own_on ov st6
    replace HB := hid (HB.out.trans (st6.mono HB.out.size))
    clear st6
    clear ov
    clear ox
    go_wp2_with fail
    refine (DB.out _ (Sl.of_own o1)).mono ?_
    rintro e w7 ⟨Ab, nb, cb, rfl, ob, hnb, st7⟩
    replace o1 := own_on o1 st7
    replace HB := hid (HB.out.trans (st7.mono HB.out.size))
    clear st7
    replace ob := own_mono (base' := 0) ob (Nat.zero_le _)
    by_cases h0 : S = 0
    · subst h0
      go_wp2
      go_ret
      exact ⟨rfl, HB.out⟩
    · have h0' : ((S : Int) == 0) = false := by simp; omega
      have h0'' : ¬ (S : Int) = 0 := by omega
      have DW := hid (fun (W : World) (hs : Sl W W.heap.size Ab nb (voteN (S - 1) l1)) => implVotedOf_any Ab nb cb (voteN (S - 1) l1) W hs)
      rw [HV.out (S - 1)] at DW
      have HE := hid (HS.out.2 (S - 1) (by omega))
      go_wp2_with fail
      refine (DW.out _ (Sl.of_own ob)).mono ?_
      rintro e w8 ⟨Au, nu, cu, rfl, ou, hnu, st8⟩
      replace o1 := own_on o1 st8
      replace ob := own_on ob st8
      replace HB := hid (HB.out.trans (st8.mono HB.out.size))
      clear st8
      replace ou := own_mono (base' := 0) ou (Nat.zero_le _)
      go_wp2_with fail
      refine (sameInts_b _ _ _ _ _ _ _ _ _ _ _ (Sl.of_own ou) (Sl.of_own ob)).mono ?_
      rintro e w9 ⟨rfl, st9⟩
      rw [decide_eq_false HE.out]
      replace o1 := own_on o1 st9
      replace ob := own_on ob st9
      replace ou := own_on ou st9
      replace HB := hid (HB.out.trans (st9.mono HB.out.size))
      clear st9
      go_wp2
      go_ret
      exact ⟨rfl, HB.out⟩
end Go.Proofs.Ytfmlekcdjjkolaa
