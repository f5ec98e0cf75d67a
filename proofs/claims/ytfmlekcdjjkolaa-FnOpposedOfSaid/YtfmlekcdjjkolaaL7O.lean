/-
  The walk of laws.FnOpposedOf, written by program (law7.py). No statement is proved here.
-/
import Derived.Test.YtfmlekcdjjkolaaC7b
import Derived.Test.YtfmlekcdjjkolaaC7i
import Derived.Test.YtfmlekcdjjkolaaDrW
import Derived.Test.YtfmlekcdjjkolaaExS
import Derived.Test.YtfmlekcdjjkolaaC1a
namespace Go.Proofs.Ytfmlekcdjjkolaa
open Go.RowKit
set_option linter.unusedVariables false
set_option linter.unusedSimpArgs false

theorem votes_opp {l : List Int} (h : votesOk l = true) : votesOk (oppL l) = true := by
  rw [votesOk_iff] at h ⊢
  exact ⟨by rw [opp_len]; exact h.1, opp_bits h.2⟩
theorem votes_vote {l : List Int} (h : votesOk l = true) : votesOk (voteL l) = true := by
  rw [votesOk_iff] at h ⊢
  exact ⟨by rw [voteL_len]; exact h.1, vote_bits h.2⟩
theorem opp_inj {a b : List Int} : oppL a = oppL b ↔ a = b := ⟨fun h => by have := congrArg oppL h; rwa [opp_opp, opp_opp] at this, fun h => by rw [h]⟩
theorem settleC_opp {l : List Int} (h : votesOk l = true) : settleC (oppL l) = settleC l := by
  unfold settleC
  rw [if_pos h, if_pos (votes_opp h)]
  have hb := (votesOk_iff.1 h).2
  unfold settleL
  have e : (fun s => decide (voteL (voteN s (oppL l)) = voteN s (oppL l))) = (fun s => decide (voteL (voteN s l) = voteN s l)) := by
    funext s
    rw [voteN_opp hb, vote_opp (voteN_bits hb s)]
    simp only [opp_inj]
  rw [e]

set_option maxRecDepth 100000 in
set_option maxHeartbeats 6400000 in
theorem fnOpposedOf_walk (A : Option Addr) (n c : Nat) (w : World) (hs : By w w.heap.size A n) (hc : n ≤ c) :
    Calls Try.prog 6 #[.slice A n c] w fun e w' => e = .returned (.bool true) ∧ Below w.heap.size w w' := by
  have hm : n ≤ 9223372036854775807 := hs.1
  by_cases hbig : 1048576 < n
  · go_enter Try.func6, Try.ntmps6
    go_wp2
    go_ret
    exact ⟨rfl, Below.refl _ _⟩
  go_enter Try.func6, Try.ntmps6
  go_wp2_with fail
  refine (drawOpposedOf_any A n c _ hs hc).mono ?_
  rintro e w1 ⟨A1, n1, c1, l1, rfl, o1, hn1, hb1⟩
  have HB := hid hb1
  clear hs hc hb1 hbig hm
  replace o1 := own_mono (base' := 0) o1 (Nat.zero_le _)
  have CI := hid (fun (W : World) (hs : Sl W W.heap.size A1 n1 l1) => implOpposedOf_any A1 n1 c1 l1 W hs)
  have CS := hid (fun (W : World) (hs : Sl W W.heap.size A1 n1 l1) => specOpposedOf_any A1 n1 c1 l1 W hs)
  have CK := hid (fun (W : World) (hs : Sl W W.heap.size A1 n1 l1) => implVotesOk_any A1 n1 c1 l1 W hs)
  have CV := hid (fun (W : World) (hs : Sl W W.heap.size A1 n1 l1) => implVotedOf_any A1 n1 c1 l1 W hs)
  have CT := hid (fun (W : World) (hs : Sl W W.heap.size A1 n1 l1) => implSettledAfter_any A1 n1 c1 l1 W hs)
  cases hk : votesOk l1 with
  | false =>
    have hz : oppOut l1 = [] := by unfold oppOut; rw [hk]; rfl
    rw [hz] at CI CS
    rw [hk] at CK
    clear hk hz
    go_wp2_with fail
    refine (CI.out _ (Sl.of_own o1)).mono ?_
    rintro e w2 ⟨Ax, nx, cx, rfl, ox, hnx, st2⟩
    replace o1 := own_on o1 st2
    replace HB := hid (HB.out.trans (st2.mono HB.out.size))
    clear st2
    replace ox := own_mono (base' := 0) ox (Nat.zero_le _)
    go_wp2_with fail
    refine (CS.out _ (Sl.of_own o1)).mono ?_
    rintro e w3 ⟨Ay, ny, cy, rfl, oy, hny, st3⟩
    replace o1 := own_on o1 st3
    replace ox := own_on ox st3
    replace HB := hid (HB.out.trans (st3.mono HB.out.size))
    clear st3
    replace oy := own_mono (base' := 0) oy (Nat.zero_le _)
    go_wp2_with fail
    refine (sameInts_b _ _ _ _ _ _ _ _ _ _ _ (Sl.of_own ox) (Sl.of_own oy)).mono ?_
    rintro e w4 ⟨rfl, st4⟩
    rw [decide_eq_true rfl]
    replace o1 := own_on o1 st4
    replace ox := own_on ox st4
    replace oy := own_on oy st4
    replace HB := hid (HB.out.trans (st4.mono HB.out.size))
    clear st4
    clear oy
    obtain rfl : nx = 0 := by have := ox.1; simpa using this.symm
    go_wp2_with fail
    with_reducible refine Calls.mono (CK.out _ (Sl.of_own o1)) ?_
    rintro e w5 ⟨rfl, st5⟩
    replace o1 := own_on o1 st5
    replace ox := own_on ox st5
    replace HB := hid (HB.out.trans (st5.mono HB.out.size))
    clear st5
    go_wp2_with fail
    refine (alive_any _).mono ?_
    rintro e w6 ⟨rfl, st6⟩
    replace o1 := own_on o1 st6
    replace ox := own_on ox st6
    replace HB := hid (HB.out.trans (st6.mono HB.out.size))
    clear st6
    go_wp2
    go_ret
    exact ⟨rfl, HB.out⟩
  | true =>
    have hz : oppOut l1 = oppL l1 := by unfold oppOut; rw [if_pos hk]
    have hv : votedOut l1 = voteL l1 := by unfold votedOut; rw [if_pos hk]
    have h1 : votedOut (oppL l1) = oppL (voteL l1) := by unfold votedOut; rw [if_pos (votes_opp hk), vote_opp (votesOk_iff.1 hk).2]
    have h2 : oppOut (voteL l1) = oppL (voteL l1) := by unfold oppOut; rw [if_pos (votes_vote hk)]
    have h3 : oppOut (oppL l1) = l1 := by unfold oppOut; rw [if_pos (votes_opp hk), opp_opp]
    have h4 := settleC_opp hk
    have h5 := (votesOk_iff.1 hk).1
    rw [hz] at CI CS
    rw [hv] at CV
    clear hz hv hk
    go_wp2_with fail
    refine (CI.out _ (Sl.of_own o1)).mono ?_
    rintro e w2 ⟨Ax, nx, cx, rfl, ox, hnx, st2⟩
    replace o1 := own_on o1 st2
    replace HB := hid (HB.out.trans (st2.mono HB.out.size))
    clear st2
    replace ox := own_mono (base' := 0) ox (Nat.zero_le _)
    go_wp2_with fail
    refine (CS.out _ (Sl.of_own o1)).mono ?_
    rintro e w3 ⟨Ay, ny, cy, rfl, oy, hny, st3⟩
    replace o1 := own_on o1 st3
    replace ox := own_on ox st3
    replace HB := hid (HB.out.trans (st3.mono HB.out.size))
    clear st3
    replace oy := own_mono (base' := 0) oy (Nat.zero_le _)
    go_wp2_with fail
    refine (sameInts_b _ _ _ _ _ _ _ _ _ _ _ (Sl.of_own ox) (Sl.of_own oy)).mono ?_
    rintro e w4 ⟨rfl, st4⟩
    rw [decide_eq_true rfl]
    replace o1 := own_on o1 st4
    replace ox := own_on ox st4
    replace oy := own_on oy st4
    replace HB := hid (HB.out.trans (st4.mono HB.out.size))
    clear st4
    clear oy
    have hnx0 : (oppL l1).length = nx := by have := ox.1; simpa using this
    rw [opp_len] at hnx0
    have hne : ((nx : Int) == 0) = false := by simp; omega
    have hne' : ¬ (nx : Int) = 0 := by omega
    have DV := hid (fun (W : World) (hs : Sl W W.heap.size Ax nx (oppL l1)) => implVotedOf_any Ax nx cx (oppL l1) W hs)
    have DO := hid (fun (W : World) (hs : Sl W W.heap.size Ax nx (oppL l1)) => implOpposedOf_any Ax nx cx (oppL l1) W hs)
    have DT := hid (fun (W : World) (hs : Sl W W.heap.size Ax nx (oppL l1)) => implSettledAfter_any Ax nx cx (oppL l1) W hs)
    rw [h1] at DV
    rw [h3] at DO
    rw [h4] at DT
    have H2 := hid h2
    clear h1 h2 h3 h4 h5 CI CS CK
    go_wp2_with fail
    refine (DV.out _ (Sl.of_own ox)).mono ?_
    rintro e w5 ⟨Ap, np, cp, rfl, op, hnp, st5⟩
    replace o1 := own_on o1 st5
    replace ox := own_on ox st5
    replace HB := hid (HB.out.trans (st5.mono HB.out.size))
    clear st5
    replace op := own_mono (base' := 0) op (Nat.zero_le _)
    go_wp2_with fail
    refine (CV.out _ (Sl.of_own o1)).mono ?_
    rintro e w6 ⟨Aq, nq, cq, rfl, oq, hnq, st6⟩
    replace o1 := own_on o1 st6
    replace ox := own_on ox st6
    replace op := own_on op st6
    replace HB := hid (HB.out.trans (st6.mono HB.out.size))
    clear st6
    replace oq := own_mono (base' := 0) oq (Nat.zero_le _)
    have DQ := hid (fun (W : World) (hs : Sl W W.heap.size Aq nq (voteL l1)) => implOpposedOf_any Aq nq cq (voteL l1) W hs)
    rw [H2.out] at DQ
    go_wp2_with fail
    refine (DQ.out _ (Sl.of_own oq)).mono ?_
    rintro e w7 ⟨Ar, nr, cr, rfl, or, hnr, st7⟩
    replace o1 := own_on o1 st7
    replace ox := own_on ox st7
    replace op := own_on op st7
    replace oq := own_on oq st7
    replace HB := hid (HB.out.trans (st7.mono HB.out.size))
    clear st7
    replace or := own_mono (base' := 0) or (Nat.zero_le _)
    go_wp2_with fail
    refine (sameInts_b _ _ _ _ _ _ _ _ _ _ _ (Sl.of_own op) (Sl.of_own or)).mono ?_
    rintro e w8 ⟨rfl, st8⟩
    rw [decide_eq_true rfl]
    replace o1 := own_on o1 st8
    replace ox := own_on ox st8
    replace op := own_on op st8
    replace oq := own_on oq st8
    replace or := own_on or st8
    replace HB := hid (HB.out.trans (st8.mono HB.out.size))
    clear st8
    clear op
    clear oq
    clear or
    go_wp2_with fail
    refine (DO.out _ (Sl.of_own ox)).mono ?_
    rintro e w9 ⟨At, nt, ct, rfl, ot, hnt, st9⟩
    replace o1 := own_on o1 st9
    replace ox := own_on ox st9
    replace HB := hid (HB.out.trans (st9.mono HB.out.size))
    clear st9
    replace ot := own_mono (base' := 0) ot (Nat.zero_le _)
    go_wp2_with fail
    refine (sameInts_b _ _ _ _ _ _ _ _ _ _ _ (Sl.of_own ot) (Sl.of_own o1)).mono ?_
    rintro e w10 ⟨rfl, st10⟩
    rw [decide_eq_true rfl]
    replace o1 := own_on o1 st10
    replace ox := own_on ox st10
    replace ot := own_on ot st10
    replace HB := hid (HB.out.trans (st10.mono HB.out.size))
    clear st10
    clear ot
    go_wp2_with fail
    with_reducible refine Calls.mono (DT.out _ (Sl.of_own ox)) ?_
    rintro e w11 ⟨rfl, st11⟩
    replace o1 := own_on o1 st11
    replace ox := own_on ox st11
    replace HB := hid (HB.out.trans (st11.mono HB.out.size))
    clear st11
    go_wp2_with fail
    with_reducible refine Calls.mono (CT.out _ (Sl.of_own o1)) ?_
    rintro e w12 ⟨rfl, st12⟩
    replace o1 := own_on o1 st12
    replace ox := own_on ox st12
    replace HB := hid (HB.out.trans (st12.mono HB.out.size))
    clear st12
    go_wp2
    go_ret
    exact ⟨rfl, HB.out⟩
end Go.Proofs.Ytfmlekcdjjkolaa
