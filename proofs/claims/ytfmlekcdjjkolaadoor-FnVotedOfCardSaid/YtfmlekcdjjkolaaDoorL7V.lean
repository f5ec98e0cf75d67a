/-
  The walk of laws.FnVotedOf, written by program (law7v.py). No statement is proved here.
-/
import Derived.Test.YtfmlekcdjjkolaaDoorC7f
import Derived.Test.YtfmlekcdjjkolaaDoorC7i
import Derived.Test.YtfmlekcdjjkolaaDoorC7j
import Derived.Test.YtfmlekcdjjkolaaDoorDrW
import Derived.Test.YtfmlekcdjjkolaaDoorExS
import Derived.Test.YtfmlekcdjjkolaaDoorExH
import Derived.Test.YtfmlekcdjjkolaaDoorC1a
import Derived.IntWalk
import Derived.Deep.RegionHeld3
namespace Go.Proofs.YtfmlekcdjjkolaaDoor
open Go.RowKit
set_option linter.unusedVariables false
set_option linter.unusedSimpArgs false

theorem mem_firm {l : List Int} {n k : Nat} (h : k < n) : ((k : Int) ∈ firmTo l n) ↔ firmAt l k = true := by
  simp only [firmTo, List.mem_map, List.mem_filter, List.mem_range]
  constructor
  · rintro ⟨j, ⟨_, hj⟩, e⟩
    have : j = k := Int.ofNat.inj e
    rwa [← this]
  · intro h'; exact ⟨k, ⟨h, h'⟩, rfl⟩
theorem own_form8 {w : World} {B n c : Nat} {A : Option Addr} {e : TypeId} {xs : List Value} (h : w.ownsRow B e 1 (.slice A n c) n xs) : (A = none ∧ n = 0 ∧ c = 0) ∨ ∃ g, A = some ⟨g, 0, none⟩ ∧ n ≤ c ∧ c ≤ maxLen := by
  rcases h.2 with ⟨h1, h2⟩ | ⟨g, cap, cur, hv, hbg, hgg, hnc, hcm, hsz, ht⟩
  · injection h1 with e1 e2 e3
    exact .inl ⟨e1, h2, e3⟩
  · injection hv with e1 e2 e3
    subst e3
    exact .inr ⟨g, e1, hnc, hcm⟩
theorem dec_firm {l : List Int} {n k : Nat} (h : k < n) : decide ((k : Int) ∈ firmTo l n) = firmAt l k := by
  rw [Bool.eq_iff_iff, decide_eq_true_iff]; exact mem_firm h
theorem votes_vote' {l : List Int} (h : votesOk l = true) : votesOk (voteL l) = true := by
  rw [votesOk_iff] at h ⊢
  exact ⟨by rw [voteL_len]; exact h.1, vote_bits h.2⟩

set_option maxRecDepth 100000 in
set_option maxHeartbeats 6400000 in
theorem fnVotedOf_walk (A : Option Addr) (n c : Nat) (w : World) (hs : By w w.heap.size A n) (hc : n ≤ c) (hT : TabsZ w) :
    Calls Tryd.prog 3 #[.slice A n c] w fun e w' => e = .returned (.bool true) ∧ Below w.heap.size w w' := by
  have hm : n ≤ 9223372036854775807 := hs.1
  by_cases hbig : 1048576 < n
  · go_enter Tryd.func3, Tryd.ntmps3
    go_wp2
    go_ret
    exact ⟨rfl, Below.refl _ _⟩
  go_enter Tryd.func3, Tryd.ntmps3
  go_wp2_with fail
  refine (drawVotedOf_any A n c _ hs hc).mono ?_
  rintro e w1 ⟨A1, n1, c1, l1, rfl, o1, hn1, hb1⟩
  have HB := hid hb1
  clear hs hc hb1 hbig hm
  replace o1 := own_mono (base' := 0) o1 (Nat.zero_le _)
  have hl1 : l1.length = n1 := by have := o1.1; simpa using this
  have CI := hid (fun (W : World) (hs : Sl W W.heap.size A1 n1 l1) => implVotedOf_any A1 n1 c1 l1 W hs)
  have CS := hid (fun (W : World) (hs : Sl W W.heap.size A1 n1 l1) => specVotedOf_any A1 n1 c1 l1 W hs)
  have CK := hid (fun (W : World) (hs : Sl W W.heap.size A1 n1 l1) => implVotesOk_any A1 n1 c1 l1 W hs)
  have HT := hid hT
  clear hT
  have CF := hid (fun (W : World) (hs : Sl W W.heap.size A1 n1 l1) (hb : Below w.heap.size w W) => implFirmOf_any A1 n1 c1 l1 W hs (HT.out.below hb))
  cases hk : votesOk l1 with
  | false =>
    have hz : votedOut l1 = [] := by unfold votedOut; rw [hk]; rfl
    rw [hz] at CI CS
    rw [hk] at CK
    clear hk hz
    go_wp2_with fail
    refine (CI.out _ (Sl.of_own o1)).mono ?_
    rintro e w2 ⟨Ax, nx, cx, rfl, ox, hnx, st2⟩
    replace o1 := own_on o1 st2
    replace HB := hid (HB.out.trans (st2.mono HB.out.size))
    clear st2
    replace ox := own_mono (base' := 0) ox (Nat.zero_le _)
    go_wp2_with fail
    refine (CS.out _ (Sl.of_own o1)).mono ?_
    rintro e w3 ⟨Ay, ny, cy, rfl, oy, hny, st3⟩
    replace o1 := own_on o1 st3
    replace ox := own_on ox st3
    replace HB := hid (HB.out.trans (st3.mono HB.out.size))
    clear st3
    replace oy := own_mono (base' := 0) oy (Nat.zero_le _)
    go_wp2_with fail
    refine (sameInts_b _ _ _ _ _ _ _ _ _ _ _ (Sl.of_own ox) (Sl.of_own oy)).mono ?_
    rintro e w4 ⟨rfl, st4⟩
    rw [decide_eq_true rfl]
    replace o1 := own_on o1 st4
    replace ox := own_on ox st4
    replace oy := own_on oy st4
    replace HB := hid (HB.out.trans (st4.mono HB.out.size))
    clear st4
    clear oy
    obtain rfl : nx = 0 := by have := ox.1; simpa using this.symm
    go_wp2_with fail
    with_reducible refine Calls.mono (CK.out _ (Sl.of_own o1)) ?_
    rintro e w5 ⟨rfl, st5⟩
    replace o1 := own_on o1 st5
    replace ox := own_on ox st5
    replace HB := hid (HB.out.trans (st5.mono HB.out.size))
    clear st5
    go_wp2_with fail
    refine (alive_any _).mono ?_
    rintro e w6 ⟨rfl, st6⟩
    replace o1 := own_on o1 st6
    replace ox := own_on ox st6
    replace HB := hid (HB.out.trans (st6.mono HB.out.size))
    clear st6
    go_wp2
    go_ret
    exact ⟨rfl, HB.out⟩
  | true =>
    obtain ⟨h5, hb⟩ := votesOk_iff.1 hk
    have hz : votedOut l1 = voteL l1 := by unfold votedOut; rw [if_pos hk]
    have hf : firmOut l1 = firmTo l1 n1 := by unfold firmOut; rw [if_pos hk, hl1]
    have hf2 : firmOut (voteL l1) = firmTo (voteL l1) n1 := by unfold firmOut; rw [if_pos (votes_vote' hk), voteL_len, hl1]
    rw [hz] at CI CS
    rw [hf] at CF
    rw [hl1] at h5
    have HBB := hid hb
    have HF2 := hid hf2
    clear hz hf hf2 hk hb
    go_wp2_with fail
    refine (CI.out _ (Sl.of_own o1)).mono ?_
    rintro e w2 ⟨Ax, nx, cx, rfl, ox, hnx, st2⟩
    replace o1 := own_on o1 st2
    replace HB := hid (HB.out.trans (st2.mono HB.out.size))
    clear st2
    replace ox := own_mono (base' := 0) ox (Nat.zero_le _)
    go_wp2_with fail
    refine (CS.out _ (Sl.of_own o1)).mono ?_
    rintro e w3 ⟨Ay, ny, cy, rfl, oy, hny, st3⟩
    replace o1 := own_on o1 st3
    replace ox := own_on ox st3
    replace HB := hid (HB.out.trans (st3.mono HB.out.size))
    clear st3
    replace oy := own_mono (base' := 0) oy (Nat.zero_le _)
    go_wp2_with fail
    refine (sameInts_b _ _ _ _ _ _ _ _ _ _ _ (Sl.of_own ox) (Sl.of_own oy)).mono ?_
    rintro e w4 ⟨rfl, st4⟩
    rw [decide_eq_true rfl]
    replace o1 := own_on o1 st4
    replace ox := own_on ox st4
    replace oy := own_on oy st4
    replace HB := hid (HB.out.trans (st4.mono HB.out.size))
    clear st4
    clear oy
    have hnx0 : (voteL l1).length = nx := by have := ox.1; simpa using this
    rw [voteL_len, hl1] at hnx0
    subst hnx0
    have hne : ((n1 : Int) == 0) = false := by simp; omega
    have hne' : ¬ (n1 : Int) = 0 := by omega
    have DF := hid (fun (W : World) (hs : Sl W W.heap.size Ax n1 (voteL l1)) (hb : Below w.heap.size w W) => implFirmOf_any Ax n1 cx (voteL l1) W hs (HT.out.below hb))
    rw [HF2.out] at DF
    go_wp2_with fail
    refine (CF.out _ (Sl.of_own o1) HB.out).mono ?_
    rintro e w5 ⟨Af, nf, cf, rfl, of, hnf, st5⟩
    replace o1 := own_on o1 st5
    replace ox := own_on ox st5
    replace HB := hid (HB.out.trans (st5.mono HB.out.size))
    clear st5
    replace of := own_mono (base' := 0) of (Nat.zero_le _)
    go_wp2_with fail
    refine (DF.out _ (Sl.of_own ox) HB.out).mono ?_
    rintro e w6 ⟨At, nt, ct, rfl, ot, hnt, st6⟩
    replace o1 := own_on o1 st6
    replace ox := own_on ox st6
    replace of := own_on of st6
    replace HB := hid (HB.out.trans (st6.mono HB.out.size))
    clear st6
    replace ot := own_mono (base' := 0) ot (Nat.zero_le _)
    have HL1 := hid hl1
    have HLX := hid (show (voteL l1).length = n1 from by rw [voteL_len, hl1])
    have HMF := hid (fun (k : Nat) (h : k < n1) => dec_firm (l := l1) h)
    have HMT := hid (fun (k : Nat) (h : k < n1) => dec_firm (l := voteL l1) h)
    have HVF := hid (fun (k : Nat) (h : k < n1) => vote_firm HBB.out (k := k) (by rw [hl1]; exact h))
    have HFS := hid (fun (k : Nat) (h : k < n1) => firm_stays HBB.out (k := k) (by rw [hl1]; exact h))
    have HNV := hid (fun (k : Nat) (h : k < n1) => nth_vote (l := l1) (k := k) (by rw [hl1]; exact h))
    clear CI CS CK CF DF HBB HF2 hl1
    go_wp2_with fail
    go_loopw [7] (fun i wr => ∃ k : Nat, i = .int .i64 k ∧ k ≤ n1 ∧ wr.ownsRow 0 3 1 (.slice A1 n1 c1) n1 (ints l1) ∧ wr.ownsRow 0 3 1 (.slice Ax n1 cx) n1 (ints (voteL l1)) ∧ wr.ownsRow 0 3 1 (.slice Af nf cf) nf (ints (firmTo l1 n1)) ∧ wr.ownsRow 0 3 1 (.slice At nt ct) nt (ints (firmTo (voteL l1) n1)) ∧ Hid (Below w.heap.size w wr)) (fun i _ => n1 - (intOf i).toNat)
    case atStart => exact ⟨0, rfl, Nat.zero_le _, o1, ox, of, ot, HB⟩
    case round =>
      clear o1 ox of ot HB
      obtain ⟨k, rfl, hk, o1, ox, of, ot, HB⟩ := hrel
      by_cases hlt : k < n1
      · have hlti : (k : Int) < (n1 : Int) := by omega
        go_wp2_with fail
        with_reducible refine Calls.mono (hasInt_any _ _ _ _ _ _ _ (Sl.of_own of)) ?_
        rintro e w10 ⟨rfl, st10⟩
        rw [HMF.out k hlt]
        replace o1 := own_on o1 st10
        replace ox := own_on ox st10
        replace of := own_on of st10
        replace ot := own_on ot st10
        replace HB := hid (HB.out.trans (st10.mono HB.out.size))
        clear st10
        rcases own_form8 o1 with ⟨_, h0, _⟩ | ⟨g1, rfl, _, _⟩
        · omega
        rcases own_form8 ox with ⟨_, h0, _⟩ | ⟨gx, rfl, _, _⟩
        · omega
        have x1 := own_cell o1 HL1.out hlt
        have xx := own_cell ox HLX.out hlt
        rw [HNV.out k hlt] at xx
        have hvf := HVF.out k hlt
        have hfs := HFS.out k hlt
        have hmt := HMT.out k hlt
        obtain ⟨v, hv⟩ : ∃ v, voteAt l1 k = v := ⟨_, rfl⟩
        obtain ⟨u, hu⟩ : ∃ u, nth l1 k = u := ⟨_, rfl⟩
        rw [hv] at xx hvf
        rw [hu] at x1 hvf
        have HV := hid hv
        have HU := hid hu
        clear hv hu
        have hk0 : (0 : Int) ≤ (k : Int) := by omega
        cases hff : firmAt l1 k with
        | false =>
          have hvu : ¬ v = u := by rw [hff] at hvf; simpa using hvf
          have hvu' : (v == u) = false := by simpa using hvu
          clear hvf hfs hmt
          go_wp2
          go_quiet (fail)
          go_wp2
          go_roundw
          case rel =>
            exact ⟨k + 1, by go_num, by omega, own_kept_none o1 (drewN_g7 _ _), own_kept_none ox (drewN_g7 _ _), own_kept_none of (drewN_g7 _ _), own_kept_none ot (drewN_g7 _ _), hid (below_drewN HB.out _)⟩
          case measure => simp [intOf]; omega
        | true =>
          obtain rfl : v = u := by rw [hff] at hvf; simpa using hvf
          rw [hfs hff] at hmt
          clear hvf hfs
          have hd : Below w10.heap.size w10 w10.drew := (Below.refl _ _).drew
          have dt := own_on ot hd
          go_wp2
          go_region_held3 (fun w' => w'.cell? ⟨gx, k, none⟩ = some (.int .i64 v) ∧ w'.cell? ⟨g1, k, none⟩ = some (.int .i64 v)) (first | exact ⟨xx, x1⟩ | assumption | exact ⟨(own_cell (own_on (own_on ox hd) st11) HLX.out hlt).trans (by rw [HNV.out k hlt, HV.out]), (own_cell (own_on (own_on o1 hd) st11) HL1.out hlt).trans (by rw [HU.out])⟩) (first | (go_at_call 13; with_reducible refine Calls.mono (hasInt_any _ _ _ _ _ _ _ (Sl.of_own dt)) ?_; rintro e w11 ⟨rfl, st11⟩; rw [hmt]))
          go_wp2
          go_roundw
          case rel =>
            have st := hd.trans (st11.mono hd.size)
            exact ⟨k + 1, by go_num, by omega, own_on o1 st, own_on ox st, own_on of st, own_on ot st, hid (HB.out.trans (st.mono HB.out.size))⟩
          case measure => simp [intOf]; omega
      · obtain rfl : k = n1 := by omega
        go_wp2
        go_ret
        exact ⟨rfl, HB.out⟩
end Go.Proofs.YtfmlekcdjjkolaaDoor
