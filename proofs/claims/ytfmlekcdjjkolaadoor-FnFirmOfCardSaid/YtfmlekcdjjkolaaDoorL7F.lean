/-
  The walk of laws.FnFirmOf, written by program (law7.py). No statement is proved here.
-/
import Derived.Test.YtfmlekcdjjkolaaDoorC7f
import Derived.Test.YtfmlekcdjjkolaaDoorC7s
import Derived.Test.YtfmlekcdjjkolaaDoorC7i
import Derived.Test.YtfmlekcdjjkolaaDoorC7j
import Derived.Test.YtfmlekcdjjkolaaDoorDrW
import Derived.Test.YtfmlekcdjjkolaaDoorExS
import Derived.Test.YtfmlekcdjjkolaaDoorExA
import Derived.Test.YtfmlekcdjjkolaaDoorExH
import Derived.Test.YtfmlekcdjjkolaaDoorC1a
namespace Go.Proofs.YtfmlekcdjjkolaaDoor
open Go.RowKit
set_option linter.unusedVariables false
set_option linter.unusedSimpArgs false

theorem mem_firm {l : List Int} {n k : Nat} (h : k < n) : ((k : Int) ∈ firmTo l n) ↔ firmAt l k = true := by
  simp only [firmTo, List.mem_map, List.mem_filter, List.mem_range]
  constructor
  · rintro ⟨j, ⟨_, hj⟩, e⟩
    have : j = k := Int.ofNat.inj e
    rwa [← this]
  · intro h'; exact ⟨k, ⟨h, h'⟩, rfl⟩
theorem firm_asc (l : List Int) (n : Nat) : (firmTo l n).Pairwise (· < ·) := by
  unfold firmTo
  rw [List.pairwise_map]
  exact (List.pairwise_lt_range.filter _).imp fun h => by exact Int.ofNat_lt.2 h
theorem firm_full {l : List Int} (n : Nat) : (firmTo l n).length = n ↔ ∀ k, k < n → firmAt l k = true := by
  have := List.length_filter_eq_length_iff (p := firmAt l) (l := List.range n)
  simp only [List.length_range, List.mem_range] at this
  simpa [firmTo] using this
theorem settle_zero {l : List Int} (hb : bitsL l) (hl : l.length ≤ 40) : settleL l = 0 ↔ voteL l = l := by
  rcases hf : (List.range 64).find? (fun s => decide (voteL (voteN s l) = voteN s l)) with _ | s
  · rw [List.find?_eq_none] at hf
    exact absurd (by simpa using voteN_still hb (s := 20) (by omega)) (hf 20 (by simp))
  · have e : settleL l = s := by unfold settleL; rw [hf]; rfl
    rw [List.find?_range_eq_some] at hf
    rw [e]
    have hs : settled l s := ⟨by simpa using hf.1, fun j hj => by simpa using hf.2.2 j hj⟩
    constructor
    · rintro rfl; exact hs.1
    · intro h; exact settled_one hs ⟨h, fun j hj => by omega⟩

set_option maxRecDepth 100000 in
set_option maxHeartbeats 6400000 in
theorem fnFirmOf_walk (A : Option Addr) (n c : Nat) (w : World) (hs : By w w.heap.size A n) (hc : n ≤ c) (hT : TabsZ w) :
    Calls Tryd.prog 4 #[.slice A n c] w fun e w' => e = .returned (.bool true) ∧ Below w.heap.size w w' := by
  have hm : n ≤ 9223372036854775807 := hs.1
  by_cases hbig : 1048576 < n
  · go_enter Tryd.func4, Tryd.ntmps4
    go_wp2
    go_ret
    exact ⟨rfl, Below.refl _ _⟩
  go_enter Tryd.func4, Tryd.ntmps4
  go_wp2_with fail
  refine (drawFirmOf_any A n c _ hs hc).mono ?_
  rintro e w1 ⟨A1, n1, c1, l1, rfl, o1, hn1, hb1⟩
  have HB := hid hb1
  clear hs hc hb1 hbig hm
  replace o1 := own_mono (base' := 0) o1 (Nat.zero_le _)
  have hl1 : l1.length = n1 := by have := o1.1; simpa using this
  have HT := hid hT
  clear hT
  have CI := hid (fun (W : World) (hs : Sl W W.heap.size A1 n1 l1) (hb : Below w.heap.size w W) => implFirmOf_any A1 n1 c1 l1 W hs (HT.out.below hb))
  have CS := hid (fun (W : World) (hs : Sl W W.heap.size A1 n1 l1) => specFirmOf_any A1 n1 c1 l1 W hs)
  have CK := hid (fun (W : World) (hs : Sl W W.heap.size A1 n1 l1) => implVotesOk_any A1 n1 c1 l1 W hs)
  have CT := hid (fun (W : World) (hs : Sl W W.heap.size A1 n1 l1) => implSettledAfter_any A1 n1 c1 l1 W hs)
  cases hk : votesOk l1 with
  | false =>
    have hz : firmOut l1 = [] := by unfold firmOut; rw [hk]; rfl
    rw [hz] at CI CS
    rw [hk] at CK
    clear hk hz
    go_wp2_with fail
    refine (CI.out _ (Sl.of_own o1) HB.out).mono ?_
    rintro e w2 ⟨Ax, nx, cx, rfl, ox, hnx, st2⟩
    replace o1 := own_on o1 st2
    replace HB := hid (HB.out.trans (st2.mono HB.out.size))
    clear st2
    replace ox := own_mono (base' := 0) ox (Nat.zero_le _)
    go_wp2_with fail
    refine (CS.out _ (Sl.of_own o1)).mono ?_
    rintro e w3 ⟨Ay, ny, cy, rfl, oy, hny, st3⟩
    replace o1 := own_on o1 st3
    replace ox := own_on ox st3
    replace HB := hid (HB.out.trans (st3.mono HB.out.size))
    clear st3
    replace oy := own_mono (base' := 0) oy (Nat.zero_le _)
    go_wp2_with fail
    refine (sameInts_b _ _ _ _ _ _ _ _ _ _ _ (Sl.of_own ox) (Sl.of_own oy)).mono ?_
    rintro e w4 ⟨rfl, st4⟩
    rw [decide_eq_true rfl]
    replace o1 := own_on o1 st4
    replace ox := own_on ox st4
    replace oy := own_on oy st4
    replace HB := hid (HB.out.trans (st4.mono HB.out.size))
    clear st4
    clear oy
    obtain rfl : nx = 0 := by have := ox.1; simpa using this.symm
    go_wp2_with fail
    with_reducible refine Calls.mono (CK.out _ (Sl.of_own o1)) ?_
    rintro e w5 ⟨rfl, st5⟩
    replace o1 := own_on o1 st5
    replace ox := own_on ox st5
    replace HB := hid (HB.out.trans (st5.mono HB.out.size))
    clear st5
    go_wp2_with fail
    refine (alive_any _).mono ?_
    rintro e w6 ⟨rfl, st6⟩
    replace o1 := own_on o1 st6
    replace ox := own_on ox st6
    replace HB := hid (HB.out.trans (st6.mono HB.out.size))
    clear st6
    go_wp2
    go_ret
    exact ⟨rfl, HB.out⟩
  | true =>
    obtain ⟨h5, hb⟩ := votesOk_iff.1 hk
    have hf : firmOut l1 = firmTo l1 n1 := by unfold firmOut; rw [if_pos hk, hl1]
    have hz : settleC l1 = settleL l1 := by unfold settleC; rw [if_pos hk]
    have hzz := settle_zero hb h5.2
    rw [vote_same hb, hl1, ← firm_full n1] at hzz
    rw [hl1] at h5
    have m0 : decide ((0 : Int) ∈ firmTo l1 n1) = true := by
      rw [decide_eq_true_iff]
      exact (mem_firm (k := 0) (by omega)).2 (firm_iff.2 (.inl rfl))
    have m1 : decide (((n1 : Int) - 1) ∈ firmTo l1 n1) = true := by
      rw [decide_eq_true_iff, show (n1 : Int) - 1 = ((n1 - 1 : Nat) : Int) by omega]
      exact (mem_firm (by omega)).2 (firm_iff.2 (.inr (.inl (by rw [hl1]))))
    have ha := firm_asc l1 n1
    obtain ⟨F, hF⟩ : ∃ F, firmTo l1 n1 = F := ⟨_, rfl⟩
    obtain ⟨S, hS⟩ : ∃ S, settleL l1 = S := ⟨_, rfl⟩
    rw [hF] at hf hzz m0 m1 ha
    rw [hS] at hz hzz
    rw [hf] at CI CS
    rw [hz] at CT
    have hFne : F ≠ [] := by rintro rfl; simp at m0
    have HM0 := hid m0
    have HM1 := hid m1
    have HA := hid ha
    have HZ := hid hzz
    have w3 : IntKind.i64.wrap ((n1 : Int) - 1) = (n1 : Int) - 1 := IntWalk.i64_in _ (by omega)
    clear hF hS hf hz hzz m0 m1 ha hk hb
    go_wp2_with fail
    refine (CI.out _ (Sl.of_own o1) HB.out).mono ?_
    rintro e w2 ⟨Ax, nx, cx, rfl, ox, hnx, st2⟩
    replace o1 := own_on o1 st2
    replace HB := hid (HB.out.trans (st2.mono HB.out.size))
    clear st2
    replace ox := own_mono (base' := 0) ox (Nat.zero_le _)
    go_wp2_with fail
    refine (CS.out _ (Sl.of_own o1)).mono ?_
    rintro e w3 ⟨Ay, ny, cy, rfl, oy, hny, st3⟩
    replace o1 := own_on o1 st3
    replace ox := own_on ox st3
    replace HB := hid (HB.out.trans (st3.mono HB.out.size))
    clear st3
    replace oy := own_mono (base' := 0) oy (Nat.zero_le _)
    go_wp2_with fail
    refine (sameInts_b _ _ _ _ _ _ _ _ _ _ _ (Sl.of_own ox) (Sl.of_own oy)).mono ?_
    rintro e w4 ⟨rfl, st4⟩
    rw [decide_eq_true rfl]
    replace o1 := own_on o1 st4
    replace ox := own_on ox st4
    replace oy := own_on oy st4
    replace HB := hid (HB.out.trans (st4.mono HB.out.size))
    clear st4
    clear oy
    have hnx : F.length = nx := by have := ox.1; simpa using this
    rw [hnx] at HZ
    have hx0 : 0 < nx := by rw [← hnx]; exact List.length_pos_iff.2 hFne
    have hne : ((nx : Int) == 0) = false := by simp; omega
    have hne' : ¬ (nx : Int) = 0 := by omega
    have e9 : (((nx : Int) == (n1 : Int)) == ((S : Int) == 0)) = true := by
      have := HZ.out
      have h1 : ((nx : Int) == (n1 : Int)) = ((S : Int) == 0) := by
        rw [Bool.eq_iff_iff]; simp; omega
      rw [h1]; simp
    clear hFne CI CS CK
    go_wp2_with fail
    with_reducible refine Calls.mono (ascend_any _ _ _ _ _ _ (Sl.of_own ox) HA.out) ?_
    rintro e w5 ⟨rfl, st5⟩
    replace o1 := own_on o1 st5
    replace ox := own_on ox st5
    replace HB := hid (HB.out.trans (st5.mono HB.out.size))
    clear st5
    go_wp2_with fail
    with_reducible refine Calls.mono (hasInt_any _ _ _ _ 0 _ _ (Sl.of_own ox)) ?_
    rintro e w6 ⟨rfl, st6⟩
    replace o1 := own_on o1 st6
    replace ox := own_on ox st6
    replace HB := hid (HB.out.trans (st6.mono HB.out.size))
    clear st6
    rw [HM0.out]
    go_wp2_with fail
    with_reducible refine Calls.mono (hasInt_any _ _ _ _ ((n1 : Int) - 1) _ _ (Sl.of_own ox)) ?_
    rintro e w7 ⟨rfl, st7⟩
    replace o1 := own_on o1 st7
    replace ox := own_on ox st7
    replace HB := hid (HB.out.trans (st7.mono HB.out.size))
    clear st7
    rw [HM1.out]
    go_wp2_with fail
    with_reducible refine Calls.mono (CT.out _ (Sl.of_own o1)) ?_
    rintro e w8 ⟨rfl, st8⟩
    replace o1 := own_on o1 st8
    replace ox := own_on ox st8
    replace HB := hid (HB.out.trans (st8.mono HB.out.size))
    clear st8
    go_wp2
    go_ret
    exact ⟨rfl, HB.out⟩
end Go.Proofs.YtfmlekcdjjkolaaDoor
