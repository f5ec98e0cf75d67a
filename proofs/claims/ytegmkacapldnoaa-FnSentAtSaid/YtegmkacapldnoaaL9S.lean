/-
  The walk of laws.FnSentAt, written by program (law9.py). No statement is proved here.
-/
import Derived.Test.YtegmkacapldnoaaC9c
import Derived.Test.YtegmkacapldnoaaC9w
import Derived.Test.YtegmkacapldnoaaC9i
import Derived.Test.YtegmkacapldnoaaDrS
import Derived.Test.YtegmkacapldnoaaExS
import Derived.Test.YtegmkacapldnoaaExH
import Derived.Test.YtegmkacapldnoaaC1a
import Derived.IntWalk
import Derived.Deep.RegionHeld3
import Derived.Lib.MinMax
namespace Go.Proofs.Ytegmkacapldnoaa
open Go.RowKit
set_option linter.unusedVariables false
set_option linter.unusedSimpArgs false

theorem sent_none {l : List Int} (hp : posL l) {S k : Nat} (hS : l.length ≤ S) (hk : k < l.length) : nth (sentL l S) k = 0 := by
  have h0 : 0 < l.length := by omega
  have hle : S ≤ l.length * S := Nat.le_mul_of_pos_left S h0
  have h := sent_form hp h0 S (k + l.length * S - S)
  rw [show k + l.length * S - S + S = k + l.length * S by omega, Nat.add_mul_mod_self_left, Nat.mod_eq_of_lt hk, surv_full h0 hS] at h
  simpa using h
theorem sent_some {l : List Int} (hp : posL l) {S k : Nat} (hS : S < l.length) (hk : k < l.length) (hn : nth (sentL l S) k ≠ 0) : nth (sentL l S) k = nth l ((k + l.length - S) % l.length) := by
  have h0 : 0 < l.length := by omega
  have h := sent_form hp h0 S (k + l.length - S)
  rw [show k + l.length - S + S = k + l.length by omega, Nat.add_mod_right, Nat.mod_eq_of_lt hk] at h
  rw [h] at hn ⊢
  cases hs : surv l (k + l.length - S) S with
  | false => rw [hs] at hn; exact absurd rfl hn
  | true => rfl
theorem sent_best {l : List Int} (hp : posL l) (ha : apart l) {S p : Nat} (hm : isMax l p) : decide (nth l p ∈ sentL l S) = decide (S < l.length) := by
  have h0 : 0 < l.length := by have := hm.1; omega
  have hmem : ∀ x, x ∈ sentL l S ↔ ∃ k, k < l.length ∧ nth (sentL l S) k = x := by
    intro x
    rw [List.mem_iff_getElem]
    constructor
    · rintro ⟨k, hk, e⟩; rw [sentL_len] at hk; exact ⟨k, hk, by rw [← e]; simp [nth, List.getD, sentL_len, hk]⟩
    · rintro ⟨k, hk, e⟩; exact ⟨k, by rw [sentL_len]; exact hk, by rw [← e]; simp [nth, List.getD, sentL_len, hk]⟩
  rw [decide_eq_decide, hmem]
  have hpp := hp p hm.1
  constructor
  · rintro ⟨k, hk, e⟩
    by_cases h : S < l.length
    · exact h
    · rw [sent_none hp (by omega) hk] at e; omega
  · intro h
    refine ⟨(p + S) % l.length, Nat.mod_lt _ h0, ?_⟩
    rw [sent_form hp h0, surv_mono ((surv_max ha hm.1).2 hm) (by omega), if_pos rfl, rf_lt hm.1]

set_option maxRecDepth 100000 in
set_option maxHeartbeats 6400000 in
theorem fnSentAt_walk (A : Option Addr) (n c : Nat) (w : World) (hs : By w w.heap.size A n) (hc : n ≤ c) :
    Calls Try.prog 4 #[.slice A n c] w fun e w' => e = .returned (.bool true) ∧ Below w.heap.size w w' := by
  have hm : n ≤ 9223372036854775807 := hs.1
  by_cases hbig : 1048576 < n
  · go_enter Try.func4, Try.ntmps4
    go_wp2
    go_ret
    exact ⟨rfl, Below.refl _ _⟩
  go_enter Try.func4, Try.ntmps4
  go_wp2_with fail
  refine (drawSentAt_any A n c _ hs hc).mono ?_
  rintro e w1 ⟨A1, n1, c1, l1, s1, rfl, o1, hn1, s10, s11, hb1⟩
  have HB := hid hb1
  clear hs hc hb1 hbig hm
  replace o1 := own_mono (base' := 0) o1 (Nat.zero_le _)
  have hl1 : l1.length = n1 := by have := o1.1; simpa using this
  obtain ⟨hc1, hc2⟩ := own_caps9 o1
  have CI := hid (fun (W : World) (hs : Sl W W.heap.size A1 n1 l1) => implSentAt_any A1 n1 c1 l1 s1 W hs hc1 hc2)
  have CS := hid (fun (W : World) (hs : Sl W W.heap.size A1 n1 l1) => specSentAt_any A1 n1 c1 l1 s1 W hs)
  cases hk : (ringOk l1 && within s1 0 12) with
  | false =>
    rw [show sentOut l1 s1 = [] from by unfold sentOut; rw [hk]; rfl] at CI CS
    clear hk
    go_wp2_with fail
    refine (CI.out _ (Sl.of_own o1)).mono ?_
    rintro e w2 ⟨Ax, nx, cx, rfl, ox, hnx, st2⟩
    replace o1 := own_on o1 st2
    replace HB := hid (HB.out.trans (st2.mono HB.out.size))
    clear st2
    replace ox := own_mono (base' := 0) ox (Nat.zero_le _)
    go_wp2_with fail
    refine (CS.out _ (Sl.of_own o1)).mono ?_
    rintro e w3 ⟨Ay, ny, cy, rfl, oy, hny, st3⟩
    replace o1 := own_on o1 st3
    replace ox := own_on ox st3
    replace HB := hid (HB.out.trans (st3.mono HB.out.size))
    clear st3
    replace oy := own_mono (base' := 0) oy (Nat.zero_le _)
    go_wp2_with fail
    refine (sameInts_b _ _ _ _ _ _ _ _ _ _ _ (Sl.of_own ox) (Sl.of_own oy)).mono ?_
    rintro e w4 ⟨rfl, st4⟩
    rw [decide_eq_true rfl]
    replace o1 := own_on o1 st4
    replace ox := own_on ox st4
    replace oy := own_on oy st4
    replace HB := hid (HB.out.trans (st4.mono HB.out.size))
    clear st4
    clear oy
    obtain rfl : nx = 0 := by have := ox.1; simpa using this.symm
    go_wp2_with fail
    refine (alive_any _).mono ?_
    rintro e w5 ⟨rfl, st5⟩
    replace o1 := own_on o1 st5
    replace ox := own_on ox st5
    replace HB := hid (HB.out.trans (st5.mono HB.out.size))
    clear st5
    go_wp2
    go_ret
    exact ⟨rfl, HB.out⟩
  | true =>
    have hk2 : ringOk l1 = true ∧ within s1 0 12 = true := by simpa using hk
    obtain ⟨hk0, hw⟩ := hk2
    have hw2 := within_iff.1 hw
    obtain ⟨S, rfl⟩ : ∃ S : Nat, s1 = S := Int.eq_ofNat_of_zero_le hw2.1
    obtain ⟨_, _, h1, h2⟩ := ringOk_iff.1 hk0
    rw [show sentOut l1 (S : Int) = sentL l1 S from by unfold sentOut; rw [if_pos hk, Int.toNat_natCast]] at CI CS
    have HP := hid (ring_pos hk0)
    have HM := hid (maxAt_is (l := l1) (by omega))
    have HSB := hid (sent_best HP.out (ring_apart hk0) (S := S) HM.out)
    have HSN := hid (fun (k : Nat) => sent_none HP.out (S := S) (k := k))
    have HSS := hid (fun (k : Nat) => sent_some HP.out (S := S) (k := k))
    have HL := hid hl1
    have HLX := hid ((sentL_len l1 S).trans hl1)
    rw [hl1] at h1 h2 HSB HSN HSS
    clear hk hk0 hw
    go_wp2_with fail
    refine (CI.out _ (Sl.of_own o1)).mono ?_
    rintro e w2 ⟨Ax, nx, cx, rfl, ox, hnx, st2⟩
    replace o1 := own_on o1 st2
    replace HB := hid (HB.out.trans (st2.mono HB.out.size))
    clear st2
    replace ox := own_mono (base' := 0) ox (Nat.zero_le _)
    go_wp2_with fail
    refine (CS.out _ (Sl.of_own o1)).mono ?_
    rintro e w3 ⟨Ay, ny, cy, rfl, oy, hny, st3⟩
    replace o1 := own_on o1 st3
    replace ox := own_on ox st3
    replace HB := hid (HB.out.trans (st3.mono HB.out.size))
    clear st3
    replace oy := own_mono (base' := 0) oy (Nat.zero_le _)
    go_wp2_with fail
    refine (sameInts_b _ _ _ _ _ _ _ _ _ _ _ (Sl.of_own ox) (Sl.of_own oy)).mono ?_
    rintro e w4 ⟨rfl, st4⟩
    rw [decide_eq_true rfl]
    replace o1 := own_on o1 st4
    replace ox := own_on ox st4
    replace oy := own_on oy st4
    replace HB := hid (HB.out.trans (st4.mono HB.out.size))
    clear st4
    clear oy
    have hnx1 : nx = n1 := by have := ox.1; simp [HLX.out] at this; omega
    subst hnx1
    have hne : ((nx : Int) == 0) = false := by simp; omega
    have hne' : ¬ (nx : Int) = 0 := by omega
    clear CI CS hl1
    go_wp2_with fail
    go_loopw [6, 7] (fun v i wr => ∃ (b : Int) (k : Nat), v = .int .i64 b ∧ i = .int .i64 k ∧ k ≤ nx ∧ Hid ((k = 0 ∧ b = 0) ∨ ((∃ i, i < k ∧ b = nth l1 i) ∧ ∀ i, i < k → nth l1 i ≤ b)) ∧ wr.ownsRow 0 3 1 (.slice A1 nx c1) nx (ints l1) ∧ wr.ownsRow 0 3 1 (.slice Ax nx cx) nx (ints (sentL l1 S)) ∧ Hid (Below w.heap.size w wr)) (fun _ i _ => nx - (intOf i).toNat)
    case atStart => exact ⟨0, 0, rfl, rfl, Nat.zero_le _, hid (.inl ⟨rfl, rfl⟩), o1, ox, HB⟩
    case round =>
      clear o1 ox HB
      obtain ⟨b, k, rfl, rfl, hk, HX, o1, ox, HB⟩ := hrel
      by_cases hlt : k < nx
      · have hlti : (k : Int) < (nx : Int) := by omega
        rcases own_form9 o1 with ⟨_, h0, _⟩ | ⟨g1, rfl, _, _⟩
        · omega
        have x0 := own_cell o1 HL.out hlt
        have hpk := HP.out k (by rw [HL.out]; exact hlt)
        have HX2 := hid (show (∃ i, i < k + 1 ∧ max b (nth l1 k) = nth l1 i) ∧ ∀ i, i < k + 1 → nth l1 i ≤ max b (nth l1 k) from by
          rcases HX.out with ⟨rfl, rfl⟩ | ⟨⟨i, hi, rfl⟩, ha⟩
          · exact ⟨⟨0, by omega, by omega⟩, fun i hi => by rw [show i = 0 by omega]; omega⟩
          · refine ⟨?_, fun j hj => ?_⟩
            · by_cases hle : nth l1 i ≤ nth l1 k
              · exact ⟨k, by omega, by omega⟩
              · exact ⟨i, by omega, by omega⟩
            · by_cases hjk : j = k
              · subst hjk; omega
              · have := ha j (by omega); omega)
        go_wp2
        go_roundw
        case rel => exact ⟨_, k + 1, rfl, by go_num, by omega, hid (.inr HX2.out), o1, ox, HB⟩
        case measure => simp [intOf]; omega
      · obtain rfl : k = nx := by omega
        have hb : b = nth l1 (maxAt l1) := by
          have hm := HM.out
          unfold isMax at hm
          rw [HL.out] at hm
          rcases HX.out with ⟨h0, _⟩ | ⟨⟨i, hi, rfl⟩, ha⟩
          · omega
          · have q1 := ha _ hm.1
            have q2 := hm.2 i hi
            omega
        subst hb
        clear HX
        go_wp2_with fail
        go_loopw [9] (fun i wr => ∃ j : Nat, i = .int .i64 j ∧ j ≤ k ∧ wr.ownsRow 0 3 1 (.slice A1 k c1) k (ints l1) ∧ wr.ownsRow 0 3 1 (.slice Ax k cx) k (ints (sentL l1 S)) ∧ Hid (Below w.heap.size w wr)) (fun i _ => k - (intOf i).toNat)
        case atStart => exact ⟨0, rfl, Nat.zero_le _, o1, ox, HB⟩
        case round =>
          clear o1 ox HB
          obtain ⟨j, rfl, hj, o1, ox, HB⟩ := hrel
          by_cases hjk : j < k
          · have hjki : (j : Int) < (k : Int) := by omega
            have hj0 : (0 : Int) ≤ (j : Int) := by omega
            rcases own_form9 o1 with ⟨_, h0, _⟩ | ⟨g1, rfl, _, _⟩
            · omega
            rcases own_form9 ox with ⟨_, h0, _⟩ | ⟨gx, rfl, _, _⟩
            · omega
            have xx := own_cell ox HLX.out hjk
            have hsn := HSN.out j
            have hss := HSS.out j
            obtain ⟨v, hv⟩ : ∃ v, nth (sentL l1 S) j = v := ⟨_, rfl⟩
            rw [hv] at xx hsn hss
            clear hv
            by_cases hv0 : v = 0
            · subst hv0
              clear hsn hss
              go_wp2
              go_quiet (fail)
              go_wp2
              go_roundw
              case rel => exact ⟨j + 1, by go_num, by omega, own_kept_none o1 (drewN_g9 _ _), own_kept_none ox (drewN_g9 _ _), hid (below_drewN HB.out _)⟩
              case measure => simp [intOf]; omega
            · have hSk : S < k := by
                by_cases h : S < k
                · exact h
                · exact absurd (hsn (by omega) hjk) hv0
              have hvr := hss hSk hjk hv0
              obtain ⟨r, hr⟩ : ∃ r, (j + k - S) % k = r := ⟨_, rfl⟩
              have hrk : r < k := by rw [← hr]; exact Nat.mod_lt _ (by omega)
              rw [hr] at hvr
              have x1 := own_cell o1 HL.out hrk
              rw [← hvr] at x1
              have m1 : ((j : Int) + (k : Int) - (S : Int)).tmod (k : Int) = (r : Int) := by
                rw [show (j : Int) + (k : Int) - (S : Int) = ((j + k - S : Nat) : Int) by omega, ← hr]; rfl
              have w1 : IntKind.i64.wrap ((j : Int) + (k : Int)) = (j : Int) + (k : Int) := IntWalk.i64_in _ (by omega)
              have w2 : IntKind.i64.wrap ((j : Int) + (k : Int) - (S : Int)) = (j : Int) + (k : Int) - (S : Int) := IntWalk.i64_in _ (by omega)
              have hri : (r : Int) < (k : Int) := by omega
              have hr0 : (0 : Int) ≤ (r : Int) := by omega
              have hk0 : ¬ (k : Int) = 0 := by omega
              have q1 : (v != 0) = true := by simpa using hv0
              have q2 : (v == 0) = false := by simpa using hv0
              have q3 : decide ((k : Int) ≤ (S : Int)) = false := by simp; omega
              have q4 : ¬ (k : Int) ≤ (S : Int) := by omega
              have q5 : decide (v = 0) = false := by simpa using hv0
              have q6 : ¬ k ≤ S := by omega
              have q7 : decide (k ≤ S) = false := by simpa using q6
              have q8 : (v != v) = false := by simp
              have q9 : (S : Int) < (k : Int) := by omega
              clear hsn hss hr hvr
              go_wp2
              go_quiet (fail)
              go_wp2
              go_roundw
              case rel => exact ⟨j + 1, by go_num, by omega, own_kept_none o1 (drewN_g9 _ _), own_kept_none ox (drewN_g9 _ _), hid (below_drewN HB.out _)⟩
              case measure => simp [intOf]; omega
          · obtain rfl : j = k := by omega
            have hsi : decide ((S : Int) < (j : Int)) = decide (S < j) := by rw [decide_eq_decide]; omega
            by_cases hS0 : S = 0
            · subst hS0
              have hsj : decide ((0 : Int) < (j : Int)) = true := by simp; omega
              go_wp2_with fail
              with_reducible refine Calls.mono (hasInt_any _ _ _ _ _ _ _ (Sl.of_own ox)) ?_
              rintro e w20 ⟨rfl, st20⟩
              rw [HSB.out, decide_eq_true (show 0 < j by omega)]
              replace o1 := own_on o1 st20
              replace ox := own_on ox st20
              replace HB := hid (HB.out.trans (st20.mono HB.out.size))
              clear st20
              go_wp2_with fail
              refine (sameInts_b _ _ _ _ _ _ _ _ _ _ _ (Sl.of_own ox) (Sl.of_own o1)).mono ?_
              rintro e w21 ⟨rfl, st21⟩
              rw [show sentL l1 0 = l1 from rfl, decide_eq_true rfl]
              replace HB := hid (HB.out.trans (st21.mono HB.out.size))
              clear st21
              go_wp2_with fail
              refine (alive_any _).mono ?_
              rintro e w22 ⟨rfl, st22⟩
              replace HB := hid (HB.out.trans (st22.mono HB.out.size))
              clear st22
              go_wp2
              go_ret
              exact ⟨rfl, HB.out⟩
            · have hsp : (0 : Int) < (S : Int) := by omega
              obtain ⟨t, ht⟩ : ∃ t, decide (S < j) = t := ⟨_, rfl⟩
              have hsb := HSB.out
              rw [ht] at hsi hsb
              have HSB2 := hid hsb
              clear hsb
              cases t <;>
              (
              first | (have hn1 : ¬ S < j := by simpa using ht) | (have hn1 : S < j := by simpa using ht)
              first | (have hn2 : ¬ (S : Int) < (j : Int) := by omega) | (have hn2 : (S : Int) < (j : Int) := by omega)
              go_wp2_with fail
              with_reducible refine Calls.mono (hasInt_any _ _ _ _ _ _ _ (Sl.of_own ox)) ?_
              rintro e w20 ⟨rfl, st20⟩
              rw [HSB2.out]
              replace HB := hid (HB.out.trans (st20.mono HB.out.size))
              clear st20
              go_wp2_with fail
              refine (alive_any _).mono ?_
              rintro e w22 ⟨rfl, st22⟩
              replace HB := hid (HB.out.trans (st22.mono HB.out.size))
              clear st22
              go_wp2
              go_ret
              exact ⟨rfl, HB.out⟩)
end Go.Proofs.Ytegmkacapldnoaa
