/-
  The walk of laws.FnDrivenOf, written by program (law11.py). No statement is proved here.
-/
import Derived.Test.YtmjcefidhigppaaC11
import Derived.Test.YtmjcefidhigppaaC11i
import Derived.Test.YtmjcefidhigppaaDrX
import Derived.Test.YtmjcefidhigppaaExS
import Derived.Test.YtmjcefidhigppaaC1a
import Derived.IntWalk
import Derived.BigQuiet
import Derived.Deep.QuietTactic
namespace Go.Proofs.Ytmjcefidhigppaa
open Go.RowKit
set_option linter.unusedVariables false
set_option linter.unusedSimpArgs false

set_option maxRecDepth 100000 in
set_option maxHeartbeats 6400000 in
theorem fnDrivenOf_walk (A : Option Addr) (n c : Nat) (w : World) (hs : By w w.heap.size A n) (hc : n ≤ c) :
    Calls Try.prog 3 #[.slice A n c] w fun e w' => e = .returned (.bool true) ∧ Below w.heap.size w w' := by
  have hm : n ≤ 9223372036854775807 := hs.1
  by_cases hbig : 1048576 < n
  · go_enter Try.func3, Try.ntmps3
    go_wp2
    go_ret
    exact ⟨rfl, Below.refl _ _⟩
  go_enter Try.func3, Try.ntmps3
  go_wp2_with fail
  refine (drawDrivenOf_any A n c _ hs hc).mono ?_
  rintro e w1 ⟨A1, n1, c1, l1, rfl, o1, hn1, hb1⟩
  have HB := hid hb1
  clear hs hc hb1 hbig hm
  replace o1 := own_mono (base' := 0) o1 (Nat.zero_le _)
  have hl1 : l1.length = n1 := by have := o1.1; simpa using this
  have CI := hid (fun (W : World) (hs : Sl W W.heap.size A1 n1 l1) => implDrivenOf_any A1 n1 c1 l1 W hs)
  have CS := hid (fun (W : World) (hs : Sl W W.heap.size A1 n1 l1) => specDrivenOf_any A1 n1 c1 l1 W hs)
  have CK := hid (fun (W : World) (hs : Sl W W.heap.size A1 n1 l1) => implBitsOk_any A1 n1 c1 l1 W hs)
  have CO := hid (fun (W : World) (hs : Sl W W.heap.size A1 n1 l1) => implOnesOf_any A1 n1 c1 l1 W hs)
  have CF := hid (fun (W : World) (hs : Sl W W.heap.size A1 n1 l1) => implFlowOf_any A1 n1 c1 l1 W hs)
  cases hk : (bitsOk l1) with
  | false =>
    rw [show drivenOut l1 = [] from by unfold drivenOut; rw [hk]; rfl] at CI CS
    rw [hk] at CK
    clear hk
    go_wp2_with fail
    refine (CI.out _ (Sl.of_own o1)).mono ?_
    rintro e w2 ⟨Ax, nx, cx, rfl, ox, hnx, st2⟩
    replace o1 := own_on o1 st2
    replace HB := hid (HB.out.trans (st2.mono HB.out.size))
    clear st2
    replace ox := own_mono (base' := 0) ox (Nat.zero_le _)
    go_wp2_with fail
    refine (CS.out _ (Sl.of_own o1)).mono ?_
    rintro e w3 ⟨Ay, ny, cy, rfl, oy, hny, st3⟩
    replace o1 := own_on o1 st3
    replace ox := own_on ox st3
    replace HB := hid (HB.out.trans (st3.mono HB.out.size))
    clear st3
    replace oy := own_mono (base' := 0) oy (Nat.zero_le _)
    go_wp2_with fail
    refine (sameInts_b _ _ _ _ _ _ _ _ _ _ _ (Sl.of_own ox) (Sl.of_own oy)).mono ?_
    rintro e w4 ⟨rfl, st4⟩
    rw [decide_eq_true rfl]
    replace o1 := own_on o1 st4
    replace ox := own_on ox st4
    replace oy := own_on oy st4
    replace HB := hid (HB.out.trans (st4.mono HB.out.size))
    clear st4
    clear oy
    obtain rfl : nx = 0 := by have := ox.1; simpa using this.symm
    go_wp2_with fail
    with_reducible refine Calls.mono (CK.out _ (Sl.of_own o1)) ?_
    rintro e w5 ⟨rfl, st5⟩
    replace o1 := own_on o1 st5
    replace ox := own_on ox st5
    replace HB := hid (HB.out.trans (st5.mono HB.out.size))
    clear st5
    go_wp2_with fail
    refine (alive_any _).mono ?_
    rintro e w6 ⟨rfl, st6⟩
    replace o1 := own_on o1 st6
    replace ox := own_on ox st6
    replace HB := hid (HB.out.trans (st6.mono HB.out.size))
    clear st6
    go_wp2
    go_ret
    exact ⟨rfl, HB.out⟩
  | true =>
    obtain ⟨hb, h1, h2⟩ := bitsOk_iff.1 hk
    have hch := ones_change hb
    have hfl := flow_le hb
    have hen : endN l1 ≤ l1.length := by unfold endN; have := ones_le l1; omega
    rw [show drivenOut l1 = driveL l1 from by unfold drivenOut; rw [if_pos hk]] at CI CS
    rw [show onesOut l1 = (ones l1 : Int) from by unfold onesOut; rw [if_pos hk]] at CO
    rw [show flowOut l1 = (flowN l1 : Int) from by unfold flowOut; rw [if_pos hk]] at CF
    have HON := hid (show onesOut (driveL l1) = (ones l1 : Int) from by unfold onesOut; rw [if_pos (driveL_ok hk), ones_drive hb])
    have HCT := hid (fun (k : Nat) (h : k < n1) => show ones ((changeL l1).take (k + 1)) = ones ((changeL l1).take k) + (if nth (driveL l1) k = nth l1 k then 0 else 1) from by
      rw [ones_take (by rw [show (changeL l1).length = l1.length from ringL_len _ l1, hl1]; exact h), show nth (changeL l1) k = changeF (nth l1 ((k + l1.length - 1) % l1.length)) (nth l1 k) (nth l1 ((k + 1) % l1.length)) from nth_ringL (by rw [hl1]; exact h), show nth (driveL l1) k = driveF (nth l1 ((k + l1.length - 1) % l1.length)) (nth l1 k) (nth l1 ((k + 1) % l1.length)) from nth_ringL (by rw [hl1]; exact h)]
      unfold changeF
      split <;> simp)
    have HCL := hid (show (changeL l1).take n1 = changeL l1 from List.take_of_length_le (by rw [show (changeL l1).length = l1.length from ringL_len _ l1, hl1]; exact Nat.le_refl _))
    have hls := (driveL_len l1).trans hl1
    rw [hl1] at h1 h2 hen
    obtain ⟨N, hN⟩ : ∃ N, driveL l1 = N := ⟨_, rfl⟩
    rw [hN] at CI CS HON HCT hls
    obtain ⟨F, hF⟩ : ∃ F, flowN l1 = F := ⟨_, rfl⟩
    rw [hF] at CF hch hfl
    obtain ⟨q, hq⟩ : ∃ q, ones l1 = q := ⟨_, rfl⟩
    rw [hq] at CO HON
    have hF16 : F ≤ 16 := by omega
    have HL := hid hl1
    have HL3 := hid hls
    have HCH := hid hch
    clear hk hb hN hF hq hls hl1 CK hch hfl hen
    go_wp2_with fail
    refine (CI.out _ (Sl.of_own o1)).mono ?_
    rintro e w2 ⟨Ax, nx, cx, rfl, ox, hnx, st2⟩
    replace o1 := own_on o1 st2
    replace HB := hid (HB.out.trans (st2.mono HB.out.size))
    clear st2
    replace ox := own_mono (base' := 0) ox (Nat.zero_le _)
    go_wp2_with fail
    refine (CS.out _ (Sl.of_own o1)).mono ?_
    rintro e w3 ⟨Ay, ny, cy, rfl, oy, hny, st3⟩
    replace o1 := own_on o1 st3
    replace ox := own_on ox st3
    replace HB := hid (HB.out.trans (st3.mono HB.out.size))
    clear st3
    replace oy := own_mono (base' := 0) oy (Nat.zero_le _)
    go_wp2_with fail
    refine (sameInts_b _ _ _ _ _ _ _ _ _ _ _ (Sl.of_own ox) (Sl.of_own oy)).mono ?_
    rintro e w4 ⟨rfl, st4⟩
    rw [decide_eq_true rfl]
    replace o1 := own_on o1 st4
    replace ox := own_on ox st4
    replace oy := own_on oy st4
    replace HB := hid (HB.out.trans (st4.mono HB.out.size))
    clear st4
    clear oy
    have hnx : nx = n1 := by have := ox.1; simp [HL3.out] at this; omega
    subst hnx
    have hne : ((nx : Int) == 0) = false := by simp; omega
    have hne' : ¬ (nx : Int) = 0 := by omega
    have CX := hid (fun (W : World) (hs : Sl W W.heap.size Ax nx N) => implOnesOf_any Ax nx cx N W hs)
    rw [HON.out] at CX
    clear CI CS
    go_wp2_with fail
    go_loopw [5, 6] (fun v i wr => ∃ k m : Nat, v = .int .i64 m ∧ i = .int .i64 k ∧ k ≤ nx ∧ m ≤ k ∧ Hid (m = ones ((changeL l1).take k)) ∧ wr.ownsRow 0 3 1 (.slice A1 nx c1) nx (ints l1) ∧ wr.ownsRow 0 3 1 (.slice Ax nx cx) nx (ints N) ∧ Hid (Below w.heap.size w wr)) (fun _ i _ => nx - (intOf i).toNat)
    case atStart => exact ⟨0, 0, rfl, rfl, Nat.zero_le _, Nat.le_refl _, hid rfl, o1, ox, HB⟩
    case round =>
      clear o1 ox HB
      obtain ⟨k, m, rfl, rfl, hk, hm, HM, o1, ox, HB⟩ := hrel
      by_cases hlt : k < nx
      · obtain ⟨g1, cg1, hsh1, _, _⟩ := own_shape1 o1 (by omega)
        injection hsh1 with q1 q2 q3
        subst q1
        clear q2 q3
        obtain ⟨gx, cgx, hshx, _, _⟩ := own_shape1 ox (by omega)
        injection hshx with q1 q2 q3
        subst q1
        clear q2 q3
        have x0 := own_cell o1 HL.out hlt
        have x1 := own_cell ox HL3.out hlt
        have hv := HCT.out k hlt
        rw [← HM.out] at hv
        obtain ⟨x, hx⟩ : ∃ x, nth l1 k = x := ⟨_, rfl⟩
        obtain ⟨y, hy⟩ : ∃ y, nth N k = y := ⟨_, rfl⟩
        rw [hx] at x0 hv
        rw [hy] at x1 hv
        clear hx hy
        have hlti : (k : Int) < (nx : Int) := by omega
        have hk0 : (0 : Int) ≤ (k : Int) := by omega
        have wm : IntKind.i64.wrap ((m : Int) + 1) = (m : Int) + 1 := IntWalk.i64_in _ (by omega)
        by_cases hyx : y = x
        · have hne3 : (y != x) = false := by simpa using hyx
          rw [if_pos hyx] at hv
          have HV2 := hid hv.symm
          clear hv hyx
          go_wp2
          go_quiet (fail)
          go_wp2
          go_roundw
          case rel => exact ⟨k + 1, m, rfl, by go_num, by omega, by omega, HV2, own_kept_none o1 (drewN_gA _ _), own_kept_none ox (drewN_gA _ _), hid (below_drewN HB.out _)⟩
          case measure => simp [intOf]; omega
        · have hne3 : (y != x) = true := by simpa using hyx
          rw [if_neg hyx] at hv
          have HV2 := hid hv.symm
          clear hv
          go_wp2
          go_quiet (fail)
          go_wp2
          go_roundw
          case rel => exact ⟨k + 1, m + 1, by go_num, by go_num, by omega, by omega, HV2, own_kept_none o1 (drewN_gA _ _), own_kept_none ox (drewN_gA _ _), hid (below_drewN HB.out _)⟩
          case measure => simp [intOf]; omega
      · obtain rfl : k = nx := by omega
        have hmF : m = 2 * F := by rw [HM.out, HCL.out, HCH.out]
        subst hmF
        have wF : IntKind.i64.wrap (2 * (F : Int)) = 2 * (F : Int) := IntWalk.i64_in _ (by omega)
        have eF : (((2 * F : Nat) : Int) == 2 * (F : Int)) = true := by simp
        go_wp2_with fail
        with_reducible refine Calls.mono (CX.out _ (Sl.of_own ox)) ?_
        rintro e w105 ⟨rfl, st105⟩
        replace o1 := own_on o1 st105
        replace ox := own_on ox st105
        replace HB := hid (HB.out.trans (st105.mono HB.out.size))
        clear st105
        go_wp2_with fail
        with_reducible refine Calls.mono (CO.out _ (Sl.of_own o1)) ?_
        rintro e w106 ⟨rfl, st106⟩
        replace o1 := own_on o1 st106
        replace ox := own_on ox st106
        replace HB := hid (HB.out.trans (st106.mono HB.out.size))
        clear st106
        go_wp2_with fail
        with_reducible refine Calls.mono (CF.out _ (Sl.of_own o1)) ?_
        rintro e w107 ⟨rfl, st107⟩
        replace o1 := own_on o1 st107
        replace ox := own_on ox st107
        replace HB := hid (HB.out.trans (st107.mono HB.out.size))
        clear st107
        go_wp2_with fail
        refine (alive_any _).mono ?_
        rintro e w108 ⟨rfl, st108⟩
        replace o1 := own_on o1 st108
        replace ox := own_on ox st108
        replace HB := hid (HB.out.trans (st108.mono HB.out.size))
        clear st108
        go_wp2
        go_ret
        exact ⟨by simp, HB.out⟩
end Go.Proofs.Ytmjcefidhigppaa
