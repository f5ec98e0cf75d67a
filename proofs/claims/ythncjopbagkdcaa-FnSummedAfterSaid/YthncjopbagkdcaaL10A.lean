/-
  The walk of laws.FnSummedAfter, written by program (law10.py). No statement is proved here.
-/
import Derived.Test.YthncjopbagkdcaaC10c
import Derived.Test.YthncjopbagkdcaaC10d
import Derived.Test.YthncjopbagkdcaaC10i
import Derived.Test.YthncjopbagkdcaaDrX
import Derived.Test.YthncjopbagkdcaaExS
import Derived.Test.YthncjopbagkdcaaC1a
import Derived.IntWalk
import Derived.Deep.RegionHeld3
import Derived.BigQuiet
import Derived.Deep.QuietTactic
namespace Go.Proofs.Ythncjopbagkdcaa
open Go.RowKit
set_option linter.unusedVariables false
set_option linter.unusedSimpArgs false

set_option maxRecDepth 100000 in
set_option maxHeartbeats 6400000 in
theorem fnSummedAfter_walk (A : Option Addr) (n c : Nat) (w : World) (hs : By w w.heap.size A n) (hc : n ≤ c) :
    Calls Try.prog 5 #[.slice A n c] w fun e w' => e = .returned (.bool true) ∧ Below w.heap.size w w' := by
  have hm : n ≤ 9223372036854775807 := hs.1
  by_cases hbig : 1048576 < n
  · go_enter Try.func5, Try.ntmps5
    go_wp2
    go_ret
    exact ⟨rfl, Below.refl _ _⟩
  go_enter Try.func5, Try.ntmps5
  go_wp2_with fail
  refine (drawSummedAfter_any A n c _ hs hc).mono ?_
  rintro e w1 ⟨A1, n1, c1, l1, s1, rfl, o1, hn1, s10, s11, hb1⟩
  have HB := hid hb1
  clear hs hc hb1 hbig hm
  replace o1 := own_mono (base' := 0) o1 (Nat.zero_le _)
  have hl1 : l1.length = n1 := by have := o1.1; simpa using this
  have CI := hid (fun (W : World) (hs : Sl W W.heap.size A1 n1 l1) => implSummedAfter_any A1 n1 c1 l1 s1 W hs)
  have CS := hid (fun (W : World) (hs : Sl W W.heap.size A1 n1 l1) => specSummedAfter_any A1 n1 c1 l1 s1 W hs)
  have CM := hid (fun (W : World) (hs : Sl W W.heap.size A1 n1 l1) => implSummedAfter_any A1 n1 c1 l1 (s1 + 1) W hs)
  have CF := hid (fun (F : Nat) (W : World) (hs : Sl W W.heap.size A1 n1 l1) => implSummedAfter_any A1 n1 c1 l1 (F : Int) W hs)
  cases hk : (bitsOk l1 && within s1 0 1000) with
  | false =>
    rw [show sumAft l1 s1 = [] from by unfold sumAft; rw [hk]; rfl] at CI CS
    clear hk CM CF
    go_wp2_with fail
    refine (CI.out _ (Sl.of_own o1)).mono ?_
    rintro e w2 ⟨Ax, nx, cx, rfl, ox, hnx, st2⟩
    replace o1 := own_on o1 st2
    replace HB := hid (HB.out.trans (st2.mono HB.out.size))
    clear st2
    replace ox := own_mono (base' := 0) ox (Nat.zero_le _)
    go_wp2_with fail
    refine (CS.out _ (Sl.of_own o1)).mono ?_
    rintro e w3 ⟨Ay, ny, cy, rfl, oy, hny, st3⟩
    replace o1 := own_on o1 st3
    replace ox := own_on ox st3
    replace HB := hid (HB.out.trans (st3.mono HB.out.size))
    clear st3
    replace oy := own_mono (base' := 0) oy (Nat.zero_le _)
    go_wp2_with fail
    refine (sameInts_b _ _ _ _ _ _ _ _ _ _ _ (Sl.of_own ox) (Sl.of_own oy)).mono ?_
    rintro e w4 ⟨rfl, st4⟩
    rw [decide_eq_true rfl]
    replace o1 := own_on o1 st4
    replace ox := own_on ox st4
    replace oy := own_on oy st4
    replace HB := hid (HB.out.trans (st4.mono HB.out.size))
    clear st4
    clear oy
    obtain rfl : nx = 0 := by have := ox.1; simpa using this.symm
    go_wp2_with fail
    refine (alive_any _).mono ?_
    rintro e w5 ⟨rfl, st5⟩
    replace o1 := own_on o1 st5
    replace ox := own_on ox st5
    replace HB := hid (HB.out.trans (st5.mono HB.out.size))
    clear st5
    go_wp2
    go_ret
    exact ⟨rfl, HB.out⟩
  | true =>
    have hk2 : bitsOk l1 = true ∧ within s1 0 1000 = true := by simpa using hk
    obtain ⟨ka, hw⟩ := hk2
    have hwb := within_iff.1 hw
    obtain ⟨S, rfl⟩ : ∃ S : Nat, s1 = S := Int.eq_ofNat_of_zero_le hwb.1
    obtain ⟨hb, h1, h2⟩ := bitsOk_iff.1 ka
    have h0 : 0 < l1.length := by omega
    have HBI := hid (fun k => bit_nth hb k)
    rw [show sumAft l1 (S : Int) = sumI S l1 from by unfold sumAft; rw [if_pos hk, Int.toNat_natCast]] at CI CS
    have HFA := hid (fun (F : Nat) (hF : F ≤ 1000) => show sumAft l1 (F : Int) = sumI F l1 from by unfold sumAft; rw [if_pos (by rw [ka]; simp [within]; omega), Int.toNat_natCast])
    have HMO := hid (show (S < 1000 → sumAft l1 ((S : Int) + 1) = sumI (S + 1) l1) ∧ (S = 1000 → sumAft l1 ((S : Int) + 1) = []) from
      ⟨fun h => by rw [show (S : Int) + 1 = ((S + 1 : Nat) : Int) by omega]; exact HFA.out (S + 1) (by omega), fun h => by unfold sumAft; rw [if_neg (by simp [within]; omega)]⟩)
    have HNX := hid (show sumOut (sumI S l1) = sumI (S + 1) l1 from by unfold sumOut; rw [if_pos (sumI_ok ka S)]; rfl)
    have HSL := hid (fun k => show (sumI k l1).length = n1 from by rw [sumI_len, hl1])
    have HFV := hid (fun (F k : Nat) (hF : ∃ j, F = 2 ^ j) (hk : k < n1) => show nth (sumI F l1) k = (nth l1 ((k + F) % n1) + nth l1 ((k + F * (n1 - 1)) % n1)) % 2 from by
      obtain ⟨j, rfl⟩ := hF
      rw [← far_pow j h0, nth_far (by rw [hl1]; exact hk)]
      unfold rg
      rw [hl1])
    have HL := hid hl1
    rw [hl1] at h1 h2
    have hS := hwb.2
    clear hk ka hw hwb hb h0 hl1
    go_wp2_with fail
    refine (CI.out _ (Sl.of_own o1)).mono ?_
    rintro e w2 ⟨Ax, nx, cx, rfl, ox, hnx, st2⟩
    replace o1 := own_on o1 st2
    replace HB := hid (HB.out.trans (st2.mono HB.out.size))
    clear st2
    replace ox := own_mono (base' := 0) ox (Nat.zero_le _)
    go_wp2_with fail
    refine (CS.out _ (Sl.of_own o1)).mono ?_
    rintro e w3 ⟨Ay, ny, cy, rfl, oy, hny, st3⟩
    replace o1 := own_on o1 st3
    replace ox := own_on ox st3
    replace HB := hid (HB.out.trans (st3.mono HB.out.size))
    clear st3
    replace oy := own_mono (base' := 0) oy (Nat.zero_le _)
    go_wp2_with fail
    refine (sameInts_b _ _ _ _ _ _ _ _ _ _ _ (Sl.of_own ox) (Sl.of_own oy)).mono ?_
    rintro e w4 ⟨rfl, st4⟩
    rw [decide_eq_true rfl]
    replace o1 := own_on o1 st4
    replace ox := own_on ox st4
    replace oy := own_on oy st4
    replace HB := hid (HB.out.trans (st4.mono HB.out.size))
    clear st4
    clear oy
    have hnx : nx = n1 := by have := ox.1; simp [HSL.out] at this; omega
    subst hnx
    have hne : ((nx : Int) == 0) = false := by simp; omega
    have hne' : ¬ (nx : Int) = 0 := by omega
    have hne2 : ¬ nx = 0 := by omega
    have CX := hid (fun (W : World) (hs : Sl W W.heap.size Ax nx (sumI S l1)) => implSummedOf_any Ax nx cx (sumI S l1) W hs)
    rw [HNX.out] at CX
    clear CI CS
    go_wp2_with fail
    go_loopw [7] (fun f wr => ∃ F : Nat, f = .int .i64 F ∧ F ≤ 64 ∧ Hid (∃ j, j ≤ 6 ∧ F = 2 ^ j) ∧ wr.ownsRow 0 3 1 (.slice A1 nx c1) nx (ints l1) ∧ wr.ownsRow 0 3 1 (.slice Ax nx cx) nx (ints (sumI S l1)) ∧ Hid (Below w.heap.size w wr)) (fun f _ => 65 - (intOf f).toNat)
    case atStart => exact ⟨1, rfl, by omega, hid ⟨0, by omega, rfl⟩, o1, ox, HB⟩
    case round =>
      clear o1 ox HB
      obtain ⟨F, rfl, hF, HF, o1, ox, HB⟩ := hrel
      by_cases hF32 : F ≤ 32
      · have hFi : (F : Int) ≤ 32 := by omega
        have HF2 := hid (show ∃ j, j ≤ 6 ∧ 2 * F = 2 ^ j from by
          obtain ⟨j, hj, e⟩ := HF.out
          refine ⟨j + 1, ?_, by rw [e, Nat.pow_succ]; omega⟩
          rcases Nat.lt_or_ge j 6 with h | h
          · omega
          · obtain rfl : j = 6 := by omega
            rw [e] at hF32; omega)
        have HFJ := hid (show ∃ j, F = 2 ^ j from by obtain ⟨j, _, e⟩ := HF.out; exact ⟨j, e⟩)
        have hF1 : 1 ≤ F := by obtain ⟨j, e⟩ := HFJ.out; rw [e]; exact Nat.two_pow_pos j
        have CFF := hid (CF.out F)
        rw [HFA.out F (by omega)] at CFF
        have w0 : IntKind.i64.wrap (2 * (F : Int)) = 2 * (F : Int) := IntWalk.i64_in _ (by omega)
        go_wp2_with fail
        refine (CFF.out _ (Sl.of_own o1)).mono ?_
        rintro e w105 ⟨Ar, nr, cr, rfl, or, hnr, st105⟩
        replace o1 := own_on o1 st105
        replace ox := own_on ox st105
        replace HB := hid (HB.out.trans (st105.mono HB.out.size))
        clear st105
        replace or := own_mono (base' := 0) or (Nat.zero_le _)
        have hnr : nr = nx := by have := or.1; simp [HSL.out] at this; omega
        subst hnr
        have hnn : ((nr : Int) != (nr : Int)) = false := by simp
        obtain ⟨G, hG⟩ : ∃ G, F * (nr - 1) = G := ⟨_, rfl⟩
        have hGi : (F : Int) * ((nr : Int) - 1) = (G : Int) := by rw [← hG, show (nr : Int) - 1 = ((nr - 1 : Nat) : Int) by omega]; exact_mod_cast rfl
        have hGb : G ≤ 480 := by rw [← hG]; exact Nat.le_trans (Nat.mul_le_mul hF32 (show nr - 1 ≤ 15 by omega)) (by omega)
        have HV := hid (fun k hk => HFV.out F k HFJ.out hk)
        rw [hG] at HV
        have HGI := hid hGi
        clear CFF hG hGi
        go_wp2_with fail
        go_loopw [9] (fun i wr => ∃ k : Nat, i = .int .i64 k ∧ k ≤ nr ∧ wr.ownsRow 0 3 1 (.slice A1 nr c1) nr (ints l1) ∧ wr.ownsRow 0 3 1 (.slice Ax nr cx) nr (ints (sumI S l1)) ∧ wr.ownsRow 0 3 1 (.slice Ar nr cr) nr (ints (sumI F l1)) ∧ Hid (Below w.heap.size w wr)) (fun i _ => nr - (intOf i).toNat)
        case atStart => exact ⟨0, rfl, Nat.zero_le _, o1, ox, or, HB⟩
        case round =>
          clear o1 ox or HB
          obtain ⟨k, rfl, hk, o1, ox, or, HB⟩ := hrel
          by_cases hlt : k < nr
          · obtain ⟨g1, cg1, hsh1, _, _⟩ := own_shape1 o1 (by omega)
            injection hsh1 with q1 q2 q3
            subst q1
            clear q2 q3
            obtain ⟨gr, cgr, hshr, _, _⟩ := own_shape1 or (by omega)
            injection hshr with q1 q2 q3
            subst q1
            clear q2 q3
            obtain ⟨p, hp⟩ : ∃ p, (k + F) % nr = p := ⟨_, rfl⟩
            obtain ⟨q, hq⟩ : ∃ q, (k + G) % nr = q := ⟨_, rfl⟩
            have hpn : p < nr := by rw [← hp]; exact Nat.mod_lt _ (by omega)
            have hqn : q < nr := by rw [← hq]; exact Nat.mod_lt _ (by omega)
            have m1 : ((k : Int) + (F : Int)).tmod (nr : Int) = (p : Int) := by rw [Int.tmod_eq_emod_of_nonneg (by omega), ← hp]; norm_cast
            have m2 : ((k : Int) + (G : Int)).tmod (nr : Int) = (q : Int) := by rw [Int.tmod_eq_emod_of_nonneg (by omega), ← hq]; norm_cast
            have x0 := own_cell o1 HL.out hpn
            have x1 := own_cell o1 HL.out hqn
            have x2 := own_cell or (HSL.out F) hlt
            have hv := HV.out k hlt
            rw [hp, hq] at hv
            have b0 := HBI.out p
            have b1 := HBI.out q
            obtain ⟨x, hx⟩ : ∃ x, nth l1 p = x := ⟨_, rfl⟩
            obtain ⟨y, hy⟩ : ∃ y, nth l1 q = y := ⟨_, rfl⟩
            rw [hx] at x0 hv b0
            rw [hy] at x1 hv b1
            rw [hv] at x2
            have hgi := HGI.out
            have m3 : (x + y).tmod 2 = (x + y) % 2 := Int.tmod_eq_emod_of_nonneg (by omega)
            have hlti : (k : Int) < (nr : Int) := by omega
            have hpi : (p : Int) < (nr : Int) := by omega
            have hqi : (q : Int) < (nr : Int) := by omega
            have hp0 : (0 : Int) ≤ (p : Int) := by omega
            have hq0 : (0 : Int) ≤ (q : Int) := by omega
            have hk0 : (0 : Int) ≤ (k : Int) := by omega
            have w1 : IntKind.i64.wrap ((k : Int) + (F : Int)) = (k : Int) + (F : Int) := IntWalk.i64_in _ (by omega)
            have w2 : IntKind.i64.wrap ((nr : Int) - 1) = (nr : Int) - 1 := IntWalk.i64_in _ (by omega)
            have w3 : IntKind.i64.wrap ((F : Int) * ((nr : Int) - 1)) = (G : Int) := by rw [hgi]; exact IntWalk.i64_in _ (by omega)
            have w4 : IntKind.i64.wrap ((k : Int) + (G : Int)) = (k : Int) + (G : Int) := IntWalk.i64_in _ (by omega)
            have w5 : IntKind.i64.wrap (x + y) = x + y := IntWalk.i64_in _ (by omega)
            have w6 : IntKind.i64.wrap ((x + y) % 2) = (x + y) % 2 := IntWalk.i64_in _ (by omega)
            have hnn2 : ((x + y) % 2 != (x + y) % 2) = false := by simp
            clear hx hy hp hq hv hgi
            go_wp2
            go_quiet (fail)
            go_wp2
            go_roundw
            case rel => exact ⟨k + 1, by go_num, by omega, own_kept_none o1 (drewN_gA _ _), own_kept_none ox (drewN_gA _ _), own_kept_none or (drewN_gA _ _), hid (below_drewN HB.out _)⟩
            case measure => simp [intOf]; omega
          · obtain rfl : k = nr := by omega
            go_wp2
            go_roundw
            case rel => exact ⟨2 * F, by go_num, by omega, HF2, o1, ox, HB⟩
            case measure => simp [intOf]; omega
      · have hF64 : F = 64 := by
          obtain ⟨j, hj, e⟩ := HF.out
          rcases (show j = 0 ∨ j = 1 ∨ j = 2 ∨ j = 3 ∨ j = 4 ∨ j = 5 ∨ j = 6 by omega) with rfl | rfl | rfl | rfl | rfl | rfl | rfl <;> omega
        subst hF64
        have wS : IntKind.i64.wrap ((S : Int) + 1) = (S : Int) + 1 := IntWalk.i64_in _ (by omega)
        by_cases hS2 : S < 1000
        · rw [HMO.out.1 hS2] at CM
          go_wp2_with fail
          refine (CM.out _ (Sl.of_own o1)).mono ?_
          rintro e w206 ⟨Am, nm, cm, rfl, om, hnm, st206⟩
          replace o1 := own_on o1 st206
          replace ox := own_on ox st206
          replace HB := hid (HB.out.trans (st206.mono HB.out.size))
          clear st206
          replace om := own_mono (base' := 0) om (Nat.zero_le _)
          have hnm : nm = nx := by have := om.1; simp [HSL.out] at this; omega
          subst hnm
          go_wp2_with fail
          refine (CX.out _ (Sl.of_own ox)).mono ?_
          rintro e w207 ⟨Az, nz, cz, rfl, oz, hnz, st207⟩
          replace o1 := own_on o1 st207
          replace ox := own_on ox st207
          replace om := own_on om st207
          replace HB := hid (HB.out.trans (st207.mono HB.out.size))
          clear st207
          replace oz := own_mono (base' := 0) oz (Nat.zero_le _)
          go_wp2_with fail
          refine (sameInts_b _ _ _ _ _ _ _ _ _ _ _ (Sl.of_own om) (Sl.of_own oz)).mono ?_
          rintro e w208 ⟨rfl, st208⟩
          rw [decide_eq_true rfl]
          replace o1 := own_on o1 st208
          replace ox := own_on ox st208
          replace om := own_on om st208
          replace oz := own_on oz st208
          replace HB := hid (HB.out.trans (st208.mono HB.out.size))
          clear st208
          go_wp2_with fail
          refine (alive_any _).mono ?_
          rintro e w209 ⟨rfl, st209⟩
          replace o1 := own_on o1 st209
          replace ox := own_on ox st209
          replace om := own_on om st209
          replace oz := own_on oz st209
          replace HB := hid (HB.out.trans (st209.mono HB.out.size))
          clear st209
          go_wp2
          go_ret
          exact ⟨rfl, HB.out⟩
        · rw [HMO.out.2 (by omega)] at CM
          go_wp2_with fail
          refine (CM.out _ (Sl.of_own o1)).mono ?_
          rintro e w206 ⟨Am, nm, cm, rfl, om, hnm, st206⟩
          replace o1 := own_on o1 st206
          replace ox := own_on ox st206
          replace HB := hid (HB.out.trans (st206.mono HB.out.size))
          clear st206
          replace om := own_mono (base' := 0) om (Nat.zero_le _)
          obtain rfl : nm = 0 := by have := om.1; simpa using this.symm
          go_wp2_with fail
          refine (alive_any _).mono ?_
          rintro e w207 ⟨rfl, st207⟩
          replace o1 := own_on o1 st207
          replace ox := own_on ox st207
          replace om := own_on om st207
          replace HB := hid (HB.out.trans (st207.mono HB.out.size))
          clear st207
          go_wp2
          go_ret
          exact ⟨rfl, HB.out⟩
end Go.Proofs.Ythncjopbagkdcaa
