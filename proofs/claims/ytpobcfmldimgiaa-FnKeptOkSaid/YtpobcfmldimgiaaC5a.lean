/-
  Walks of the model's SwappedAt, AfterSteps, InOrderOk, StepsToOrder. No statement is proved here.
-/
import Derived.Test.YtpobcfmldimgiaaC5
import Derived.Test.YtpobcfmldimgiaaS5d
import Derived.BigQuiet
import Derived.Deep.QuietTactic
namespace Go.Proofs.Ytpobcfmldimgiaa
open Go.RowKit
set_option linter.unusedVariables false
set_option linter.unusedSimpArgs false

set_option maxHeartbeats 1600000 in
theorem specSwappedAt_any (A : Option Addr) (n c : Nat) (l : List Int) (s : Int) (w : World) (hs : Sl w w.heap.size A n l) :
    Calls Try.prog 24 #[.slice A n c, .int .i64 s] w fun e w' => ∃ A2 m c2, e = .returned (.slice A2 m c2) ∧ w'.ownsRow w.heap.size 3 1 (.slice A2 m c2) m (ints (swapOut l s)) ∧ m ≤ 14 ∧ Below w.heap.size w w' := by
  have ho0 : (w.alloc (.cells #[] 3)).ownsRow w.heap.size 3 1 (.slice (some ⟨w.heap.size, 0, none⟩) 0 0) 0 (ints []) := World.ownsRow_lit w #[] 0 (Nat.le_refl _) (by simp [maxLen]) rfl
  have hb0 : Below w.heap.size w (w.alloc (.cells #[] 3)) := (Below.refl _ _).alloc (Nat.le_refl _) _
  by_cases h1 : keptOk l = true
  · by_cases h2 : within s 0 60 = true
    · have hk := (keptOk_iff.1 h1).2
      rw [hs.len] at hk
      have hb := within_iff.1 h2
      obtain ⟨K, rfl⟩ : ∃ K : Nat, s = K := Int.eq_ofNat_of_zero_le hb.1
      have HV := hid (show swapOut l (K : Int) = stepS ltZ K l from by rw [swapOut_yes h1 h2, Int.toNat_natCast])
      go_enter Try.func24, Try.ntmps24
      go_wp2_with (first | (go_at_call 19; refine (specKeptOk_any _ _ _ l _ _ hs).mono ?_; rintro e w' ⟨rfl, rfl⟩) | (go_at_call 47; refine (l1In_any _ _ _ _).mono ?_; rintro e w' ⟨rfl, rfl⟩))
      refine (l5Swap_any A n c l K _ hs hk.1 hk.2 (by omega)).mono ?_
      rintro e w1 ⟨A2, c2, rfl, ho, hb1⟩
      have HO := hid ho
      clear ho ho0 hb0
      go_wp2
      go_ret
      exact ⟨_, n, _, rfl, by rw [HV.out]; exact HO.out, hk.2, hb1⟩
    · have h2' : within s 0 60 = false := by simpa using h2
      have HV := hid (swapOut_no (l := l) (s := s) (by rw [h2']; simp))
      go_enter Try.func24, Try.ntmps24
      go_wp2_with (first | (go_at_call 19; refine (specKeptOk_any _ _ _ l _ _ hs).mono ?_; rintro e w' ⟨rfl, rfl⟩) | (go_at_call 47; refine (l1In_any _ _ _ _).mono ?_; rintro e w' ⟨rfl, rfl⟩))
      go_ret
      exact ⟨_, 0, 0, rfl, by rw [HV.out]; exact ho0, by omega, hb0⟩
  · have h1' : keptOk l = false := by simpa using h1
    have HV := hid (swapOut_no (l := l) (s := s) (by rw [h1']; simp))
    go_enter Try.func24, Try.ntmps24
    go_wp2_with (first | (go_at_call 19; refine (specKeptOk_any _ _ _ l _ _ hs).mono ?_; rintro e w' ⟨rfl, rfl⟩) | (go_at_call 47; refine (l1In_any _ _ _ _).mono ?_; rintro e w' ⟨rfl, rfl⟩))
    go_ret
    exact ⟨_, 0, 0, rfl, by rw [HV.out]; exact ho0, by omega, hb0⟩

set_option maxHeartbeats 1600000 in
theorem specAfterSteps_any (A : Option Addr) (n c : Nat) (l : List Int) (s : Int) (w : World) (hs : Sl w w.heap.size A n l) :
    Calls Try.prog 28 #[.slice A n c, .int .i64 s] w fun e w' => ∃ A2 m c2, e = .returned (.slice A2 m c2) ∧ w'.ownsRow w.heap.size 3 1 (.slice A2 m c2) m (ints (afterOut l s)) ∧ m ≤ 14 ∧ Below w.heap.size w w' := by
  obtain ⟨i0, hi, hz0, hz1, hz2⟩ := info_parts info_int
  have ho0 : (w.alloc (.cells #[] 3)).ownsRow w.heap.size 3 1 (.slice (some ⟨w.heap.size, 0, none⟩) 0 0) 0 (ints []) := World.ownsRow_lit w #[] 0 (Nat.le_refl _) (by simp [maxLen]) rfl
  have hb0 : Below w.heap.size w (w.alloc (.cells #[] 3)) := (Below.refl _ _).alloc (Nat.le_refl _) _
  by_cases h1 : keptOk l = true
  · by_cases h2 : within s 0 60 = true
    · have hk := (keptOk_iff.1 h1).2
      have HL := hid hs.len
      rw [hs.len] at hk
      have hb := within_iff.1 h2
      obtain ⟨K, rfl⟩ : ∃ K : Nat, s = K := Int.eq_ofNat_of_zero_le hb.1
      have HV := hid (show afterOut l (K : Int) = afterS ltZ l K from by rw [afterOut_yes h1 h2, Int.toNat_natCast])
      have hs1 := hs.on hb0
      obtain ⟨bl, off, rfl, hbl, hc⟩ := hs.2.2 (by omega)
      clear hc
      go_enter Try.func28, Try.ntmps28
      go_wp2_with (first | (go_at_call 19; refine (specKeptOk_any _ _ _ l _ _ hs).mono ?_; rintro e w' ⟨rfl, rfl⟩) | (go_at_call 47; refine (l1In_any _ _ _ _).mono ?_; rintro e w' ⟨rfl, rfl⟩) | (at_builtin; refine wpList_append_own _ rfl (.tmp 16) (.tmp 17) 23 rfl w.heap.size 3 i0 (.int .i64 0) 1 8 Try.underlying23 hi hz0 hz1 hz2 rfl (by decide) (.slice (some ⟨w.heap.size, 0, none⟩) 0 0) _ _ rfl ho0 ⟨bl, off, none⟩ n c (ints l) rfl (by rw [List.length_map, HL.out, Nat.mul_one]) hs1.cellsAt (ints_one l) (by simp only [maxLen]; omega) (by omega) hb0.size ?_; intro v2 w2 o2 g2 _))
      obtain ⟨g, c2, rfl, hbg, hlt2⟩ := own_shape1 o2 (by omega)
      have hb1 := hb0.grown g2 hb0.size (by intro j hj; simp [Value.ownBlock] at hj; omega)
      rw [show ints [] ++ ints l = ints (afterS ltZ l 0) from rfl] at o2
      simp only [Nat.zero_add] at o2
      clear hb0 hs1 ho0 g2 hs
      simp only [Nat.zero_add]
      have HB := hid hb1
      clear hb1
      go_loopw [5, 6] (fun v i wr => ∃ (A3 : Option Addr) (c3 k : Nat), v = .slice A3 n c3 ∧ i = .int .i64 k ∧ k ≤ K ∧ wr.ownsRow w.heap.size 3 1 (.slice A3 n c3) n (ints (afterS ltZ l k)) ∧ Hid (Below w.heap.size w wr)) (fun _ i _ => K - (intOf i).toNat)
      case atStart => exact ⟨_, _, 0, rfl, rfl, Nat.zero_le _, o2, HB⟩
      case round =>
        clear o2 HB
        obtain ⟨A3, c3, k, rfl, rfl, hkk, o2, HB⟩ := hrel
        by_cases hlt : k < K
        · have hlt' : (k : Int) < (K : Int) := by omega
          go_wp2_with fail
          refine (l5Swap_any A3 n c3 _ k _ (Sl.of_own o2) hk.1 hk.2 (by omega)).mono ?_
          rintro e w3 ⟨A4, c4, rfl, o4, b4⟩
          have O4 := hid (own_mono o4 HB.out.size)
          replace HB := hid (HB.out.trans (b4.mono HB.out.size))
          clear o2 o4 b4
          go_wp2
          go_roundw
          case rel => exact ⟨_, _, k + 1, rfl, by go_num, by omega, O4.out, HB⟩
          case measure => simp [intOf]; omega
        · obtain rfl : k = K := by omega
          have O2 := hid o2
          clear o2
          go_wp2
          go_ret
          exact ⟨_, n, _, rfl, by rw [HV.out]; exact O2.out, hk.2, HB.out⟩
    · have h2' : within s 0 60 = false := by simpa using h2
      have HV := hid (afterOut_no (l := l) (s := s) (by rw [h2']; simp))
      go_enter Try.func28, Try.ntmps28
      go_wp2_with (first | (go_at_call 19; refine (specKeptOk_any _ _ _ l _ _ hs).mono ?_; rintro e w' ⟨rfl, rfl⟩) | (go_at_call 47; refine (l1In_any _ _ _ _).mono ?_; rintro e w' ⟨rfl, rfl⟩))
      go_ret
      exact ⟨_, 0, 0, rfl, by rw [HV.out]; exact ho0, by omega, hb0⟩
  · have h1' : keptOk l = false := by simpa using h1
    have HV := hid (afterOut_no (l := l) (s := s) (by rw [h1']; simp))
    go_enter Try.func28, Try.ntmps28
    go_wp2_with (first | (go_at_call 19; refine (specKeptOk_any _ _ _ l _ _ hs).mono ?_; rintro e w' ⟨rfl, rfl⟩) | (go_at_call 47; refine (l1In_any _ _ _ _).mono ?_; rintro e w' ⟨rfl, rfl⟩))
    go_ret
    exact ⟨_, 0, 0, rfl, by rw [HV.out]; exact ho0, by omega, hb0⟩

set_option maxHeartbeats 1600000 in
theorem specInOrderOk_any (A : Option Addr) (n c : Nat) (l : List Int) (w : World) (hs : Sl w w.heap.size A n l) :
    Calls Try.prog 31 #[.slice A n c] w fun e w' => e = .returned (.bool (orderOk l)) ∧ w.grownBy w' none := by
  have hm := hs.max
  have HL := hid hs.len
  go_enter Try.func31, Try.ntmps31
  go_wp2
  go_loopw [3] (fun i wr => ∃ k m : Nat, i = .int .i64 k ∧ 1 ≤ k ∧ k ≤ n + 1 ∧ wr = w.drewN m ∧ Hid (ordS ltZ (l.take k) = true)) (fun i _ => n + 2 - (intOf i).toNat)
  case atStart => exact ⟨1, 0, rfl, by omega, by omega, rfl, hid (by match l with | [] => rfl | _ :: _ => rfl)⟩
  case round =>
    obtain ⟨k, m, rfl, hk1, hk, rfl, HA⟩ := hrel
    by_cases hlt : k < n
    · obtain ⟨b, off, rfl, _, hc⟩ := hs.2.2 (by omega)
      have hck := hc k hlt
      have hcp := hc (k - 1) (by omega)
      clear hc
      have hn1 := ordS_next (l := l) hk1 (by rw [HL.out]; exact hlt)
      rw [HA.out, Bool.true_and] at hn1
      have e0 : ((k : Int) - 1).toNat = k - 1 := by omega
      have e1 : (0 : Int) ≤ (k : Int) - 1 := by omega
      have e2 : (k : Int) - 1 < (n : Int) := by omega
      obtain ⟨x, hx⟩ : ∃ x, nth l k = x := ⟨_, rfl⟩
      obtain ⟨y, hy⟩ : ∃ y, nth l (k - 1) = y := ⟨_, rfl⟩
      rw [hx] at hck hn1
      rw [hy] at hcp hn1
      clear hx hy
      by_cases hxy : x < y
      · have HF := hid (show orderOk l = false from by unfold orderOk; rw [ordS_take_false (k := k + 1) (by rw [hn1]; simp [hxy])]; rfl)
        clear hn1
        go_wp2
        go_quiet (fail)
        go_wp2
        go_ret
        exact ⟨ret_bool HF.out.symm, (drewN_grown _ _).trans (drewN_grown _ _)⟩
      · have HN := hid (show ordS ltZ (l.take (k + 1)) = true from by rw [hn1]; simp [hxy])
        have hxy' : decide (x < y) = false := by simpa using hxy
        clear hn1 hxy
        go_wp2
        go_quiet (fail)
        go_wp2
        go_roundw
        case rel => exact ⟨k + 1, _, by go_num, by omega, by omega, rfl, HN⟩
        case measure => simp [intOf]; omega
    · have HO := hid (show ordS ltZ l = true from by have := HA.out; rwa [List.take_of_length_le (by rw [HL.out]; omega)] at this)
      have hs2 : Sl (w.drewN m) (w.drewN m).heap.size A n l := hs.on (below_drewN (Below.refl _ _) m)
      go_wp2_with (go_at_call 19; refine (specKeptOk_any _ _ _ l _ _ hs2).mono ?_; rintro e w' ⟨rfl, rfl⟩)
      go_ret
      exact ⟨ret_bool (by unfold orderOk; rw [HO.out]; rfl), drewN_grown _ _⟩

set_option maxHeartbeats 1600000 in
theorem specStepsToOrder_any (A : Option Addr) (n c : Nat) (l : List Int) (w : World) (hs : Sl w w.heap.size A n l) :
    Calls Try.prog 34 #[.slice A n c] w fun e w' => e = .returned (.int .i64 (stepsOut l)) ∧ Below w.heap.size w w' := by
  have HL := hid hs.len
  by_cases h1 : keptOk l = true
  · obtain ⟨S, _, hS1, hS2, hS3⟩ := steps_have h1
    have hk := (keptOk_iff.1 h1).2
    rw [hs.len] at hk hS1
    have HV := hid (stepsOut_at h1 (by omega) hS2 hS3)
    have HS2 := hid hS2
    have HS3 := hid hS3
    have HK := hid (fun k => kept_after h1 k)
    have CA := hid (fun (k : Nat) (W : World) (hb : Below w.heap.size w W) => specAfterSteps_any A n c l k W (hs.on hb))
    have HA := hid (fun (k : Nat) (hk : k ≤ 60) => show afterOut l (k : Int) = afterS ltZ l k from by rw [afterOut_yes h1 (within_iff.2 (by omega)), Int.toNat_natCast])
    clear hS2 hS3
    go_enter Try.func34, Try.ntmps34
    go_wp2
    go_loopw [3] (fun i wr => ∃ k : Nat, i = .int .i64 k ∧ k ≤ S ∧ Hid (Below w.heap.size w wr)) (fun i _ => S + 1 - (intOf i).toNat)
    case atStart => exact ⟨0, rfl, Nat.zero_le _, hid (Below.refl _ _)⟩
    case round =>
      obtain ⟨k, rfl, hkS, HB⟩ := hrel
      have hs2 := hs.on HB.out
      have C1 := hid (CA.out k)
      rw [HA.out k (by omega)] at C1
      have hk14 : (k : Int) ≤ 14 := by omega
      obtain ⟨m, hm⟩ : ∃ m, afterS ltZ l k = m := ⟨_, rfl⟩
      by_cases hlt : k < S
      · have ho : orderOk m = false := by unfold orderOk; rw [← hm, HS2.out k hlt]; rfl
        rw [hm] at C1
        clear hm
        go_wp2_with (go_at_call 19; refine (specKeptOk_any _ _ _ l _ _ hs2).mono ?_; rintro e w' ⟨rfl, rfl⟩)
        with_reducible refine Calls.mono (C1.out _ HB.out) ?_
        rintro e w1 ⟨A2, m2, c2, rfl, o2, hm2, b2⟩
        replace HB := hid (HB.out.trans (b2.mono HB.out.size))
        go_wp2_with fail
        refine (specInOrderOk_any A2 m2 c2 m _ (Sl.of_own o2)).mono ?_
        rintro e w3 ⟨rfl, g3⟩
        rw [ho]
        replace HB := hid (HB.out.trans ((below_grown g3).mono HB.out.size))
        clear hs2 o2 b2 g3
        go_wp2
        go_roundw
        case rel => exact ⟨k + 1, by go_num, by omega, HB⟩
        case measure => simp [intOf]; omega
      · obtain rfl : k = S := by omega
        have ho : orderOk m = true := by unfold orderOk; rw [← hm, HS3.out, HK.out]; rfl
        rw [hm] at C1
        clear hm
        go_wp2_with (go_at_call 19; refine (specKeptOk_any _ _ _ l _ _ hs2).mono ?_; rintro e w' ⟨rfl, rfl⟩)
        with_reducible refine Calls.mono (C1.out _ HB.out) ?_
        rintro e w1 ⟨A2, m2, c2, rfl, o2, hm2, b2⟩
        replace HB := hid (HB.out.trans (b2.mono HB.out.size))
        go_wp2_with fail
        refine (specInOrderOk_any A2 m2 c2 m _ (Sl.of_own o2)).mono ?_
        rintro e w3 ⟨rfl, g3⟩
        rw [ho]
        replace HB := hid (HB.out.trans ((below_grown g3).mono HB.out.size))
        clear hs2 o2 b2 g3
        go_wp2
        go_ret
        exact ⟨ret_int HV.out.symm, HB.out⟩
  · have h1' : keptOk l = false := by simpa using h1
    have HV := hid (stepsOut_no h1')
    go_enter Try.func34, Try.ntmps34
    go_wp2
    go_loopw [3] (fun i wr => i = .int .i64 0 ∧ wr = w) (fun i _ => 0)
    case atStart => exact ⟨rfl, rfl⟩
    case round =>
      obtain ⟨rfl, rfl⟩ := hrel
      go_wp2_with (go_at_call 19; refine (specKeptOk_any _ _ _ l _ _ hs).mono ?_; rintro e w' ⟨rfl, rfl⟩)
      go_ret
      exact ⟨ret_int HV.out.symm, Below.refl _ _⟩
end Go.Proofs.Ytpobcfmldimgiaa
