/-
  Walks of the program's KeptOk, a step (parity.swapped), SwappedAt, InOrderOk, BoundsOf, AstrayOf. No statement is proved here.
-/
import Derived.Test.YtpobcfmldimgiaaC1a
import Derived.Test.YtpobcfmldimgiaaS5d
import Derived.Test.YtpobcfmldimgiaaEx0
import Derived.OwnWalk
import Derived.IntWalk
import Derived.BigQuiet
import Derived.Deep.QuietTactic
import Derived.Deep.RegionHeld3
namespace Go.Proofs.Ytpobcfmldimgiaa
open Go.RowKit
set_option linter.unusedVariables false
set_option linter.unusedSimpArgs false

theorem drewI_grown (w : World) (m : Nat) : w.grownBy (w.drewN m) none := ⟨rfl, rfl, rfl, Nat.le_refl _, fun _ _ _ => rfl⟩

set_option maxHeartbeats 800000 in
theorem keptI_any (A : Option Addr) (n c : Nat) (l : List Int) (w : World) (B : Nat) (hs : Sl w B A n l) :
    Calls Try.prog 18 #[.slice A n c] w fun e w' => e = .returned (.bool (keptOk l)) ∧ w = w' := by
  have hm := hs.max
  have HL := hid hs.len
  by_cases h2 : 1 ≤ n
  · by_cases h3 : n ≤ 14
    · go_enter Try.func18, Try.ntmps18
      go_wp2_with (go_at_call 46; refine (allWithin_any _ _ _ l _ _ _ _ hs).mono ?_; rintro e w' ⟨rfl, rfl⟩)
      go_ret
      exact ⟨ret_bool (by unfold keptOk within; rw [HL.out]; simp; omega), rfl⟩
    · have h3' : decide ((n : Int) ≤ 14) = false := by simp; omega
      go_enter Try.func18, Try.ntmps18
      go_wp2_with (go_at_call 46; refine (allWithin_any _ _ _ l _ _ _ _ hs).mono ?_; rintro e w' ⟨rfl, rfl⟩)
      go_ret
      exact ⟨ret_bool (by unfold keptOk within; rw [HL.out]; simp; omega), rfl⟩
  · have h2' : decide (1 ≤ (n : Int)) = false := by simp; omega
    go_enter Try.func18, Try.ntmps18
    go_wp2_with (go_at_call 46; refine (allWithin_any _ _ _ l _ _ _ _ hs).mono ?_; rintro e w' ⟨rfl, rfl⟩)
    go_ret
    exact ⟨ret_bool (by unfold keptOk within; rw [HL.out]; simp; omega), rfl⟩

theorem implKeptOk_any (A : Option Addr) (n c : Nat) (l : List Int) (w : World) (hs : Sl w w.heap.size A n l) :
    Calls Try.prog 18 #[.slice A n c] w fun e w' => e = .returned (.bool (keptOk l)) ∧ Below w.heap.size w w' := by
  refine (keptI_any A n c l w _ hs).mono ?_
  rintro e w' ⟨rfl, rfl⟩
  exact ⟨rfl, Below.refl _ _⟩

theorem stepsOk_any (s : Int) (w : World) :
    Calls Try.prog 50 #[.int .i64 s] w fun e w' => e = .returned (.bool (within s 0 60)) ∧ w = w' := by
  by_cases h1 : 0 ≤ s
  · go_enter Try.func50, Try.ntmps50
    go_wp2
    go_ret
    exact ⟨ret_bool (by simp [within, h1]), rfl⟩
  · have h1' : decide (0 ≤ s) = false := by simpa using h1
    go_enter Try.func50, Try.ntmps50
    go_wp2
    go_ret
    exact ⟨ret_bool (by simp [within]; omega), rfl⟩

theorem parityOf_any (K p : Nat) (hp : K % 2 = p) (w : World) :
    Calls Try.prog 51 #[.int .i64 K] w fun e w' => e = .returned (.int .i64 p) ∧ w = w' := by
  have m1 : (K : Int).tmod 2 = ((K % 2 : Nat) : Int) := by rw [Int.tmod_eq_emod_of_nonneg (by omega)]; omega
  go_enter Try.func51, Try.ntmps51
  go_wp2
  go_ret
  exact ⟨ret_int (by omega), rfl⟩

set_option maxHeartbeats 800000 in
theorem clone5_any (b off n c : Nat) (l : List Int) (w : World) (hs : Sl w w.heap.size (some ⟨b, off, none⟩) n l) (hn : n ≤ 100000) (h1 : 1 ≤ n) :
    Calls Try.prog 60 #[.slice (some ⟨b, off, none⟩) n c] w fun e w' => ∃ g c3, e = .returned (.slice (some ⟨g, 0, none⟩) n c3) ∧ w.heap.size ≤ g ∧ w'.ownsRow w.heap.size 3 1 (.slice (some ⟨g, 0, none⟩) n c3) n (ints l) ∧ Below w.heap.size w w' := by
  obtain ⟨i0, hi, hz0, hz1, hz2⟩ := info_parts info_int
  have ho0 : (w.alloc (.cells #[] 3)).ownsRow w.heap.size 3 1 (.slice (some ⟨w.heap.size, 0, none⟩) 0 0) 0 (ints []) := World.ownsRow_lit w #[] 0 (Nat.le_refl _) (by simp [maxLen]) rfl
  have hb0 : Below w.heap.size w (w.alloc (.cells #[] 3)) := (Below.refl _ _).alloc (Nat.le_refl _) _
  have HL := hid hs.len
  have s1 := hs.on hb0
  have hnil := fun W : World => Lib.run_eql_slice_nil (P := Try.prog) W 23 3 (some ⟨b, off, none⟩) n c 0 0 Try.underlying23
  go_enter Try.func60, Try.ntmps60
  go_wp2_with (at_builtin; refine wpList_append_own _ rfl (.tmp 5) (.tmp 6) 23 rfl w.heap.size 3 i0 (.int .i64 0) 1 8 Try.underlying23 hi hz0 hz1 hz2 rfl (by decide) (.slice (some ⟨w.heap.size, 0, none⟩) 0 0) _ _ rfl ho0 ⟨b, off, none⟩ n c (ints l) rfl (by rw [List.length_map, HL.out, Nat.mul_one]) s1.cellsAt (ints_one l) (by simp only [maxLen]; omega) (by omega) hb0.size ?_; intro v2 w2 o2 g2 _; rw [Nat.zero_add] at o2; obtain ⟨g3, c3, rfl, hb3, hlt3⟩ := own_shape1 o2 (by omega))
  have b2 := hb0.grown g2 hb0.size (by intro j hj; simp [Value.ownBlock] at hj; omega)
  go_wp2
  go_ret
  exact ⟨_, _, rfl, hb3, o2, b2⟩

set_option maxRecDepth 100000 in
set_option maxHeartbeats 3200000 in
theorem swapped_any (A : Option Addr) (n c : Nat) (l : List Int) (K p : Nat) (hp : K % 2 = p) (w : World) (hs : Sl w w.heap.size A n l) (h1 : 1 ≤ n) (hn : n ≤ 14) :
    Calls Try.prog 52 #[.int .i64 p, .slice A n c] w fun e w' => ∃ A2 c2, e = .returned (.slice A2 n c2) ∧ w'.ownsRow w.heap.size 3 1 (.slice A2 n c2) n (ints (stepS ltZ K l)) ∧ Below w.heap.size w w' := by
  have HL := hid hs.len
  obtain ⟨bl, off, rfl, hbl, hc⟩ := hs.2.2 (by omega)
  clear hc
  have hp2 : p < 2 := by omega
  go_enter Try.func52, Try.ntmps52
  go_wp2_with (go_at_call 60; refine (clone5_any bl off n c l _ hs (by omega) h1).mono ?_; rintro e w' ⟨g, c2, rfl, hbg, o2, hb1⟩)
  rw [show ints l = ints (curS l K p) from by rw [← hp, curS_start]] at o2
  clear hs
  have HB := hid hb1
  clear hb1
  go_loopw [6] (fun i wr => ∃ k : Nat, i = .int .i64 k ∧ k ≤ n + 1 ∧ k % 2 = p ∧ wr.ownsRow w.heap.size 3 1 (.slice (some ⟨g, 0, none⟩) n c2) n (ints (curS l K k)) ∧ Hid (Below w.heap.size w wr)) (fun i _ => n + 3 - (intOf i).toNat)
  case atStart => exact ⟨p, by simp, by omega, by omega, o2, HB⟩
  case round =>
    clear o2 HB
    obtain ⟨k, rfl, hk, hpk, o2, HB⟩ := hrel
    have hp' : k % 2 = K % 2 := by rw [hp]; exact hpk
    by_cases hlt : k + 1 < n
    · have hlen : (curS l K k).length = n := by rw [curS_len (by rw [HL.out]; omega), HL.out]
      have hx := own_cell o2 hlen (show k < n by omega)
      have hy := own_cell o2 hlen hlt
      have hat := curS_at (l := l) (K := K) (k := k) (by rw [HL.out]; exact hlt)
      rw [hat.1] at hx
      rw [hat.2] at hy
      clear hat
      have e0 : ((k : Int) + 1).toNat = k + 1 := by omega
      have e1 : (0 : Int) ≤ (k : Int) + 1 := by omega
      have e2 : (k : Int) + 1 < (n : Int) := by omega
      have e3 : (k : Int) < (n : Int) := by omega
      by_cases hsw : nth l (k + 1) < nth l k
      · have HE := hid (curS_swap (l := l) hp' (by rw [HL.out]; exact hlt) hsw)
        obtain ⟨x, hxe⟩ : ∃ x, nth l k = x := ⟨_, rfl⟩
        obtain ⟨y, hye⟩ : ∃ y, nth l (k + 1) = y := ⟨_, rfl⟩
        rw [hxe] at hx HE hsw
        rw [hye] at hy HE hsw
        clear hxe hye hlen
        have hf1 := o2.frozenAt k
        have hf2 := o2.frozenAt (k + 1)
        have OO := hid (fun m => (own_kept_none o2 (drewI_grown wr m)).stored k (.int .i64 y))
        clear o2
        go_wp2
        go_quiet (fail)
        go_wp2
        go_region
        obtain ⟨p1, p2⟩ := OO.out (nq + 1)
        obtain ⟨q1, q2⟩ := p1.stored (k + 1) (.int .i64 x)
        rw [ints_set, ints_set, HE.out] at q1
        have Q1 := hid q1
        replace HB := hid (((below_drewN HB.out (nq + 1)).grown p2 HB.out.size (by intro j hj; cases hj; exact hbg)).grown q2 (by have := HB.out.size; simp [World.setCell]; omega) (by intro j hj; cases hj; exact hbg))
        clear p1 p2 q1 q2 OO
        go_wp2
        go_roundw
        case rel => exact ⟨k + 2, by go_num, by omega, by omega, Q1.out, HB⟩
        case measure => simp [intOf]; omega
      · have HE := hid (curS_keep (l := l) hp' (by rw [HL.out]; exact hlt) hsw)
        obtain ⟨x, hxe⟩ : ∃ x, nth l k = x := ⟨_, rfl⟩
        obtain ⟨y, hye⟩ : ∃ y, nth l (k + 1) = y := ⟨_, rfl⟩
        rw [hxe] at hx hsw
        rw [hye] at hy hsw
        have hsw' : decide (y < x) = false := by simpa using hsw
        clear hxe hye hlen hsw
        have OO := hid (fun m => own_kept_none o2 (drewI_grown wr m))
        clear o2
        go_wp2
        go_quiet (fail)
        go_wp2
        have Q1 := hid (OO.out nq)
        rw [HE.out] at Q1
        replace HB := hid (below_drewN HB.out nq)
        go_roundw
        case rel => exact ⟨k + 2, by go_num, by omega, by omega, Q1.out, HB⟩
        case measure => simp [intOf]; omega
    · have HE := hid (curS_end (l := l) hp' (by rw [HL.out]; omega))
      have hlt' : ¬ ((k : Int) + 1 < (n : Int)) := by omega
      rw [HE.out] at o2
      have Q1 := hid o2
      clear o2
      go_wp2
      go_ret
      exact ⟨_, _, rfl, Q1.out, HB.out⟩

set_option maxHeartbeats 1600000 in
theorem implSwappedAt_any (A : Option Addr) (n c : Nat) (l : List Int) (s : Int) (w : World) (hs : Sl w w.heap.size A n l) :
    Calls Try.prog 22 #[.slice A n c, .int .i64 s] w fun e w' => ∃ A2 m c2, e = .returned (.slice A2 m c2) ∧ w'.ownsRow w.heap.size 3 1 (.slice A2 m c2) m (ints (swapOut l s)) ∧ m ≤ 14 ∧ Below w.heap.size w w' := by
  by_cases h1 : keptOk l = true
  · by_cases h2 : within s 0 60 = true
    · have hk := (keptOk_iff.1 h1).2
      rw [hs.len] at hk
      have hb := within_iff.1 h2
      obtain ⟨K, rfl⟩ : ∃ K : Nat, s = K := Int.eq_ofNat_of_zero_le hb.1
      have HV := hid (show swapOut l (K : Int) = stepS ltZ K l from by rw [swapOut_yes h1 h2, Int.toNat_natCast])
      obtain ⟨p, hp⟩ : ∃ p, K % 2 = p := ⟨_, rfl⟩
      have HP := hid hp
      clear hp
      have CS := hid (swapped_any A n c l K p HP.out w hs hk.1 hk.2)
      go_enter Try.func22, Try.ntmps22
      go_wp2_with (first | (go_at_call 18; refine (keptI_any _ _ _ l _ _ hs).mono ?_; rintro e w' ⟨rfl, rfl⟩) | (go_at_call 50; refine (stepsOk_any _ _).mono ?_; rintro e w' ⟨rfl, rfl⟩) | (go_at_call 51; refine (parityOf_any _ p HP.out _).mono ?_; rintro e w' ⟨rfl, rfl⟩))
      with_reducible refine Calls.mono CS.out ?_
      rintro e w1 ⟨A2, c2, rfl, ho, hb1⟩
      have HO := hid ho
      clear ho
      go_wp2
      go_ret
      exact ⟨_, n, _, rfl, by rw [HV.out]; exact HO.out, hk.2, hb1⟩
    · have h2' : within s 0 60 = false := by simpa using h2
      have HV := hid (swapOut_no (l := l) (s := s) (by rw [h2']; simp))
      go_enter Try.func22, Try.ntmps22
      go_wp2_with (first | (go_at_call 18; refine (keptI_any _ _ _ l _ _ hs).mono ?_; rintro e w' ⟨rfl, rfl⟩) | (go_at_call 50; refine (stepsOk_any _ _).mono ?_; rintro e w' ⟨rfl, rfl⟩))
      go_ret
      exact ⟨_, 0, 0, rfl, by rw [HV.out]; exact World.ownsRow_nil _ _ _ _, by omega, Below.refl _ _⟩
  · have h1' : keptOk l = false := by simpa using h1
    have HV := hid (swapOut_no (l := l) (s := s) (by rw [h1']; simp))
    go_enter Try.func22, Try.ntmps22
    go_wp2_with (first | (go_at_call 18; refine (keptI_any _ _ _ l _ _ hs).mono ?_; rintro e w' ⟨rfl, rfl⟩) | (go_at_call 50; refine (stepsOk_any _ _).mono ?_; rintro e w' ⟨rfl, rfl⟩))
    go_ret
    exact ⟨_, 0, 0, rfl, by rw [HV.out]; exact World.ownsRow_nil _ _ _ _, by omega, Below.refl _ _⟩

theorem isNaN_any (x : Int) (w : World) :
    Calls Try.prog 64 #[.int .i64 x] w fun e w' => e = .returned (.bool false) ∧ w = w' := by
  go_enter Try.func64, Try.ntmps64
  go_wp2
  go_ret
  exact ⟨ret_bool (by simp), rfl⟩

theorem less_any (x y : Int) (w : World) :
    Calls Try.prog 62 #[.int .i64 x, .int .i64 y] w fun e w' => e = .returned (.bool (decide (x < y))) ∧ w = w' := by
  go_enter Try.func62, Try.ntmps62
  go_wp2_with (go_at_call 64; refine (isNaN_any _ _).mono ?_; rintro e w' ⟨rfl, rfl⟩)
  go_ret
  exact ⟨ret_bool (by simp), rfl⟩
theorem less_quiet (x y : Int) (w : World) (m a : Nat) :
    Calls Try.prog 62 #[.int .i64 x, .int .i64 y] (w.drewN (m + a)) fun e w'' => e = .returned (.bool (decide (x < y))) ∧ ∃ n, w'' = w.drewN (m + n) :=
  (less_any x y (w.drewN (m + a))).mono fun _ _ h => ⟨h.1, a, h.2.symm⟩

theorem ordS_tail : ∀ (k : Nat) {l : List Int}, ordS ltZ l = true → ordS ltZ (l.drop k) = true
  | 0, _, h => h
  | _ + 1, [], _ => by simp [ordS]
  | k + 1, [_], _ => by simp [ordS]
  | k + 1, _ :: b :: t, h => by
    simp only [ordS, Bool.and_eq_true] at h
    simpa using ordS_tail k h.2
theorem ordS_drop {l : List Int} {k : Nat} (h1 : 1 ≤ k) (hk : k < l.length) : ordS ltZ (l.drop (k - 1)) = (!decide (nth l k < nth l (k - 1)) && ordS ltZ (l.drop k)) := by
  obtain ⟨j, rfl⟩ : ∃ j, k = j + 1 := ⟨k - 1, by omega⟩
  rw [Nat.add_sub_cancel]
  rw [List.drop_eq_getElem_cons (show j < l.length by omega), List.drop_eq_getElem_cons hk]
  rw [nth_lt hk, nth_lt (show j < l.length by omega)]
  rfl

set_option maxHeartbeats 1600000 in
theorem isSorted_any (A : Option Addr) (n c : Nat) (l : List Int) (w : World) (B : Nat) (hs : Sl w B A n l) (h1 : 1 ≤ n) :
    Calls Try.prog 55 #[.slice A n c] w fun e w' => e = .returned (.bool (ordS ltZ l)) ∧ w.grownBy w' none := by
  have hm := hs.max
  have HL := hid hs.len
  obtain ⟨b, off, rfl, _, hc⟩ := hs.2.2 (by omega)
  have HC := hid hc
  clear hc
  go_enter Try.func55, Try.ntmps55
  go_wp2
  go_loopw [3] (fun i wr => ∃ k m : Nat, i = .int .i64 k ∧ k < n ∧ wr = w.drewN m ∧ Hid (ordS ltZ (l.drop k) = true)) (fun i _ => (intOf i).toNat)
  case atStart =>
    refine ⟨n - 1, 0, by congr 1; omega, by omega, rfl, hid ?_⟩
    rw [List.drop_eq_getElem_cons (show n - 1 < l.length by rw [HL.out]; omega), List.drop_of_length_le (by rw [HL.out]; omega)]
    rfl
  case round =>
    obtain ⟨k, m, rfl, hkn, rfl, HA⟩ := hrel
    by_cases hlt : 0 < k
    · have hck := HC.out k hkn
      have hcp := HC.out (k - 1) (by omega)
      have hn1 := ordS_drop (l := l) (show 1 ≤ k from hlt) (by rw [HL.out]; exact hkn)
      rw [HA.out, Bool.and_true] at hn1
      have e0 : ((k : Int) - 1).toNat = k - 1 := by omega
      have e1 : (0 : Int) ≤ (k : Int) - 1 := by omega
      have e2 : (k : Int) - 1 < (n : Int) := by omega
      obtain ⟨x, hx⟩ : ∃ x, nth l k = x := ⟨_, rfl⟩
      obtain ⟨y, hy⟩ : ∃ y, nth l (k - 1) = y := ⟨_, rfl⟩
      rw [hx] at hck hn1
      rw [hy] at hcp hn1
      clear hx hy
      by_cases hxy : x < y
      · have HF := hid (show ordS ltZ l = false from by
          rcases Bool.eq_false_or_eq_true (ordS ltZ l) with h | h
          · have h2 := ordS_tail (k - 1) h
            rw [hn1] at h2
            simp [hxy] at h2
          · exact h)
        clear hn1
        go_wp2
        go_quiet (exact less_quiet _ _ _ _ _)
        go_wp2
        go_ret
        exact ⟨ret_bool HF.out.symm, (drewI_grown _ _).trans (drewI_grown _ _)⟩
      · have HN := hid (show ordS ltZ (l.drop (k - 1)) = true from by rw [hn1]; simp [hxy])
        clear hn1
        go_wp2
        go_quiet (exact less_quiet _ _ _ _ _)
        go_wp2
        go_roundw
        case rel => exact ⟨k - 1, _, by congr 1; omega, by omega, rfl, HN⟩
        case measure => simp [intOf]; omega
    · obtain rfl : k = 0 := by omega
      go_wp2
      go_ret
      exact ⟨ret_bool (by have := HA.out; simpa using this.symm), drewI_grown _ _⟩

set_option maxHeartbeats 800000 in
theorem orderI_any (A : Option Addr) (n c : Nat) (l : List Int) (w : World) (B : Nat) (hs : Sl w B A n l) :
    Calls Try.prog 29 #[.slice A n c] w fun e w' => e = .returned (.bool (orderOk l)) ∧ w.grownBy w' none := by
  by_cases h1 : keptOk l = true
  · have hk := (keptOk_iff.1 h1).2
    rw [hs.len] at hk
    have HV := hid (show orderOk l = ordS ltZ l from by unfold orderOk; rw [h1, Bool.and_true])
    go_enter Try.func29, Try.ntmps29
    go_wp2_with (first | (go_at_call 18; refine (keptI_any _ _ _ l _ _ hs).mono ?_; rintro e w' ⟨rfl, rfl⟩) | (go_at_call 55; refine (isSorted_any _ _ _ l _ _ hs hk.1).mono ?_; rintro e w' ⟨rfl, g⟩))
    go_ret
    exact ⟨ret_bool (by rw [HV.out]), g⟩
  · have h1' : keptOk l = false := by simpa using h1
    have HV := hid (show orderOk l = false from by unfold orderOk; rw [h1', Bool.and_false])
    go_enter Try.func29, Try.ntmps29
    go_wp2_with (go_at_call 18; refine (keptI_any _ _ _ l _ _ hs).mono ?_; rintro e w' ⟨rfl, rfl⟩)
    go_ret
    exact ⟨ret_bool (by rw [HV.out]), ⟨rfl, rfl, rfl, Nat.le_refl _, fun _ _ _ => rfl⟩⟩

theorem implInOrderOk_any (A : Option Addr) (n c : Nat) (l : List Int) (w : World) (hs : Sl w w.heap.size A n l) :
    Calls Try.prog 29 #[.slice A n c] w fun e w' => e = .returned (.bool (orderOk l)) ∧ Below w.heap.size w w' :=
  (orderI_any A n c l w _ hs).mono fun _ _ h => ⟨h.1, below_grown h.2⟩

theorem atLeastF_any (x b : Int) (h : Nat) (w : World) (hc : w.cell? ⟨h, 0, none⟩ = some (.int .i64 b)) :
    Calls Try.prog 63 #[.int .i64 x, .pointer (some ⟨h, 0, none⟩)] w fun e w' => e = .returned (.bool (decide (b ≤ x))) ∧ w = w' := by
  go_enter Try.func63, Try.ntmps63
  go_wp2
  go_ret
  exact ⟨rfl, rfl⟩

theorem atLeast_any (b : Int) (w : World) :
    Calls Try.prog 57 #[.int .i64 b] w fun e w' => e = .returned (.func (.func 63) #[] #[.pointer (some ⟨w.heap.size, 0, none⟩)]) ∧ w' = w.alloc (.cells #[.int .i64 b] 3) := by
  go_enter Try.func57, Try.ntmps57
  go_wp2
  go_ret
  exact ⟨rfl, rfl⟩

def midL (l : List Int) (b : Int) (k : Nat) : List Int := (boundsL l b).take k ++ List.replicate (l.length - k) 0
theorem midL_start (l : List Int) (b : Int) : midL l b 0 = List.replicate l.length 0 := by simp [midL]
theorem midL_end {l : List Int} {b : Int} {k : Nat} (h : k = l.length) : midL l b k = boundsL l b := by
  subst h
  simp [midL, List.take_of_length_le, boundsL_len]
theorem midL_len {l : List Int} {b : Int} {k : Nat} (h : k ≤ l.length) : (midL l b k).length = l.length := by
  simp only [midL, List.length_append, List.length_take, List.length_replicate, boundsL_len]; omega
theorem midL_yes {l : List Int} {b : Int} {k : Nat} (h : k < l.length) (hb : b ≤ nth l k) : (midL l b k).set k 1 = midL l b (k + 1) := by
  have hm : l.length - k = (l.length - (k + 1)) + 1 := by omega
  have hlen : ((boundsL l b).take k).length = k := by rw [List.length_take, boundsL_len]; omega
  unfold midL
  rw [hm, List.replicate_succ, List.set_append_right _ _ (by omega), hlen, Nat.sub_self, List.set_cons_zero, take_nth (by rw [boundsL_len]; exact h), nth_boundsL h, if_pos hb, List.append_assoc]
  rfl
theorem midL_no {l : List Int} {b : Int} {k : Nat} (h : k < l.length) (hb : ¬ b ≤ nth l k) : midL l b k = midL l b (k + 1) := by
  have hm : l.length - k = (l.length - (k + 1)) + 1 := by omega
  unfold midL
  rw [hm, List.replicate_succ, take_nth (by rw [boundsL_len]; exact h), nth_boundsL h, if_neg hb, List.append_assoc]
  rfl

set_option maxHeartbeats 1600000 in
theorem onesWhere_any (A : Option Addr) (n c : Nat) (l : List Int) (b : Int) (h : Nat) (w : World) (hs : Sl w w.heap.size A n l) (hc : w.cell? ⟨h, 0, none⟩ = some (.int .i64 b)) (hh : h < w.heap.size) (h1 : 1 ≤ n) (hn : n ≤ 14) :
    Calls Try.prog 56 #[.slice A n c, .func (.func 63) #[] #[.pointer (some ⟨h, 0, none⟩)]] w fun e w' => ∃ A2 c2, e = .returned (.slice A2 n c2) ∧ w'.ownsRow w.heap.size 3 1 (.slice A2 n c2) n (ints (boundsL l b)) ∧ Below w.heap.size w w' := by
  obtain ⟨i0, hi, hz0, hz1, hz2⟩ := info_parts info_int
  have HL := hid hs.len
  obtain ⟨bl, off, rfl, hbl, hcl⟩ := hs.2.2 (by omega)
  have HC := hid hcl
  clear hcl
  go_enter Try.func56, Try.ntmps56
  go_wp2_with (refine wpList_make_full _ rfl (.tmp 9) (.tmp 9) 23 rfl w.heap.size 3 i0 _ 1 Try.underlying23 hi hz0 hz1 .i64 .i64 (n : Int) (n : Int) n rfl rfl (by omega) (by omega) (by rw [hz2]; omega) (by simp only [maxLen]; omega) (Nat.le_refl _) ?_; intro w1 o1 g1; rw [madeInts] at o1)
  have o2 : w1.ownsRow w.heap.size 3 1 (.slice (some ⟨w.heap.size, 0, none⟩) n n) n (ints (midL l b 0)) := by
    rw [midL_start, HL.out]
    simpa [ints] using o1
  have HB := hid (below_grown g1)
  have hcb : w1.cell? ⟨h, 0, none⟩ = some (.int .i64 b) := (HB.out.cell (p := ⟨h, 0, none⟩) hh).trans hc
  clear o1 g1 hc
  go_loopw [13] (fun i wr => ∃ k : Nat, i = .int .i64 k ∧ k ≤ n ∧ wr.ownsRow w.heap.size 3 1 (.slice (some ⟨w.heap.size, 0, none⟩) n n) n (ints (midL l b k)) ∧ Hid (Below w.heap.size w wr) ∧ wr.cell? ⟨h, 0, none⟩ = some (.int .i64 b)) (fun i _ => n - (intOf i).toNat)
  case atStart => exact ⟨0, rfl, Nat.zero_le _, o2, HB, hcb⟩
  case round =>
    clear o2 HB hcb
    obtain ⟨k, rfl, hk, o2, HB, hcb⟩ := hrel
    by_cases hlt : k < n
    · have hck := (HB.out.cell (p := ⟨bl, off + k, none⟩) hbl).trans (HC.out k hlt)
      have hlt2 : (k : Int) < (n : Int) := by omega
      obtain ⟨x, hx⟩ : ∃ x, nth l k = x := ⟨_, rfl⟩
      rw [hx] at hck
      by_cases hbx : b ≤ x
      · have HE := hid (midL_yes (l := l) (b := b) (k := k) (by rw [HL.out]; exact hlt) (by rw [hx]; exact hbx))
        have hf1 := o2.frozenAt k
        have hx1 := own_cell o2 (show (midL l b k).length = n by rw [midL_len (by rw [HL.out]; omega), HL.out]) hlt
        obtain ⟨p1, p2⟩ := o2.stored k (.int .i64 1)
        rw [ints_set, HE.out] at p1
        have P1 := hid p1
        have HB2 := hid (HB.out.grown p2 HB.out.size (by intro j hj; cases hj; exact Nat.le_refl _))
        have hne : h ≠ w.heap.size := by omega
        have hcb2 : (wr.setCell ⟨w.heap.size, k, none⟩ (.int .i64 1)).cell? ⟨h, 0, none⟩ = some (.int .i64 b) := (World.cell?_of_block (p2.block h (by have := HB.out.size; omega) (by simp; omega))).trans hcb
        have HC2 := hid hcb2
        clear p1 p2 o2 hx HE hcb2
        go_wp2_with (go_at_call 63; refine (atLeastF_any _ b h _ hcb).mono ?_; rintro e w' ⟨rfl, rfl⟩)
        go_roundw
        case rel => exact ⟨k + 1, by go_num, by omega, P1.out, HB2, HC2.out⟩
        case measure => simp [intOf]; omega
      · have HE := hid (midL_no (l := l) (b := b) (k := k) (by rw [HL.out]; exact hlt) (by rw [hx]; exact hbx))
        rw [HE.out] at o2
        have P1 := hid o2
        clear o2 hx HE
        go_wp2_with (go_at_call 63; refine (atLeastF_any _ b h _ hcb).mono ?_; rintro e w' ⟨rfl, rfl⟩)
        go_roundw
        case rel => exact ⟨k + 1, by go_num, by omega, P1.out, HB, hcb⟩
        case measure => simp [intOf]; omega
    · obtain rfl : k = n := by omega
      rw [midL_end HL.out.symm] at o2
      have P1 := hid o2
      clear o2
      go_wp2
      go_ret
      exact ⟨_, _, rfl, P1.out, HB.out⟩

set_option maxHeartbeats 800000 in
theorem implBoundsOf_any (A : Option Addr) (n c : Nat) (l : List Int) (b : Int) (w : World) (hs : Sl w w.heap.size A n l) :
    Calls Try.prog 36 #[.slice A n c, .int .i64 b] w fun e w' => ∃ A2 m c2, e = .returned (.slice A2 m c2) ∧ w'.ownsRow w.heap.size 3 1 (.slice A2 m c2) m (ints (boundsOut l b)) ∧ m ≤ 14 ∧ Below w.heap.size w w' := by
  by_cases h1 : keptOk l = true
  · have hk := (keptOk_iff.1 h1).2
    rw [hs.len] at hk
    have HV := hid (show boundsOut l b = boundsL l b from by unfold boundsOut; rw [if_pos h1])
    have hb0 : Below w.heap.size w (w.alloc (.cells #[.int .i64 b] 3)) := (Below.refl _ _).alloc (Nat.le_refl _) _
    have CO := hid (onesWhere_any A n c l b w.heap.size (w.alloc (.cells #[.int .i64 b] 3)) (hs.on hb0) (cell_one_new w (.int .i64 b) 3 0 _ rfl) (by simp) hk.1 hk.2)
    go_enter Try.func36, Try.ntmps36
    go_wp2_with (first | (go_at_call 18; refine (keptI_any _ _ _ l _ _ hs).mono ?_; rintro e w' ⟨rfl, rfl⟩) | (go_at_call 57; refine (atLeast_any _ _).mono ?_; rintro e w' ⟨rfl, rfl⟩))
    with_reducible refine Calls.mono CO.out ?_
    rintro e w1 ⟨A2, c2, rfl, ho, hb1⟩
    have HO := hid (own_mono (base' := w.heap.size) ho hb0.size)
    clear ho
    go_wp2
    go_ret
    exact ⟨_, n, _, rfl, by rw [HV.out]; exact HO.out, hk.2, hb0.trans (hb1.mono hb0.size)⟩
  · have h1' : keptOk l = false := by simpa using h1
    have HV := hid (show boundsOut l b = [] from by unfold boundsOut; rw [if_neg h1])
    go_enter Try.func36, Try.ntmps36
    go_wp2_with (go_at_call 18; refine (keptI_any _ _ _ l _ _ hs).mono ?_; rintro e w' ⟨rfl, rfl⟩)
    go_ret
    exact ⟨_, 0, 0, rfl, by rw [HV.out]; exact World.ownsRow_nil _ _ _ _, by omega, Below.refl _ _⟩

theorem astray_drop {l : List Int} {k : Nat} (hk : k < l.length) : astray (l.drop k) = (l.drop (k + 1)).countP (fun y => decide (y < nth l k)) + astray (l.drop (k + 1)) := by
  rw [List.drop_eq_getElem_cons hk, nth_lt hk]
  rfl
theorem astray_part (l : List Int) (h : l.length ≤ 14) (k : Nat) : astray (l.drop k) ≤ 200 := astray_le (by rw [List.length_drop]; omega)

set_option maxHeartbeats 1600000 in
theorem implAstrayOf_any (A : Option Addr) (n c : Nat) (l : List Int) (w : World) (hs : Sl w w.heap.size A n l) (hc : n ≤ c) (hcm : c ≤ maxLen) :
    Calls Try.prog 25 #[.slice A n c] w fun e w' => e = .returned (.int .i64 (astrayOut l)) ∧ Below w.heap.size w w' := by
  have HL := hid hs.len
  have hcm' : c ≤ 9223372036854775807 := by simpa [maxLen] using hcm
  by_cases h1 : keptOk l = true
  · have hk := (keptOk_iff.1 h1).2
    rw [hs.len] at hk
    have HV := hid (show astrayOut l = astray l from by unfold astrayOut; rw [if_pos h1])
    go_enter Try.func25, Try.ntmps25
    go_wp2_with (go_at_call 18; refine (keptI_any _ _ _ l _ _ hs).mono ?_; rintro e w' ⟨rfl, rfl⟩)
    obtain ⟨b, off, rfl, _, hcl⟩ := hs.2.2 (by omega)
    have HC := hid hcl
    clear hcl
    go_loopw [3, 13] (fun t i wr => ∃ k T : Nat, t = .int .i64 T ∧ i = .int .i64 k ∧ k ≤ n ∧ Hid (T + astray (l.drop k) = astray l) ∧ w = wr) (fun _ i _ => n - (intOf i).toNat)
    case atStart => exact ⟨0, 0, rfl, rfl, Nat.zero_le _, hid (by simp), rfl⟩
    case round =>
      obtain ⟨k, T, rfl, rfl, hkn, HT, rfl⟩ := hrel
      have hT200 : T ≤ 200 := by have := HT.out; have := astray_le (l := l) (by rw [HL.out]; exact hk.2); omega
      by_cases hlt : k < n
      · have hx := HC.out k hlt
        have hd := astray_drop (l := l) (k := k) (by rw [HL.out]; exact hlt)
        have hlt2 : (k : Int) < (n : Int) := by omega
        have e0 : ((k : Int) + 1).toNat = k + 1 := by omega
        have e1 : (0 : Int) ≤ (k : Int) + 1 := by omega
        have e2 : (k : Int) + 1 ≤ (n : Int) := by omega
        by_cases hcc : c = k + 1
        · have hn0 : n = k + 1 := by omega
          have HT1 := hid (show T + astray (l.drop (k + 1)) = astray l from by
            have h := HT.out
            rw [hd] at h
            rw [List.drop_of_length_le (by rw [HL.out]; omega)] at h ⊢
            simpa [astray] using h)
          have hz : ¬ ((0 : Int) < ((n - (k + 1) : Nat) : Int)) := by omega
          have hcd : c - (k + 1) = 0 := by omega
          have hcl : c ≤ k + 1 := by omega
          clear hd HT
          have HCC := hid hcc
          have HN0 := hid hn0
          clear hcc hn0
          go_wp2
          go_loopw [3, 23] (fun t i wr => t = .int .i64 T ∧ i = .int .i64 0 ∧ w = wr) (fun _ i _ => 0)
          case atStart => exact ⟨rfl, rfl, rfl⟩
          case round =>
            obtain ⟨rfl, rfl, rfl⟩ := hrel
            go_wp2
            go_roundw
            case rel => exact ⟨k + 1, T, rfl, by go_num, by omega, HT1, trivial⟩
            case measure => simp [intOf]; omega
        · go_wp2
          have hm1 : n - (k + 1) ≤ 14 := by omega
          have HD := hid hd
          clear hd
          obtain ⟨x, hxe⟩ : ∃ x, nth l k = x := ⟨_, rfl⟩
          rw [hxe] at hx HD
          have HR := hid (show (l.drop (k + 1)).length = n - (k + 1) from by rw [List.length_drop, HL.out])
          have HC2 := hid (show ∀ j, j < n - (k + 1) → w.cell? ⟨b, off + (k + 1) + j, none⟩ = some (.int .i64 (nth (l.drop (k + 1)) j)) from fun j hj => by
            have := HC.out (k + 1 + j) (by omega)
            rw [← Nat.add_assoc] at this
            rw [this]
            simp [nth, List.getD, List.getElem?_drop])
          obtain ⟨R, hR⟩ : ∃ R, l.drop (k + 1) = R := ⟨_, rfl⟩
          obtain ⟨q, hq⟩ : ∃ q, n - (k + 1) = q := ⟨_, rfl⟩
          rw [hR] at HD HR HC2
          rw [hq] at HR HC2 hm1 ⊢
          have HQ := hid hq
          have HRR := hid hR
          clear hq hR
          go_loopw [3, 23] (fun t i wr => ∃ j T2 : Nat, t = .int .i64 T2 ∧ i = .int .i64 j ∧ j ≤ q ∧ Hid (T2 = T + (R.take j).countP (fun y => decide (y < x))) ∧ w = wr) (fun _ i _ => q - (intOf i).toNat)
          case atStart => exact ⟨0, T, rfl, rfl, Nat.zero_le _, hid (by simp), rfl⟩
          case round =>
            obtain ⟨j, T2, rfl, rfl, hjq, HT2, rfl⟩ := hrel
            have hT2 : T2 ≤ 300 := by
              have h := HT2.out
              have := List.countP_le_length (p := fun y => decide (y < x)) (l := R.take j)
              rw [List.length_take] at this
              omega
            by_cases hjl : j < q
            · have hy := HC2.out j hjl
              have hn2 : (R.take (j + 1)).countP (fun y => decide (y < x)) = (R.take j).countP (fun y => decide (y < x)) + (if nth R j < x then 1 else 0) := by
                rw [take_nth (by rw [HR.out]; exact hjl), List.countP_append]
                by_cases h : nth R j < x
                · simp [h]
                · simp [h]
              have hjl2 : (j : Int) < (q : Int) := by omega
              obtain ⟨y, hye⟩ : ∃ y, nth R j = y := ⟨_, rfl⟩
              rw [hye] at hy hn2
              clear hye
              by_cases hxy : y < x
              · have HE := hid (show T2 + 1 = T + (R.take (j + 1)).countP (fun y => decide (y < x)) from by rw [hn2, if_pos hxy, HT2.out]; omega)
                clear hn2 HT2
                go_wp2
                go_roundw
                case rel => exact ⟨j + 1, T2 + 1, by go_num, by go_num, by omega, HE, trivial⟩
                case measure => simp [intOf]; omega
              · have HE := hid (show T2 = T + (R.take (j + 1)).countP (fun y => decide (y < x)) from by rw [hn2, if_neg hxy, HT2.out]; omega)
                clear hn2 HT2
                go_wp2
                go_roundw
                case rel => exact ⟨j + 1, T2, rfl, by go_num, by omega, HE, trivial⟩
                case measure => simp [intOf]; omega
            · obtain rfl : j = q := by omega
              have HE := hid (show T2 + astray (l.drop (k + 1)) = astray l from by
                have h1 := HT2.out
                have h2 := HT.out
                rw [HD.out] at h2
                rw [List.take_of_length_le (by rw [HR.out]; omega)] at h1
                rw [HRR.out]
                omega)
              clear HT2 HT
              go_wp2
              go_roundw
              case rel => exact ⟨k + 1, T2, rfl, by go_num, by omega, HE, trivial⟩
              case measure => simp [intOf]; omega
      · obtain rfl : k = n := by omega
        have HE := hid (show astrayOut l = T from by
          have h := HT.out
          rw [List.drop_of_length_le (by rw [HL.out]; omega)] at h
          rw [HV.out, ← h]
          simp [astray])
        go_wp2
        go_ret
        exact ⟨ret_int HE.out.symm, Below.refl _ _⟩
  · have h1' : keptOk l = false := by simpa using h1
    have HV := hid (show astrayOut l = -1 from by unfold astrayOut; rw [if_neg h1])
    go_enter Try.func25, Try.ntmps25
    go_wp2_with (go_at_call 18; refine (keptI_any _ _ _ l _ _ hs).mono ?_; rintro e w' ⟨rfl, rfl⟩)
    go_ret
    exact ⟨ret_int (by rw [HV.out]), Below.refl _ _⟩
end Go.Proofs.Ytpobcfmldimgiaa
