/-
  Walks of the model's SummedOf, SummedAfter, AddedOf, OnesOf. No statement is proved here.
-/
import Derived.Test.YthncjopbagkdcaaC10
namespace Go.Proofs.Ythncjopbagkdcaa
open Go.RowKit
set_option linter.unusedVariables false
set_option linter.unusedSimpArgs false

/-- What SummedOf gives. -/
def sumOut (l : List Int) : List Int := if bitsOk l = true then sumL l else []
/-- What SummedAfter gives. -/
def sumAft (l : List Int) (s : Int) : List Int := if (bitsOk l && within s 0 1000) = true then sumI s.toNat l else []
/-- What OnesOf gives. -/
def onesOut (l : List Int) : Int := if bitsOk l = true then (ones l : Int) else -1
/-- What AddedOf gives. -/
def addOut (a b : List Int) : List Int := if (bitsOk a && (bitsOk b && decide (a.length = b.length))) = true then addL a b else []

set_option maxRecDepth 100000 in
set_option maxHeartbeats 1600000 in
theorem specSummedOf_any (A : Option Addr) (n c : Nat) (l : List Int) (w : World) (hs : Sl w w.heap.size A n l) :
    Calls Try.prog 22 #[.slice A n c] w fun e w' => ∃ A2 m c2, e = .returned (.slice A2 m c2) ∧ w'.ownsRow w.heap.size 3 1 (.slice A2 m c2) m (ints (sumOut l)) ∧ m ≤ 16 ∧ Below w.heap.size w w' := by
  have HL := hid hs.len
  have CK := hid (specBitsOk_any A n c l w w.heap.size hs)
  cases hok : bitsOk l with
  | false =>
    have HV := hid (show sumOut l = [] from by unfold sumOut; rw [hok]; rfl)
    rw [hok] at CK
    clear hok
    go_enter Try.func22, Try.ntmps22
    go_wp2_with fail
    with_reducible refine Calls.mono CK.out ?_
    rintro e w' ⟨rfl, rfl⟩
    go_wp2
    go_ret
    exact ⟨_, 0, _, rfl, by rw [HV.out]; exact World.ownsRow_lit w #[] 0 (Nat.le_refl _) (by simp [maxLen]) rfl, by omega, (Below.refl _ _).alloc (Nat.le_refl _) _⟩
  | true =>
    obtain ⟨hb, h1, h2⟩ := bitsOk_iff.1 hok
    have HV := hid (show sumOut l = farL 1 l from by unfold sumOut; rw [if_pos hok, far_one (by omega)])
    rw [HL.out] at h1 h2
    have CV := hid (l10Sum_any A n c l 1 w hs h1 h2 hb (by omega))
    rw [hok] at CK
    clear hok
    go_enter Try.func22, Try.ntmps22
    go_wp2_with fail
    with_reducible refine Calls.mono CK.out ?_
    rintro e w' ⟨rfl, rfl⟩
    go_wp2_with fail
    with_reducible refine Calls.mono CV.out ?_
    rintro e w2 ⟨A2, c2, rfl, o2, b2⟩
    go_wp2
    go_ret
    exact ⟨A2, n, c2, rfl, by rw [HV.out]; exact o2, h2, b2⟩

set_option maxRecDepth 100000 in
set_option maxHeartbeats 3200000 in
theorem specSummedAfter_any (A : Option Addr) (n c : Nat) (l : List Int) (s : Int) (w : World) (hs : Sl w w.heap.size A n l) :
    Calls Try.prog 26 #[.slice A n c, .int .i64 s] w fun e w' => ∃ A2 m c2, e = .returned (.slice A2 m c2) ∧ w'.ownsRow w.heap.size 3 1 (.slice A2 m c2) m (ints (sumAft l s)) ∧ m ≤ 16 ∧ Below w.heap.size w w' := by
  obtain ⟨i0, hi, hz0, hz1, hz2⟩ := info_parts info_int
  have HL := hid hs.len
  have CK := hid (specBitsOk_any A n c l w w.heap.size hs)
  cases hok : (bitsOk l && within s 0 1000) with
  | false =>
    have HV := hid (show sumAft l s = [] from by unfold sumAft; rw [hok]; rfl)
    cases h0 : bitsOk l with
    | false =>
      rw [h0] at CK
      clear hok h0
      go_enter Try.func26, Try.ntmps26
      go_wp2_with fail
      with_reducible refine Calls.mono CK.out ?_
      rintro e w' ⟨rfl, rfl⟩
      go_wp2
      go_ret
      exact ⟨_, 0, _, rfl, by rw [HV.out]; exact World.ownsRow_lit w #[] 0 (Nat.le_refl _) (by simp [maxLen]) rfl, by omega, (Below.refl _ _).alloc (Nat.le_refl _) _⟩
    | true =>
      rw [h0, Bool.true_and] at hok
      rw [h0] at CK
      clear h0
      go_enter Try.func26, Try.ntmps26
      go_wp2_with fail
      with_reducible refine Calls.mono CK.out ?_
      rintro e w' ⟨rfl, rfl⟩
      go_wp2_with (go_at_call 42; refine (l1In_any _ _ _ _).mono ?_; rintro e w' ⟨rfl, rfl⟩)
      go_ret
      exact ⟨_, 0, _, rfl, by rw [HV.out]; exact World.ownsRow_lit w #[] 0 (Nat.le_refl _) (by simp [maxLen]) rfl, by omega, (Below.refl _ _).alloc (Nat.le_refl _) _⟩
  | true =>
    have hok2 : bitsOk l = true ∧ within s 0 1000 = true := by simpa using hok
    obtain ⟨h0, hws⟩ := hok2
    obtain ⟨hb, h1, h2⟩ := bitsOk_iff.1 h0
    rw [HL.out] at h1 h2
    have hsb := within_iff.1 hws
    obtain ⟨S, rfl⟩ : ∃ S : Nat, s = S := Int.eq_ofNat_of_zero_le hsb.1
    have HV := hid (show sumAft l S = sumI S l from by unfold sumAft; rw [if_pos hok, Int.toNat_natCast])
    rw [h0] at CK
    have HB := hid (fun k => (bitsOk_iff.1 (sumI_ok h0 k)).1)
    have ho0 : (w.alloc (.cells #[] 3)).ownsRow w.heap.size 3 1 (.slice (some ⟨w.heap.size, 0, none⟩) 0 0) 0 (ints []) := World.ownsRow_lit w #[] 0 (Nat.le_refl _) (by simp [maxLen]) rfl
    have hb0 : Below w.heap.size w (w.alloc (.cells #[] 3)) := (Below.refl _ _).alloc (Nat.le_refl _) _
    have hs1 := hs.on hb0
    obtain ⟨bl, off, rfl, hbl, hc⟩ := hs.2.2 (by omega)
    have hS := hsb.2
    clear hok h0 hb hc
    go_enter Try.func26, Try.ntmps26
    go_wp2_with fail
    with_reducible refine Calls.mono CK.out ?_
    rintro e w' ⟨rfl, rfl⟩
    go_wp2_with (first
      | (go_at_call 42; refine (l1In_any _ _ _ _).mono ?_; rintro e w' ⟨rfl, rfl⟩)
      | (at_builtin; refine wpList_append_own _ rfl _ _ 23 rfl w.heap.size 3 i0 (.int .i64 0) 1 8 Try.underlying23 hi hz0 hz1 hz2 rfl (by decide) (.slice (some ⟨w.heap.size, 0, none⟩) 0 0) _ _ rfl ho0 ⟨bl, off, none⟩ n c (ints l) rfl (by rw [List.length_map, HL.out, Nat.mul_one]) hs1.cellsAt (ints_one l) (by simp only [maxLen]; omega) (by omega) hb0.size ?_; intro v2 w2 o2 g2 _))
    obtain ⟨g, c2, rfl, hbg, hlt2⟩ := own_shape1 o2 (by omega)
    have hb1 := hb0.grown g2 hb0.size (by intro j hj; simp [Value.ownBlock] at hj; omega)
    rw [show ints [] ++ ints l = ints (sumI (S % 2 ^ 0) l) from by rw [Nat.pow_zero, Nat.mod_one]; rfl] at o2
    simp only [Nat.zero_add] at o2
    clear hb0 hs1 ho0 g2 hs CK
    simp only [Nat.zero_add]
    have HB1 := hid hb1
    clear hb1
    go_loopw [5, 6, 7] (fun v f i wr => ∃ (A1 : Option Addr) (c1 j F L : Nat), v = .slice A1 n c1 ∧ f = .int .i64 F ∧ i = .int .i64 L ∧ Hid (F = 2 ^ j) ∧ Hid (L = S / 2 ^ j) ∧ F ≤ 2048 ∧ L ≤ 1000 ∧ Hid (0 < L → F ≤ 1000) ∧ wr.ownsRow w.heap.size 3 1 (.slice A1 n c1) n (ints (sumI (S % 2 ^ j) l)) ∧ Hid (Below w.heap.size w wr)) (fun _ _ i _ => (intOf i).toNat)
    case atStart => exact ⟨_, _, 0, 1, S, rfl, rfl, rfl, hid rfl, hid (by simp), by omega, by omega, hid (fun _ => by omega), o2, HB1⟩
    case round =>
      clear o2 HB1
      obtain ⟨A1, c1, j, F, L, rfl, rfl, rfl, HF, HLL, hF, hL, HFL, o2, HB1⟩ := hrel
      by_cases hlt : 0 < L
      · have hlti : (0 : Int) < (L : Int) := by omega
        have hFL := HFL.out hlt
        have m1 : (L : Int).tmod 2 = ((L % 2 : Nat) : Int) := by rw [Int.tmod_eq_emod_of_nonneg (by omega)]; omega
        have m2 : (L : Int).tdiv 2 = ((L / 2 : Nat) : Int) := by rw [Int.tdiv_eq_ediv_of_nonneg (by omega)]; omega
        have w2 : IntKind.i64.wrap ((2 : Int) * (F : Int)) = (2 : Int) * (F : Int) := IntWalk.i64_in _ (by omega)
        have HF2 := hid (show 2 * F = 2 ^ (j + 1) from by rw [HF.out, Nat.pow_succ, Nat.mul_comm])
        have HL2 := hid (show L / 2 = S / 2 ^ (j + 1) from by rw [HLL.out, Nat.pow_succ, Nat.div_div_eq_div_mul])
        have HG2 := hid (show 0 < L / 2 → 2 * F ≤ 1000 from fun h => by
          have h3 : 2 ^ (j + 1) ≤ S := by
            rcases Nat.lt_or_ge S (2 ^ (j + 1)) with h4 | h4
            · rw [HL2.out, Nat.div_eq_of_lt h4] at h; omega
            · exact h4
          rw [HF2.out]; omega)
        rcases Nat.mod_two_eq_zero_or_one L with hm | hm
        · have HE := hid (half_keep (S := S) (j := j) (by rw [← HLL.out]; exact hm))
          rw [← HE.out] at o2
          rw [hm] at m1
          clear hm
          go_wp2_with fail
          go_roundw
          case rel => exact ⟨A1, c1, j + 1, 2 * F, L / 2, rfl, by go_num, by go_num, HF2, HL2, by omega, by omega, HG2, o2, HB1⟩
          case measure => simp [intOf]; omega
        · have HE := hid (half_step (S := S) (j := j) (by rw [← HLL.out]; exact hm) (l := l) (by rw [HL.out]; omega))
          have CV := hid (l10Sum_any A1 n c1 (sumI (S % 2 ^ j) l) F wr (Sl.of_own o2) h1 h2 (HB.out _) (by omega))
          rw [HF.out, HE.out, ← HF.out] at CV
          rw [hm] at m1
          clear o2 hm
          go_wp2_with fail
          with_reducible refine Calls.mono CV.out ?_
          rintro e w3 ⟨A3, c3, rfl, o3, b3⟩
          have O3 := hid (own_mono o3 HB1.out.size)
          replace HB1 := hid (HB1.out.trans (b3.mono HB1.out.size))
          clear o3 b3
          go_wp2_with fail
          go_roundw
          case rel => exact ⟨A3, c3, j + 1, 2 * F, L / 2, rfl, by go_num, by go_num, HF2, HL2, by omega, by omega, HG2, O3.out, HB1⟩
          case measure => simp [intOf]; omega
      · obtain rfl : L = 0 := by omega
        have HE := hid (show S % 2 ^ j = S from Nat.mod_eq_of_lt (by
          rcases Nat.lt_or_ge S (2 ^ j) with h4 | h4
          · exact h4
          · have := Nat.div_pos h4 (Nat.two_pow_pos j)
            have := HLL.out
            omega))
        rw [HE.out, ← HV.out] at o2
        have O2 := hid o2
        clear o2
        go_wp2
        go_ret
        exact ⟨A1, n, c1, rfl, O2.out, h2, HB1.out⟩

set_option maxRecDepth 100000 in
set_option maxHeartbeats 1600000 in
theorem specOnesOf_any (A : Option Addr) (n c : Nat) (l : List Int) (w : World) (B : Nat) (hs : Sl w B A n l) :
    Calls Try.prog 34 #[.slice A n c] w fun e w' => e = .returned (.int .i64 (onesOut l)) ∧ w = w' := by
  have HL := hid hs.len
  have CK := hid (specBitsOk_any A n c l w B hs)
  cases hok : bitsOk l with
  | false =>
    have HV := hid (show onesOut l = -1 from by unfold onesOut; rw [hok]; rfl)
    rw [hok] at CK
    clear hok
    go_enter Try.func34, Try.ntmps34
    go_wp2_with fail
    with_reducible refine Calls.mono CK.out ?_
    rintro e w' ⟨rfl, rfl⟩
    go_wp2
    go_ret
    exact ⟨ret_int HV.out.symm, rfl⟩
  | true =>
    obtain ⟨hb, h1, h2⟩ := bitsOk_iff.1 hok
    have HV := hid (show onesOut l = ones l from by unfold onesOut; rw [if_pos hok])
    have HX := hid (fun k => bit_nth hb k)
    rw [HL.out] at h1 h2
    obtain ⟨b, off, rfl, hbl, hc⟩ := hs.2.2 (by omega)
    have HC := hid hc
    rw [hok] at CK
    clear hok hs hc hb
    go_enter Try.func34, Try.ntmps34
    go_wp2_with fail
    with_reducible refine Calls.mono CK.out ?_
    rintro e w' ⟨rfl, rfl⟩
    go_wp2
    go_loop [3, 4] (fun v i => ∃ k m : Nat, v = .int .i64 m ∧ i = .int .i64 k ∧ k ≤ n ∧ m ≤ k ∧ Hid (m = ones (l.take k))) (fun _ i => n - (intOf i).toNat)
    case atStart => exact ⟨0, 0, rfl, rfl, Nat.zero_le _, Nat.le_refl _, hid rfl⟩
    case round =>
      obtain ⟨k, m, rfl, rfl, hk, hm, HM⟩ := hrel
      by_cases hlt : k < n
      · have hck := HC.out k hlt
        have hbx := HX.out k
        have HT := hid (ones_take (l := l) (k := k) (by rw [HL.out]; exact hlt))
        obtain ⟨x, hx⟩ : ∃ x, nth l k = x := ⟨_, rfl⟩
        rw [hx] at hck hbx HT
        clear hx
        obtain ⟨q, hq⟩ : ∃ q : Nat, x = q := Int.eq_ofNat_of_zero_le (by omega)
        subst hq
        have HM2 := hid (show m + q = ones (l.take (k + 1)) from by
          rw [HT.out, HM.out]
          rcases hbx with h | h
          · rw [if_neg (by omega)]; omega
          · rw [if_pos h]; omega)
        have hlti : (k : Int) < (n : Int) := by omega
        have e1 : IntKind.i64.wrap ((m : Int) + (q : Int)) = (m : Int) + (q : Int) := IntWalk.i64_in _ (by omega)
        clear HT
        go_wp2
        go_round
        case rel => exact ⟨k + 1, m + q, by go_num, by go_num, by omega, by omega, HM2⟩
        case measure => simp [intOf]; omega
      · obtain rfl : k = n := by omega
        have HT := hid (show onesOut l = (m : Int) from by
          rw [HV.out, HM.out, List.take_of_length_le (by rw [HL.out]; omega)])
        go_wp2
        go_ret
        exact ⟨ret_int HT.out.symm, rfl⟩
end Go.Proofs.Ythncjopbagkdcaa
