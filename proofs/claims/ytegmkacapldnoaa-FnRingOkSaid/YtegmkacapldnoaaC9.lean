/-
  Walks of the model's RingOk, l9Step. No statement is proved here.
-/
import Derived.Test.YtegmkacapldnoaaS9
import Derived.Test.YtegmkacapldnoaaEx0
import Derived.OwnWalk
import Derived.IntWalk
namespace Go.Proofs.Ytegmkacapldnoaa
open Go.RowKit
set_option linter.unusedVariables false
set_option linter.unusedSimpArgs false

/-- A ring. -/
def ringOk (l : List Int) : Bool := allIn l 1 99 && decide (∀ b, b < l.length → ∀ a, a < b → nth l a ≠ nth l b) && within (l.length : Int) 1 12
theorem ringOk_iff {l : List Int} : ringOk l = true ↔ (∀ x ∈ l, 1 ≤ x ∧ x ≤ 99) ∧ (∀ b, b < l.length → ∀ a, a < b → nth l a ≠ nth l b) ∧ 1 ≤ l.length ∧ l.length ≤ 12 := by
  simp only [ringOk, Bool.and_eq_true, allIn, within, List.all_eq_true, decide_eq_true_eq, and_assoc]
  constructor
  · rintro ⟨h1, h2, h3, h4⟩; exact ⟨h1, h2, by omega, by omega⟩
  · rintro ⟨h1, h2, h3, h4⟩; exact ⟨h1, h2, by omega, by omega⟩
theorem ring_pos {l : List Int} (h : ringOk l = true) : posL l := fun k hk => by
  have := (ringOk_iff.1 h).1 (nth l k) (by simp [nth, List.getD, hk])
  omega
theorem ring_apart {l : List Int} (h : ringOk l = true) : apart l := fun i j hi hj e => by
  have h2 := (ringOk_iff.1 h).2.1
  by_cases h3 : i < j
  · exact absurd e (h2 j hj i h3)
  · by_cases h4 : j < i
    · exact absurd e.symm (h2 i hi j h4)
    · omega

theorem drewN_g9 (w : World) (m : Nat) : w.grownBy (w.drewN m) none := ⟨rfl, rfl, rfl, Nat.le_refl _, fun _ _ _ => rfl⟩
set_option maxRecDepth 100000 in
set_option maxHeartbeats 1600000 in
theorem specRingOk_any (A : Option Addr) (n c : Nat) (l : List Int) (w : World) (hs : Sl w w.heap.size A n l) :
    Calls Try.prog 17 #[.slice A n c] w fun e w' => e = .returned (.bool (ringOk l)) ∧ Below w.heap.size w w' := by
  have hm := hs.max
  have HL := hid hs.len
  have HS := hid hs
  have HC := hid (fun (W : World) (hW : Below w.heap.size w W) (b off : Nat) (e : A = some ⟨b, off, none⟩) (j : Nat) (hj : j < n) => show W.cell? ⟨b, off + j, none⟩ = some (.int .i64 (nth l j)) from by
    obtain ⟨b', off', e2, _, hc⟩ := (HS.out.below hW).2.2 (by omega)
    rw [e] at e2
    injection e2 with e2
    injection e2 with e3 e4
    subst e3
    subst e4
    exact hc j hj)
  have HF0 := hid (fun (h0 : 0 < n) => show ∃ b off, A = some ⟨b, off, none⟩ from by obtain ⟨b, off, e, _⟩ := hs.2.2 h0; exact ⟨b, off, e⟩)
  clear hs
  go_enter Try.func17, Try.ntmps17
  go_wp2
  go_loopw [3] (fun i wr => ∃ k : Nat, k ≤ n ∧ i = .int .i64 k ∧ Hid (allIn (l.take k) 1 99 = true) ∧ Hid (∀ b, b < k → ∀ a, a < b → nth l a ≠ nth l b) ∧ Hid (Below w.heap.size w wr)) (fun i _ => n - (intOf i).toNat)
  case atStart => exact ⟨0, Nat.zero_le _, rfl, hid rfl, hid (fun b hb => by omega), hid (Below.refl _ _)⟩
  case round =>
    obtain ⟨k, hk, rfl, HA, HD, HB⟩ := hrel
    by_cases hlt : k < n
    · obtain ⟨b, off, rfl⟩ := HF0.out (by omega)
      have hck := HC.out wr HB.out b off rfl k hlt
      have hlti : (k : Int) < (n : Int) := by omega
      cases h1 : within (nth l k) 1 99 with
      | true =>
        have HA2 := hid (show allIn (l.take (k + 1)) 1 99 = true from by rw [take_nth (by rw [HL.out]; exact hlt), allIn_snoc, HA.out]; exact h1)
        go_wp2_with (go_at_call 44; refine (l1In_any _ _ _ _).mono ?_; rintro e w' ⟨rfl, rfl⟩)
        clear hck h1 HA
        go_loopw [4] (fun i wr2 => ∃ j : Nat, j ≤ k ∧ i = .int .i64 j ∧ Hid (∀ a, a < j → nth l a ≠ nth l k) ∧ Hid (Below w.heap.size w wr2)) (fun i _ => k - (intOf i).toNat)
        case atStart => exact ⟨0, Nat.zero_le _, rfl, hid (fun a ha => by omega), HB⟩
        case round =>
          clear HB
          obtain ⟨j, hj, rfl, HE, HB⟩ := hrel
          by_cases hjt : j < k
          · have hcj := HC.out wr HB.out b off rfl j (by omega)
            have hck := HC.out wr HB.out b off rfl k hlt
            have hji : (j : Int) < (k : Int) := by omega
            have hjn : (j : Int) < (n : Int) := by omega
            obtain ⟨x, hx⟩ : ∃ x, nth l j = x := ⟨_, rfl⟩
            obtain ⟨y, hy⟩ : ∃ y, nth l k = y := ⟨_, rfl⟩
            by_cases he : nth l j = nth l k
            · have hF := hid (show ringOk l = false from by
                rw [Bool.eq_false_iff]
                intro h
                exact (ringOk_iff.1 h).2.1 k (by rw [HL.out]; exact hlt) j hjt he)
              rw [hx] at hcj he
              rw [hy] at hck he
              subst he
              clear hx hy
              go_wp2
              go_quiet (fail)
              go_wp2
              go_ret
              exact ⟨ret_bool hF.out.symm, below_drewN HB.out _⟩
            · have HE2 := hid he
              rw [hx] at hcj he
              rw [hy] at hck he
              have he' : (x == y) = false := by simpa using he
              clear hx hy
              go_wp2
              go_quiet (fail)
              go_wp2
              go_roundw
              case rel => exact ⟨j + 1, by omega, by go_num, hid (fun a ha => by by_cases h : a = j; (subst h; exact HE2.out); (exact HE.out a (by omega))), hid (below_drewN HB.out _)⟩
              case measure => simp [intOf]; omega
          · obtain rfl : j = k := by omega
            go_wp2
            go_roundw
            case rel => exact ⟨j + 1, by omega, by go_num, HA2, hid (fun b hb => by by_cases h : b = j; (subst h; exact HE.out); (exact HD.out b (by omega))), HB⟩
            case measure => simp [intOf]; omega
      | false =>
        go_wp2_with (go_at_call 44; refine (l1In_any _ _ _ _).mono ?_; rintro e w' ⟨rfl, rfl⟩)
        go_ret
        refine ⟨ret_bool ?_, HB.out⟩
        have : allIn l 1 99 = false := by
          apply allIn_take_false (k := k + 1)
          rw [take_nth (by rw [HL.out]; exact hlt), allIn_snoc, HA.out]; exact h1
        simp [ringOk, this]
    · have hA : allIn l 1 99 = true := by have := HA.out; rwa [List.take_of_length_le (by rw [HL.out]; omega)] at this
      obtain rfl : k = n := by omega
      have hd : decide (∀ b, b < l.length → ∀ a, a < b → nth l a ≠ nth l b) = true := by rw [decide_eq_true_iff, HL.out]; exact HD.out
      have HF := hid (show ringOk l = within (k : Int) 1 12 from by unfold ringOk; rw [hA, hd, HL.out]; rfl)
      clear hA hd
      go_wp2_with (go_at_call 44; refine (l1In_any _ _ _ _).mono ?_; rintro e w' ⟨rfl, rfl⟩)
      go_ret
      exact ⟨ret_bool HF.out.symm, HB.out⟩

theorem step_take {l m : List Int} {k r : Nat} (h : k < l.length) (hr : (k + l.length - 1) % l.length = r) : (stepL l m).take (k + 1) = (stepL l m).take k ++ [if nth l k < nth m r then nth m r else 0] := by
  rw [take_nth (by rw [stepL_len]; exact h), nth_step h, hr]

set_option maxRecDepth 100000 in
set_option maxHeartbeats 3200000 in
theorem l9Step_any (A A1 : Option Addr) (n c c1 : Nat) (l m : List Int) (w : World) (hs : Sl w w.heap.size A n l) (hs1 : Sl w w.heap.size A1 n m) (hn : n ≤ 12) :
    Calls Try.prog 48 #[.slice A n c, .slice A1 n c1] w fun e w' => ∃ A2 c2, e = .returned (.slice A2 n c2) ∧ w'.ownsRow w.heap.size 3 1 (.slice A2 n c2) n (ints (stepL l m)) ∧ Below w.heap.size w w' := by
  obtain ⟨i0, hi, hz0, hz1, hz2⟩ := info_parts info_int
  have ho0 : (w.alloc (.cells #[] 3)).ownsRow w.heap.size 3 1 (.slice (some ⟨w.heap.size, 0, none⟩) 0 0) 0 (ints []) := World.ownsRow_lit w #[] 0 (Nat.le_refl _) (by simp [maxLen]) rfl
  have hb0 : Below w.heap.size w (w.alloc (.cells #[] 3)) := (Below.refl _ _).alloc (Nat.le_refl _) _
  have HL := hid hs.len
  have HS := hid hs
  have HS1 := hid hs1
  clear hs hs1
  go_enter Try.func48, Try.ntmps48
  go_wp2
  go_loopw [5, 6] (fun v i wr => ∃ (A2 : Option Addr) (c2 k : Nat), v = .slice A2 k c2 ∧ i = .int .i64 k ∧ k ≤ n ∧ wr.ownsRow w.heap.size 3 1 (.slice A2 k c2) k (ints ((stepL l m).take k)) ∧ Hid (Below w.heap.size w wr)) (fun _ i _ => n - (intOf i).toNat)
  case atStart => exact ⟨_, _, 0, rfl, rfl, Nat.zero_le _, ho0, hid hb0⟩
  case round =>
    clear ho0 hb0
    obtain ⟨A2, c2, k, rfl, rfl, hk, ho, HB⟩ := hrel
    have hbw := HB.out.size
    by_cases hlt : k < n
    · obtain ⟨b, off, rfl, _, hc⟩ := (HS.out.below HB.out).2.2 (by omega)
      obtain ⟨b1, off1, rfl, _, hc1⟩ := (HS1.out.below HB.out).2.2 (by omega)
      obtain ⟨r, hr⟩ : ∃ r, (k + n - 1) % n = r := ⟨_, rfl⟩
      have hrn : r < n := by rw [← hr]; exact Nat.mod_lt _ (by omega)
      have HT := hid (step_take (l := l) (m := m) (k := k) (r := r) (by rw [HL.out]; exact hlt) (by rw [HL.out]; exact hr))
      have x0 := hc k hlt
      have x1 := hc1 r hrn
      have m1 : ((k : Int) + (n : Int) - 1).tmod (n : Int) = (r : Int) := by
        rw [show (k : Int) + (n : Int) - 1 = ((k + n - 1 : Nat) : Int) by omega, ← hr]; rfl
      have w1 : IntKind.i64.wrap ((k : Int) + (n : Int)) = (k : Int) + (n : Int) := IntWalk.i64_in _ (by omega)
      have w2 : IntKind.i64.wrap ((k : Int) + (n : Int) - 1) = (k : Int) + (n : Int) - 1 := IntWalk.i64_in _ (by omega)
      have hlti : (k : Int) < (n : Int) := by omega
      have hri : (r : Int) < (n : Int) := by omega
      have hr0 : (0 : Int) ≤ (r : Int) := by omega
      have hn0 : ¬ (n : Int) = 0 := by omega
      have hv := own_blk ho
      obtain ⟨x, hx⟩ : ∃ x, nth l k = x := ⟨_, rfl⟩
      obtain ⟨y, hy⟩ : ∃ y, nth m r = y := ⟨_, rfl⟩
      rw [hx] at x0 HT
      rw [hy] at x1 HT
      clear hx hy hc hc1 hr
      by_cases hlt2 : x < y
      · have HT2 := hid (show (stepL l m).take (k + 1) = (stepL l m).take k ++ [y] from by rw [HT.out, if_pos hlt2])
        clear HT
        go_wp2_with (at_builtin; refine wpList_append_own _ rfl _ _ 23 rfl w.heap.size 3 i0 (.int .i64 0) 1 8 Try.underlying23 hi hz0 hz1 hz2 rfl (by decide) (.slice A2 k c2) _ _ rfl (ho.alloc _) ⟨wr.heap.size, 0, none⟩ 1 1 [.int .i64 y] rfl rfl (cell_one_new _ _ _) (by simp [Value.oneCell']) (by simp only [maxLen]; omega) (by omega) (by simp; omega) ?_; intro v2 w4 o4 g4 _)
        obtain ⟨A3, c3, rfl, o5, b5⟩ := pushedB HB.out (Nat.le_refl _) hbw hv o4 g4
        rw [← HT2.out] at o5
        have O5 := hid o5
        have B5 := hid b5
        clear o4 g4 ho HB o5 b5
        go_wp2
        go_roundw
        case rel => exact ⟨A3, c3, k + 1, rfl, by go_num, by omega, O5.out, B5⟩
        case measure => simp [intOf]; omega
      · have HT2 := hid (show (stepL l m).take (k + 1) = (stepL l m).take k ++ [0] from by rw [HT.out, if_neg hlt2])
        clear HT
        go_wp2_with (at_builtin; refine wpList_append_own _ rfl _ _ 23 rfl w.heap.size 3 i0 (.int .i64 0) 1 8 Try.underlying23 hi hz0 hz1 hz2 rfl (by decide) (.slice A2 k c2) _ _ rfl (ho.alloc _) ⟨wr.heap.size, 0, none⟩ 1 1 [.int .i64 0] rfl rfl (cell_one_new _ _ _) (by simp [Value.oneCell']) (by simp only [maxLen]; omega) (by omega) (by simp; omega) ?_; intro v2 w4 o4 g4 _)
        obtain ⟨A3, c3, rfl, o5, b5⟩ := pushedB HB.out (Nat.le_refl _) hbw hv o4 g4
        rw [← HT2.out] at o5
        have O5 := hid o5
        have B5 := hid b5
        clear o4 g4 ho HB o5 b5
        go_wp2
        go_roundw
        case rel => exact ⟨A3, c3, k + 1, rfl, by go_num, by omega, O5.out, B5⟩
        case measure => simp [intOf]; omega
    · obtain rfl : k = n := by omega
      rw [List.take_of_length_le (by rw [stepL_len, HL.out]; omega)] at ho
      go_wp2
      go_ret
      exact ⟨_, _, rfl, ho, HB.out⟩

/-- What SentAt gives. -/
def sentOut (l : List Int) (s : Int) : List Int := if (ringOk l && within s 0 12) = true then sentL l s.toNat else []

set_option maxRecDepth 100000 in
set_option maxHeartbeats 3200000 in
theorem specSentAt_any (A : Option Addr) (n c : Nat) (l : List Int) (s : Int) (w : World) (hs : Sl w w.heap.size A n l) :
    Calls Try.prog 22 #[.slice A n c, .int .i64 s] w fun e w' => ∃ A2 m c2, e = .returned (.slice A2 m c2) ∧ w'.ownsRow w.heap.size 3 1 (.slice A2 m c2) m (ints (sentOut l s)) ∧ m ≤ 12 ∧ Below w.heap.size w w' := by
  obtain ⟨i0, hi, hz0, hz1, hz2⟩ := info_parts info_int
  have HL := hid hs.len
  have CK := hid (specRingOk_any A n c l w hs)
  cases hok : (ringOk l && within s 0 12) with
  | false =>
    have HV := hid (show sentOut l s = [] from by unfold sentOut; rw [hok]; rfl)
    cases h0 : ringOk l with
    | false =>
      rw [h0] at CK
      clear hok h0
      go_enter Try.func22, Try.ntmps22
      go_wp2_with fail
      with_reducible refine Calls.mono CK.out ?_
      rintro e w1 ⟨rfl, b1⟩
      go_wp2
      go_ret
      exact ⟨_, 0, _, rfl, by rw [HV.out]; exact World.ownsRow_lit w1 #[] 0 b1.size (by simp [maxLen]) rfl, by omega, b1.alloc b1.size _⟩
    | true =>
      rw [h0, Bool.true_and] at hok
      rw [h0] at CK
      clear h0
      go_enter Try.func22, Try.ntmps22
      go_wp2_with fail
      with_reducible refine Calls.mono CK.out ?_
      rintro e w1 ⟨rfl, b1⟩
      go_wp2_with (go_at_call 44; refine (l1In_any _ _ _ _).mono ?_; rintro e w' ⟨rfl, rfl⟩)
      go_ret
      exact ⟨_, 0, _, rfl, by rw [HV.out]; exact World.ownsRow_lit w1 #[] 0 b1.size (by simp [maxLen]) rfl, by omega, b1.alloc b1.size _⟩
  | true =>
    have hok2 : ringOk l = true ∧ within s 0 12 = true := by simpa using hok
    obtain ⟨h0, hws⟩ := hok2
    obtain ⟨_, _, h1, h2⟩ := ringOk_iff.1 h0
    rw [HL.out] at h1 h2
    have hsb := within_iff.1 hws
    obtain ⟨S, rfl⟩ : ∃ S : Nat, s = S := Int.eq_ofNat_of_zero_le hsb.1
    have HV := hid (show sentOut l S = sentL l S from by unfold sentOut; rw [if_pos hok, Int.toNat_natCast])
    rw [h0] at CK
    have HS := hid hs
    obtain ⟨bl, off, rfl, hbl, hc⟩ := hs.2.2 (by omega)
    clear hok h0 hc hs
    go_enter Try.func22, Try.ntmps22
    go_wp2_with fail
    with_reducible refine Calls.mono CK.out ?_
    rintro e w1 ⟨rfl, b1⟩
    have hz := b1.size
    have ho0 : (w1.alloc (.cells #[] 3)).ownsRow w.heap.size 3 1 (.slice (some ⟨w1.heap.size, 0, none⟩) 0 0) 0 (ints []) := World.ownsRow_lit w1 #[] 0 hz (by simp [maxLen]) rfl
    have hb0 : Below w.heap.size w (w1.alloc (.cells #[] 3)) := b1.alloc hz _
    have hs1 := HS.out.on hb0
    clear b1
    go_wp2_with (first
      | (go_at_call 44; refine (l1In_any _ _ _ _).mono ?_; rintro e w' ⟨rfl, rfl⟩)
      | (at_builtin; refine wpList_append_own _ rfl _ _ 23 rfl w.heap.size 3 i0 (.int .i64 0) 1 8 Try.underlying23 hi hz0 hz1 hz2 rfl (by decide) (.slice (some ⟨w1.heap.size, 0, none⟩) 0 0) _ _ rfl ho0 ⟨bl, off, none⟩ n c (ints l) rfl (by rw [List.length_map, HL.out, Nat.mul_one]) hs1.cellsAt (ints_one l) (by simp only [maxLen]; omega) (by omega) hb0.size ?_; intro v2 w2 o2 g2 _))
    obtain ⟨g, c2, rfl, hbg, hlt2⟩ := own_shape1 o2 (by omega)
    have hb1 := hb0.grown g2 hb0.size (by intro j hj; simp [Value.ownBlock] at hj; omega)
    rw [show ints [] ++ ints l = ints (sentL l 0) from rfl] at o2
    simp only [Nat.zero_add] at o2
    clear hb0 hs1 ho0 g2 CK
    simp only [Nat.zero_add]
    have HB1 := hid hb1
    clear hb1
    go_loopw [5, 6] (fun v i wr => ∃ (A1 : Option Addr) (c1 k : Nat), v = .slice A1 n c1 ∧ i = .int .i64 k ∧ k ≤ S ∧ wr.ownsRow w.heap.size 3 1 (.slice A1 n c1) n (ints (sentL l k)) ∧ Hid (Below w.heap.size w wr)) (fun _ i _ => S - (intOf i).toNat)
    case atStart => exact ⟨_, _, 0, rfl, rfl, Nat.zero_le _, o2, HB1⟩
    case round =>
      clear o2 HB1
      obtain ⟨A1, c1, k, rfl, rfl, hk, o2, HB1⟩ := hrel
      by_cases hlt : k < S
      · have hlti : (k : Int) < (S : Int) := by omega
        have CV := hid (l9Step_any _ A1 n c c1 l (sentL l k) wr (HS.out.on HB1.out) (Sl.of_own o2) h2)
        rw [show stepL l (sentL l k) = sentL l (k + 1) from rfl] at CV
        clear o2
        go_wp2_with fail
        with_reducible refine Calls.mono CV.out ?_
        rintro e w3 ⟨A3, c3, rfl, o3, b3⟩
        have O3 := hid (own_mono o3 HB1.out.size)
        replace HB1 := hid (HB1.out.trans (b3.mono HB1.out.size))
        clear o3 b3
        go_wp2
        go_roundw
        case rel => exact ⟨A3, c3, k + 1, rfl, by go_num, by omega, O3.out, HB1⟩
        case measure => simp [intOf]; omega
      · obtain rfl : k = S := by omega
        rw [← HV.out] at o2
        have O2 := hid o2
        clear o2
        go_wp2
        go_ret
        exact ⟨A1, n, c1, rfl, O2.out, h2, HB1.out⟩
end Go.Proofs.Ytegmkacapldnoaa
