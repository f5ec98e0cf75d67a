/-
  Walks of the model's BoundsOf and AstrayOf. No statement is proved here.
-/
import Derived.Test.YtpobcfmldimgiaaC5
import Derived.Test.YtpobcfmldimgiaaS5d
import Derived.BigQuiet
import Derived.Deep.QuietTactic
namespace Go.Proofs.Ytpobcfmldimgiaa
open Go.RowKit
set_option linter.unusedVariables false
set_option linter.unusedSimpArgs false

set_option maxHeartbeats 1600000 in
theorem specBoundsOf_any (A : Option Addr) (n c : Nat) (l : List Int) (b : Int) (w : World) (hs : Sl w w.heap.size A n l) :
    Calls Try.prog 37 #[.slice A n c, .int .i64 b] w fun e w' => ∃ A2 m c2, e = .returned (.slice A2 m c2) ∧ w'.ownsRow w.heap.size 3 1 (.slice A2 m c2) m (ints (boundsOut l b)) ∧ m ≤ 14 ∧ Below w.heap.size w w' := by
  obtain ⟨i0, hi, hz0, hz1, hz2⟩ := info_parts info_int
  have ho0 : (w.alloc (.cells #[] 3)).ownsRow w.heap.size 3 1 (.slice (some ⟨w.heap.size, 0, none⟩) 0 0) 0 (ints []) := World.ownsRow_lit w #[] 0 (Nat.le_refl _) (by simp [maxLen]) rfl
  have hb0 : Below w.heap.size w (w.alloc (.cells #[] 3)) := (Below.refl _ _).alloc (Nat.le_refl _) _
  have HL := hid hs.len
  have hm := hs.max
  by_cases h1 : keptOk l = true
  · have hk := (keptOk_iff.1 h1).2
    rw [hs.len] at hk
    have HV := hid (show boundsOut l b = boundsL l b from by unfold boundsOut; rw [if_pos h1])
    have hs1 := hs.on hb0
    go_enter Try.func37, Try.ntmps37
    go_wp2
    go_loopw [5, 6] (fun v i wr => ∃ (A3 : Option Addr) (c3 k : Nat), v = .slice A3 k c3 ∧ i = .int .i64 k ∧ k ≤ n ∧ wr.ownsRow w.heap.size 3 1 (.slice A3 k c3) k (ints ((boundsL l b).take k)) ∧ Below w.heap.size w wr) (fun _ i _ => n - (intOf i).toNat)
    case atStart => exact ⟨_, _, 0, rfl, rfl, Nat.zero_le _, ho0, hb0⟩
    case round =>
      clear ho0 hb0 hs1
      obtain ⟨A3, c3, k, rfl, rfl, hkk, hown, hb⟩ := hrel
      have hs2 := hs.on hb
      by_cases hlt : k < n
      · obtain ⟨bl, off, rfl, hbl, hc⟩ := hs2.2.2 (by omega)
        have hck := hc k hlt
        clear hc
        have ht := take_nth (l := boundsL l b) (k := k) (by rw [boundsL_len, HL.out]; exact hlt)
        rw [nth_boundsL (by rw [HL.out]; exact hlt)] at ht
        obtain ⟨x, hx⟩ : ∃ x, nth l k = x := ⟨_, rfl⟩
        rw [hx] at hck ht
        clear hx
        have hv := own_blk hown
        by_cases hbx : b ≤ x
        · rw [if_pos hbx] at ht
          have HT := hid ht; clear ht
          go_wp2_with (first | (go_at_call 19; refine (specKeptOk_any _ _ _ l _ _ hs2).mono ?_; rintro e w' ⟨rfl, rfl⟩) | (at_builtin; refine wpList_append_own _ rfl (.tmp 25) (.tmp 27) 23 rfl w.heap.size 3 i0 (.int .i64 0) 1 8 Try.underlying23 hi hz0 hz1 hz2 rfl (by decide) (.slice A3 k c3) _ _ rfl (hown.alloc _) ⟨wr.heap.size, 0, none⟩ 1 1 [.int .i64 1] rfl rfl (cell_one_new _ _ _) (by simp [Value.oneCell']) (by simp only [maxLen]; omega) (by omega) (by have := hb.size; simp; omega) ?_; intro v6 w6 hown6 hgrow6 _))
          obtain ⟨A7, c7, rfl, hown7, hb7⟩ := pushedC hb hb.size hv hown6 hgrow6
          rw [← HT.out] at hown7
          have HO := hid hown7
          clear hown7 hown6 hgrow6 hown hb hv hs2
          go_wp2
          go_roundw
          case rel => exact ⟨A7, c7, k + 1, rfl, by go_num, by omega, HO.out, hb7⟩
          case measure => simp [intOf]; omega
        · rw [if_neg hbx] at ht
          have hbx' : decide (b ≤ x) = false := by simpa using hbx
          have HT := hid ht; clear ht
          go_wp2_with (first | (go_at_call 19; refine (specKeptOk_any _ _ _ l _ _ hs2).mono ?_; rintro e w' ⟨rfl, rfl⟩) | (at_builtin; refine wpList_append_own _ rfl (.tmp 25) (.tmp 27) 23 rfl w.heap.size 3 i0 (.int .i64 0) 1 8 Try.underlying23 hi hz0 hz1 hz2 rfl (by decide) (.slice A3 k c3) _ _ rfl (hown.alloc _) ⟨wr.heap.size, 0, none⟩ 1 1 [.int .i64 0] rfl rfl (cell_one_new _ _ _) (by simp [Value.oneCell']) (by simp only [maxLen]; omega) (by omega) (by have := hb.size; simp; omega) ?_; intro v6 w6 hown6 hgrow6 _))
          obtain ⟨A7, c7, rfl, hown7, hb7⟩ := pushedC hb hb.size hv hown6 hgrow6
          rw [← HT.out] at hown7
          have HO := hid hown7
          clear hown7 hown6 hgrow6 hown hb hv hs2
          go_wp2
          go_roundw
          case rel => exact ⟨A7, c7, k + 1, rfl, by go_num, by omega, HO.out, hb7⟩
          case measure => simp [intOf]; omega
      · obtain rfl : k = n := by omega
        rw [List.take_of_length_le (by rw [boundsL_len, HL.out]; omega)] at hown
        have HO := hid hown
        clear hown
        go_wp2
        go_ret
        exact ⟨_, k, _, rfl, by rw [HV.out]; exact HO.out, hk.2, hb⟩
  · have h1' : keptOk l = false := by simpa using h1
    have HV := hid (show boundsOut l b = [] from by unfold boundsOut; rw [if_neg h1])
    have hs1 := hs.on hb0
    go_enter Try.func37, Try.ntmps37
    go_wp2
    go_loopw [5, 6] (fun v i wr => v = .slice (some ⟨w.heap.size, 0, none⟩) 0 0 ∧ i = .int .i64 0 ∧ wr = w.alloc (.cells #[] 3)) (fun _ i _ => 0)
    case atStart => exact ⟨rfl, rfl, rfl⟩
    case round =>
      obtain ⟨rfl, rfl, rfl⟩ := hrel
      by_cases hn : 0 < n
      · have hn' : (0 : Int) < (n : Int) := by omega
        go_wp2_with (go_at_call 19; refine (specKeptOk_any _ _ _ l _ _ hs1).mono ?_; rintro e w' ⟨rfl, rfl⟩)
        go_ret
        exact ⟨_, 0, 0, rfl, by rw [HV.out]; exact ho0, by omega, hb0⟩
      · have hn' : ¬ ((0 : Int) < (n : Int)) := by omega
        go_wp2
        go_ret
        exact ⟨_, 0, 0, rfl, by rw [HV.out]; exact ho0, by omega, hb0⟩

set_option maxHeartbeats 1600000 in
theorem specAstrayOf_any (A : Option Addr) (n c : Nat) (l : List Int) (w : World) (hs : Sl w w.heap.size A n l) :
    Calls Try.prog 39 #[.slice A n c] w fun e w' => e = .returned (.int .i64 (astrayOut l)) ∧ w.grownBy w' none := by
  have HL := hid hs.len
  by_cases h1 : keptOk l = true
  · have hk := (keptOk_iff.1 h1).2
    rw [hs.len] at hk
    have HV := hid (show astrayOut l = astray l from by unfold astrayOut; rw [if_pos h1])
    go_enter Try.func39, Try.ntmps39
    go_wp2_with (go_at_call 19; refine (specKeptOk_any _ _ _ l _ _ hs).mono ?_; rintro e w' ⟨rfl, rfl⟩)
    obtain ⟨b, off, rfl, _, hc⟩ := hs.2.2 (by omega)
    have HC := hid hc
    clear hc
    go_loopw [3, 4] (fun t i wr => ∃ k m : Nat, t = .int .i64 (astray (l.take k)) ∧ i = .int .i64 k ∧ k ≤ n ∧ wr = w.drewN m) (fun _ i _ => n - (intOf i).toNat)
    case atStart => exact ⟨0, 0, by simp [astray], rfl, Nat.zero_le _, rfl⟩
    case round =>
      obtain ⟨k, m, rfl, rfl, hkn, rfl⟩ := hrel
      by_cases hlt : k < n
      · have hx := HC.out k hlt
        have hn1 : astray (l.take (k + 1)) = astray (l.take k) + (l.take k).countP (fun y => decide (nth l k < y)) := by
          rw [take_nth (by rw [HL.out]; exact hlt), astray_snoc]
        have HN := hid hn1
        have hbd := astray_le (l := l.take k) (by rw [List.length_take]; omega)
        clear hn1
        obtain ⟨T, hT⟩ : ∃ T, astray (l.take k) = T := ⟨_, rfl⟩
        rw [hT] at HN hbd ⊢
        clear hT
        go_wp2
        go_loopw [3, 5] (fun t i wr => ∃ j m2 : Nat, t = .int .i64 (T + (l.take j).countP (fun y => decide (nth l k < y)) : Nat) ∧ i = .int .i64 j ∧ j ≤ k ∧ wr = w.drewN m2) (fun _ i _ => k - (intOf i).toNat)
        case atStart => exact ⟨0, m, by simp, rfl, Nat.zero_le _, rfl⟩
        case round =>
          obtain ⟨j, m2, rfl, rfl, hjk, rfl⟩ := hrel
          by_cases hjl : j < k
          · have hy := HC.out j (by omega)
            have hn2 : (l.take (j + 1)).countP (fun y => decide (nth l k < y)) = (l.take j).countP (fun y => decide (nth l k < y)) + (if nth l k < nth l j then 1 else 0) := by
              rw [take_nth (by rw [HL.out]; omega), List.countP_append]
              by_cases h : nth l k < nth l j
              · simp [h]
              · simp [h]
            have HN2 := hid hn2
            have hq := List.countP_le_length (p := fun y => decide (nth l k < y)) (l := l.take j)
            rw [List.length_take] at hq
            clear hn2
            have e1 : (j : Int) < (n : Int) := by omega
            have e2 : (k : Int) < (n : Int) := by omega
            obtain ⟨Q, hQ⟩ : ∃ Q, (l.take j).countP (fun y => decide (nth l k < y)) = Q := ⟨_, rfl⟩
            rw [hQ] at HN2 hq ⊢
            clear hQ
            obtain ⟨x, hxe⟩ : ∃ x, nth l k = x := ⟨_, rfl⟩
            obtain ⟨y, hye⟩ : ∃ y, nth l j = y := ⟨_, rfl⟩
            have hx2 := hx
            rw [hxe] at hx2
            rw [hye] at hy
            clear hx
            by_cases hxy : x < y
            · have HE := hid (show (l.take (j + 1)).countP (fun y => decide (nth l k < y)) = Q + 1 from by rw [HN2.out, if_pos (by rw [hxe, hye]; exact hxy)])
              clear HN2 hxe hye
              go_wp2
              go_quiet (fail)
              go_wp2
              go_roundw
              case rel => exact ⟨j + 1, _, by rw [HE.out]; go_num, by go_num, by omega, rfl⟩
              case measure => simp [intOf]; omega
            · have hxy' : decide (x < y) = false := by simpa using hxy
              have HE := hid (show (l.take (j + 1)).countP (fun y => decide (nth l k < y)) = Q from by rw [HN2.out, if_neg (by rw [hxe, hye]; exact hxy)]; rfl)
              clear HN2 hxe hye hxy
              go_wp2
              go_quiet (fail)
              go_wp2
              go_roundw
              case rel => exact ⟨j + 1, _, by rw [HE.out], by go_num, by omega, rfl⟩
              case measure => simp [intOf]; omega
          · obtain rfl : j = k := by omega
            go_wp2
            go_roundw
            case rel => exact ⟨j + 1, m2, by rw [HN.out], by go_num, by omega, rfl⟩
            case measure => simp [intOf]; omega
      · obtain rfl : k = n := by omega
        rw [List.take_of_length_le (by rw [HL.out]; omega)]
        go_wp2
        go_ret
        exact ⟨ret_int (by rw [HV.out]), drewN_grown _ _⟩
  · have h1' : keptOk l = false := by simpa using h1
    have HV := hid (show astrayOut l = -1 from by unfold astrayOut; rw [if_neg h1])
    go_enter Try.func39, Try.ntmps39
    go_wp2_with (go_at_call 19; refine (specKeptOk_any _ _ _ l _ _ hs).mono ?_; rintro e w' ⟨rfl, rfl⟩)
    go_ret
    exact ⟨ret_int (by rw [HV.out]), ⟨rfl, rfl, rfl, Nat.le_refl _, fun _ _ _ => rfl⟩⟩
end Go.Proofs.Ytpobcfmldimgiaa
