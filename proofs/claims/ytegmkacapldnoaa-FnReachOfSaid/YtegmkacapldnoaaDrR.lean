/-
  Walk of the model's draw of rings. No statement is proved here.
-/
import Derived.Test.YtegmkacapldnoaaDrO
import Derived.Test.YtegmkacapldnoaaC9c
import Derived.Deep.RegionHeld3
namespace Go.Proofs.Ytegmkacapldnoaa
open Go.RowKit
set_option linter.unusedVariables false
set_option linter.unusedSimpArgs false

set_option maxRecDepth 100000 in
set_option maxHeartbeats 6400000 in
theorem ringDraw_any (g P : Nat) (m : Int) (w : World) (hr : Rd w g P) (hP : P < 100000) (hm : 1 ≤ m) (hm2 : m ≤ 1000000) :
    Calls Try.prog 40 #[.pointer (some ⟨g, 0, none⟩), .int .i64 m] w fun e w' => ∃ A n c l, e = .returned (.slice A n c) ∧ w'.ownsRow w.heap.size 3 1 (.slice A n c) n (ints l) ∧ n ≤ 13 ∧ Rd w' g (P + 40) ∧ w.grownBy w' (some g) := by
  obtain ⟨i0, hi, hz0, hz1, hz2⟩ := info_parts info_int
  have hglt := hr.lt
  have hr0 := hr.below ((Below.refl w.heap.size w).alloc (Nat.le_refl _) (.cells #[] 3)) hglt
  have ho0 : (w.alloc (.cells #[] 3)).ownsRow w.heap.size 3 1 (.slice (some ⟨w.heap.size, 0, none⟩) 0 0) 0 (ints []) := World.ownsRow_lit w #[] 0 (Nat.le_refl _) (by simp [maxLen]) rfl
  have hg0 : w.grownBy (w.alloc (.cells #[] 3)) (some g) := grown_alloc w _ (some g)
  go_enter Try.func40, Try.ntmps40
  go_wp2_with fail
  refine (pick_any g P 4 _ hr0 (by omega) (by omega) (by omega)).mono ?_
  rintro e w1 ⟨q, rfl, hq0, hq1, hr1, hg1⟩
  have ho1 := ho0.kept hg1 (.inr (by simp [Value.ownBlock]; omega))
  have hg01 : w.grownBy w1 (some g) := hg0.andThen hg1 (by simp)
  clear hg1 ho0 hr0 hg0
  go_wp2_with fail
  refine (pick_any g _ 12 _ hr1 (by omega) (by omega) (by omega)).mono ?_
  rintro e w2 ⟨K, rfl, hK0, hK1, hr2, hg2⟩
  have ho2 := ho1.kept hg2 (.inr (by simp [Value.ownBlock]; omega))
  have hg02 := hg01.andThen hg2 (by simp)
  clear hg2 ho1 hg01 hr1
  go_wp2
  go_loopw [5, 7] (fun v kk wr => ∃ (A : Option Addr) (i c : Nat) (l : List Int) (j : Nat), v = .slice A i c ∧ kk = .int .i64 j ∧ i + j ≤ 12 ∧ 1 ≤ i + j ∧ wr.ownsRow w.heap.size 3 1 (.slice A i c) i (ints l) ∧ Rd wr g (P + 2 + (12 - j)) ∧ w.grownBy wr (some g)) (fun _ kk _ => (intOf kk).toNat)
  case atStart =>
    obtain ⟨K, rfl⟩ := Int.eq_ofNat_of_zero_le hK0
    exact ⟨_, 0, 0, [], K + 1, rfl, by go_num, by omega, by omega, ho2, hr2.more (by omega), hg02⟩
  case round =>
    obtain ⟨A, i, c, l, j, rfl, rfl, hij, hij1, hown, hrr, hgg⟩ := hrel
    clear ho2 hr2 hg02
    by_cases hj : 0 < j
    · have hv := own_blk hown
      have hvg := own_ne hown hglt
      go_wp2_with fail
      refine (pick_any g _ 99 _ hrr (by omega) (by omega) (by omega)).mono ?_
      rintro e w5 ⟨x, rfl, x0, x1, r5, g5⟩
      replace hown := hown.kept g5 hvg
      replace hgg := hgg.andThen g5 (by simp)
      clear g5 hrr
      go_wp2_with fail
      all_goals
        go_loopw [9, 10] (fun t jj wr2 => ∃ (b : Bool) (J : Nat), t = .bool b ∧ jj = .int .i64 J ∧ J ≤ i ∧ (b = true → 1 ≤ J) ∧ wr2.ownsRow w.heap.size 3 1 (.slice A i c) i (ints l) ∧ Rd wr2 g (P + 2 + (12 - j) + 1) ∧ w.grownBy wr2 (some g)) (fun _ jj _ => i - (intOf jj).toNat)
        case atStart => exact ⟨false, 0, rfl, rfl, Nat.zero_le _, (fun h => by cases h), hown, r5, hgg⟩
        case round =>
          clear hown r5 hgg hv hvg
          obtain ⟨b, J, rfl, rfl, hJ, hbJ, hown, r5, hgg⟩ := hrel
          by_cases hlt : J < i
          · rcases own_form9 hown with ⟨_, h0, _⟩ | ⟨g1, rfl, _, _⟩
            · omega
            have hx := own_cell hown (by have := hown.1; simpa using this) hlt
            have hlti : (J : Int) < (i : Int) := by omega
            have hJ0 : (0 : Int) ≤ (J : Int) := by omega
            obtain ⟨y, hy⟩ : ∃ y, nth l J = y := ⟨_, rfl⟩
            rw [hy] at hx
            clear hy
            cases b with
            | true =>
              go_wp2
              go_roundw
              case rel => exact ⟨true, J + 1, rfl, by go_num, by omega, (fun _ => by omega), hown, r5, hgg⟩
              case measure => simp [intOf]; omega
            | false =>
              go_wp2
              go_roundw
              case rel => exact ⟨_, J + 1, rfl, by go_num, by omega, (fun _ => by omega), hown, r5, hgg⟩
              case measure => simp [intOf]; omega
          · obtain rfl : J = i := by omega
            cases b with
            | true =>
              have hJ1 := hbJ rfl
              go_wp2
              go_roundw
              case rel => exact ⟨A, J, c, l, j - 1, rfl, by go_num, by omega, by omega, hown, r5.more (by omega), hgg⟩
              case measure => simp [intOf]; omega
            | false =>
              have hv := own_blk hown
              have hgl6 := r5.lt
              go_wp2_with (at_builtin; refine wpList_append_own _ rfl _ _ 23 rfl w.heap.size 3 i0 (.int .i64 0) 1 8 Try.underlying23 hi hz0 hz1 hz2 rfl (by decide) (.slice A J c) _ _ rfl (hown.alloc _) ⟨wr.heap.size, 0, none⟩ 1 1 [.int .i64 _] rfl rfl (cell_one_new _ _ _) (by simp [Value.oneCell']) (by simp only [maxLen]; omega) (by omega) (by have := hgg.size; simp; omega) ?_; intro v2 w2 hown2 hgrow2 _)
              obtain ⟨A2, c2, rfl, hown3, hgg3⟩ := pushed hgg (Nat.le_refl _) hgg.size hv hown2 hgrow2
              have hr3 : Rd w2 g (P + 2 + (12 - j) + 1) := (r5.grown (grown_alloc _ _ none) (by simp)).grown hgrow2 (by
                intro k hk
                rcases hv with h | ⟨k', h, hk'⟩
                · rw [h] at hk; cases hk
                · rw [h] at hk; cases hk; omega)
              clear hown2 hgrow2 hown hgg r5
              go_wp2
              go_roundw
              case rel => exact ⟨A2, J + 1, c2, l ++ [_], j - 1, rfl, by go_num, by omega, by omega, hown3, hr3.more (by omega), hgg3⟩
              case measure => simp [intOf]; omega
    · obtain rfl : j = 0 := by omega
      go_wp2_with fail
      refine (odd_any g _ m _ hrr (by omega) hm hm2).mono ?_
      rintro e w3 ⟨b, rfl, hr3, hg3⟩
      have hv : (Value.slice A i c).ownBlock = none ∨ ∃ k, (Value.slice A i c).ownBlock = some k ∧ w.heap.size ≤ k := by
        rcases h : (Value.slice A i c).ownBlock with _ | k
        · exact .inl rfl
        · exact .inr ⟨k, rfl, (hown.lt k h).1⟩
      have hown3 := hown.kept hg3 (by rcases hv with h | ⟨k, h, hk⟩ <;> rw [h] <;> simp; omega)
      have hgg3 := hgg.andThen hg3 (by simp)
      clear hg3 hown hgg hrr
      cases b with
      | false =>
        go_wp2
        go_ret
        exact ⟨A, i, c, l, rfl, hown3, by omega, hr3.more (by omega), hgg3⟩
      | true =>
        go_wp2_with fail
        refine (pick_any g _ 3 _ hr3 (by omega) (by omega) (by omega)).mono ?_
        rintro e w4 ⟨y, rfl, hy0, hy1, hr4, hg4⟩
        have hown4 := hown3.kept hg4 (by rcases hv with h | ⟨k, h, hk⟩ <;> rw [h] <;> simp; omega)
        have hgg4 := hgg3.andThen hg4 (by simp)
        clear hg4 hown3 hgg3 hr3
        obtain ⟨i, rfl⟩ : ∃ i', i = i' + 1 := ⟨i - 1, by omega⟩
        obtain ⟨g2, c2, hv2, hb2, hb3⟩ := own_shape hown4
        injection hv2 with e1 e2 e3
        subst e1
        subst e3
        clear hv
        have hcell := own_cell (j := 0) hown4 (by have := hown4.1; simpa using this) (by omega)
        rcases (show y = 0 ∨ y = 1 ∨ y = 2 by omega) with rfl | rfl | rfl
        · go_wp2
          go_ret
          refine ⟨_, 0, 0, [], rfl, ?_, by omega, (hr4.below ((Below.refl w4.heap.size w4).alloc (Nat.le_refl _) _) hr4.lt).more (by omega), hgg4.andThen (grown_alloc w4 _ none) (by simp)⟩
          exact own_mono (World.ownsRow_lit w4 #[] 0 (Nat.le_refl _) (by simp [maxLen]) rfl) hgg4.size
        · have hfz := hown4.frozenAt 0
          have hst := (hown4.stored 0 (.int .i64 0)).1
          rw [ints_set] at hst
          have hgs := (hown4.stored 0 (.int .i64 0)).2
          have HS := hid hst
          have HG := hid hgs
          clear hst hgs hown4
          go_wp2
          go_ret
          exact ⟨_, _, _, _, rfl, HS.out, by omega, (hr4.grown HG.out (by intro k hk; cases hk; omega)).more (by omega), hgg4.andThen HG.out (by intro k hk; cases hk; left; omega)⟩
        · have hv := own_blk hown4
          have hgl6 := hr4.lt
          obtain ⟨z, hz⟩ : ∃ z, nth l 0 = z := ⟨_, rfl⟩
          rw [hz] at hcell
          clear hz
          go_wp2_with (at_builtin; refine wpList_append_own _ rfl _ _ 23 rfl w.heap.size 3 i0 (.int .i64 0) 1 8 Try.underlying23 hi hz0 hz1 hz2 rfl (by decide) (.slice (some ⟨g2, 0, none⟩) (i + 1) c) _ _ rfl (hown4.alloc _) ⟨w4.heap.size, 0, none⟩ 1 1 [.int .i64 z] rfl rfl (cell_one_new _ _ _) (by simp [Value.oneCell']) (by simp only [maxLen]; omega) (by omega) (by have := hgg4.size; simp; omega) ?_; intro v2 w5 hown5 hgrow5 _)
          obtain ⟨A2, c3, rfl, hown6, hgg6⟩ := pushed hgg4 (Nat.le_refl _) hgg4.size hv hown5 hgrow5
          have hr6 := (hr4.grown (grown_alloc _ _ none) (by simp)).grown hgrow5 (by
            intro k hk
            rcases hv with h | ⟨k', h, hk'⟩
            · rw [h] at hk; cases hk
            · rw [h] at hk; cases hk; omega)
          clear hown5 hgrow5 hown4 hgg4 hr4
          go_wp2
          go_ret
          exact ⟨A2, i + 1 + 1, c3, l ++ [z], rfl, hown6, by omega, hr6.more (by omega), hgg6⟩
end Go.Proofs.Ytegmkacapldnoaa
