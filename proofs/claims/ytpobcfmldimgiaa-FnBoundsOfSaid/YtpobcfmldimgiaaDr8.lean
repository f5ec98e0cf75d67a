/-
  The walk of the model's draw of rows of numbers, written by program (draws5.py). No statement is proved here.
-/
import Derived.Test.YtpobcfmldimgiaaDrO
import Derived.Test.YtpobcfmldimgiaaEx0
namespace Go.Proofs.Ytpobcfmldimgiaa
open Go.RowKit
set_option linter.unusedVariables false
set_option linter.unusedSimpArgs false

set_option maxRecDepth 100000 in
set_option maxHeartbeats 6400000 in
theorem kept_any (g P : Nat) (m : Int) (w : World) (hr : Rd w g P) (hP : P < 100000) (hm : 1 ≤ m) (hm2 : m ≤ 1000000) :
    Calls Try.prog 44 #[.pointer (some ⟨g, 0, none⟩), .int .i64 m] w fun e w' => ∃ A n c l, e = .returned (.slice A n c) ∧ w'.ownsRow w.heap.size 3 1 (.slice A n c) n (ints l) ∧ n ≤ 15 ∧ Rd w' g (P + 40) ∧ w.grownBy w' (some g) := by
  obtain ⟨i0, hi, hz0, hz1, hz2⟩ := info_parts info_int
  have hglt := hr.lt
  have hr0 := (hr.below ((Below.refl w.heap.size w).alloc (Nat.le_refl _) (.cells #[] 3)) hglt).below ((Below.refl (w.heap.size + 1) (w.alloc (.cells #[] 3))).alloc (by simp) (.cells #[.int .i64 2, .int .i64 5, .int .i64 100] 3)) (by omega)
  have ho0 : ((w.alloc (.cells #[] 3)).alloc (.cells #[.int .i64 2, .int .i64 5, .int .i64 100] 3)).ownsRow w.heap.size 3 1 (.slice (some ⟨w.heap.size, 0, none⟩) 0 0) 0 (ints []) := own_kept_none (World.ownsRow_lit w #[] 0 (Nat.le_refl _) (by simp [maxLen]) rfl) (grown_alloc _ _ _)
  have c0 : ((w.alloc (.cells #[] 3)).alloc (.cells #[.int .i64 2, .int .i64 5, .int .i64 100] 3)).cell? ⟨w.heap.size + 1, 0, none⟩ = some (.int .i64 2) := by simp [go_sem]
  have c1 : ((w.alloc (.cells #[] 3)).alloc (.cells #[.int .i64 2, .int .i64 5, .int .i64 100] 3)).cell? ⟨w.heap.size + 1, 1, none⟩ = some (.int .i64 5) := by simp [go_sem]
  have c2 : ((w.alloc (.cells #[] 3)).alloc (.cells #[.int .i64 2, .int .i64 5, .int .i64 100] 3)).cell? ⟨w.heap.size + 1, 2, none⟩ = some (.int .i64 100) := by simp [go_sem]
  have hg0 : w.grownBy ((w.alloc (.cells #[] 3)).alloc (.cells #[.int .i64 2, .int .i64 5, .int .i64 100] 3)) (some g) := World.grownBy.andThen (row' := none) (grown_alloc w _ (some g)) (grown_alloc _ _ _) (by simp)
  go_enter Try.func44, Try.ntmps44
  go_wp2_with fail
  refine (pick_any g P 3 _ hr0 (by omega) (by omega) (by omega)).mono ?_
  rintro e w1 ⟨q, rfl, hq0, hq1, hr1, hg1⟩
  replace c0 := hg1.cell c0 (by simp; omega)
  replace c1 := hg1.cell c1 (by simp; omega)
  replace c2 := hg1.cell c2 (by simp; omega)
  have hqc : ∃ H : Int, w1.cell? ⟨w.heap.size + 1, q.toNat, none⟩ = some (.int .i64 H) ∧ 1 ≤ H ∧ H ≤ 100 := by
    rcases (show q = 0 ∨ q = 1 ∨ q = 2 by omega) with rfl | rfl | rfl
    · exact ⟨2, c0, by omega, by omega⟩
    · exact ⟨5, c1, by omega, by omega⟩
    · exact ⟨100, c2, by omega, by omega⟩
  obtain ⟨S, hH, hS1, hS2⟩ := hqc
  obtain ⟨q, rfl⟩ := Int.eq_ofNat_of_zero_le hq0
  simp only [Int.toNat_natCast] at hH
  have hq1' : (q : Int) < 3 := hq1
  have ho1 := ho0.kept hg1 (.inr (by simp [Value.ownBlock]; omega))
  have hg01 : w.grownBy w1 (some g) := hg0.andThen hg1 (by simp)
  clear hg1 ho0 hr0 c0 c1 c2 hg0
  go_wp2_with fail
  refine (pick_any g _ 14 _ hr1 (by omega) (by omega) (by omega)).mono ?_
  rintro e w2 ⟨K, rfl, hK0, hK1, hr2, hg2⟩
  have ho2 := ho1.kept hg2 (.inr (by simp [Value.ownBlock]; omega))
  have hg02 := hg01.andThen hg2 (by simp)
  clear hg2 ho1 hg01 hH hr1
  go_wp2
  go_loopw [5, 7] (fun v kk wr => ∃ (A : Option Addr) (i c : Nat) (l : List Int) (j : Nat), v = .slice A i c ∧ kk = .int .i64 j ∧ i + j ≤ 14 ∧ 1 ≤ i + j ∧ wr.ownsRow w.heap.size 3 1 (.slice A i c) i (ints l) ∧ Rd wr g (P + 2 + i) ∧ w.grownBy wr (some g)) (fun _ kk _ => (intOf kk).toNat)
  case atStart =>
    obtain ⟨K, rfl⟩ := Int.eq_ofNat_of_zero_le hK0
    exact ⟨_, 0, 0, [], K + 1, rfl, by go_num, by omega, by omega, ho2, hr2.more (by omega), hg02⟩
  case round =>
    obtain ⟨A, i, c, l, j, rfl, rfl, hij, hij1, hown, hrr, hgg⟩ := hrel
    clear ho2 hr2 hg02
    by_cases hj : 0 < j
    · go_wp2_with fail
      refine (pick_any g _ S _ hrr (by omega) (by omega) (by omega)).mono ?_
      rintro e w1 ⟨x, rfl, hx0, hx1, hr1, hg1⟩
      have hv : (Value.slice A i c).ownBlock = none ∨ ∃ k, (Value.slice A i c).ownBlock = some k ∧ w.heap.size ≤ k := by
        rcases h : (Value.slice A i c).ownBlock with _ | k
        · exact .inl rfl
        · exact .inr ⟨k, rfl, (hown.lt k h).1⟩
      have hown1 := hown.kept hg1 (by rcases hv with h | ⟨k, h, hk⟩ <;> rw [h] <;> simp; omega)
      have hgg1 := hgg.andThen hg1 (by simp)
      clear hg1 hown
      go_wp2_with (at_builtin; refine wpList_append_own _ rfl (.tmp 22) (.tmp 26) 23 rfl w.heap.size 3 i0 (.int .i64 0) 1 8 Try.underlying23 hi hz0 hz1 hz2 rfl (by decide) (.slice A i c) _ _ rfl (hown1.alloc _) ⟨w1.heap.size, 0, none⟩ 1 1 [.int .i64 x] rfl rfl (cell_one_new _ _ _) (by simp [Value.oneCell']) (by simp only [maxLen]; omega) (by omega) (by have := hgg1.size; simp; omega) ?_; intro v2 w2 hown2 hgrow2 _)
      obtain ⟨A2, c2, rfl, hown3, hgg3⟩ := pushed hgg1 (Nat.le_refl _) hgg1.size hv hown2 hgrow2
      have hr3 : Rd w2 g (P + 2 + i + 1) := (hr1.below ((Below.refl w1.heap.size w1).alloc (Nat.le_refl _) _) hr1.lt).grown hgrow2 (by
        intro k hk
        rcases hv with h | ⟨k', h, hk'⟩
        · rw [h] at hk; cases hk
        · rw [h] at hk; cases hk; omega)
      clear hown2 hgrow2 hown1 hgg1 hr1 hrr hgg
      go_wp2
      go_roundw
      case rel => exact ⟨A2, i + 1, c2, l ++ [x], j - 1, rfl, by go_num, by omega, by omega, hown3, hr3, hgg3⟩
      case measure => simp [intOf]; omega
    · obtain rfl : j = 0 := by omega
      go_wp2_with fail
      refine (pick_any g _ 6 _ hrr (by omega) (by omega) (by omega)).mono ?_
      rintro e w6 ⟨u, rfl, hu0, hu1, hr6, hg6⟩
      have hv : (Value.slice A i c).ownBlock = none ∨ ∃ k, (Value.slice A i c).ownBlock = some k ∧ w.heap.size ≤ k := by
        rcases h : (Value.slice A i c).ownBlock with _ | k
        · exact .inl rfl
        · exact .inr ⟨k, rfl, (hown.lt k h).1⟩
      replace hown := hown.kept hg6 (by rcases hv with h | ⟨k, h, hk⟩ <;> rw [h] <;> simp; omega)
      replace hgg := hgg.andThen hg6 (by simp)
      replace hrr := hr6
      clear hg6 hv hr6
      by_cases hu : u = 0
      · subst hu
        go_wp2_with fail
        go_loopw [8] (fun kk wr => ∃ (k : Nat) (l : List Int), kk = .int .i64 k ∧ k ≤ i ∧ wr.ownsRow w.heap.size 3 1 (.slice A i c) i (ints l) ∧ Rd wr g (P + 2 + i + 1) ∧ w.grownBy wr (some g)) (fun kk _ => i - (intOf kk).toNat)
        case atStart => exact ⟨0, l, rfl, Nat.zero_le _, hown, hrr, hgg⟩
        case round =>
          clear hown hrr hgg
          obtain ⟨k, l, rfl, hk, hown, hrr, hgg⟩ := hrel
          by_cases hlt : k < i
          · obtain ⟨i, rfl⟩ : ∃ i', i = i' + 1 := ⟨i - 1, by omega⟩
            obtain ⟨g2, c2, hv2, hb2, hb3⟩ := own_shape hown
            injection hv2 with e1 e2 e3
            subst e1
            subst e3
            have hcell := own_cell (j := k) hown (by have := hown.1; simpa using this) hlt
            have hfz := hown.frozenAt k
            have hlt' : (k : Int) < (i : Int) + 1 := by omega
            obtain ⟨H, hH⟩ : ∃ H : Int, (i : Int) + 1 - (k : Int) = H := ⟨_, rfl⟩
            have hst := (hown.stored k (.int .i64 H)).1
            rw [ints_set] at hst
            have hgs := (hown.stored k (.int .i64 H)).2
            have HS := hid hst
            have HG := hid hgs
            have HH := hid hH
            clear hst hgs hown hH
            go_wp2
            rw [HH.out]
            go_roundw
            case rel => exact ⟨k + 1, _, by go_num, by omega, HS.out, hrr.grown HG.out (by intro k hk; cases hk; omega), hgg.andThen HG.out (by intro k hk; cases hk; left; omega)⟩
            case measure => simp [intOf]; omega
          · obtain rfl : i = k := by omega
            go_wp2_with fail
            refine (odd_any g _ m _ hrr (by omega) hm hm2).mono ?_
            rintro e w3 ⟨b, rfl, hr3, hg3⟩
            have hv : (Value.slice A i c).ownBlock = none ∨ ∃ k, (Value.slice A i c).ownBlock = some k ∧ w.heap.size ≤ k := by
              rcases h : (Value.slice A i c).ownBlock with _ | k
              · exact .inl rfl
              · exact .inr ⟨k, rfl, (hown.lt k h).1⟩
            have hown3 := hown.kept hg3 (by rcases hv with h | ⟨k, h, hk⟩ <;> rw [h] <;> simp; omega)
            have hgg3 := hgg.andThen hg3 (by simp)
            clear hg3 hown hgg hrr
            cases b with
            | false =>
              go_wp2
              go_ret
              exact ⟨A, i, c, l, rfl, hown3, by omega, hr3.more (by omega), hgg3⟩
            | true =>
              go_wp2_with fail
              refine (pick_any g _ 3 _ hr3 (by omega) (by omega) (by omega)).mono ?_
              rintro e w4 ⟨y, rfl, hy0, hy1, hr4, hg4⟩
              have hown4 := hown3.kept hg4 (by rcases hv with h | ⟨k, h, hk⟩ <;> rw [h] <;> simp; omega)
              have hgg4 := hgg3.andThen hg4 (by simp)
              clear hg4 hown3 hgg3 hr3
              obtain ⟨i, rfl⟩ : ∃ i', i = i' + 1 := ⟨i - 1, by omega⟩
              obtain ⟨g2, c2, hv2, hb2, hb3⟩ := own_shape hown4
              injection hv2 with e1 e2 e3
              subst e1
              subst e3
              clear hv
              rcases (show y = 0 ∨ y = 1 ∨ y = 2 by omega) with rfl | rfl | rfl
              · go_wp2
                go_ret
                refine ⟨_, 0, 0, [], rfl, ?_, by omega, (hr4.below ((Below.refl w4.heap.size w4).alloc (Nat.le_refl _) _) hr4.lt).more (by omega), hgg4.andThen (grown_alloc w4 _ none) (by simp)⟩
                exact own_mono (World.ownsRow_lit w4 #[] 0 (Nat.le_refl _) (by simp [maxLen]) rfl) hgg4.size
              · have hg2l := hown4.lt g2 rfl
                have oA := own_kept_none hown4 (grown_alloc w4 (.cells #[.int .i64 (-1), .int .i64 100] 3) none)
                have hr5 := hr4.below ((Below.refl w4.heap.size w4).alloc (Nat.le_refl _) (.cells #[.int .i64 (-1), .int .i64 100] 3)) hr4.lt
                have cA : (w4.alloc (.cells #[.int .i64 (-1), .int .i64 100] 3)).cell? ⟨w4.heap.size, 0, none⟩ = some (.int .i64 (-1)) := by simp
                have cB : (w4.alloc (.cells #[.int .i64 (-1), .int .i64 100] 3)).cell? ⟨w4.heap.size, 1, none⟩ = some (.int .i64 100) := by simp
                have hgA := hgg4.andThen (row' := none) (grown_alloc w4 (.cells #[.int .i64 (-1), .int .i64 100] 3) none) (by simp)
                have hz4 : (w4.alloc (.cells #[.int .i64 (-1), .int .i64 100] 3)).heap.size = w4.heap.size + 1 := by simp
                have hgl4 := hr4.lt
                go_wp2_with fail
                refine (pick_any g _ 2 _ hr5 (by omega) (by omega) (by omega)).mono ?_
                rintro e w5 ⟨z, rfl, hz0, hz1, hr6, hg5⟩
                replace cA := hg5.cell cA (by simp; omega)
                replace cB := hg5.cell cB (by simp; omega)
                have hzc : ∃ H : Int, w5.cell? ⟨w4.heap.size, z.toNat, none⟩ = some (.int .i64 H) := by
                  rcases (show z = 0 ∨ z = 1 by omega) with rfl | rfl
                  · exact ⟨-1, cA⟩
                  · exact ⟨100, cB⟩
                obtain ⟨H, hH⟩ := hzc
                have o5 := oA.kept hg5 (by simp [Value.ownBlock]; omega)
                have hgg5 := hgA.andThen hg5 (by simp)
                obtain ⟨z, rfl⟩ := Int.eq_ofNat_of_zero_le hz0
                have hz1' : (z : Int) < 2 := hz1
                simp only [Int.toNat_natCast] at hH
                have hcell := own_cell (j := 0) o5 (by have := o5.1; simpa using this) (by omega)
                have hfz := o5.frozenAt 0
                have hst := (o5.stored 0 (.int .i64 H)).1
                rw [ints_set] at hst
                have hgs := (o5.stored 0 (.int .i64 H)).2
                have HS := hid hst
                have HG := hid hgs
                clear hst hgs cA cB hown4 oA o5 hg5 hgA
                go_wp2
                go_ret
                exact ⟨_, _, _, _, rfl, HS.out, by omega, (hr6.grown HG.out (by intro k hk; cases hk; omega)).more (by omega), hgg5.andThen HG.out (by intro k hk; cases hk; left; omega)⟩
              · go_wp2_with (refine wpList_make_full _ rfl (.const (.int .i64 15)) (.const (.int .i64 15)) 23 rfl w.heap.size 3 i0 _ 1 Try.underlying23 hi hz0 hz1 .i64 .i64 15 15 15 rfl rfl rfl rfl (by rw [hz2]; omega) (by simp [maxLen]) hgg4.size ?_; intro w5 hown5 hg5)
                go_ret
                rw [madeInts] at hown5
                exact ⟨_, _, _, _, rfl, hown5, by omega, (hr4.grown hg5 (by simp)).more (by omega), hgg4.andThen hg5 (by simp)⟩
      · have hu' : (u == 0) = false := by simpa using hu
        have hu2 : decide (u = 0) = false := by simpa using hu
        go_wp2_with fail
        refine (odd_any g _ m _ hrr (by omega) hm hm2).mono ?_
        rintro e w3 ⟨b, rfl, hr3, hg3⟩
        have hv : (Value.slice A i c).ownBlock = none ∨ ∃ k, (Value.slice A i c).ownBlock = some k ∧ w.heap.size ≤ k := by
          rcases h : (Value.slice A i c).ownBlock with _ | k
          · exact .inl rfl
          · exact .inr ⟨k, rfl, (hown.lt k h).1⟩
        have hown3 := hown.kept hg3 (by rcases hv with h | ⟨k, h, hk⟩ <;> rw [h] <;> simp; omega)
        have hgg3 := hgg.andThen hg3 (by simp)
        clear hg3 hown hgg hrr
        cases b with
        | false =>
          go_wp2
          go_ret
          exact ⟨A, i, c, l, rfl, hown3, by omega, hr3.more (by omega), hgg3⟩
        | true =>
          go_wp2_with fail
          refine (pick_any g _ 3 _ hr3 (by omega) (by omega) (by omega)).mono ?_
          rintro e w4 ⟨y, rfl, hy0, hy1, hr4, hg4⟩
          have hown4 := hown3.kept hg4 (by rcases hv with h | ⟨k, h, hk⟩ <;> rw [h] <;> simp; omega)
          have hgg4 := hgg3.andThen hg4 (by simp)
          clear hg4 hown3 hgg3 hr3
          obtain ⟨i, rfl⟩ : ∃ i', i = i' + 1 := ⟨i - 1, by omega⟩
          obtain ⟨g2, c2, hv2, hb2, hb3⟩ := own_shape hown4
          injection hv2 with e1 e2 e3
          subst e1
          subst e3
          clear hv
          rcases (show y = 0 ∨ y = 1 ∨ y = 2 by omega) with rfl | rfl | rfl
          · go_wp2
            go_ret
            refine ⟨_, 0, 0, [], rfl, ?_, by omega, (hr4.below ((Below.refl w4.heap.size w4).alloc (Nat.le_refl _) _) hr4.lt).more (by omega), hgg4.andThen (grown_alloc w4 _ none) (by simp)⟩
            exact own_mono (World.ownsRow_lit w4 #[] 0 (Nat.le_refl _) (by simp [maxLen]) rfl) hgg4.size
          · have hg2l := hown4.lt g2 rfl
            have oA := own_kept_none hown4 (grown_alloc w4 (.cells #[.int .i64 (-1), .int .i64 100] 3) none)
            have hr5 := hr4.below ((Below.refl w4.heap.size w4).alloc (Nat.le_refl _) (.cells #[.int .i64 (-1), .int .i64 100] 3)) hr4.lt
            have cA : (w4.alloc (.cells #[.int .i64 (-1), .int .i64 100] 3)).cell? ⟨w4.heap.size, 0, none⟩ = some (.int .i64 (-1)) := by simp
            have cB : (w4.alloc (.cells #[.int .i64 (-1), .int .i64 100] 3)).cell? ⟨w4.heap.size, 1, none⟩ = some (.int .i64 100) := by simp
            have hgA := hgg4.andThen (row' := none) (grown_alloc w4 (.cells #[.int .i64 (-1), .int .i64 100] 3) none) (by simp)
            have hz4 : (w4.alloc (.cells #[.int .i64 (-1), .int .i64 100] 3)).heap.size = w4.heap.size + 1 := by simp
            have hgl4 := hr4.lt
            go_wp2_with fail
            refine (pick_any g _ 2 _ hr5 (by omega) (by omega) (by omega)).mono ?_
            rintro e w5 ⟨z, rfl, hz0, hz1, hr6, hg5⟩
            replace cA := hg5.cell cA (by simp; omega)
            replace cB := hg5.cell cB (by simp; omega)
            have hzc : ∃ H : Int, w5.cell? ⟨w4.heap.size, z.toNat, none⟩ = some (.int .i64 H) := by
              rcases (show z = 0 ∨ z = 1 by omega) with rfl | rfl
              · exact ⟨-1, cA⟩
              · exact ⟨100, cB⟩
            obtain ⟨H, hH⟩ := hzc
            have o5 := oA.kept hg5 (by simp [Value.ownBlock]; omega)
            have hgg5 := hgA.andThen hg5 (by simp)
            obtain ⟨z, rfl⟩ := Int.eq_ofNat_of_zero_le hz0
            have hz1' : (z : Int) < 2 := hz1
            simp only [Int.toNat_natCast] at hH
            have hcell := own_cell (j := 0) o5 (by have := o5.1; simpa using this) (by omega)
            have hfz := o5.frozenAt 0
            have hst := (o5.stored 0 (.int .i64 H)).1
            rw [ints_set] at hst
            have hgs := (o5.stored 0 (.int .i64 H)).2
            have HS := hid hst
            have HG := hid hgs
            clear hst hgs cA cB hown4 oA o5 hg5 hgA
            go_wp2
            go_ret
            exact ⟨_, _, _, _, rfl, HS.out, by omega, (hr6.grown HG.out (by intro k hk; cases hk; omega)).more (by omega), hgg5.andThen HG.out (by intro k hk; cases hk; left; omega)⟩
          · go_wp2_with (refine wpList_make_full _ rfl (.const (.int .i64 15)) (.const (.int .i64 15)) 23 rfl w.heap.size 3 i0 _ 1 Try.underlying23 hi hz0 hz1 .i64 .i64 15 15 15 rfl rfl rfl rfl (by rw [hz2]; omega) (by simp [maxLen]) hgg4.size ?_; intro w5 hown5 hg5)
            go_ret
            rw [madeInts] at hown5
            exact ⟨_, _, _, _, rfl, hown5, by omega, (hr4.grown hg5 (by simp)).more (by omega), hgg4.andThen hg5 (by simp)⟩
end Go.Proofs.Ytpobcfmldimgiaa
