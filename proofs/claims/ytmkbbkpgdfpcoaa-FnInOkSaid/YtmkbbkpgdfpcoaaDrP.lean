/-
  Walks of the model's draws of rows that multiply and of numbers that come in. No statement is proved here.
-/
import Derived.Test.YtmkbbkpgdfpcoaaDrO
import Derived.Test.YtmkbbkpgdfpcoaaEx0
import Derived.IntWalk
import Derived.Deep.RegionWith
import Derived.BigRegion
namespace Go.Proofs.Ytmkbbkpgdfpcoaa
open Go.RowKit
set_option linter.unusedVariables false
set_option linter.unusedSimpArgs false

def numsIn (l : List Int) (M : Int) : Prop := ∀ x ∈ l, -M ≤ x ∧ x ≤ M
theorem numsIn.nil (M : Int) : numsIn [] M := fun x hx => by cases hx
theorem numsIn.snoc {l : List Int} {M x : Int} (h : numsIn l M) (hx : -M ≤ x ∧ x ≤ M) : numsIn (l ++ [x]) M := fun y hy => by
  rcases List.mem_append.1 hy with h1 | h1
  · exact h y h1
  · have : y = x := by simpa using h1
    subst this; exact hx
theorem numsIn.set {l : List Int} {M x : Int} {k : Nat} (h : numsIn l M) (hx : -M ≤ x ∧ x ≤ M) : numsIn (l.set k x) M := fun y hy => by
  rcases List.mem_or_eq_of_mem_set hy with h1 | h1
  · exact h y h1
  · subst h1; exact hx
theorem numsIn.zeros (n : Nat) {M : Int} (hM : 0 ≤ M) : numsIn (List.replicate n 0) M := fun y hy => by
  have := (List.mem_replicate.1 hy).2
  subst this
  omega

set_option maxRecDepth 100000 in
set_option maxHeartbeats 6400000 in
theorem tapsDraw_any (g P : Nat) (m : Int) (w : World) (hr : Rd w g P) (hP : P < 100000) (hm : 1 ≤ m) (hm2 : m ≤ 1000000) :
    Calls Try.prog 39 #[.pointer (some ⟨g, 0, none⟩), .int .i64 m] w fun e w' => ∃ A n c l, e = .returned (.slice A n c) ∧ w'.ownsRow w.heap.size 3 1 (.slice A n c) n (ints l) ∧ n ≤ 9 ∧ numsIn l 10 ∧ Rd w' g (P + 40) ∧ w.grownBy w' (some g) := by
  obtain ⟨i0, hi, hz0, hz1, hz2⟩ := info_parts info_int
  have hglt := hr.lt
  have hr0 := (hr.below ((Below.refl w.heap.size w).alloc (Nat.le_refl _) (.cells #[] 3)) hglt).below ((Below.refl (w.heap.size + 1) (w.alloc (.cells #[] 3))).alloc (by simp) (.cells #[.int .i64 2, .int .i64 4, .int .i64 10] 3)) (by omega)
  have ho0 : ((w.alloc (.cells #[] 3)).alloc (.cells #[.int .i64 2, .int .i64 4, .int .i64 10] 3)).ownsRow w.heap.size 3 1 (.slice (some ⟨w.heap.size, 0, none⟩) 0 0) 0 (ints []) := own_kept_none (World.ownsRow_lit w #[] 0 (Nat.le_refl _) (by simp [maxLen]) rfl) (grown_alloc _ _ _)
  have c0 : ((w.alloc (.cells #[] 3)).alloc (.cells #[.int .i64 2, .int .i64 4, .int .i64 10] 3)).cell? ⟨w.heap.size + 1, 0, none⟩ = some (.int .i64 2) := by simp [go_sem]
  have c1 : ((w.alloc (.cells #[] 3)).alloc (.cells #[.int .i64 2, .int .i64 4, .int .i64 10] 3)).cell? ⟨w.heap.size + 1, 1, none⟩ = some (.int .i64 4) := by simp [go_sem]
  have c2 : ((w.alloc (.cells #[] 3)).alloc (.cells #[.int .i64 2, .int .i64 4, .int .i64 10] 3)).cell? ⟨w.heap.size + 1, 2, none⟩ = some (.int .i64 10) := by simp [go_sem]
  have hg0 : w.grownBy ((w.alloc (.cells #[] 3)).alloc (.cells #[.int .i64 2, .int .i64 4, .int .i64 10] 3)) (some g) := World.grownBy.andThen (row' := none) (grown_alloc w _ (some g)) (grown_alloc _ _ _) (by simp)
  go_enter Try.func39, Try.ntmps39
  go_wp2_with fail
  refine (pick_any g P 3 _ hr0 (by omega) (by omega) (by omega)).mono ?_
  rintro e w1 ⟨q, rfl, hq0, hq1, hr1, hg1⟩
  replace c0 := hg1.cell c0 (by simp; omega)
  replace c1 := hg1.cell c1 (by simp; omega)
  replace c2 := hg1.cell c2 (by simp; omega)
  have hqc : ∃ H : Int, w1.cell? ⟨w.heap.size + 1, q.toNat, none⟩ = some (.int .i64 H) ∧ 1 ≤ H ∧ H ≤ 10 := by
    rcases (show q = 0 ∨ q = 1 ∨ q = 2 by omega) with rfl | rfl | rfl
    · exact ⟨2, c0, by omega, by omega⟩
    · exact ⟨4, c1, by omega, by omega⟩
    · exact ⟨10, c2, by omega, by omega⟩
  obtain ⟨S, hH, hS1, hS2⟩ := hqc
  obtain ⟨q, rfl⟩ := Int.eq_ofNat_of_zero_le hq0
  simp only [Int.toNat_natCast] at hH
  have hq1' : (q : Int) < 3 := hq1
  have ho1 := ho0.kept hg1 (.inr (by simp [Value.ownBlock]; omega))
  have hg01 : w.grownBy w1 (some g) := hg0.andThen hg1 (by simp)
  clear hg1 ho0 hr0 c0 c1 c2 hg0
  go_wp2_with fail
  refine (pick_any g _ 8 _ hr1 (by omega) (by omega) (by omega)).mono ?_
  rintro e w2 ⟨K, rfl, hK0, hK1, hr2, hg2⟩
  have ho2 := ho1.kept hg2 (.inr (by simp [Value.ownBlock]; omega))
  have hg02 := hg01.andThen hg2 (by simp)
  clear hg2 ho1 hg01 hH hr1
  have HN0 := hid (numsIn.nil 10)
  go_wp2
  go_loopw [5, 7] (fun v kk wr => ∃ (A : Option Addr) (i c : Nat) (l : List Int) (j : Nat), v = .slice A i c ∧ kk = .int .i64 j ∧ i + j ≤ 8 ∧ 1 ≤ i + j ∧ wr.ownsRow w.heap.size 3 1 (.slice A i c) i (ints l) ∧ Hid (numsIn l 10) ∧ Rd wr g (P + 2 + 2 * i) ∧ w.grownBy wr (some g)) (fun _ kk _ => (intOf kk).toNat)
  case atStart =>
    obtain ⟨K, rfl⟩ := Int.eq_ofNat_of_zero_le hK0
    exact ⟨_, 0, 0, [], K + 1, rfl, by go_num, by omega, by omega, ho2, HN0, hr2.more (by omega), hg02⟩
  case round =>
    obtain ⟨A, i, c, l, j, rfl, rfl, hij, hij1, hown, HN, hrr, hgg⟩ := hrel
    clear ho2 hr2 hg02 HN0
    by_cases hj : 0 < j
    · have hv := own_blk hown
      have hvg := own_ne hown hglt
      go_wp2_with fail
      refine (pick_any g _ S _ hrr (by omega) (by omega) (by omega)).mono ?_
      rintro e w5 ⟨x, rfl, x0, x1, r5, g5⟩
      replace hown := hown.kept g5 hvg
      replace hgg := hgg.andThen g5 (by simp)
      clear g5 hrr
      go_wp2_with fail
      refine (pick_any g _ S _ r5 (by omega) (by omega) (by omega)).mono ?_
      rintro e w6 ⟨y, rfl, y0, y1, r6, g6⟩
      replace hown := hown.kept g6 hvg
      replace hgg := hgg.andThen g6 (by simp)
      have hgl6 := r6.lt
      clear g6 r5
      have HN2 := hid (HN.out.snoc (x := x - y) (by omega))
      go_wp2_with (at_builtin; refine wpList_append_own _ rfl _ _ 23 rfl w.heap.size 3 i0 (.int .i64 0) 1 8 Try.underlying23 hi hz0 hz1 hz2 rfl (by decide) (.slice A i c) _ _ rfl (hown.alloc _) ⟨w6.heap.size, 0, none⟩ 1 1 [.int .i64 (x - y)] rfl rfl (cell_one_new _ _ _) (by simp [Value.oneCell']) (by simp only [maxLen]; omega) (by omega) (by have := hgg.size; simp; omega) ?_; intro v2 w2 hown2 hgrow2 _)
      obtain ⟨A2, c2, rfl, hown3, hgg3⟩ := pushed hgg (Nat.le_refl _) hgg.size hv hown2 hgrow2
      have hr3 : Rd w2 g (P + 2 + 2 * i + 2) := (r6.grown (grown_alloc _ _ none) (by simp)).grown hgrow2 (by
        intro k hk
        rcases hv with h | ⟨k', h, hk'⟩
        · rw [h] at hk; cases hk
        · rw [h] at hk; cases hk; omega)
      clear hown2 hgrow2 hown hgg r6
      go_wp2
      go_roundw
      case rel => exact ⟨A2, i + 1, c2, l ++ [x - y], j - 1, rfl, by go_num, by omega, by omega, hown3, HN2, hr3.more (by omega), hgg3⟩
      case measure => simp [intOf]; omega
    · obtain rfl : j = 0 := by omega
      go_wp2_with fail
      refine (odd_any g _ m _ hrr (by omega) hm hm2).mono ?_
      rintro e w3 ⟨b, rfl, hr3, hg3⟩
      have hv : (Value.slice A i c).ownBlock = none ∨ ∃ k, (Value.slice A i c).ownBlock = some k ∧ w.heap.size ≤ k := by
        rcases h : (Value.slice A i c).ownBlock with _ | k
        · exact .inl rfl
        · exact .inr ⟨k, rfl, (hown.lt k h).1⟩
      have hown3 := hown.kept hg3 (by rcases hv with h | ⟨k, h, hk⟩ <;> rw [h] <;> simp; omega)
      have hgg3 := hgg.andThen hg3 (by simp)
      clear hg3 hown hgg hrr
      cases b with
      | false =>
        go_wp2
        go_ret
        exact ⟨A, i, c, l, rfl, hown3, by omega, HN.out, hr3.more (by omega), hgg3⟩
      | true =>
        go_wp2_with fail
        refine (pick_any g _ 3 _ hr3 (by omega) (by omega) (by omega)).mono ?_
        rintro e w4 ⟨y, rfl, hy0, hy1, hr4, hg4⟩
        have hown4 := hown3.kept hg4 (by rcases hv with h | ⟨k, h, hk⟩ <;> rw [h] <;> simp; omega)
        have hgg4 := hgg3.andThen hg4 (by simp)
        clear hg4 hown3 hgg3 hr3
        obtain ⟨i, rfl⟩ : ∃ i', i = i' + 1 := ⟨i - 1, by omega⟩
        obtain ⟨g2, c2, hv2, hb2, hb3⟩ := own_shape hown4
        injection hv2 with e1 e2 e3
        subst e1
        subst e3
        clear hv
        rcases (show y = 0 ∨ y = 1 ∨ y = 2 by omega) with rfl | rfl | rfl
        · go_wp2
          go_ret
          refine ⟨_, 0, 0, [], rfl, ?_, by omega, numsIn.nil _, (hr4.below ((Below.refl w4.heap.size w4).alloc (Nat.le_refl _) _) hr4.lt).more (by omega), hgg4.andThen (grown_alloc w4 _ none) (by simp)⟩
          exact own_mono (World.ownsRow_lit w4 #[] 0 (Nat.le_refl _) (by simp [maxLen]) rfl) hgg4.size
        · have hcell := own_cell (j := 0) hown4 (by have := hown4.1; simpa using this) (by omega)
          have hfz := hown4.frozenAt 0
          have hst := (hown4.stored 0 (.int .i64 10)).1
          rw [ints_set] at hst
          have hgs := (hown4.stored 0 (.int .i64 10)).2
          have HS := hid hst
          have HG := hid hgs
          clear hst hgs hown4
          go_wp2
          go_ret
          exact ⟨_, _, _, _, rfl, HS.out, by omega, HN.out.set (by omega), (hr4.grown HG.out (by intro k hk; cases hk; omega)).more (by omega), hgg4.andThen HG.out (by intro k hk; cases hk; left; omega)⟩
        · go_wp2_with (refine wpList_make_full _ rfl (.const (.int .i64 9)) (.const (.int .i64 9)) 23 rfl w.heap.size 3 i0 _ 1 Try.underlying23 hi hz0 hz1 .i64 .i64 9 9 9 rfl rfl rfl rfl (by rw [hz2]; omega) (by simp [maxLen]) hgg4.size ?_; intro w5 hown5 hg5)
          go_ret
          rw [madeInts] at hown5
          exact ⟨_, _, _, _, rfl, hown5, by omega, numsIn.zeros 9 (by omega), (hr4.grown hg5 (by simp)).more (by omega), hgg4.andThen hg5 (by simp)⟩

set_option maxRecDepth 100000 in
set_option maxHeartbeats 6400000 in
theorem numsDraw_any (g P : Nat) (m : Int) (w : World) (hr : Rd w g P) (hP : P < 100000) (hm : 1 ≤ m) (hm2 : m ≤ 1000000) :
    Calls Try.prog 44 #[.pointer (some ⟨g, 0, none⟩), .int .i64 m] w fun e w' => ∃ A n c l, e = .returned (.slice A n c) ∧ w'.ownsRow w.heap.size 3 1 (.slice A n c) n (ints l) ∧ n ≤ 17 ∧ numsIn l 100 ∧ Rd w' g (P + 40) ∧ w.grownBy w' (some g) := by
  obtain ⟨i0, hi, hz0, hz1, hz2⟩ := info_parts info_int
  have hglt := hr.lt
  have hr0 := hr.below ((Below.refl w.heap.size w).alloc (Nat.le_refl _) (.cells #[] 3)) hglt
  have ho0 : (w.alloc (.cells #[] 3)).ownsRow w.heap.size 3 1 (.slice (some ⟨w.heap.size, 0, none⟩) 0 0) 0 (ints []) := World.ownsRow_lit w #[] 0 (Nat.le_refl _) (by simp [maxLen]) rfl
  have hg0 : w.grownBy (w.alloc (.cells #[] 3)) (some g) := grown_alloc w _ (some g)
  go_enter Try.func44, Try.ntmps44
  go_wp2_with fail
  refine (pick_any g _ 12 _ hr0 (by omega) (by omega) (by omega)).mono ?_
  rintro e w2 ⟨K, rfl, hK0, hK1, hr2, hg2⟩
  have ho2 := ho0.kept hg2 (.inr (by simp [Value.ownBlock]; omega))
  have hg02 := hg0.andThen hg2 (by simp)
  clear hg2 ho0 hg0 hr0
  have HN0 := hid (numsIn.nil 100)
  go_wp2
  go_loopw [5, 6] (fun v kk wr => ∃ (A : Option Addr) (i c : Nat) (l : List Int) (j : Nat), v = .slice A i c ∧ kk = .int .i64 j ∧ i + j ≤ 11 ∧ wr.ownsRow w.heap.size 3 1 (.slice A i c) i (ints l) ∧ Hid (numsIn l 100) ∧ Rd wr g (P + 2 + 2 * i) ∧ w.grownBy wr (some g)) (fun _ kk _ => (intOf kk).toNat)
  case atStart =>
    obtain ⟨K, rfl⟩ := Int.eq_ofNat_of_zero_le hK0
    exact ⟨_, 0, 0, [], K, rfl, rfl, by omega, ho2, HN0, hr2.more (by omega), hg02⟩
  case round =>
    obtain ⟨A, i, c, l, j, rfl, rfl, hij, hown, HN, hrr, hgg⟩ := hrel
    clear ho2 hr2 hg02 HN0
    have hv := own_blk hown
    have hvg := own_ne hown hglt
    by_cases hj : 0 < j
    · go_wp2_with fail
      refine (pick_any g _ 5 _ hrr (by omega) (by omega) (by omega)).mono ?_
      rintro e w5 ⟨x, rfl, x0, x1, r5, g5⟩
      replace hown := hown.kept g5 hvg
      replace hgg := hgg.andThen g5 (by simp)
      clear g5 hrr
      go_wp2_with fail
      refine (pick_any g _ 5 _ r5 (by omega) (by omega) (by omega)).mono ?_
      rintro e w6 ⟨y, rfl, y0, y1, r6, g6⟩
      replace hown := hown.kept g6 hvg
      replace hgg := hgg.andThen g6 (by simp)
      have hgl6 := r6.lt
      clear g6 r5
      have HN2 := hid (HN.out.snoc (x := x - y) (by omega))
      go_wp2_with (at_builtin; refine wpList_append_own _ rfl _ _ 23 rfl w.heap.size 3 i0 (.int .i64 0) 1 8 Try.underlying23 hi hz0 hz1 hz2 rfl (by decide) (.slice A i c) _ _ rfl (hown.alloc _) ⟨w6.heap.size, 0, none⟩ 1 1 [.int .i64 (x - y)] rfl rfl (cell_one_new _ _ _) (by simp [Value.oneCell']) (by simp only [maxLen]; omega) (by omega) (by have := hgg.size; simp; omega) ?_; intro v2 w2 hown2 hgrow2 _)
      obtain ⟨A2, c2, rfl, hown3, hgg3⟩ := pushed hgg (Nat.le_refl _) hgg.size hv hown2 hgrow2
      have hr3 : Rd w2 g (P + 2 + 2 * i + 2) := (r6.grown (grown_alloc _ _ none) (by simp)).grown hgrow2 (by
        intro k hk
        rcases hv with h | ⟨k', h, hk'⟩
        · rw [h] at hk; cases hk
        · rw [h] at hk; cases hk; omega)
      clear hown2 hgrow2 hown hgg r6
      go_wp2
      go_roundw
      case rel => exact ⟨A2, i + 1, c2, l ++ [x - y], j - 1, rfl, by go_num, by omega, hown3, HN2, hr3.more (by omega), hgg3⟩
      case measure => simp [intOf]; omega
    · obtain rfl : j = 0 := by omega
      go_wp2_with fail
      refine (odd_any g _ m _ hrr (by omega) hm hm2).mono ?_
      rintro e w3 ⟨b, rfl, hr3, hg3⟩
      have hown3 := hown.kept hg3 hvg
      have hgg3 := hgg.andThen hg3 (by simp)
      clear hg3 hown hgg hrr
      cases b with
      | false =>
        go_wp2
        go_ret
        exact ⟨A, i, c, l, rfl, hown3, by omega, HN.out, hr3.more (by omega), hgg3⟩
      | true =>
        go_wp2_with fail
        refine (pick_any g _ 2 _ hr3 (by omega) (by omega) (by omega)).mono ?_
        rintro e w4 ⟨y, rfl, hy0, hy1, hr4, hg4⟩
        have hown4 := hown3.kept hg4 hvg
        have hgg4 := hgg3.andThen hg4 (by simp)
        have hz4 := hgg4.size
        clear hg4 hown3 hgg3 hr3
        rcases (show y = 0 ∨ y = 1 by omega) with rfl | rfl
        · go_wp2_with (refine wpList_make_full _ rfl (.const (.int .i64 17)) (.const (.int .i64 17)) 23 rfl w.heap.size 3 i0 _ 1 Try.underlying23 hi hz0 hz1 .i64 .i64 17 17 17 rfl rfl rfl rfl (by rw [hz2]; omega) (by simp [maxLen]) hgg4.size ?_; intro w5 hown5 hg5)
          go_ret
          rw [madeInts] at hown5
          exact ⟨_, _, _, _, rfl, hown5, by omega, numsIn.zeros 17 (by omega), (hr4.grown hg5 (by simp)).more (by omega), hgg4.andThen hg5 (by simp)⟩
        · go_wp2_with (at_builtin; refine wpList_append_own _ rfl _ _ 23 rfl w.heap.size 3 i0 (.int .i64 0) 1 8 Try.underlying23 hi hz0 hz1 hz2 rfl (by decide) (.slice A i c) _ _ rfl (hown4.alloc _) ⟨w4.heap.size, 0, none⟩ 1 1 [.int .i64 100] rfl rfl (cell_one_new _ _ _) (by simp [Value.oneCell']) (by simp only [maxLen]; omega) (by omega) (by simp; omega) ?_; intro v2 w2 hown2 hgrow2 _)
          obtain ⟨A2, c2, rfl, hown3, hgg3⟩ := pushed hgg4 (Nat.le_refl _) hgg4.size hv hown2 hgrow2
          have hr3 : Rd w2 g (P + 40) := ((hr4.grown (grown_alloc _ _ none) (by simp)).grown hgrow2 (by
            intro k hk
            rcases hv with h | ⟨k', h, hk'⟩
            · rw [h] at hk; cases hk
            · rw [h] at hk; cases hk; omega)).more (by omega)
          have HN2 := hid (HN.out.snoc (x := 100) (by omega))
          clear hown2 hgrow2 hown4 hgg4
          go_wp2
          go_ret
          exact ⟨_, _, _, _, rfl, hown3, by omega, HN2.out, hr3, hgg3⟩
end Go.Proofs.Ytmkbbkpgdfpcoaa
