/-
  The walk of the model's draw of rows. No statement is proved here.
-/
import Derived.Test.YtfmlekcdjjkolaaDrO
namespace Go.Proofs.Ytfmlekcdjjkolaa
open Go.RowKit
set_option linter.unusedVariables false
set_option linter.unusedSimpArgs false

set_option maxHeartbeats 1600000 in
theorem row_any (g P : Nat) (s m : Int) (w : World) (hr : Rd w g P) (hP : P < 100000) (hs : 1 ≤ s) (hs2 : s ≤ 1000) (hm : 1 ≤ m) (hm2 : m ≤ 1000000) :
    Calls Try.prog 44 #[.pointer (some ⟨g, 0, none⟩), .int .i64 s, .int .i64 m] w fun e w' => ∃ A n c l, e = .returned (.slice A n c) ∧ w'.ownsRow w.heap.size 3 1 (.slice A n c) n (ints l) ∧ n ≤ 41 ∧ Rd w' g (P + 20) ∧ w.grownBy w' (some g) := by
  obtain ⟨i0, hi, hz0, hz1, hz2⟩ := info_parts info_int
  have hglt := hr.lt
  go_enter Try.func44, Try.ntmps44
  go_wp2_with fail
  have hr0 := hr.below ((Below.refl w.heap.size w).alloc (Nat.le_refl _) (.cells #[] 3)) hglt
  have ho0 : (w.alloc (.cells #[] 3)).ownsRow w.heap.size 3 1 (.slice (some ⟨w.heap.size, 0, none⟩) 0 0) 0 (ints []) := World.ownsRow_lit w #[] 0 (Nat.le_refl _) (by simp [maxLen]) rfl
  refine (pick_any g P 12 _ hr0 (by omega) (by omega) (by omega)).mono ?_
  rintro e w1 ⟨K, rfl, hK0, hK1, hr1, hg1⟩
  have ho1 := ho0.kept hg1 (.inr (by simp [Value.ownBlock]; omega))
  have hg01 : w.grownBy w1 (some g) := World.grownBy.andThen (row' := some g) (grown_alloc w _ (some g)) hg1 (by simp)
  clear hg1 ho0 hr0
  go_wp2
  go_loopw [7, 8] (fun v kk wr => ∃ (A : Option Addr) (i c : Nat) (l : List Int) (j : Nat), v = .slice A i c ∧ kk = .int .i64 j ∧ i + j ≤ 12 ∧ 1 ≤ i + j ∧ wr.ownsRow w.heap.size 3 1 (.slice A i c) i (ints l) ∧ Rd wr g (P + 1 + i) ∧ w.grownBy wr (some g)) (fun _ kk _ => (intOf kk).toNat)
  case atStart =>
    obtain ⟨K, rfl⟩ := Int.eq_ofNat_of_zero_le hK0
    exact ⟨_, 0, 0, [], K + 1, rfl, by go_num, by omega, by omega, ho1, hr1, hg01⟩
  case round =>
    obtain ⟨A, i, c, l, j, rfl, rfl, hij, hij1, hown, hrr, hgg⟩ := hrel
    clear ho1 hr1 hg01
    by_cases hj : 0 < j
    · go_wp2_with fail
      refine (pick_any g _ s _ hrr (by omega) (by omega) (by omega)).mono ?_
      rintro e w1 ⟨x, rfl, hx0, hx1, hr1, hg1⟩
      have hv : (Value.slice A i c).ownBlock = none ∨ ∃ k, (Value.slice A i c).ownBlock = some k ∧ w.heap.size ≤ k := by
        rcases h : (Value.slice A i c).ownBlock with _ | k
        · exact .inl rfl
        · exact .inr ⟨k, rfl, (hown.lt k h).1⟩
      have hown1 := hown.kept hg1 (by rcases hv with h | ⟨k, h, hk⟩ <;> rw [h] <;> simp; omega)
      have hgg1 := hgg.andThen hg1 (by simp)
      clear hg1 hown
      go_wp2_with (at_builtin; refine wpList_append_own _ rfl (.tmp 17) (.tmp 21) 23 rfl w.heap.size 3 i0 (.int .i64 0) 1 8 Try.underlying23 hi hz0 hz1 hz2 rfl (by decide) (.slice A i c) _ _ rfl (hown1.alloc _) ⟨w1.heap.size, 0, none⟩ 1 1 [.int .i64 x] rfl rfl (cell_one_new _ _ _) (by simp [Value.oneCell']) (by simp only [maxLen]; omega) (by omega) (by have := hgg1.size; simp; omega) ?_; intro v2 w2 hown2 hgrow2 _)
      obtain ⟨A2, c2, rfl, hown3, hgg3⟩ := pushed hgg1 (Nat.le_refl _) hgg1.size hv hown2 hgrow2
      have hr3 : Rd w2 g (P + 1 + i + 1) := (hr1.below ((Below.refl w1.heap.size w1).alloc (Nat.le_refl _) _) hr1.lt).grown hgrow2 (by
        intro k hk
        rcases hv with h | ⟨k', h, hk'⟩
        · rw [h] at hk; cases hk
        · rw [h] at hk; cases hk; omega)
      clear hown2 hgrow2 hown1 hgg1 hr1 hrr hgg
      go_wp2
      go_roundw
      case rel => exact ⟨A2, i + 1, c2, l ++ [x], j - 1, rfl, by go_num, by omega, by omega, hown3, hr3, hgg3⟩
      case measure => simp [intOf]; omega
    · obtain rfl : j = 0 := by omega
      go_wp2_with fail
      refine (odd_any g _ m _ hrr (by omega) hm hm2).mono ?_
      rintro e w3 ⟨b, rfl, hr3, hg3⟩
      have hv : (Value.slice A i c).ownBlock = none ∨ ∃ k, (Value.slice A i c).ownBlock = some k ∧ w.heap.size ≤ k := by
        rcases h : (Value.slice A i c).ownBlock with _ | k
        · exact .inl rfl
        · exact .inr ⟨k, rfl, (hown.lt k h).1⟩
      have hown3 := hown.kept hg3 (by rcases hv with h | ⟨k, h, hk⟩ <;> rw [h] <;> simp; omega)
      have hgg3 := hgg.andThen hg3 (by simp)
      clear hg3 hown hgg hrr
      cases b with
      | false =>
        go_wp2
        go_ret
        exact ⟨A, i, c, l, rfl, hown3, by omega, hr3.more (by omega), hgg3⟩
      | true =>
        go_wp2_with fail
        refine (pick_any g _ 3 _ hr3 (by omega) (by omega) (by omega)).mono ?_
        rintro e w4 ⟨y, rfl, hy0, hy1, hr4, hg4⟩
        have hown4 := hown3.kept hg4 (by rcases hv with h | ⟨k, h, hk⟩ <;> rw [h] <;> simp; omega)
        have hgg4 := hgg3.andThen hg4 (by simp)
        clear hg4 hown3 hgg3 hr3
        obtain ⟨i, rfl⟩ : ∃ i', i = i' + 1 := ⟨i - 1, by omega⟩
        obtain ⟨g2, c2, hv2, hb2, hb3⟩ := own_shape hown4
        injection hv2 with e1 e2 e3
        subst e1
        subst e3
        have hcell := own_cell (j := 0) hown4 (by have := hown4.1; simpa using this) (by omega)
        have hfz := hown4.frozenAt 0
        have hst := (hown4.stored 0 (.int .i64 s)).1
        rw [ints_set] at hst
        have hgs := (hown4.stored 0 (.int .i64 s)).2
        have HS := hid hst
        have HG := hid hgs
        clear hst hgs hv
        go_wp2_with (refine wpList_make_full _ rfl (.const (.int .i64 41)) (.const (.int .i64 41)) 23 rfl w.heap.size 3 i0 _ 1 Try.underlying23 hi hz0 hz1 .i64 .i64 41 41 41 rfl rfl rfl rfl (by rw [hz2]; omega) (by simp [maxLen]) hgg4.size ?_; intro w5 hown5 hg5)
        · go_ret
          refine ⟨_, 0, 0, [], rfl, ?_, by omega, (hr4.below ((Below.refl w4.heap.size w4).alloc (Nat.le_refl _) _) hr4.lt).more (by omega), hgg4.andThen (grown_alloc w4 _ none) (by simp)⟩
          exact own_mono (World.ownsRow_lit w4 #[] 0 (Nat.le_refl _) (by simp [maxLen]) rfl) hgg4.size
        · go_ret
          exact ⟨_, _, _, _, rfl, HS.out, by omega, (hr4.grown HG.out (by intro k hk; cases hk; omega)).more (by omega), hgg4.andThen HG.out (by intro k hk; cases hk; left; omega)⟩
        · go_ret
          rw [madeInts] at hown5
          exact ⟨_, _, _, _, rfl, hown5, by omega, (hr4.grown hg5 (by simp)).more (by omega), hgg4.andThen hg5 (by simp)⟩
end Go.Proofs.Ytfmlekcdjjkolaa
