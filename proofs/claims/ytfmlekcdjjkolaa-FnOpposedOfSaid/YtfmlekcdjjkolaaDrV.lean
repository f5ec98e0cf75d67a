/-
  The walk of the model's draw of votes. No statement is proved here.
-/
import Derived.Test.YtfmlekcdjjkolaaDr1
import Derived.IntWalk
namespace Go.Proofs.Ytfmlekcdjjkolaa
open Go.RowKit
set_option linter.unusedVariables false
set_option linter.unusedSimpArgs false

set_option maxRecDepth 100000 in
set_option maxHeartbeats 3200000 in
theorem votes_any (g P : Nat) (m : Int) (w : World) (hr : Rd w g P) (hP : P < 10000) (hm : 1 ≤ m) (hm2 : m ≤ 1000000) :
    Calls Try.prog 32 #[.pointer (some ⟨g, 0, none⟩), .int .i64 m] w fun e w' => ∃ A n c l, e = .returned (.slice A n c) ∧ w'.ownsRow w.heap.size 3 1 (.slice A n c) n (ints l) ∧ n ≤ 41 ∧ Rd w' g (P + 50) ∧ w.grownBy w' (some g) := by
  obtain ⟨i0, hi, hz0, hz1, hz2⟩ := info_parts info_int
  have hglt := hr.lt
  go_enter Try.func32, Try.ntmps32
  go_wp2_with fail
  refine (pick_any g P 3 _ hr (by omega) (by omega) (by omega)).mono ?_
  rintro e w1 ⟨q, rfl, q0, q1, r1, g1⟩
  have z1 := g1.size
  have hgl1 := r1.lt
  by_cases hq : q = 0
  · subst hq
    have ho0 : (w1.alloc (.cells #[] 3)).ownsRow w1.heap.size 3 1 (.slice (some ⟨w1.heap.size, 0, none⟩) 0 0) 0 (ints []) := World.ownsRow_lit w1 #[] 0 (Nat.le_refl _) (by simp [maxLen]) rfl
    have r1' : Rd (w1.alloc (.cells #[] 3)) g (P + 1) := r1.grown (grown_alloc _ _ none) (by simp)
    have hg0 : w1.grownBy (w1.alloc (.cells #[] 3)) (some g) := grown_alloc w1 _ (some g)
    have G1 := hid g1
    clear g1 r1
    go_wp2_with fail
    refine (pick_any g _ 2 _ r1' (by omega) (by omega) (by omega)).mono ?_
    rintro e w2 ⟨a, rfl, a0, a1, r2, g2⟩
    replace ho0 := ho0.kept g2 (.inr (by simp [Value.ownBlock]; omega))
    replace hg0 := hg0.andThen g2 (by simp)
    clear g2 r1'
    go_wp2_with fail
    refine (pick_any g _ 20 _ r2 (by omega) (by omega) (by omega)).mono ?_
    rintro e w3 ⟨K, rfl, K0, K1, r3, g3⟩
    replace ho0 := ho0.kept g3 (.inr (by simp [Value.ownBlock]; omega))
    replace hg0 := hg0.andThen g3 (by simp)
    clear g3 r2
    go_wp2
    go_loopw [5, 7] (fun v kk wr => ∃ (A : Option Addr) (i c : Nat) (l : List Int) (j : Nat), v = .slice A i c ∧ kk = .int .i64 j ∧ i + j ≤ 20 ∧ 1 ≤ i + j ∧ wr.ownsRow w1.heap.size 3 1 (.slice A i c) i (ints l) ∧ Rd wr g (P + 3) ∧ w1.grownBy wr (some g)) (fun _ kk _ => (intOf kk).toNat)
    case atStart =>
      obtain ⟨K, rfl⟩ := Int.eq_ofNat_of_zero_le K0
      exact ⟨_, 0, 0, [], K + 1, rfl, by go_num, by omega, by omega, ho0, r3, hg0⟩
    case round =>
      clear ho0 r3 hg0
      obtain ⟨A, i, c, l, j, rfl, rfl, hij, hij1, hown, hrr, hgg⟩ := hrel
      have hzg := hgg.size
      have hv := own_blk hown
      have hvg := own_ne hown hgl1
      by_cases hj : 0 < j
      · have w4 : IntKind.i64.wrap (a + (j : Int)) = a + (j : Int) := IntWalk.i64_in _ (by omega)
        have w5 : (0 : Int) ≤ a + (j : Int) := by omega
        go_wp2_with (at_builtin; refine wpList_append_own _ rfl _ _ 23 rfl w1.heap.size 3 i0 (.int .i64 0) 1 8 Try.underlying23 hi hz0 hz1 hz2 rfl (by decide) (.slice A i c) _ _ rfl (hown.alloc _) ⟨wr.heap.size, 0, none⟩ 1 1 [.int .i64 ((a + (j : Int)) % 2)] rfl rfl (cell_one_new wr _ _) (by simp [Value.oneCell']) (by simp only [maxLen]; omega) (by omega) (by simp; omega) ?_; intro v2 w2 hown2 hgrow2 _)
        obtain ⟨A2, c2, rfl, hown3, hgg3⟩ := pushed hgg (Nat.le_refl _) hzg hv hown2 hgrow2
        have hr3 : Rd w2 g (P + 3) := (hrr.grown (grown_alloc _ _ none) (by simp)).grown hgrow2 (by
          intro k hk
          rcases hv with h | ⟨k', h, hk'⟩
          · rw [h] at hk; cases hk
          · rw [h] at hk; cases hk; omega)
        clear hown2 hgrow2 hown hrr hgg
        go_wp2
        go_roundw
        case rel => exact ⟨A2, i + 1, c2, _, j - 1, rfl, by go_num, by omega, by omega, hown3, hr3, hgg3⟩
        case measure => simp [intOf]; omega
      · obtain rfl : j = 0 := by omega
        go_wp2_with fail
        refine (pick_any g _ 2 _ hrr (by omega) (by omega) (by omega)).mono ?_
        rintro e w4 ⟨u, rfl, u0, u1, r4, g4⟩
        replace hown := hown.kept g4 hvg
        replace hgg := hgg.andThen g4 (by simp)
        clear g4 hrr
        by_cases hu : u = 0
        · subst hu
          go_wp2_with fail
          refine (pick_any g _ i _ r4 (by omega) (by omega) (by omega)).mono ?_
          rintro e w5 ⟨x, rfl, x0, x1, r5, g5⟩
          replace hown := hown.kept g5 hvg
          replace hgg := hgg.andThen g5 (by simp)
          clear g5 r4
          obtain ⟨x, rfl⟩ := Int.eq_ofNat_of_zero_le x0
          have hxi : x < i := by omega
          obtain ⟨i, rfl⟩ : ∃ i', i = i' + 1 := ⟨i - 1, by omega⟩
          obtain ⟨g2, c2', hv2, hb2, hb3⟩ := own_shape hown
          injection hv2 with e1 e2 e3
          subst e1
          subst e3
          have hcell := own_cell (j := x) hown (by have := hown.1; simpa using this) hxi
          have hfz := hown.frozenAt x
          have hst := hown.stored x (.int .i64 1)
          rw [ints_set] at hst
          have OO := hid hst.1
          have GG := hid (G1.out.andThen (hgg.andThen hst.2 (by intro j hj; cases hj; left; omega)) (by simp))
          have RR := hid (r5.grown hst.2 (by intro k hk; cases hk; omega))
          clear hst hown hgg r5 G1
          go_wp2
          go_ret
          exact ⟨_, i + 1, _, _, rfl, own_mono OO.out z1, by omega, RR.out.more (by omega), GG.out⟩
        · have hu' : (u == 0) = false := by simpa using hu
          have OO := hid hown
          have GG := hid (G1.out.andThen hgg (by simp))
          have RR := hid r4
          clear hown hgg r4 G1
          go_wp2
          go_ret
          exact ⟨A, i, c, l, rfl, own_mono OO.out z1, by omega, RR.out.more (by omega), GG.out⟩
  · have hq' : (q == 0) = false := by simpa using hq
    go_wp2_with fail
    refine (row_any g _ 2 m _ r1 (by omega) (by omega) (by omega) hm hm2).mono ?_
    rintro e w2 ⟨A, n, c, l, rfl, o2, hn, r2, g2⟩
    have OO := hid (own_mono o2 z1)
    have RR := hid r2
    have GG := hid (g1.andThen g2 (by simp))
    clear g1 g2 r2 o2 r1
    go_wp2
    go_ret
    exact ⟨A, n, c, l, rfl, OO.out, hn, RR.out.more (by omega), GG.out⟩
end Go.Proofs.Ytfmlekcdjjkolaa
