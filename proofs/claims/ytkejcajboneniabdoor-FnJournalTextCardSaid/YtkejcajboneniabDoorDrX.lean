/-
  Walks of the model's draws of rings of bits, written by program (draws11.py). No statement is proved here.
-/
import Derived.Test.YtkejcajboneniabDoorDrO
import Derived.Test.YtkejcajboneniabDoorEx0
import Derived.IntWalk
import Derived.Deep.RegionWith
import Derived.BigRegion
namespace Go.Proofs.YtkejcajboneniabDoor
open Go.RowKit
set_option linter.unusedVariables false
set_option linter.unusedSimpArgs false

theorem own_capsD {w : World} {B n c : Nat} {A : Option Addr} {e : TypeId} {xs : List Value} (h : w.ownsRow B e 1 (.slice A n c) n xs) : n ≤ c ∧ c ≤ maxLen := by
  rcases h.2 with ⟨h1, h2⟩ | ⟨g, cap, cur, hv, hb, hg, hnc, hcm, hs, ht⟩
  · injection h1 with h1 h3 h4
    subst h3; subst h4
    exact ⟨Nat.le_refl _, by simp [maxLen]⟩
  · injection hv with h1 h2 h3
    subst h3
    exact ⟨hnc, hcm⟩
theorem Sl.takeD {w : World} {B n k : Nat} {A : Option Addr} {l : List Int} (h : Sl w B A n l) (hk : k ≤ n) : Sl w B A k (l.take k) := by
  refine ⟨by rw [List.length_take, h.1]; omega, Nat.le_trans hk h.2.1, fun h0 => ?_⟩
  obtain ⟨b, off, e, hb, hc⟩ := h.2.2 (by omega)
  refine ⟨b, off, e, hb, fun j hj => ?_⟩
  rw [hc j (by omega)]
  simp [nth, List.getD, hj]

set_option maxRecDepth 100000 in
set_option maxHeartbeats 6400000 in
theorem bitsDraw_any (g P : Nat) (m : Int) (w : World) (hr : Rd w g P) (hP : P < 100000) (hm : 1 ≤ m) (hm2 : m ≤ 1000000) :
    Calls Tryd.prog 32 #[.pointer (some ⟨g, 0, none⟩), .int .i64 m] w fun e w' => ∃ A n c l, e = .returned (.slice A n c) ∧ w'.ownsRow w.heap.size 3 1 (.slice A n c) n (ints l) ∧ n ≤ 17 ∧ Rd w' g (P + 40) ∧ w.grownBy w' (some g) := by
  obtain ⟨i0, hi, hz0, hz1, hz2⟩ := info_parts info_int
  have hglt := hr.lt
  have hr0 := hr.below ((Below.refl w.heap.size w).alloc (Nat.le_refl _) (.cells #[] 3)) hglt
  have ho0 : (w.alloc (.cells #[] 3)).ownsRow w.heap.size 3 1 (.slice (some ⟨w.heap.size, 0, none⟩) 0 0) 0 (ints []) := World.ownsRow_lit w #[] 0 (Nat.le_refl _) (by simp [maxLen]) rfl
  have hg0 : w.grownBy (w.alloc (.cells #[] 3)) (some g) := grown_alloc w _ (some g)
  go_enter Tryd.func32, Tryd.ntmps32
  go_wp2_with fail
  refine (pick_any g P 16 _ hr0 (by omega) (by omega) (by omega)).mono ?_
  rintro e w1 ⟨p, rfl, hp0, hp1, hr1, hg1⟩
  have ho1 := ho0.kept hg1 (.inr (by simp [Value.ownBlock]; omega))
  have hg01 : w.grownBy w1 (some g) := hg0.andThen hg1 (by simp)
  have hgl1 := hr1.lt
  have hz1' := hg01.size
  clear hg1 ho0 hr0 hg0
  have hr1' : Rd (w1.alloc (.cells #[.int .i64 (1 + p), .int .i64 8, .int .i64 4, .int .i64 16, .int .i64 7] 3)) g (P + 1) := hr1.grown (grown_alloc _ _ none) (by simp)
  have ho1' := own_kept_none ho1 (grown_alloc w1 (.cells #[.int .i64 (1 + p), .int .i64 8, .int .i64 4, .int .i64 16, .int .i64 7] 3) none)
  have hg01' : w.grownBy (w1.alloc (.cells #[.int .i64 (1 + p), .int .i64 8, .int .i64 4, .int .i64 16, .int .i64 7] 3)) (some g) := World.grownBy.andThen (row' := none) hg01 (grown_alloc _ _ _) (by simp)
  have HLW := hid (heap_alloc_new w1 (.cells #[.int .i64 (1 + p), .int .i64 8, .int .i64 4, .int .i64 16, .int .i64 7] 3))
  clear hr1 ho1 hg01
  go_wp2_with fail
  refine (pick_any g _ 9 _ hr1' (by omega) (by omega) (by omega)).mono ?_
  rintro e w2 ⟨q, rfl, hq0, hq1, hr2, hg2⟩
  have hbk := (hg2.block w1.heap.size (by simp) (by simp; omega)).trans HLW.out
  have hqc : ∃ (j K : Nat), q / 2 = (j : Int) ∧ j < 5 ∧ w2.cell? ⟨w1.heap.size, j, none⟩ = some (.int .i64 K) ∧ 1 ≤ K ∧ K ≤ 16 := by
    obtain ⟨p, rfl⟩ := Int.eq_ofNat_of_zero_le hp0
    rcases (show q / 2 = 0 ∨ q / 2 = 1 ∨ q / 2 = 2 ∨ q / 2 = 3 ∨ q / 2 = 4 by omega) with h | h | h | h | h
    · exact ⟨0, 1 + p, h, by omega, by rw [cell_of_row w2 _ 0 _ _ _ hbk]; simp, by omega, by omega⟩
    · exact ⟨1, 8, h, by omega, by rw [cell_of_row w2 _ 1 _ _ _ hbk]; simp, by omega, by omega⟩
    · exact ⟨2, 4, h, by omega, by rw [cell_of_row w2 _ 2 _ _ _ hbk]; simp, by omega, by omega⟩
    · exact ⟨3, 16, h, by omega, by rw [cell_of_row w2 _ 3 _ _ _ hbk]; simp, by omega, by omega⟩
    · exact ⟨4, 7, h, by omega, by rw [cell_of_row w2 _ 4 _ _ _ hbk]; simp, by omega, by omega⟩
  obtain ⟨j0, K, hj, hj5, hK, hK1, hK2⟩ := hqc
  have hjt : q.tdiv 2 = (j0 : Int) := by rw [Int.tdiv_eq_ediv_of_nonneg hq0, hj]
  have hj5i : (j0 : Int) < 5 := by omega
  have hj0i : (0 : Int) ≤ (j0 : Int) := by omega
  have ho2 := ho1'.kept hg2 (.inr (by simp [Value.ownBlock]; omega))
  have hg02 := hg01'.andThen hg2 (by simp)
  clear hg2 ho1' hg01' hr1' hbk HLW
  go_wp2
  go_loopw [5, 6] (fun v kk wr => ∃ (A : Option Addr) (i c : Nat) (l : List Int) (j : Nat), v = .slice A i c ∧ kk = .int .i64 j ∧ i + j ≤ 16 ∧ 1 ≤ i + j ∧ wr.ownsRow w.heap.size 3 1 (.slice A i c) i (ints l) ∧ Rd wr g (P + 2 + i) ∧ w.grownBy wr (some g)) (fun _ kk _ => (intOf kk).toNat)
  case atStart =>
    exact ⟨_, 0, 0, [], K, rfl, rfl, by omega, by omega, ho2, hr2.more (by omega), hg02⟩
  case round =>
    obtain ⟨A, i, c, l, j, rfl, rfl, hij, hij1, hown, hrr, hgg⟩ := hrel
    clear ho2 hr2 hg02 hK
    by_cases hj : 0 < j
    · have hv := own_blk hown
      have hvg := own_ne hown hglt
      go_wp2_with fail
      refine (pick_any g _ 2 _ hrr (by omega) (by omega) (by omega)).mono ?_
      rintro e w5 ⟨x, rfl, x0, x1, r5, g5⟩
      replace hown := hown.kept g5 hvg
      replace hgg := hgg.andThen g5 (by simp)
      clear g5 hrr
      go_wp2_with (at_builtin; refine wpList_append_own _ rfl _ _ 53 rfl w.heap.size 3 i0 (.int .i64 0) 1 8 Tryd.underlying53 hi hz0 hz1 hz2 rfl (by decide) (.slice A i c) _ _ rfl (hown.alloc _) ⟨w5.heap.size, 0, none⟩ 1 1 [.int .i64 x] rfl rfl (cell_one_new _ _ _) (by simp [Value.oneCell']) (by simp only [maxLen]; omega) (by omega) (by have := hgg.size; simp; omega) ?_; intro v2 w2 hown2 hgrow2 _)
      obtain ⟨A2, c2, rfl, hown3, hgg3⟩ := pushed hgg (Nat.le_refl _) hgg.size hv hown2 hgrow2
      have hr3 : Rd w2 g (P + 2 + i + 1) := (r5.grown (grown_alloc _ _ none) (by simp)).grown hgrow2 (by
        intro k hk
        rcases hv with h | ⟨k', h, hk'⟩
        · rw [h] at hk; cases hk
        · rw [h] at hk; cases hk; omega)
      clear hown2 hgrow2 hown hgg r5
      go_wp2
      go_roundw
      case rel => exact ⟨A2, i + 1, c2, l ++ [x], j - 1, rfl, by go_num, by omega, by omega, hown3, hr3.more (by omega), hgg3⟩
      case measure => simp [intOf]; omega
    · obtain rfl : j = 0 := by omega
      go_wp2_with fail
      refine (odd_any g _ m _ hrr (by omega) hm hm2).mono ?_
      rintro e w3 ⟨b, rfl, hr3, hg3⟩
      have hv : (Value.slice A i c).ownBlock = none ∨ ∃ k, (Value.slice A i c).ownBlock = some k ∧ w.heap.size ≤ k := by
        rcases h : (Value.slice A i c).ownBlock with _ | k
        · exact .inl rfl
        · exact .inr ⟨k, rfl, (hown.lt k h).1⟩
      have hown3 := hown.kept hg3 (by rcases hv with h | ⟨k, h, hk⟩ <;> rw [h] <;> simp; omega)
      have hgg3 := hgg.andThen hg3 (by simp)
      clear hg3 hown hgg hrr
      cases b with
      | false =>
        go_wp2
        go_ret
        exact ⟨A, i, c, l, rfl, hown3, by omega, hr3.more (by omega), hgg3⟩
      | true =>
        go_wp2_with fail
        refine (pick_any g _ 3 _ hr3 (by omega) (by omega) (by omega)).mono ?_
        rintro e w4 ⟨y, rfl, hy0, hy1, hr4, hg4⟩
        have hown4 := hown3.kept hg4 (by rcases hv with h | ⟨k, h, hk⟩ <;> rw [h] <;> simp; omega)
        have hgg4 := hgg3.andThen hg4 (by simp)
        clear hg4 hown3 hgg3 hr3
        obtain ⟨i, rfl⟩ : ∃ i', i = i' + 1 := ⟨i - 1, by omega⟩
        obtain ⟨g2, c2, hv2, hb2, hb3⟩ := own_shape hown4
        injection hv2 with e1 e2 e3
        subst e1
        subst e3
        clear hv
        rcases (show y = 0 ∨ y = 1 ∨ y = 2 by omega) with rfl | rfl | rfl
        · go_wp2
          go_ret
          refine ⟨_, 0, 0, [], rfl, ?_, by omega, (hr4.below ((Below.refl w4.heap.size w4).alloc (Nat.le_refl _) _) hr4.lt).more (by omega), hgg4.andThen (grown_alloc w4 _ none) (by simp)⟩
          exact own_mono (World.ownsRow_lit w4 #[] 0 (Nat.le_refl _) (by simp [maxLen]) rfl) hgg4.size
        · have hcell := own_cell (j := 0) hown4 (by have := hown4.1; simpa using this) (by omega)
          have hfz := hown4.frozenAt 0
          have hst := (hown4.stored 0 (.int .i64 2)).1
          rw [ints_set] at hst
          have hgs := (hown4.stored 0 (.int .i64 2)).2
          have HS := hid hst
          have HG := hid hgs
          clear hst hgs hown4
          go_wp2
          go_ret
          exact ⟨_, _, _, _, rfl, HS.out, by omega, (hr4.grown HG.out (by intro k hk; cases hk; omega)).more (by omega), hgg4.andThen HG.out (by intro k hk; cases hk; left; omega)⟩
        · go_wp2_with (refine wpList_make_full _ rfl (.const (.int .i64 17)) (.const (.int .i64 17)) 53 rfl w.heap.size 3 i0 _ 1 Tryd.underlying53 hi hz0 hz1 .i64 .i64 17 17 17 rfl rfl rfl rfl (by rw [hz2]; omega) (by simp [maxLen]) hgg4.size ?_; intro w5 hown5 hg5)
          go_ret
          rw [madeInts] at hown5
          exact ⟨_, _, _, _, rfl, hown5, by omega, (hr4.grown hg5 (by simp)).more (by omega), hgg4.andThen hg5 (by simp)⟩


theorem lit5 (x y z q : Int) (q0 : 0 ≤ q) (q1 : q < 13) (x0 : 0 ≤ x) (x1 : x < 20) (y0 : 0 ≤ y) (y1 : y < 250) (z0 : 0 ≤ z) (z1 : z < 250) :
    ∃ (j : Nat) (t : Int), q / 3 = (j : Int) ∧ q.tdiv 3 = (j : Int) ∧ (j : Int) < 5 ∧ (0 : Int) ≤ (j : Int) ∧ j < 5 ∧ -1 ≤ t ∧ t ≤ 1001 ∧ (#[.int .i64 x, .int .i64 y, .int .i64 (z * 4), .int .i64 (-1), .int .i64 1001] : Array Value)[j]? = some (.int .i64 t) := by
  have e : q.tdiv 3 = q / 3 := Int.tdiv_eq_ediv_of_nonneg q0
  rcases (show q / 3 = 0 ∨ q / 3 = 1 ∨ q / 3 = 2 ∨ q / 3 = 3 ∨ q / 3 = 4 by omega) with h | h | h | h | h
  · exact ⟨0, x, h, by rw [e, h]; rfl, by omega, by omega, by omega, by omega, by omega, rfl⟩
  · exact ⟨1, y, h, by rw [e, h]; rfl, by omega, by omega, by omega, by omega, by omega, rfl⟩
  · exact ⟨2, z * 4, h, by rw [e, h]; rfl, by omega, by omega, by omega, by omega, by omega, rfl⟩
  · exact ⟨3, -1, h, by rw [e, h]; rfl, by omega, by omega, by omega, by omega, by omega, rfl⟩
  · exact ⟨4, 1001, h, by rw [e, h]; rfl, by omega, by omega, by omega, by omega, by omega, rfl⟩

end Go.Proofs.YtkejcajboneniabDoor
