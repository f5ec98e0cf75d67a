/-
  Texts put together: Dr12. No statement is proved here.
-/
import Derived.Test.YtkejcajboneniabGreatDoorQMb
import Derived.Test.YtkejcajboneniabGreatDoorQMf
import Derived.Lib.MinMax
set_option linter.unusedVariables false
set_option linter.unusedSimpArgs false
namespace Go.Proofs.YtkejcajboneniabGreatDoor
open Go.RowKit

set_option maxHeartbeats 800000 in
theorem oddz_any (g P : Nat) (m : Int) (w : World) (hr : Rd w g P) (hP : P < 1000000) (hm : 0 ≤ m) (hm2 : m ≤ 1000000) :
    Calls Tryz.prog 48 #[.pointer (some ⟨g, 0, none⟩), .int .i64 m] w fun e w' => ∃ b : Bool, e = .returned (.bool b) ∧ Rd w' g (P + 1) ∧ w.grownBy w' (some g) := by
  by_cases h0 : m = 0
  · subst h0
    go_enter Tryz.func48, Tryz.ntmps48
    go_wp2
    go_ret
    exact ⟨false, rfl, hr.more (by omega), World.grownBy.refl _ _⟩
  · exact odd_any g P m w hr hP (by omega) hm2

set_option maxRecDepth 100000 in
set_option maxHeartbeats 6400000 in
theorem bitsz_any (g P : Nat) (m : Int) (w : World) (hr : Rd w g P) (hP : P < 100000) (hm : 0 ≤ m) (hm2 : m ≤ 1000000) :
    Calls Tryz.prog 92 #[.pointer (some ⟨g, 0, none⟩), .int .i64 m] w fun e w' => ∃ A n c l, e = .returned (.slice A n c) ∧ w'.ownsRow w.heap.size 3 1 (.slice A n c) n (ints l) ∧ n ≤ 17 ∧ Rd w' g (P + 40) ∧ w.grownBy w' (some g) := by
  obtain ⟨i0, hi, hz0, hz1, hz2⟩ := info_parts info_int
  have hglt := hr.lt
  have hr0 := hr.below ((Below.refl w.heap.size w).alloc (Nat.le_refl _) (.cells #[] 3)) hglt
  have ho0 : (w.alloc (.cells #[] 3)).ownsRow w.heap.size 3 1 (.slice (some ⟨w.heap.size, 0, none⟩) 0 0) 0 (ints []) := World.ownsRow_lit w #[] 0 (Nat.le_refl _) (by simp [maxLen]) rfl
  have hg0 : w.grownBy (w.alloc (.cells #[] 3)) (some g) := grown_alloc w _ (some g)
  go_enter Tryz.func92, Tryz.ntmps92
  go_wp2_with fail
  refine (pick_any g P 16 _ hr0 (by omega) (by omega) (by omega)).mono ?_
  rintro e w1 ⟨p, rfl, hp0, hp1, hr1, hg1⟩
  have ho1 := ho0.kept hg1 (.inr (by simp [Value.ownBlock]; omega))
  have hg01 : w.grownBy w1 (some g) := hg0.andThen hg1 (by simp)
  have hgl1 := hr1.lt
  have hz1' := hg01.size
  clear hg1 ho0 hr0 hg0
  have hr1' : Rd (w1.alloc (.cells #[.int .i64 (1 + p), .int .i64 8, .int .i64 4, .int .i64 16, .int .i64 7] 3)) g (P + 1) := hr1.grown (grown_alloc _ _ none) (by simp)
  have ho1' := own_kept_none ho1 (grown_alloc w1 (.cells #[.int .i64 (1 + p), .int .i64 8, .int .i64 4, .int .i64 16, .int .i64 7] 3) none)
  have hg01' : w.grownBy (w1.alloc (.cells #[.int .i64 (1 + p), .int .i64 8, .int .i64 4, .int .i64 16, .int .i64 7] 3)) (some g) := World.grownBy.andThen (row' := none) hg01 (grown_alloc _ _ _) (by simp)
  have HLW := hid (heap_alloc_new w1 (.cells #[.int .i64 (1 + p), .int .i64 8, .int .i64 4, .int .i64 16, .int .i64 7] 3))
  clear hr1 ho1 hg01
  go_wp2_with fail
  refine (pick_any g _ 9 _ hr1' (by omega) (by omega) (by omega)).mono ?_
  rintro e w2 ⟨q, rfl, hq0, hq1, hr2, hg2⟩
  have hbk := (hg2.block w1.heap.size (by simp) (by simp; omega)).trans HLW.out
  have hqc : ∃ (j K : Nat), q / 2 = (j : Int) ∧ j < 5 ∧ w2.cell? ⟨w1.heap.size, j, none⟩ = some (.int .i64 K) ∧ 1 ≤ K ∧ K ≤ 16 := by
    obtain ⟨p, rfl⟩ := Int.eq_ofNat_of_zero_le hp0
    rcases (show q / 2 = 0 ∨ q / 2 = 1 ∨ q / 2 = 2 ∨ q / 2 = 3 ∨ q / 2 = 4 by omega) with h | h | h | h | h
    · exact ⟨0, 1 + p, h, by omega, by rw [cell_of_row w2 _ 0 _ _ _ hbk]; simp, by omega, by omega⟩
    · exact ⟨1, 8, h, by omega, by rw [cell_of_row w2 _ 1 _ _ _ hbk]; simp, by omega, by omega⟩
    · exact ⟨2, 4, h, by omega, by rw [cell_of_row w2 _ 2 _ _ _ hbk]; simp, by omega, by omega⟩
    · exact ⟨3, 16, h, by omega, by rw [cell_of_row w2 _ 3 _ _ _ hbk]; simp, by omega, by omega⟩
    · exact ⟨4, 7, h, by omega, by rw [cell_of_row w2 _ 4 _ _ _ hbk]; simp, by omega, by omega⟩
  obtain ⟨j0, K, hj, hj5, hK, hK1, hK2⟩ := hqc
  have hjt : q.tdiv 2 = (j0 : Int) := by rw [Int.tdiv_eq_ediv_of_nonneg hq0, hj]
  have hj5i : (j0 : Int) < 5 := by omega
  have hj0i : (0 : Int) ≤ (j0 : Int) := by omega
  have ho2 := ho1'.kept hg2 (.inr (by simp [Value.ownBlock]; omega))
  have hg02 := hg01'.andThen hg2 (by simp)
  clear hg2 ho1' hg01' hr1' hbk HLW
  go_wp2
  go_loopw [5, 6] (fun v kk wr => ∃ (A : Option Addr) (i c : Nat) (l : List Int) (j : Nat), v = .slice A i c ∧ kk = .int .i64 j ∧ i + j ≤ 16 ∧ 1 ≤ i + j ∧ wr.ownsRow w.heap.size 3 1 (.slice A i c) i (ints l) ∧ Rd wr g (P + 2 + i) ∧ w.grownBy wr (some g)) (fun _ kk _ => (intOf kk).toNat)
  case atStart =>
    exact ⟨_, 0, 0, [], K, rfl, rfl, by omega, by omega, ho2, hr2.more (by omega), hg02⟩
  case round =>
    obtain ⟨A, i, c, l, j, rfl, rfl, hij, hij1, hown, hrr, hgg⟩ := hrel
    clear ho2 hr2 hg02 hK
    by_cases hj : 0 < j
    · have hv := own_blk hown
      have hvg := own_ne hown hglt
      go_wp2_with fail
      refine (pick_any g _ 2 _ hrr (by omega) (by omega) (by omega)).mono ?_
      rintro e w5 ⟨x, rfl, x0, x1, r5, g5⟩
      replace hown := hown.kept g5 hvg
      replace hgg := hgg.andThen g5 (by simp)
      clear g5 hrr
      go_wp2_with (at_builtin; refine wpList_append_own _ rfl _ _ 28 rfl w.heap.size 3 i0 (.int .i64 0) 1 8 Tryz.underlying28 hi hz0 hz1 hz2 rfl (by decide) (.slice A i c) _ _ rfl (hown.alloc _) ⟨w5.heap.size, 0, none⟩ 1 1 [.int .i64 x] rfl rfl (cell_one_new _ _ _) (by simp [Value.oneCell']) (by simp only [maxLen]; omega) (by omega) (by have := hgg.size; simp; omega) ?_; intro v2 w2 hown2 hgrow2 _)
      obtain ⟨A2, c2, rfl, hown3, hgg3⟩ := pushed hgg (Nat.le_refl _) hgg.size hv hown2 hgrow2
      have hr3 : Rd w2 g (P + 2 + i + 1) := (r5.grown (grown_alloc _ _ none) (by simp)).grown hgrow2 (by
        intro k hk
        rcases hv with h | ⟨k', h, hk'⟩
        · rw [h] at hk; cases hk
        · rw [h] at hk; cases hk; omega)
      clear hown2 hgrow2 hown hgg r5
      go_wp2
      go_roundw
      case rel => exact ⟨A2, i + 1, c2, l ++ [x], j - 1, rfl, by go_num, by omega, by omega, hown3, hr3.more (by omega), hgg3⟩
      case measure => simp [intOf]; omega
    · obtain rfl : j = 0 := by omega
      go_wp2_with fail
      refine (oddz_any g _ m _ hrr (by omega) hm hm2).mono ?_
      rintro e w3 ⟨b, rfl, hr3, hg3⟩
      have hv : (Value.slice A i c).ownBlock = none ∨ ∃ k, (Value.slice A i c).ownBlock = some k ∧ w.heap.size ≤ k := by
        rcases h : (Value.slice A i c).ownBlock with _ | k
        · exact .inl rfl
        · exact .inr ⟨k, rfl, (hown.lt k h).1⟩
      have hown3 := hown.kept hg3 (by rcases hv with h | ⟨k, h, hk⟩ <;> rw [h] <;> simp; omega)
      have hgg3 := hgg.andThen hg3 (by simp)
      clear hg3 hown hgg hrr
      cases b with
      | false =>
        go_wp2
        go_ret
        exact ⟨A, i, c, l, rfl, hown3, by omega, hr3.more (by omega), hgg3⟩
      | true =>
        go_wp2_with fail
        refine (pick_any g _ 3 _ hr3 (by omega) (by omega) (by omega)).mono ?_
        rintro e w4 ⟨y, rfl, hy0, hy1, hr4, hg4⟩
        have hown4 := hown3.kept hg4 (by rcases hv with h | ⟨k, h, hk⟩ <;> rw [h] <;> simp; omega)
        have hgg4 := hgg3.andThen hg4 (by simp)
        clear hg4 hown3 hgg3 hr3
        obtain ⟨i, rfl⟩ : ∃ i', i = i' + 1 := ⟨i - 1, by omega⟩
        obtain ⟨g2, c2, hv2, hb2, hb3⟩ := own_shape hown4
        injection hv2 with e1 e2 e3
        subst e1
        subst e3
        clear hv
        rcases (show y = 0 ∨ y = 1 ∨ y = 2 by omega) with rfl | rfl | rfl
        · go_wp2
          go_ret
          refine ⟨_, 0, 0, [], rfl, ?_, by omega, (hr4.below ((Below.refl w4.heap.size w4).alloc (Nat.le_refl _) _) hr4.lt).more (by omega), hgg4.andThen (grown_alloc w4 _ none) (by simp)⟩
          exact own_mono (World.ownsRow_lit w4 #[] 0 (Nat.le_refl _) (by simp [maxLen]) rfl) hgg4.size
        · have hcell := own_cell (j := 0) hown4 (by have := hown4.1; simpa using this) (by omega)
          have hfz := hown4.frozenAt 0
          have hst := (hown4.stored 0 (.int .i64 2)).1
          rw [ints_set] at hst
          have hgs := (hown4.stored 0 (.int .i64 2)).2
          have HS := hid hst
          have HG := hid hgs
          clear hst hgs hown4
          go_wp2
          go_ret
          exact ⟨_, _, _, _, rfl, HS.out, by omega, (hr4.grown HG.out (by intro k hk; cases hk; omega)).more (by omega), hgg4.andThen HG.out (by intro k hk; cases hk; left; omega)⟩
        · go_wp2_with (refine wpList_make_full _ rfl (.const (.int .i64 17)) (.const (.int .i64 17)) 28 rfl w.heap.size 3 i0 _ 1 Tryz.underlying28 hi hz0 hz1 .i64 .i64 17 17 17 rfl rfl rfl rfl (by rw [hz2]; omega) (by simp [maxLen]) hgg4.size ?_; intro w5 hown5 hg5)
          go_ret
          rw [madeInts] at hown5
          exact ⟨_, _, _, _, rfl, hown5, by omega, (hr4.grown hg5 (by simp)).more (by omega), hgg4.andThen hg5 (by simp)⟩



theorem grown_set (w : World) (p : Addr) (u : Value) (hp : p.spot = none) : w.grownBy (w.setCell p u) (some p.block) := by
  refine ⟨rfl, rfl, rfl, by simp, fun k hk hne => heap_setCell_other w p k u (fun h => hne (by rw [h]))⟩
theorem pairCells {W : World} {g : Nat} {u v : Value} {t : TypeId} (h : W.heap[g]? = some (.cells #[u, v] t (0, 0))) :
    W.cell? ⟨g, 0, none⟩ = some u ∧ W.cell? ⟨g, 1, none⟩ = some v ∧ W.frozen? ⟨g, 0, none⟩ = false ∧ W.frozen? ⟨g, 1, none⟩ = false :=
  ⟨by rw [cell_of_row W g 0 _ _ _ h]; rfl, by rw [cell_of_row W g 1 _ _ _ h]; rfl, frozen_of_row W g 0 _ _ h, frozen_of_row W g 1 _ _ h⟩
theorem pairSet1 {W : World} {g : Nat} {u v x : Value} {t : TypeId} (h : W.heap[g]? = some (.cells #[u, v] t (0, 0))) : (W.setCell ⟨g, 1, none⟩ x).heap[g]? = some (.cells #[u, x] t (0, 0)) := heap_setCell_same W g 1 _ t x h
theorem pairSet0 {W : World} {g : Nat} {u v x : Value} {t : TypeId} (h : W.heap[g]? = some (.cells #[u, v] t (0, 0))) : (W.setCell ⟨g, 0, none⟩ x).heap[g]? = some (.cells #[x, v] t (0, 0)) := heap_setCell_same W g 0 _ t x h

set_option maxRecDepth 100000 in
set_option maxHeartbeats 6400000 in
theorem deedDraw_any (g P : Nat) (A : Option Addr) (n c : Nat) (w : World) (hr : Rd w g P) (hP : P < 100000) (hn : n ≤ 17) :
    Calls Tryz.prog 96 #[.pointer (some ⟨g, 0, none⟩), .slice A n c] w fun e w' => ∃ a : Int × Int, e = .returned (deed a.1 a.2) ∧ (0 ≤ a.1 ∧ a.1 ≤ 13 ∧ -1 ≤ a.2 ∧ a.2 ≤ 100) ∧ Rd w' g (P + 5) ∧ w.grownBy w' (some g) := by
  have hglt := hr.lt
  have g0 := grown_alloc w (.cells #[.int .i64 0, .int .i64 0] 39) (some g)
  have r0 := hr.grown (grown_alloc w (.cells #[.int .i64 0, .int .i64 0] 39) none) (by simp)
  have hb0 := heap_alloc_new w (.cells #[.int .i64 0, .int .i64 0] 39)
  have hs0 : (w.alloc (.cells #[.int .i64 0, .int .i64 0] 39)).heap.size = w.heap.size + 1 := by simp
  go_enter Tryz.func96, Tryz.ntmps96
  go_wp2_with fail
  refine (pick_any g _ 7 _ r0 (by omega) (by omega) (by omega)).mono ?_
  rintro e w1 ⟨x, rfl, hx0, hx1, r1, g1⟩
  go_wp2_with fail
  refine (pick_any g _ 60 _ r1 (by omega) (by omega) (by omega)).mono ?_
  rintro e w2 ⟨y, rfl, hy0, hy1, r2, g2⟩
  obtain ⟨t, ht, ht0, ht1⟩ : ∃ t : Int, y.tdiv 59 = t ∧ 0 ≤ t ∧ t ≤ 1 := ⟨y / 59, by rw [Int.tdiv_eq_ediv_of_nonneg hy0], by omega, by omega⟩
  obtain ⟨K, hK, hK0, hK1⟩ : ∃ K : Int, x + t * 7 = K ∧ 0 ≤ K ∧ K ≤ 13 := ⟨_, rfl, by omega, by omega⟩
  have w1' : IntKind.i64.wrap t = t := IntWalk.i64_in _ (by omega)
  have w2' : IntKind.i64.wrap (t * 7) = t * 7 := IntWalk.i64_in _ (by omega)
  have w3' : IntKind.i64.wrap K = K := IntWalk.i64_in _ (by omega)
  have g12 := g1.andThen g2 (by simp)
  have hR2 := (g12.block w.heap.size (by omega) (by simp; omega)).trans hb0
  have G2 := g0.andThen g12 (by simp)
  have hsz12 := g12.size
  clear g1 g2 g12 g0 r0 hb0 r1
  obtain ⟨L, hL⟩ : ∃ L, w2.heap.size = L := ⟨_, rfl⟩
  obtain ⟨Wa, hWa⟩ : ∃ Wa, w2.alloc (.cells #[.int .i64 K, .int .i64 0] 39) = Wa := ⟨_, rfl⟩
  have ra : Rd Wa g (P + 2) := by rw [← hWa]; exact r2.grown (grown_alloc w2 _ none) (by simp)
  have ga : w2.grownBy Wa none := by rw [← hWa]; exact grown_alloc w2 _ none
  have hLa : Wa.heap[L]? = some (.cells #[.int .i64 K, .int .i64 0] 39 (0, 0)) := by rw [← hWa, ← hL]; exact heap_alloc_new w2 _
  have hsa : L < Wa.heap.size := by rw [← hWa, ← hL]; simp
  obtain ⟨aL0, aL1, eL0, eL1⟩ := pairCells hLa
  obtain ⟨W3, hW3⟩ : ∃ W3, Wa.setCell ⟨L, 1, none⟩ (.int .i64 0) = W3 := ⟨_, rfl⟩
  have gb : Wa.grownBy W3 (some L) := by rw [← hW3]; exact grown_set Wa ⟨L, 1, none⟩ _ rfl
  have r3 : Rd W3 g (P + 2) := ra.grown gb (by intro k hk; cases hk; omega)
  have g3 : w2.grownBy W3 none := ga.andThen gb (by intro k hk; cases hk; left; omega)
  have hL3 : W3.heap[L]? = some (.cells #[.int .i64 K, .int .i64 0] 39 (0, 0)) := by rw [← hW3]; exact pairSet1 hLa
  have hs3 : L < W3.heap.size := by have := gb.size; omega
  clear ra ga gb hLa hsa
  have hR3 := (g3.block w.heap.size (by omega) (by simp)).trans hR2
  have G3 := G2.andThen g3 (by simp)
  have hLw : w.heap.size < L := by omega
  have hgL : g < L := by omega
  have H3 := hid hR3
  obtain ⟨cL0, cL1, fL0, fL1⟩ := pairCells hL3
  clear hR2 G2 r2 g3 hR3 hsz12
  by_cases hk : K = 3 ∨ K = 4
  · obtain ⟨M, hM, hM0, hM1⟩ : ∃ M : Int, max (n : Int) 1 = M ∧ 1 ≤ M ∧ M ≤ 17 := ⟨_, rfl, by omega, by omega⟩
    have HL3 := hid hL3
    clear hL3
    have q34 : (K == 3) = true ∨ (K == 3) = false ∧ (K == 4) = true := by rcases hk with rfl | rfl <;> decide
    rcases q34 with q3 | ⟨q3, q4⟩
    · go_wp2_with fail
      refine (pick_any g _ M W3 r3 (by omega) hM0 (by omega)).mono ?_
      rintro e w4 ⟨z, rfl, hz0, hz1, r4, g4⟩
      have hL4 := (g4.block L hs3 (by simp; omega)).trans HL3.out
      have hR4 := (g4.block w.heap.size (by omega) (by simp; omega)).trans H3.out
      have G4 := G3.andThen g4 (by simp)
      have hs4 := g4.size
      clear cL0 cL1 fL0 fL1
      obtain ⟨cL0, cL1, fL0, fL1⟩ := pairCells hL4
      obtain ⟨W5, hW5⟩ : ∃ W5, w4.setCell ⟨L, 1, none⟩ (.int .i64 z) = W5 := ⟨_, rfl⟩
      have g5 : w4.grownBy W5 (some L) := by rw [← hW5]; exact grown_set w4 ⟨L, 1, none⟩ _ rfl
      have HL5 := hid (show W5.heap[L]? = some (.cells #[.int .i64 K, .int .i64 z] 39 (0, 0)) from by rw [← hW5]; exact pairSet1 hL4)
      have H5 := hid ((g5.block w.heap.size (by omega) (by simp; omega)).trans hR4)
      have G5 := G4.andThen g5 (by intro k hk; cases hk; left; omega)
      have r5 : Rd W5 g (P + 3) := r4.grown g5 (by intro k hk; cases hk; omega)
      have hs5 : L < W5.heap.size := by have := g5.size; omega
      clear hL4 hR4 g4 g5 r4 G4 r3 G3 H3 HL3 hM
      go_wp2_with fail
      refine (oddz_any g _ 40 _ r5 (by omega) (by omega) (by omega)).mono ?_
      rintro e w6 ⟨b, rfl, r6, g6⟩
      have hL6 := (g6.block L hs5 (by simp; omega)).trans HL5.out
      have hR6 := (g6.block w.heap.size (by omega) (by simp; omega)).trans H5.out
      have G6 := G5.andThen g6 (by simp)
      have hs6 := g6.size
      clear g6 r5 G5 H5 HL5 cL0 cL1 fL0 fL1
      cases b with
      | false =>
        obtain ⟨dL0, dL1, jL0, jL1⟩ := pairCells hL6
        obtain ⟨dR0, dR1, jR0, jR1⟩ := pairCells hR6
        obtain ⟨WA, hWA⟩ : ∃ WA, w6.setCell ⟨w.heap.size, 0, none⟩ (.int .i64 K) = WA := ⟨_, rfl⟩
        have hRA : WA.heap[w.heap.size]? = some (.cells #[.int .i64 K, .int .i64 0] 39 (0, 0)) := by rw [← hWA]; exact pairSet0 hR6
        have gA : w6.grownBy WA (some w.heap.size) := by rw [← hWA]; exact grown_set w6 ⟨w.heap.size, 0, none⟩ _ rfl
        obtain ⟨kR0, kR1, lR0, lR1⟩ := pairCells hRA
        have gB : WA.grownBy (WA.setCell ⟨w.heap.size, 1, none⟩ (.int .i64 z)) (some w.heap.size) := grown_set WA ⟨w.heap.size, 1, none⟩ (.int .i64 z) rfl
        have hRB : (WA.setCell ⟨w.heap.size, 1, none⟩ (.int .i64 z)).heap[w.heap.size]? = some (.cells #[.int .i64 K, .int .i64 z] 39 (0, 0)) := pairSet1 hRA
        have RB := hid ((r6.grown gA (by intro k hk; cases hk; omega)).grown gB (by intro k hk; cases hk; omega))
        have GB := hid ((G6.andThen gA (by intro k hk; cases hk; left; omega)).andThen gB (by intro k hk; cases hk; left; omega))
        have HRB := hid hRB
        clear gA gB hRA hRB
        go_wp2
        refine bodyPost_ret (results_bb rfl _ _ w.heap.size _ _ _ _ rfl HRB.out Tryz.underlying39 rfl (by kernel_rfl)) rfl ?_
        exact ⟨(K, z), rfl, by refine ⟨hK0, hK1, ?_, ?_⟩ <;> (show _ ≤ _; omega), RB.out.more (by omega), GB.out⟩
      | true =>
        obtain ⟨W7, hW7⟩ : ∃ W7, w6.alloc (.cells #[.int .i64 (-1), .int .i64 16, .int .i64 100] 3) = W7 := ⟨_, rfl⟩
        have g7 : w6.grownBy W7 none := by rw [← hW7]; exact grown_alloc w6 _ none
        have g7s : w6.grownBy W7 (some g) := by rw [← hW7]; exact grown_alloc w6 _ _
        have r7 : Rd W7 g (P + 4) := r6.grown g7 (by simp)
        have hB7 : W7.heap[w6.heap.size]? = some (.cells #[.int .i64 (-1), .int .i64 16, .int .i64 100] 3 (0, 0)) := by rw [← hW7]; exact heap_alloc_new w6 _
        have hs7 : w6.heap.size < W7.heap.size := by rw [← hW7]; simp
        go_wp2_with fail
        refine (pick_any g _ 3 _ r7 (by omega) (by omega) (by omega)).mono ?_
        rintro e w8 ⟨u, rfl, hu0, hu1, r8, g8⟩
        have g78 := g7s.andThen g8 (by simp)
        have hL8 := (g78.block L (by omega) (by simp; omega)).trans hL6
        have hR8 := (g78.block w.heap.size (by omega) (by simp; omega)).trans hR6
        have hB8 := (g8.block w6.heap.size hs7 (by simp; omega)).trans hB7
        have G8 := G6.andThen g78 (by simp)
        have hs8 := g8.size
        obtain ⟨v, hv, hv0, hv1, U, hU, hU3, hcU⟩ : ∃ v : Int, v = v ∧ -1 ≤ v ∧ v ≤ 100 ∧ ∃ U : Nat, u = U ∧ U < 3 ∧ w8.cell? ⟨w6.heap.size, U, none⟩ = some (.int .i64 v) := by
          rcases (show u = 0 ∨ u = 1 ∨ u = 2 by omega) with rfl | rfl | rfl
          · exact ⟨-1, rfl, by omega, by omega, 0, rfl, by omega, by rw [cell_of_row w8 _ 0 _ _ _ hB8]; rfl⟩
          · exact ⟨16, rfl, by omega, by omega, 1, rfl, by omega, by rw [cell_of_row w8 _ 1 _ _ _ hB8]; rfl⟩
          · exact ⟨100, rfl, by omega, by omega, 2, rfl, by omega, by rw [cell_of_row w8 _ 2 _ _ _ hB8]; rfl⟩
        subst hU
        have hUi : (U : Int) < 3 := by omega
        have hU0 : (0 : Int) ≤ (U : Int) := by omega
        clear hB8 hB7 g7 g7s g8 g78 G6 hL6 hR6 r7 r6 hv
        obtain ⟨mL0, mL1, nL0, nL1⟩ := pairCells hL8
        obtain ⟨W9, hW9⟩ : ∃ W9, w8.setCell ⟨L, 1, none⟩ (.int .i64 v) = W9 := ⟨_, rfl⟩
        have g9 : w8.grownBy W9 (some L) := by rw [← hW9]; exact grown_set w8 ⟨L, 1, none⟩ _ rfl
        have hL9 : W9.heap[L]? = some (.cells #[.int .i64 K, .int .i64 v] 39 (0, 0)) := by rw [← hW9]; exact pairSet1 hL8
        have hR9 := (g9.block w.heap.size (by omega) (by simp; omega)).trans hR8
        have G9 := G8.andThen g9 (by intro k hk; cases hk; left; omega)
        have r9 : Rd W9 g (P + 5) := r8.grown g9 (by intro k hk; cases hk; omega)
        clear g9 G8 hR8 r8 hL8
        obtain ⟨dL0, dL1, jL0, jL1⟩ := pairCells hL9
        obtain ⟨dR0, dR1, jR0, jR1⟩ := pairCells hR9
        obtain ⟨WA, hWA⟩ : ∃ WA, W9.setCell ⟨w.heap.size, 0, none⟩ (.int .i64 K) = WA := ⟨_, rfl⟩
        have hRA : WA.heap[w.heap.size]? = some (.cells #[.int .i64 K, .int .i64 0] 39 (0, 0)) := by rw [← hWA]; exact pairSet0 hR9
        have gA : W9.grownBy WA (some w.heap.size) := by rw [← hWA]; exact grown_set W9 ⟨w.heap.size, 0, none⟩ _ rfl
        obtain ⟨kR0, kR1, lR0, lR1⟩ := pairCells hRA
        have gB : WA.grownBy (WA.setCell ⟨w.heap.size, 1, none⟩ (.int .i64 v)) (some w.heap.size) := grown_set WA ⟨w.heap.size, 1, none⟩ (.int .i64 v) rfl
        have hRB : (WA.setCell ⟨w.heap.size, 1, none⟩ (.int .i64 v)).heap[w.heap.size]? = some (.cells #[.int .i64 K, .int .i64 v] 39 (0, 0)) := pairSet1 hRA
        have RB := hid ((r9.grown gA (by intro k hk; cases hk; omega)).grown gB (by intro k hk; cases hk; omega))
        have GB := hid ((G9.andThen gA (by intro k hk; cases hk; left; omega)).andThen gB (by intro k hk; cases hk; left; omega))
        have HRB := hid hRB
        clear gA gB hRA hRB
        go_wp2
        refine bodyPost_ret (results_bb rfl _ _ w.heap.size _ _ _ _ rfl HRB.out Tryz.underlying39 rfl (by kernel_rfl)) rfl ?_
        exact ⟨(K, v), rfl, by refine ⟨hK0, hK1, ?_, ?_⟩ <;> (show _ ≤ _; omega), RB.out.more (by omega), GB.out⟩
    · go_wp2_with fail
      refine (pick_any g _ M W3 r3 (by omega) hM0 (by omega)).mono ?_
      rintro e w4 ⟨z, rfl, hz0, hz1, r4, g4⟩
      have hL4 := (g4.block L hs3 (by simp; omega)).trans HL3.out
      have hR4 := (g4.block w.heap.size (by omega) (by simp; omega)).trans H3.out
      have G4 := G3.andThen g4 (by simp)
      have hs4 := g4.size
      clear cL0 cL1 fL0 fL1
      obtain ⟨cL0, cL1, fL0, fL1⟩ := pairCells hL4
      obtain ⟨W5, hW5⟩ : ∃ W5, w4.setCell ⟨L, 1, none⟩ (.int .i64 z) = W5 := ⟨_, rfl⟩
      have g5 : w4.grownBy W5 (some L) := by rw [← hW5]; exact grown_set w4 ⟨L, 1, none⟩ _ rfl
      have HL5 := hid (show W5.heap[L]? = some (.cells #[.int .i64 K, .int .i64 z] 39 (0, 0)) from by rw [← hW5]; exact pairSet1 hL4)
      have H5 := hid ((g5.block w.heap.size (by omega) (by simp; omega)).trans hR4)
      have G5 := G4.andThen g5 (by intro k hk; cases hk; left; omega)
      have r5 : Rd W5 g (P + 3) := r4.grown g5 (by intro k hk; cases hk; omega)
      have hs5 : L < W5.heap.size := by have := g5.size; omega
      clear hL4 hR4 g4 g5 r4 G4 r3 G3 H3 HL3 hM
      go_wp2_with fail
      refine (oddz_any g _ 40 _ r5 (by omega) (by omega) (by omega)).mono ?_
      rintro e w6 ⟨b, rfl, r6, g6⟩
      have hL6 := (g6.block L hs5 (by simp; omega)).trans HL5.out
      have hR6 := (g6.block w.heap.size (by omega) (by simp; omega)).trans H5.out
      have G6 := G5.andThen g6 (by simp)
      have hs6 := g6.size
      clear g6 r5 G5 H5 HL5 cL0 cL1 fL0 fL1
      cases b with
      | false =>
        obtain ⟨dL0, dL1, jL0, jL1⟩ := pairCells hL6
        obtain ⟨dR0, dR1, jR0, jR1⟩ := pairCells hR6
        obtain ⟨WA, hWA⟩ : ∃ WA, w6.setCell ⟨w.heap.size, 0, none⟩ (.int .i64 K) = WA := ⟨_, rfl⟩
        have hRA : WA.heap[w.heap.size]? = some (.cells #[.int .i64 K, .int .i64 0] 39 (0, 0)) := by rw [← hWA]; exact pairSet0 hR6
        have gA : w6.grownBy WA (some w.heap.size) := by rw [← hWA]; exact grown_set w6 ⟨w.heap.size, 0, none⟩ _ rfl
        obtain ⟨kR0, kR1, lR0, lR1⟩ := pairCells hRA
        have gB : WA.grownBy (WA.setCell ⟨w.heap.size, 1, none⟩ (.int .i64 z)) (some w.heap.size) := grown_set WA ⟨w.heap.size, 1, none⟩ (.int .i64 z) rfl
        have hRB : (WA.setCell ⟨w.heap.size, 1, none⟩ (.int .i64 z)).heap[w.heap.size]? = some (.cells #[.int .i64 K, .int .i64 z] 39 (0, 0)) := pairSet1 hRA
        have RB := hid ((r6.grown gA (by intro k hk; cases hk; omega)).grown gB (by intro k hk; cases hk; omega))
        have GB := hid ((G6.andThen gA (by intro k hk; cases hk; left; omega)).andThen gB (by intro k hk; cases hk; left; omega))
        have HRB := hid hRB
        clear gA gB hRA hRB
        go_wp2
        refine bodyPost_ret (results_bb rfl _ _ w.heap.size _ _ _ _ rfl HRB.out Tryz.underlying39 rfl (by kernel_rfl)) rfl ?_
        exact ⟨(K, z), rfl, by refine ⟨hK0, hK1, ?_, ?_⟩ <;> (show _ ≤ _; omega), RB.out.more (by omega), GB.out⟩
      | true =>
        obtain ⟨W7, hW7⟩ : ∃ W7, w6.alloc (.cells #[.int .i64 (-1), .int .i64 16, .int .i64 100] 3) = W7 := ⟨_, rfl⟩
        have g7 : w6.grownBy W7 none := by rw [← hW7]; exact grown_alloc w6 _ none
        have g7s : w6.grownBy W7 (some g) := by rw [← hW7]; exact grown_alloc w6 _ _
        have r7 : Rd W7 g (P + 4) := r6.grown g7 (by simp)
        have hB7 : W7.heap[w6.heap.size]? = some (.cells #[.int .i64 (-1), .int .i64 16, .int .i64 100] 3 (0, 0)) := by rw [← hW7]; exact heap_alloc_new w6 _
        have hs7 : w6.heap.size < W7.heap.size := by rw [← hW7]; simp
        go_wp2_with fail
        refine (pick_any g _ 3 _ r7 (by omega) (by omega) (by omega)).mono ?_
        rintro e w8 ⟨u, rfl, hu0, hu1, r8, g8⟩
        have g78 := g7s.andThen g8 (by simp)
        have hL8 := (g78.block L (by omega) (by simp; omega)).trans hL6
        have hR8 := (g78.block w.heap.size (by omega) (by simp; omega)).trans hR6
        have hB8 := (g8.block w6.heap.size hs7 (by simp; omega)).trans hB7
        have G8 := G6.andThen g78 (by simp)
        have hs8 := g8.size
        obtain ⟨v, hv, hv0, hv1, U, hU, hU3, hcU⟩ : ∃ v : Int, v = v ∧ -1 ≤ v ∧ v ≤ 100 ∧ ∃ U : Nat, u = U ∧ U < 3 ∧ w8.cell? ⟨w6.heap.size, U, none⟩ = some (.int .i64 v) := by
          rcases (show u = 0 ∨ u = 1 ∨ u = 2 by omega) with rfl | rfl | rfl
          · exact ⟨-1, rfl, by omega, by omega, 0, rfl, by omega, by rw [cell_of_row w8 _ 0 _ _ _ hB8]; rfl⟩
          · exact ⟨16, rfl, by omega, by omega, 1, rfl, by omega, by rw [cell_of_row w8 _ 1 _ _ _ hB8]; rfl⟩
          · exact ⟨100, rfl, by omega, by omega, 2, rfl, by omega, by rw [cell_of_row w8 _ 2 _ _ _ hB8]; rfl⟩
        subst hU
        have hUi : (U : Int) < 3 := by omega
        have hU0 : (0 : Int) ≤ (U : Int) := by omega
        clear hB8 hB7 g7 g7s g8 g78 G6 hL6 hR6 r7 r6 hv
        obtain ⟨mL0, mL1, nL0, nL1⟩ := pairCells hL8
        obtain ⟨W9, hW9⟩ : ∃ W9, w8.setCell ⟨L, 1, none⟩ (.int .i64 v) = W9 := ⟨_, rfl⟩
        have g9 : w8.grownBy W9 (some L) := by rw [← hW9]; exact grown_set w8 ⟨L, 1, none⟩ _ rfl
        have hL9 : W9.heap[L]? = some (.cells #[.int .i64 K, .int .i64 v] 39 (0, 0)) := by rw [← hW9]; exact pairSet1 hL8
        have hR9 := (g9.block w.heap.size (by omega) (by simp; omega)).trans hR8
        have G9 := G8.andThen g9 (by intro k hk; cases hk; left; omega)
        have r9 : Rd W9 g (P + 5) := r8.grown g9 (by intro k hk; cases hk; omega)
        clear g9 G8 hR8 r8 hL8
        obtain ⟨dL0, dL1, jL0, jL1⟩ := pairCells hL9
        obtain ⟨dR0, dR1, jR0, jR1⟩ := pairCells hR9
        obtain ⟨WA, hWA⟩ : ∃ WA, W9.setCell ⟨w.heap.size, 0, none⟩ (.int .i64 K) = WA := ⟨_, rfl⟩
        have hRA : WA.heap[w.heap.size]? = some (.cells #[.int .i64 K, .int .i64 0] 39 (0, 0)) := by rw [← hWA]; exact pairSet0 hR9
        have gA : W9.grownBy WA (some w.heap.size) := by rw [← hWA]; exact grown_set W9 ⟨w.heap.size, 0, none⟩ _ rfl
        obtain ⟨kR0, kR1, lR0, lR1⟩ := pairCells hRA
        have gB : WA.grownBy (WA.setCell ⟨w.heap.size, 1, none⟩ (.int .i64 v)) (some w.heap.size) := grown_set WA ⟨w.heap.size, 1, none⟩ (.int .i64 v) rfl
        have hRB : (WA.setCell ⟨w.heap.size, 1, none⟩ (.int .i64 v)).heap[w.heap.size]? = some (.cells #[.int .i64 K, .int .i64 v] 39 (0, 0)) := pairSet1 hRA
        have RB := hid ((r9.grown gA (by intro k hk; cases hk; omega)).grown gB (by intro k hk; cases hk; omega))
        have GB := hid ((G9.andThen gA (by intro k hk; cases hk; left; omega)).andThen gB (by intro k hk; cases hk; left; omega))
        have HRB := hid hRB
        clear gA gB hRA hRB
        go_wp2
        refine bodyPost_ret (results_bb rfl _ _ w.heap.size _ _ _ _ rfl HRB.out Tryz.underlying39 rfl (by kernel_rfl)) rfl ?_
        exact ⟨(K, v), rfl, by refine ⟨hK0, hK1, ?_, ?_⟩ <;> (show _ ≤ _; omega), RB.out.more (by omega), GB.out⟩
  · have q3 : (K == 3) = false := by simp; omega
    have q4 : (K == 4) = false := by simp; omega
    have HL3 := hid hL3
    clear hL3
    obtain ⟨z, hz, hz0, hz1⟩ : ∃ z : Int, (0 : Int) = z ∧ 0 ≤ z ∧ z ≤ 17 := ⟨0, rfl, by omega, by omega⟩
    rw [hz] at HL3 cL1
    have HL5 := HL3
    have H5 := H3
    have G5 := G3
    have r5 : Rd W3 g (P + 3) := r3.more (by omega)
    have hs5 : L < W3.heap.size := hs3
    clear r3 G3 H3 HL3 hz
    go_wp2_with fail
    refine (oddz_any g _ 40 _ r5 (by omega) (by omega) (by omega)).mono ?_
    rintro e w6 ⟨b, rfl, r6, g6⟩
    have hL6 := (g6.block L hs5 (by simp; omega)).trans HL5.out
    have hR6 := (g6.block w.heap.size (by omega) (by simp; omega)).trans H5.out
    have G6 := G5.andThen g6 (by simp)
    have hs6 := g6.size
    clear g6 r5 G5 H5 HL5 cL0 cL1 fL0 fL1
    cases b with
    | false =>
      obtain ⟨dL0, dL1, jL0, jL1⟩ := pairCells hL6
      obtain ⟨dR0, dR1, jR0, jR1⟩ := pairCells hR6
      obtain ⟨WA, hWA⟩ : ∃ WA, w6.setCell ⟨w.heap.size, 0, none⟩ (.int .i64 K) = WA := ⟨_, rfl⟩
      have hRA : WA.heap[w.heap.size]? = some (.cells #[.int .i64 K, .int .i64 0] 39 (0, 0)) := by rw [← hWA]; exact pairSet0 hR6
      have gA : w6.grownBy WA (some w.heap.size) := by rw [← hWA]; exact grown_set w6 ⟨w.heap.size, 0, none⟩ _ rfl
      obtain ⟨kR0, kR1, lR0, lR1⟩ := pairCells hRA
      have gB : WA.grownBy (WA.setCell ⟨w.heap.size, 1, none⟩ (.int .i64 z)) (some w.heap.size) := grown_set WA ⟨w.heap.size, 1, none⟩ (.int .i64 z) rfl
      have hRB : (WA.setCell ⟨w.heap.size, 1, none⟩ (.int .i64 z)).heap[w.heap.size]? = some (.cells #[.int .i64 K, .int .i64 z] 39 (0, 0)) := pairSet1 hRA
      have RB := hid ((r6.grown gA (by intro k hk; cases hk; omega)).grown gB (by intro k hk; cases hk; omega))
      have GB := hid ((G6.andThen gA (by intro k hk; cases hk; left; omega)).andThen gB (by intro k hk; cases hk; left; omega))
      have HRB := hid hRB
      clear gA gB hRA hRB
      go_wp2
      refine bodyPost_ret (results_bb rfl _ _ w.heap.size _ _ _ _ rfl HRB.out Tryz.underlying39 rfl (by kernel_rfl)) rfl ?_
      exact ⟨(K, z), rfl, by refine ⟨hK0, hK1, ?_, ?_⟩ <;> (show _ ≤ _; omega), RB.out.more (by omega), GB.out⟩
    | true =>
      obtain ⟨W7, hW7⟩ : ∃ W7, w6.alloc (.cells #[.int .i64 (-1), .int .i64 16, .int .i64 100] 3) = W7 := ⟨_, rfl⟩
      have g7 : w6.grownBy W7 none := by rw [← hW7]; exact grown_alloc w6 _ none
      have g7s : w6.grownBy W7 (some g) := by rw [← hW7]; exact grown_alloc w6 _ _
      have r7 : Rd W7 g (P + 4) := r6.grown g7 (by simp)
      have hB7 : W7.heap[w6.heap.size]? = some (.cells #[.int .i64 (-1), .int .i64 16, .int .i64 100] 3 (0, 0)) := by rw [← hW7]; exact heap_alloc_new w6 _
      have hs7 : w6.heap.size < W7.heap.size := by rw [← hW7]; simp
      go_wp2_with fail
      refine (pick_any g _ 3 _ r7 (by omega) (by omega) (by omega)).mono ?_
      rintro e w8 ⟨u, rfl, hu0, hu1, r8, g8⟩
      have g78 := g7s.andThen g8 (by simp)
      have hL8 := (g78.block L (by omega) (by simp; omega)).trans hL6
      have hR8 := (g78.block w.heap.size (by omega) (by simp; omega)).trans hR6
      have hB8 := (g8.block w6.heap.size hs7 (by simp; omega)).trans hB7
      have G8 := G6.andThen g78 (by simp)
      have hs8 := g8.size
      obtain ⟨v, hv, hv0, hv1, U, hU, hU3, hcU⟩ : ∃ v : Int, v = v ∧ -1 ≤ v ∧ v ≤ 100 ∧ ∃ U : Nat, u = U ∧ U < 3 ∧ w8.cell? ⟨w6.heap.size, U, none⟩ = some (.int .i64 v) := by
        rcases (show u = 0 ∨ u = 1 ∨ u = 2 by omega) with rfl | rfl | rfl
        · exact ⟨-1, rfl, by omega, by omega, 0, rfl, by omega, by rw [cell_of_row w8 _ 0 _ _ _ hB8]; rfl⟩
        · exact ⟨16, rfl, by omega, by omega, 1, rfl, by omega, by rw [cell_of_row w8 _ 1 _ _ _ hB8]; rfl⟩
        · exact ⟨100, rfl, by omega, by omega, 2, rfl, by omega, by rw [cell_of_row w8 _ 2 _ _ _ hB8]; rfl⟩
      subst hU
      have hUi : (U : Int) < 3 := by omega
      have hU0 : (0 : Int) ≤ (U : Int) := by omega
      clear hB8 hB7 g7 g7s g8 g78 G6 hL6 hR6 r7 r6 hv
      obtain ⟨mL0, mL1, nL0, nL1⟩ := pairCells hL8
      obtain ⟨W9, hW9⟩ : ∃ W9, w8.setCell ⟨L, 1, none⟩ (.int .i64 v) = W9 := ⟨_, rfl⟩
      have g9 : w8.grownBy W9 (some L) := by rw [← hW9]; exact grown_set w8 ⟨L, 1, none⟩ _ rfl
      have hL9 : W9.heap[L]? = some (.cells #[.int .i64 K, .int .i64 v] 39 (0, 0)) := by rw [← hW9]; exact pairSet1 hL8
      have hR9 := (g9.block w.heap.size (by omega) (by simp; omega)).trans hR8
      have G9 := G8.andThen g9 (by intro k hk; cases hk; left; omega)
      have r9 : Rd W9 g (P + 5) := r8.grown g9 (by intro k hk; cases hk; omega)
      clear g9 G8 hR8 r8 hL8
      obtain ⟨dL0, dL1, jL0, jL1⟩ := pairCells hL9
      obtain ⟨dR0, dR1, jR0, jR1⟩ := pairCells hR9
      obtain ⟨WA, hWA⟩ : ∃ WA, W9.setCell ⟨w.heap.size, 0, none⟩ (.int .i64 K) = WA := ⟨_, rfl⟩
      have hRA : WA.heap[w.heap.size]? = some (.cells #[.int .i64 K, .int .i64 0] 39 (0, 0)) := by rw [← hWA]; exact pairSet0 hR9
      have gA : W9.grownBy WA (some w.heap.size) := by rw [← hWA]; exact grown_set W9 ⟨w.heap.size, 0, none⟩ _ rfl
      obtain ⟨kR0, kR1, lR0, lR1⟩ := pairCells hRA
      have gB : WA.grownBy (WA.setCell ⟨w.heap.size, 1, none⟩ (.int .i64 v)) (some w.heap.size) := grown_set WA ⟨w.heap.size, 1, none⟩ (.int .i64 v) rfl
      have hRB : (WA.setCell ⟨w.heap.size, 1, none⟩ (.int .i64 v)).heap[w.heap.size]? = some (.cells #[.int .i64 K, .int .i64 v] 39 (0, 0)) := pairSet1 hRA
      have RB := hid ((r9.grown gA (by intro k hk; cases hk; omega)).grown gB (by intro k hk; cases hk; omega))
      have GB := hid ((G9.andThen gA (by intro k hk; cases hk; left; omega)).andThen gB (by intro k hk; cases hk; left; omega))
      have HRB := hid hRB
      clear gA gB hRA hRB
      go_wp2
      refine bodyPost_ret (results_bb rfl _ _ w.heap.size _ _ _ _ rfl HRB.out Tryz.underlying39 rfl (by kernel_rfl)) rfl ?_
      exact ⟨(K, v), rfl, by refine ⟨hK0, hK1, ?_, ?_⟩ <;> (show _ ≤ _; omega), RB.out.more (by omega), GB.out⟩

end Go.Proofs.YtkejcajboneniabGreatDoor
