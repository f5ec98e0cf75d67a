/-
  The walk of laws.FnCellsOk and of its draw. No statement is proved here.
-/
import Derived.Test.YtnegbebfofcakaaC1
import Derived.Test.YtnegbebfofcakaaDr1
namespace Go.Proofs.Ytnegbebfofcakaa
open Go.RowKit
set_option linter.unusedVariables false
set_option linter.unusedSimpArgs false

set_option maxHeartbeats 1600000 in
theorem drawCellsOk_any (A : Option Addr) (n c : Nat) (w : World) (hs : By w w.heap.size A n) (hc : n ≤ c) :
    Calls Try.prog 15 #[.slice A n c] w fun e w' => ∃ A2 m c2 l z, e = .returned (.tuple #[.slice A2 m c2, .int .i64 z]) ∧ w'.ownsRow w.heap.size 3 1 (.slice A2 m c2) m (ints l) ∧ m ≤ 41 ∧ -1000 ≤ z ∧ z ≤ 1000 ∧ Below w.heap.size w w' := by
  go_enter Try.func15, Try.ntmps15
  go_wp2_with fail
  refine (open_any A n c _ hs hc).mono ?_
  rintro e w1 ⟨g, rfl, hr1, hg, hb1⟩
  go_wp2_with fail
  refine (pick_any g _ 4 _ hr1 (by omega) (by omega) (by omega)).mono ?_
  rintro e w2 ⟨x, rfl, hx0, hx1, hr2, hg2⟩
  have hb2 := hb1.grown hg2 hb1.size (by intro k hk; cases hk; exact hg)
  go_wp2_with fail
  refine (row_any g _ _ 3 _ hr2 (by omega) (by omega) (by omega) (by omega) (by omega)).mono ?_
  rintro e w3 ⟨A3, n3, c3, l3, rfl, ho3, hn3, hr3, hg3⟩
  have hb3 := hb2.grown hg3 hb2.size (by intro k hk; cases hk; exact hg)
  have ho3' := own_mono ho3 hb2.size
  have hne : (Value.slice A3 n3 c3).ownBlock = none ∨ (Value.slice A3 n3 c3).ownBlock ≠ some g := by
    rcases h : (Value.slice A3 n3 c3).ownBlock with _ | k
    · exact .inl rfl
    · right; have := (ho3.lt k h).1; have := hr2.lt; simp; omega
  go_wp2_with fail
  refine (pick_any g _ 20 _ hr3 (by omega) (by omega) (by omega)).mono ?_
  rintro e w4 ⟨y, rfl, hy0, hy1, hr4, hg4⟩
  have hb4 := hb3.grown hg4 hb3.size (by intro k hk; cases hk; exact hg)
  have ho4 := ho3'.kept hg4 hne
  go_wp2_with fail
  refine (pick_any g _ 30 _ hr4 (by omega) (by omega) (by omega)).mono ?_
  rintro e w5 ⟨z, rfl, hz0, hz1, hr5, hg5⟩
  have hb5 := hb4.grown hg5 hb4.size (by intro k hk; cases hk; exact hg)
  have ho5 := ho4.kept hg5 hne
  clear ho4 ho3' ho3 hg5 hg4 hg3 hg2 hr5 hr4 hr3 hr2 hr1
  go_wp2
  go_ret2
  exact ⟨A3, n3, c3, l3, _, rfl, ho5, hn3, by omega, by omega, hb5⟩

theorem allIn_reverse (l : List Int) (lo hi : Int) : allIn l.reverse lo hi = allIn l lo hi := by simp [allIn]
theorem cellsOk_reverse (l : List Int) (s : Int) : cellsOk l.reverse s = cellsOk l s := by simp [cellsOk, allIn_reverse]
theorem drop_reverse_snoc {l : List Int} {j : Nat} (h : j < l.length) : (l.drop (j + 1)).reverse ++ [nth l j] = (l.drop j).reverse := by
  rw [List.drop_eq_getElem_cons h, List.reverse_cons, nth_lt h]

set_option maxHeartbeats 1600000 in
theorem fnCellsOk_walk (A : Option Addr) (n c : Nat) (w : World) (hs : By w w.heap.size A n) (hc : n ≤ c) :
    Calls Try.prog 3 #[.slice A n c] w fun e w' => e = .returned (.bool true) ∧ Below w.heap.size w w' := by
  obtain ⟨i0, hi, hz0, hz1, hz2⟩ := info_parts info_int
  have hm : n ≤ 9223372036854775807 := hs.1
  by_cases hbig : 1048576 < n
  · go_enter Try.func3, Try.ntmps3
    go_wp2
    go_ret
    exact ⟨rfl, Below.refl _ _⟩
  · go_enter Try.func3, Try.ntmps3
    go_wp2_with fail
    refine (drawCellsOk_any A n c _ hs hc).mono ?_
    rintro e w1 ⟨A1, m, c1, l, s, rfl, ho1, hm1, hs1, hs2, hb1⟩
    have hl : l.length = m := by have := ho1.1; simpa using this
    have HL := hid hl; clear hl
    have s1 := Sl.of_own ho1
    go_wp2_with fail
    refine (cellsOk_any _ _ _ l s _ _ s1).mono ?_
    rintro e w1' ⟨rfl, rfl⟩
    go_wp2_with fail
    refine (specCellsOk_any _ _ _ l s _ _ s1 (by omega)).mono ?_
    rintro e w1' ⟨rfl, rfl⟩
    have en : (cellsOk l s != cellsOk l s) = false := by simp
    have ho0 : (w1.alloc (.cells #[] 3)).ownsRow w1.heap.size 3 1 (.slice (some ⟨w1.heap.size, 0, none⟩) 0 0) 0 (ints []) := World.ownsRow_lit w1 #[] 0 (Nat.le_refl _) (by simp [maxLen]) rfl
    go_wp2
    go_loopw [6, 7] (fun v kk wr => ∃ (A : Option Addr) (i c : Nat) (j : Nat), v = .slice A i c ∧ kk = .int .i64 ((j : Int) - 1) ∧ i + j = m ∧ wr.ownsRow w1.heap.size 3 1 (.slice A i c) i (ints (l.drop j).reverse) ∧ Below w1.heap.size w1 wr) (fun _ kk _ => (intOf kk + 1).toNat)
    case atStart => exact ⟨_, 0, 0, m, rfl, by go_num, by omega, by rw [List.drop_of_length_le (by rw [HL.out]; omega)]; exact ho0, (Below.refl _ _).alloc (Nat.le_refl _) _⟩
    case round =>
      obtain ⟨A2, i, c2, j, rfl, rfl, hij, hown, hbb⟩ := hrel
      clear ho0
      by_cases hj : 0 < j
      · obtain ⟨j, rfl⟩ : ∃ j', j = j' + 1 := ⟨j - 1, by omega⟩
        obtain ⟨b, off, rfl, hbl, hcc⟩ := s1.2.2 (by omega)
        have hck : wr.cell? ⟨b, off + j, none⟩ = some (.int .i64 (nth l j)) := (hbb.cell (p := ⟨b, off + j, none⟩) hbl).trans (hcc j (by omega))
        have hv : (Value.slice A2 i c2).ownBlock = none ∨ ∃ k, (Value.slice A2 i c2).ownBlock = some k ∧ w1.heap.size ≤ k := by
          rcases h : (Value.slice A2 i c2).ownBlock with _ | k
          · exact .inl rfl
          · exact .inr ⟨k, rfl, (hown.lt k h).1⟩
        have ej : ((j + 1 : Nat) : Int) - 1 = (j : Int) := by omega
        rw [ej]
        clear hcc ej
        go_wp2_with (at_builtin; refine wpList_append_own _ rfl (.tmp 32) (.tmp 37) 23 rfl w1.heap.size 3 i0 (.int .i64 0) 1 8 Try.underlying23 hi hz0 hz1 hz2 rfl (by decide) (.slice A2 i c2) _ _ rfl (hown.alloc _) ⟨wr.heap.size, 0, none⟩ 1 1 [.int .i64 (nth l j)] rfl rfl (cell_one_new _ _ _) (by simp [Value.oneCell']) (by simp only [maxLen]; omega) (by omega) (by have := hbb.size; simp; omega) ?_; intro v2 w2 hown2 hgrow2 _)
        obtain ⟨A4, c4, rfl, hown3, hbb3⟩ := pushedB hbb (Nat.le_refl _) hbb.size hv hown2 hgrow2
        rw [drop_reverse_snoc (by rw [HL.out]; omega)] at hown3
        have HO := hid hown3
        clear hown2 hgrow2 hown hown3 hbb hv
        go_wp2
        go_roundw
        case rel => exact ⟨A4, i + 1, c4, j, rfl, rfl, by omega, HO.out, hbb3⟩
        case measure => simp [intOf]
      · obtain rfl : j = 0 := by omega
        obtain rfl : i = m := by omega
        rw [List.drop_zero] at hown
        have s2 := Sl.of_own hown
        have hL1 : Sl (wr.alloc (.cells #[.int .i64 0] 3)) (wr.heap.size + 1) (some ⟨wr.heap.size, 0, none⟩) 1 [0] := by simpa using Sl.lit wr 3 [0] (by decide)
        have c1' : cellsOk [0] 1 = true := by decide
        have s3 := s2.below ((Below.refl wr.heap.size wr).alloc (Nat.le_refl _) (.cells #[.int .i64 0] 3))
        have er : (cellsOk l.reverse s == cellsOk l s) = true := by simp [cellsOk_reverse]
        clear hown
        go_wp2_with fail
        refine (cellsOk_any _ _ _ [0] 1 _ _ hL1).mono ?_
        rintro e w5 ⟨rfl, rfl⟩
        go_wp2_with fail
        refine (cellsOk_any _ _ _ _ s _ _ s3).mono ?_
        rintro e w6 ⟨rfl, rfl⟩
        go_wp2_with fail
        refine (alive_any _).mono ?_
        rintro e w7 ⟨rfl, hb7⟩
        go_wp2
        go_ret
        exact ⟨rfl, below_tr (below_tr hb1 hbb) ((((Below.refl wr.heap.size wr).alloc (Nat.le_refl _) _)).trans (hb7.mono (by simp)))⟩
end Go.Proofs.Ytnegbebfofcakaa
