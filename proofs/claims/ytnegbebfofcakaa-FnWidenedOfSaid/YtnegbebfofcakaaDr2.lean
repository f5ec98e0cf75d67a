/-
  Walks of the model's draws of rules. No statement is proved here.
-/
import Derived.Test.YtnegbebfofcakaaC1t
namespace Go.Proofs.Ytnegbebfofcakaa
open Go.RowKit
set_option linter.unusedVariables false
set_option linter.unusedSimpArgs false

/-- What a draw of numbers leaves: a row of its own, the reader a few places on, and else only new blocks. -/
def Drawn (w w' : World) (g P : Nat) (K : Nat) (A : Option Addr) (n c : Nat) (l : List Int) : Prop :=
  w'.ownsRow w.heap.size 3 1 (.slice A n c) n (ints l) ∧ n ≤ K ∧ Rd w' g P ∧ w.grownBy w' (some g)

theorem rd_push {w1 w2 : World} {g P B : Nat} {o : Obj} {v : Value} (hr : Rd w1 g P) (hg : (w1.alloc o).grownBy w2 v.ownBlock) (hv : v.ownBlock = none ∨ ∃ k, v.ownBlock = some k ∧ B ≤ k) (hB : g < B) : Rd w2 g P :=
  (hr.below ((Below.refl w1.heap.size w1).alloc (Nat.le_refl _) _) hr.lt).grown hg (by
    intro k hk
    rcases hv with h | ⟨k', h, hk'⟩
    · rw [h] at hk; cases hk
    · rw [h] at hk; cases hk; omega)
theorem own_ne {w : World} {B n g : Nat} {A : Option Addr} {c : Nat} {e : TypeId} {xs : List Value} (h : w.ownsRow B e 1 (.slice A n c) n xs) (hg : g < B) :
    (Value.slice A n c).ownBlock = none ∨ (Value.slice A n c).ownBlock ≠ some g := by
  rcases hb : (Value.slice A n c).ownBlock with _ | k
  · exact .inl rfl
  · right; have := (h.lt k hb).1; simp; omega

set_option maxHeartbeats 3200000 in
theorem rule_any (g P : Nat) (S : Nat) (m : Int) (w : World) (hr : Rd w g P) (hP : P < 100000) (hs : 1 ≤ S) (hs2 : S ≤ 4) (hm : 1 ≤ m) (hm2 : m ≤ 1000000) :
    Calls Try.prog 45 #[.pointer (some ⟨g, 0, none⟩), .int .i64 S, .int .i64 m] w fun e w' => ∃ A n c l, e = .returned (.slice A n c) ∧ Drawn w w' g (P + 70) 65 A n c l := by
  obtain ⟨i0, hi, hz0, hz1, hz2⟩ := info_parts info_int
  have hglt := hr.lt
  obtain ⟨m1, m2, m3, m4⟩ := small_states (s := (S : Int)) (by omega) (by omega)
  obtain ⟨K, hK⟩ : ∃ K : Nat, (S : Int) * (S : Int) * (S : Int) = (K : Int) := ⟨S * S * S, by simp⟩
  have hK1 : 1 ≤ K := by omega
  have hK2 : K ≤ 64 := by omega
  have hr0 := hr.below ((Below.refl w.heap.size w).alloc (Nat.le_refl _) (.cells #[] 3)) hglt
  have ho0 : (w.alloc (.cells #[] 3)).ownsRow w.heap.size 3 1 (.slice (some ⟨w.heap.size, 0, none⟩) 0 0) 0 (ints []) := World.ownsRow_lit w #[] 0 (Nat.le_refl _) (by simp [maxLen]) rfl
  have hg0 : w.grownBy (w.alloc (.cells #[] 3)) (some g) := grown_alloc _ _ _
  go_enter Try.func45, Try.ntmps45
  go_wp2
  go_loopw [7, 8] (fun v kk wr => ∃ (A : Option Addr) (c : Nat) (l : List Int) (i : Nat), v = .slice A i c ∧ kk = .int .i64 i ∧ i ≤ K ∧ wr.ownsRow w.heap.size 3 1 (.slice A i c) i (ints l) ∧ Rd wr g (P + i) ∧ w.grownBy wr (some g)) (fun _ kk _ => K - (intOf kk).toNat)
  case atStart => exact ⟨_, 0, [], 0, rfl, rfl, by omega, ho0, hr0, hg0⟩
  case round =>
    obtain ⟨A, c, l, i, rfl, rfl, hik, hown, hrr, hgg⟩ := hrel
    clear ho0 hr0 hg0
    by_cases hj : i < K
    · have hji : (i : Int) < (K : Int) := by omega
      go_wp2_with fail
      refine (pick_any g _ S _ hrr (by omega) (by omega) (by omega)).mono ?_
      rintro e w1 ⟨x, rfl, hx0, hx1, hr1, hg1⟩
      have hv := own_blk hown
      have hown1 := hown.kept hg1 (own_ne hown hglt)
      have hgg1 := hgg.andThen hg1 (by simp)
      clear hg1 hown
      go_wp2_with (at_builtin; refine wpList_append_own _ rfl (.tmp 19) (.tmp 23) 23 rfl w.heap.size 3 i0 (.int .i64 0) 1 8 Try.underlying23 hi hz0 hz1 hz2 rfl (by decide) (.slice A i c) _ _ rfl (hown1.alloc _) ⟨w1.heap.size, 0, none⟩ 1 1 [.int .i64 x] rfl rfl (cell_one_new _ _ _) (by simp [Value.oneCell']) (by simp only [maxLen]; omega) (by omega) (by have := hgg1.size; simp; omega) ?_; intro v2 w2 hown2 hgrow2 _)
      obtain ⟨A2, c2, rfl, hown3, hgg3⟩ := pushed hgg1 (Nat.le_refl _) hgg1.size hv hown2 hgrow2
      have hr3 := rd_push hr1 hgrow2 hv hglt
      clear hown2 hgrow2 hown1 hgg1 hr1 hrr hgg
      go_wp2
      go_roundw
      case rel => exact ⟨A2, c2, l ++ [x], i + 1, rfl, by go_num, by omega, hown3, hr3, hgg3⟩
      case measure => simp [intOf]; omega
    · obtain rfl : i = K := by omega
      obtain ⟨g2, c2, hv2, hb2, hb3⟩ := own_shape (k := i - 1) (by rw [Nat.sub_add_cancel hK1]; exact hown)
      rw [Nat.sub_add_cancel hK1] at hv2
      injection hv2 with e1 e2 e3
      subst e1
      subst e3
      clear e2
      have hcell := own_cell (j := 0) hown (by have := hown.1; simpa using this) (by omega)
      have hfz := hown.frozenAt 0
      have hst := (hown.stored 0 (.int .i64 0)).1
      rw [ints_set] at hst
      have hgs := (hown.stored 0 (.int .i64 0)).2
      have hr1 := hrr.grown hgs (by intro k hk; cases hk; omega)
      have hgg1 := hgg.andThen hgs (by intro k hk; cases hk; left; omega)
      obtain ⟨w1, hw1⟩ : ∃ w1 : World, wr.setCell ⟨g2, 0, none⟩ (.int .i64 0) = w1 := ⟨_, rfl⟩
      rw [hw1] at hst hr1 hgg1
      have HW := hid hw1; clear hw1 hgs
      go_wp2_with fail
      rw [HW.out]
      clear hcell hfz hown hrr hgg
      refine (odd_any g _ m _ hr1 (by omega) hm hm2).mono ?_
      rintro e w3 ⟨b, rfl, hr3, hg3⟩
      have hown3 := hst.kept hg3 (own_ne hst hglt)
      have hgg3 := hgg1.andThen hg3 (by simp)
      clear hg3 hst hgg1 hr1
      cases b with
      | false =>
        go_wp2
        go_ret
        exact ⟨_, _, _, _, rfl, hown3, by omega, hr3.more (by omega), hgg3⟩
      | true =>
        go_wp2_with fail
        refine (pick_any g _ 3 _ hr3 (by omega) (by omega) (by omega)).mono ?_
        rintro e w4 ⟨y, rfl, hy0, hy1, hr4, hg4⟩
        have hown4 := hown3.kept hg4 (own_ne hown3 hglt)
        have hgg4 := hgg3.andThen hg4 (by simp)
        clear hg4 hown3 hgg3 hr3
        have hcell := own_cell (j := 0) hown4 (by have := hown4.1; simpa using this) (by omega)
        have hfz := hown4.frozenAt 0
        have hst := (hown4.stored 0 (.int .i64 1)).1
        rw [ints_set] at hst
        have hgs := (hown4.stored 0 (.int .i64 1)).2
        have HS := hid hst
        have HG := hid hgs
        have hv := own_blk hown4
        clear hst hgs
        go_wp2_with (at_builtin; refine wpList_append_own _ rfl (.tmp 35) (.tmp 36) 23 rfl w.heap.size 3 i0 (.int .i64 0) 1 8 Try.underlying23 hi hz0 hz1 hz2 rfl (by decide) (.slice (some ⟨g2, 0, none⟩) i c) _ _ rfl (hown4.alloc _) ⟨w4.heap.size, 0, none⟩ 1 1 [.int .i64 0] rfl rfl (cell_one_new _ _ _) (by simp [Value.oneCell']) (by simp only [maxLen]; omega) (by omega) (by have := hgg4.size; simp; omega) ?_; intro v5 w5 hown5 hgrow5 _)
        · go_ret
          refine ⟨_, 0, 0, [], rfl, ?_, by omega, (hr4.below ((Below.refl w4.heap.size w4).alloc (Nat.le_refl _) _) hr4.lt).more (by omega), hgg4.andThen (grown_alloc w4 _ none) (by simp)⟩
          exact own_mono (World.ownsRow_lit w4 #[] 0 (Nat.le_refl _) (by simp [maxLen]) rfl) hgg4.size
        · go_ret
          exact ⟨_, _, _, _, rfl, HS.out, by omega, (hr4.grown HG.out (by intro k hk; cases hk; omega)).more (by omega), hgg4.andThen HG.out (by intro k hk; cases hk; left; omega)⟩
        · obtain ⟨A7, c7, rfl, hown7, hgg7⟩ := pushed hgg4 (Nat.le_refl _) hgg4.size hv hown5 hgrow5
          have hr7 := rd_push hr4 hgrow5 hv hglt
          go_wp2
          go_ret
          exact ⟨_, _, _, _, rfl, hown7, by omega, hr7.more (by omega), hgg7⟩

theorem results_tmp4 {fn : Func} {t u v x : Tmp} (h : fn.results = #[.tmp t, .tmp u, .tmp v, .tmp x]) (tmps : Array Value) (P : Program) (w : World) :
    (results fn tmps).run P w = .ok (.tuple #[tmps.getD t undef, tmps.getD u undef, tmps.getD v undef, tmps.getD x undef]) w := by simp [results, h]

set_option maxHeartbeats 1600000 in
theorem drawRuleOk_any (A : Option Addr) (n c : Nat) (w : World) (hs : By w w.heap.size A n) (hc : n ≤ c) :
    Calls Try.prog 21 #[.slice A n c] w fun e w' => ∃ A1 n1 c1 l1 z, e = .returned (.tuple #[.slice A1 n1 c1, .int .i64 z]) ∧ w'.ownsRow w.heap.size 3 1 (.slice A1 n1 c1) n1 (ints l1) ∧ n1 ≤ 65 ∧ -1000 ≤ z ∧ z ≤ 1000 ∧ Below w.heap.size w w' := by
  go_enter Try.func21, Try.ntmps21
  go_wp2_with fail
  refine (open_any A n c _ hs hc).mono ?_
  rintro e w1 ⟨g, rfl, r1, hg, b1⟩
  go_wp2_with fail
  refine (pick_any g _ 3 _ r1 (by omega) (by omega) (by omega)).mono ?_
  rintro e w2 ⟨x, rfl, x0, x1, r2, g2⟩
  have b2 := b1.grown g2 b1.size (by intro k hk; cases hk; exact hg)
  obtain ⟨S, hS⟩ : ∃ S : Nat, (1 : Int) + x = (S : Int) := ⟨(1 + x).toNat, by omega⟩
  have hS1 : 1 ≤ S := by omega
  have hS2 : S ≤ 4 := by omega
  clear x0 x1
  go_wp2_with fail
  refine (rule_any g _ S 3 _ r2 (by omega) (by omega) (by omega) (by omega) (by omega)).mono ?_
  rintro e w3 ⟨A1, n1, c1, l1, rfl, o1, hn1, r3, g3⟩
  have b3 := b2.grown g3 b2.size (by intro k hk; cases hk; exact hg)
  have ne1 := own_ne o1 r2.lt
  have z1 := b2.size
  go_wp2_with fail
  refine (pick_any g _ 20 _ r3 (by omega) (by omega) (by omega)).mono ?_
  rintro e w4 ⟨y, rfl, y0, y1, r4, g4⟩
  have b4 := b3.grown g4 b3.size (by intro k hk; cases hk; exact hg)
  have o1 := o1.kept g4 ne1
  clear g2 g3 g4
  go_wp2
  go_ret2
  exact ⟨A1, n1, c1, l1, _, rfl, own_mono o1 z1, by omega, by omega, by omega, b4⟩

set_option maxHeartbeats 1600000 in
theorem drawTurnedRule_any (A : Option Addr) (n c : Nat) (w : World) (hs : By w w.heap.size A n) (hc : n ≤ c) :
    Calls Try.prog 37 #[.slice A n c] w fun e w' => ∃ A1 n1 c1 l1 z, e = .returned (.tuple #[.slice A1 n1 c1, .int .i64 z]) ∧ w'.ownsRow w.heap.size 3 1 (.slice A1 n1 c1) n1 (ints l1) ∧ n1 ≤ 65 ∧ -1000 ≤ z ∧ z ≤ 1000 ∧ Below w.heap.size w w' := by
  go_enter Try.func37, Try.ntmps37
  go_wp2_with fail
  refine (open_any A n c _ hs hc).mono ?_
  rintro e w1 ⟨g, rfl, r1, hg, b1⟩
  go_wp2_with fail
  refine (pick_any g _ 3 _ r1 (by omega) (by omega) (by omega)).mono ?_
  rintro e w2 ⟨x, rfl, x0, x1, r2, g2⟩
  have b2 := b1.grown g2 b1.size (by intro k hk; cases hk; exact hg)
  obtain ⟨S, hS⟩ : ∃ S : Nat, (1 : Int) + x = (S : Int) := ⟨(1 + x).toNat, by omega⟩
  have hS1 : 1 ≤ S := by omega
  have hS2 : S ≤ 4 := by omega
  clear x0 x1
  go_wp2_with fail
  refine (rule_any g _ S 9 _ r2 (by omega) (by omega) (by omega) (by omega) (by omega)).mono ?_
  rintro e w3 ⟨A1, n1, c1, l1, rfl, o1, hn1, r3, g3⟩
  have b3 := b2.grown g3 b2.size (by intro k hk; cases hk; exact hg)
  have ne1 := own_ne o1 r2.lt
  have z1 := b2.size
  clear g2 g3
  go_wp2
  go_ret2
  exact ⟨A1, n1, c1, l1, _, rfl, own_mono o1 z1, by omega, by omega, by omega, b3⟩

set_option maxHeartbeats 1600000 in
theorem drawStepOf_any (A : Option Addr) (n c : Nat) (w : World) (hs : By w w.heap.size A n) (hc : n ≤ c) :
    Calls Try.prog 25 #[.slice A n c] w fun e w' => ∃ A1 n1 c1 l1 A2 n2 c2 l2 z, e = .returned (.tuple #[.slice A1 n1 c1, .slice A2 n2 c2, .int .i64 z]) ∧ w'.ownsRow w.heap.size 3 1 (.slice A1 n1 c1) n1 (ints l1) ∧ n1 ≤ 65 ∧ w'.ownsRow w.heap.size 3 1 (.slice A2 n2 c2) n2 (ints l2) ∧ n2 ≤ 65 ∧ -1000 ≤ z ∧ z ≤ 1000 ∧ Below w.heap.size w w' := by
  go_enter Try.func25, Try.ntmps25
  go_wp2_with fail
  refine (open_any A n c _ hs hc).mono ?_
  rintro e w1 ⟨g, rfl, r1, hg, b1⟩
  go_wp2_with fail
  refine (pick_any g _ 2 _ r1 (by omega) (by omega) (by omega)).mono ?_
  rintro e w2 ⟨x, rfl, x0, x1, r2, g2⟩
  have b2 := b1.grown g2 b1.size (by intro k hk; cases hk; exact hg)
  obtain ⟨S, hS⟩ : ∃ S : Nat, (2 : Int) + x = (S : Int) := ⟨(2 + x).toNat, by omega⟩
  have hS1 : 1 ≤ S := by omega
  have hS2 : S ≤ 4 := by omega
  clear x0 x1
  go_wp2_with fail
  refine (row_any g _ S 14 _ r2 (by omega) (by omega) (by omega) (by omega) (by omega)).mono ?_
  rintro e w3 ⟨A1, n1, c1, l1, rfl, o1, hn1, r3, g3⟩
  have b3 := b2.grown g3 b2.size (by intro k hk; cases hk; exact hg)
  have ne1 := own_ne o1 r2.lt
  have z1 := b2.size
  go_wp2_with fail
  refine (rule_any g _ S 14 _ r3 (by omega) (by omega) (by omega) (by omega) (by omega)).mono ?_
  rintro e w4 ⟨A2, n2, c2, l2, rfl, o2, hn2, r4, g4⟩
  have b4 := b3.grown g4 b3.size (by intro k hk; cases hk; exact hg)
  have o1 := o1.kept g4 ne1
  have ne2 := own_ne o2 r3.lt
  have z2 := b3.size
  clear g2 g3 g4
  go_wp2
  go_ret3
  exact ⟨A1, n1, c1, l1, A2, n2, c2, l2, _, rfl, own_mono o1 z1, by omega, own_mono o2 z2, by omega, by omega, by omega, b4⟩

set_option maxHeartbeats 1600000 in
theorem drawRunOf_any (A : Option Addr) (n c : Nat) (w : World) (hs : By w w.heap.size A n) (hc : n ≤ c) :
    Calls Try.prog 31 #[.slice A n c] w fun e w' => ∃ A1 n1 c1 l1 A2 n2 c2 l2 z t, e = .returned (.tuple #[.slice A1 n1 c1, .slice A2 n2 c2, .int .i64 z, .int .i64 t]) ∧ w'.ownsRow w.heap.size 3 1 (.slice A1 n1 c1) n1 (ints l1) ∧ n1 ≤ 65 ∧ w'.ownsRow w.heap.size 3 1 (.slice A2 n2 c2) n2 (ints l2) ∧ n2 ≤ 65 ∧ -1000 ≤ z ∧ z ≤ 1000 ∧ -1000 ≤ t ∧ t ≤ 1000 ∧ Below w.heap.size w w' := by
  go_enter Try.func31, Try.ntmps31
  go_wp2_with fail
  refine (open_any A n c _ hs hc).mono ?_
  rintro e w1 ⟨g, rfl, r1, hg, b1⟩
  go_wp2_with fail
  refine (pick_any g _ 2 _ r1 (by omega) (by omega) (by omega)).mono ?_
  rintro e w2 ⟨x, rfl, x0, x1, r2, g2⟩
  have b2 := b1.grown g2 b1.size (by intro k hk; cases hk; exact hg)
  obtain ⟨S, hS⟩ : ∃ S : Nat, (2 : Int) + x = (S : Int) := ⟨(2 + x).toNat, by omega⟩
  have hS1 : 1 ≤ S := by omega
  have hS2 : S ≤ 4 := by omega
  clear x0 x1
  go_wp2_with fail
  refine (row_any g _ S 14 _ r2 (by omega) (by omega) (by omega) (by omega) (by omega)).mono ?_
  rintro e w3 ⟨A1, n1, c1, l1, rfl, o1, hn1, r3, g3⟩
  have b3 := b2.grown g3 b2.size (by intro k hk; cases hk; exact hg)
  have ne1 := own_ne o1 r2.lt
  have z1 := b2.size
  go_wp2_with fail
  refine (rule_any g _ S 14 _ r3 (by omega) (by omega) (by omega) (by omega) (by omega)).mono ?_
  rintro e w4 ⟨A2, n2, c2, l2, rfl, o2, hn2, r4, g4⟩
  have b4 := b3.grown g4 b3.size (by intro k hk; cases hk; exact hg)
  have o1 := o1.kept g4 ne1
  have ne2 := own_ne o2 r3.lt
  have z2 := b3.size
  go_wp2_with fail
  refine (pick_any g _ 9 _ r4 (by omega) (by omega) (by omega)).mono ?_
  rintro e w5 ⟨p, rfl, p0, p1, r5, g5⟩
  have b5 := b4.grown g5 b4.size (by intro k hk; cases hk; exact hg)
  have o1 := o1.kept g5 ne1
  have o2 := o2.kept g5 ne2
  go_wp2_with fail
  refine (pick_any g _ 30 _ r5 (by omega) (by omega) (by omega)).mono ?_
  rintro e w6 ⟨q, rfl, q0, q1, r6, g6⟩
  have b6 := b5.grown g6 b5.size (by intro k hk; cases hk; exact hg)
  have o1 := o1.kept g6 ne1
  have o2 := o2.kept g6 ne2
  go_wp2_with fail
  refine (pick_any g _ 40 _ r6 (by omega) (by omega) (by omega)).mono ?_
  rintro e w7 ⟨r, rfl, r0, r1, r7, g7⟩
  have b7 := b6.grown g7 b6.size (by intro k hk; cases hk; exact hg)
  have o1 := o1.kept g7 ne1
  have o2 := o2.kept g7 ne2
  clear g2 g3 g4 g5 g6 g7
  go_wp2
  refine bodyPost_ret (results_tmp4 rfl _ _ _) rfl ?_
  exact ⟨A1, n1, c1, l1, A2, n2, c2, l2, _, _, rfl, own_mono o1 z1, by omega, own_mono o2 z2, by omega, by omega, by omega, by omega, by omega, b7⟩

set_option maxHeartbeats 1600000 in
theorem drawWidenedOf_any (A : Option Addr) (n c : Nat) (w : World) (hs : By w w.heap.size A n) (hc : n ≤ c) :
    Calls Try.prog 34 #[.slice A n c] w fun e w' => ∃ A1 n1 c1 l1 z t, e = .returned (.tuple #[.slice A1 n1 c1, .int .i64 z, .int .i64 t]) ∧ w'.ownsRow w.heap.size 3 1 (.slice A1 n1 c1) n1 (ints l1) ∧ n1 ≤ 65 ∧ -1000 ≤ z ∧ z ≤ 1000 ∧ -1000 ≤ t ∧ t ≤ 1000 ∧ Below w.heap.size w w' := by
  go_enter Try.func34, Try.ntmps34
  go_wp2_with fail
  refine (open_any A n c _ hs hc).mono ?_
  rintro e w1 ⟨g, rfl, r1, hg, b1⟩
  go_wp2_with fail
  refine (pick_any g _ 3 _ r1 (by omega) (by omega) (by omega)).mono ?_
  rintro e w2 ⟨x, rfl, x0, x1, r2, g2⟩
  have b2 := b1.grown g2 b1.size (by intro k hk; cases hk; exact hg)
  obtain ⟨S, hS⟩ : ∃ S : Nat, (1 : Int) + x = (S : Int) := ⟨(1 + x).toNat, by omega⟩
  have hS1 : 1 ≤ S := by omega
  have hS2 : S ≤ 4 := by omega
  clear x0 x1
  go_wp2_with fail
  refine (row_any g _ S 12 _ r2 (by omega) (by omega) (by omega) (by omega) (by omega)).mono ?_
  rintro e w3 ⟨A1, n1, c1, l1, rfl, o1, hn1, r3, g3⟩
  have b3 := b2.grown g3 b2.size (by intro k hk; cases hk; exact hg)
  have ne1 := own_ne o1 r2.lt
  have z1 := b2.size
  go_wp2_with fail
  refine (pick_any g _ 6 _ r3 (by omega) (by omega) (by omega)).mono ?_
  rintro e w4 ⟨p, rfl, p0, p1, r4, g4⟩
  have b4 := b3.grown g4 b3.size (by intro k hk; cases hk; exact hg)
  have o1 := o1.kept g4 ne1
  go_wp2_with fail
  refine (pick_any g _ 20 _ r4 (by omega) (by omega) (by omega)).mono ?_
  rintro e w5 ⟨q, rfl, q0, q1, r5, g5⟩
  have b5 := b4.grown g5 b4.size (by intro k hk; cases hk; exact hg)
  have o1 := o1.kept g5 ne1
  go_wp2_with fail
  refine (pick_any g _ 30 _ r5 (by omega) (by omega) (by omega)).mono ?_
  rintro e w6 ⟨r, rfl, r0, r1, r6, g6⟩
  have b6 := b5.grown g6 b5.size (by intro k hk; cases hk; exact hg)
  have o1 := o1.kept g6 ne1
  clear g2 g3 g4 g5 g6
  go_wp2
  go_ret3
  exact ⟨A1, n1, c1, l1, _, _, rfl, own_mono o1 z1, by omega, by omega, by omega, by omega, by omega, b6⟩
end Go.Proofs.Ytnegbebfofcakaa
