/-
  Walks of the model's draws of counters. No statement is proved here.
-/
import Derived.Test.YtdacjpaaffpfgaaDrC
import Derived.Test.YtdacjpaaffpfgaaC6q
import Derived.Test.YtdacjpaaffpfgaaExB
import Derived.IntWalk
namespace Go.Proofs.Ytdacjpaaffpfgaa
open Go.RowKit
set_option linter.unusedVariables false
set_option linter.unusedSimpArgs false

set_option maxRecDepth 100000 in
set_option maxHeartbeats 1600000 in
theorem drawCounterOk_any (A : Option Addr) (n c : Nat) (w : World) (hs : By w w.heap.size A n) (hc : n ≤ c) :
    Calls Try.prog 15 #[.slice A n c] w fun e w' => ∃ A1 n1 c1 A2 n2 c2 D C, e = .returned (ctr A1 n1 c1 A2 n2 c2) ∧ Ctr w' w.heap.size A1 n1 c1 A2 n2 c2 D C ∧ n1 ≤ 8 ∧ n2 ≤ 9 ∧ Below w.heap.size w w' := by
  have X0 := Bk.new w (.slice none 0 0) (.slice none 0 0)
  have b0 := (Below.refl w.heap.size w).alloc (Nat.le_refl _) (.cells #[.slice none 0 0, .slice none 0 0] 25)
  have z0 : (w.alloc (.cells #[.slice none 0 0, .slice none 0 0] 25)).heap.size = w.heap.size + 1 := by simp
  go_enter Try.func15, Try.ntmps15
  go_wp2_with fail
  obtain ⟨w0, e0⟩ : ∃ W, w.alloc (.cells #[.slice none 0 0, .slice none 0 0] 25) = W := ⟨_, rfl⟩
  rw [e0] at X0 b0 z0 ⊢
  clear e0
  refine (open_any A n c _ (hs.on b0) hc).mono ?_
  rintro e w1 ⟨g, rfl, r1, hg, b1⟩
  replace X0 := X0.below b1 (by omega)
  have z1 := b1.size
  have b01 := b0.trans (b1.mono (by omega))
  go_wp2_with fail
  refine (counter_any g _ 2 _ r1 (by omega) (by omega) (by omega)).mono ?_
  rintro e w2 ⟨A1, n1, c1, A2, n2, c2, D, C, rfl, o1, hn1, hn2, r2, g2⟩
  replace X0 := X0.on g2 (by simp; omega)
  have b2 := b01.grown g2 (by omega) (by intro k hk; cases hk; omega)
  have f0 := X0.fz 0
  have f1 := X0.fz 1
  have d0 := X0.c0
  have d1 := X0.c1
  have Q0 := hid X0
  have QC := hid o1
  have QB := hid b2
  clear g2 b2 b01 b1 b0 X0 o1 r1 r2
  go_wp2
  (try simp only [Exit.inBlock, Exit.then])
  refine bodyPost_ret (results_b1 rfl _ _ w.heap.size 25 _ (0, 0) _ (by simp [Act.put]) (Q0.out.set (.slice A1 n1 c1) (.slice A2 n2 c2)) Try.underlying25 rfl size_ctr) rfl ?_
  exact ⟨_, _, _, _, _, _, _, _, rfl, ((QC.out.putAt (by omega) _).putAt (by omega) _).mono (by omega), hn1, hn2, QB.out.trans (below_put2 _ w.heap.size _ _)⟩

set_option maxRecDepth 100000 in
set_option maxHeartbeats 1600000 in
theorem drawToldBy_any (A : Option Addr) (n c : Nat) (w : World) (hs : By w w.heap.size A n) (hc : n ≤ c) :
    Calls Try.prog 27 #[.slice A n c] w fun e w' => ∃ A1 n1 c1 A2 n2 c2 D C, e = .returned (ctr A1 n1 c1 A2 n2 c2) ∧ Ctr w' w.heap.size A1 n1 c1 A2 n2 c2 D C ∧ n1 ≤ 8 ∧ n2 ≤ 9 ∧ Below w.heap.size w w' := by
  have X0 := Bk.new w (.slice none 0 0) (.slice none 0 0)
  have b0 := (Below.refl w.heap.size w).alloc (Nat.le_refl _) (.cells #[.slice none 0 0, .slice none 0 0] 25)
  have z0 : (w.alloc (.cells #[.slice none 0 0, .slice none 0 0] 25)).heap.size = w.heap.size + 1 := by simp
  go_enter Try.func27, Try.ntmps27
  go_wp2_with fail
  obtain ⟨w0, e0⟩ : ∃ W, w.alloc (.cells #[.slice none 0 0, .slice none 0 0] 25) = W := ⟨_, rfl⟩
  rw [e0] at X0 b0 z0 ⊢
  clear e0
  refine (open_any A n c _ (hs.on b0) hc).mono ?_
  rintro e w1 ⟨g, rfl, r1, hg, b1⟩
  replace X0 := X0.below b1 (by omega)
  have z1 := b1.size
  have b01 := b0.trans (b1.mono (by omega))
  go_wp2_with fail
  refine (counter_any g _ 9 _ r1 (by omega) (by omega) (by omega)).mono ?_
  rintro e w2 ⟨A1, n1, c1, A2, n2, c2, D, C, rfl, o1, hn1, hn2, r2, g2⟩
  replace X0 := X0.on g2 (by simp; omega)
  have b2 := b01.grown g2 (by omega) (by intro k hk; cases hk; omega)
  have f0 := X0.fz 0
  have f1 := X0.fz 1
  have d0 := X0.c0
  have d1 := X0.c1
  have Q0 := hid X0
  have QC := hid o1
  have QB := hid b2
  clear g2 b2 b01 b1 b0 X0 o1 r1 r2
  go_wp2
  (try simp only [Exit.inBlock, Exit.then])
  refine bodyPost_ret (results_b1 rfl _ _ w.heap.size 25 _ (0, 0) _ (by simp [Act.put]) (Q0.out.set (.slice A1 n1 c1) (.slice A2 n2 c2)) Try.underlying25 rfl size_ctr) rfl ?_
  exact ⟨_, _, _, _, _, _, _, _, rfl, ((QC.out.putAt (by omega) _).putAt (by omega) _).mono (by omega), hn1, hn2, QB.out.trans (below_put2 _ w.heap.size _ _)⟩

set_option maxRecDepth 100000 in
set_option maxHeartbeats 1600000 in
theorem drawRestOf_any (A : Option Addr) (n c : Nat) (w : World) (hs : By w w.heap.size A n) (hc : n ≤ c) :
    Calls Try.prog 32 #[.slice A n c] w fun e w' => ∃ A1 n1 c1 A2 n2 c2 D C, e = .returned (ctr A1 n1 c1 A2 n2 c2) ∧ Ctr w' w.heap.size A1 n1 c1 A2 n2 c2 D C ∧ n1 ≤ 8 ∧ n2 ≤ 9 ∧ Below w.heap.size w w' := by
  have X0 := Bk.new w (.slice none 0 0) (.slice none 0 0)
  have b0 := (Below.refl w.heap.size w).alloc (Nat.le_refl _) (.cells #[.slice none 0 0, .slice none 0 0] 25)
  have z0 : (w.alloc (.cells #[.slice none 0 0, .slice none 0 0] 25)).heap.size = w.heap.size + 1 := by simp
  go_enter Try.func32, Try.ntmps32
  go_wp2_with fail
  obtain ⟨w0, e0⟩ : ∃ W, w.alloc (.cells #[.slice none 0 0, .slice none 0 0] 25) = W := ⟨_, rfl⟩
  rw [e0] at X0 b0 z0 ⊢
  clear e0
  refine (open_any A n c _ (hs.on b0) hc).mono ?_
  rintro e w1 ⟨g, rfl, r1, hg, b1⟩
  replace X0 := X0.below b1 (by omega)
  have z1 := b1.size
  have b01 := b0.trans (b1.mono (by omega))
  go_wp2_with fail
  refine (counter_any g _ 9 _ r1 (by omega) (by omega) (by omega)).mono ?_
  rintro e w2 ⟨A1, n1, c1, A2, n2, c2, D, C, rfl, o1, hn1, hn2, r2, g2⟩
  replace X0 := X0.on g2 (by simp; omega)
  have b2 := b01.grown g2 (by omega) (by intro k hk; cases hk; omega)
  have f0 := X0.fz 0
  have f1 := X0.fz 1
  have d0 := X0.c0
  have d1 := X0.c1
  have Q0 := hid X0
  have QC := hid o1
  have QB := hid b2
  clear g2 b2 b01 b1 b0 X0 o1 r1 r2
  go_wp2
  (try simp only [Exit.inBlock, Exit.then])
  refine bodyPost_ret (results_b1 rfl _ _ w.heap.size 25 _ (0, 0) _ (by simp [Act.put]) (Q0.out.set (.slice A1 n1 c1) (.slice A2 n2 c2)) Try.underlying25 rfl size_ctr) rfl ?_
  exact ⟨_, _, _, _, _, _, _, _, rfl, ((QC.out.putAt (by omega) _).putAt (by omega) _).mono (by omega), hn1, hn2, QB.out.trans (below_put2 _ w.heap.size _ _)⟩

set_option maxRecDepth 100000 in
set_option maxHeartbeats 1600000 in
theorem drawTickOf_any (A : Option Addr) (n c : Nat) (w : World) (hs : By w w.heap.size A n) (hc : n ≤ c) :
    Calls Try.prog 24 #[.slice A n c] w fun e w' => ∃ A1 n1 c1 A2 n2 c2 D C t, e = .returned (.tuple #[ctr A1 n1 c1 A2 n2 c2, .bool t]) ∧ Ctr w' w.heap.size A1 n1 c1 A2 n2 c2 D C ∧ n1 ≤ 8 ∧ n2 ≤ 9 ∧ Below w.heap.size w w' := by
  have X0 := Bk.new w (.slice none 0 0) (.slice none 0 0)
  have b0 := (Below.refl w.heap.size w).alloc (Nat.le_refl _) (.cells #[.slice none 0 0, .slice none 0 0] 25)
  have z0 : (w.alloc (.cells #[.slice none 0 0, .slice none 0 0] 25)).heap.size = w.heap.size + 1 := by simp
  go_enter Try.func24, Try.ntmps24
  go_wp2_with fail
  obtain ⟨w0, e0⟩ : ∃ W, w.alloc (.cells #[.slice none 0 0, .slice none 0 0] 25) = W := ⟨_, rfl⟩
  rw [e0] at X0 b0 z0 ⊢
  clear e0
  refine (open_any A n c _ (hs.on b0) hc).mono ?_
  rintro e w1 ⟨g, rfl, r1, hg, b1⟩
  replace X0 := X0.below b1 (by omega)
  have z1 := b1.size
  have b01 := b0.trans (b1.mono (by omega))
  go_wp2_with fail
  refine (counter_any g _ 9 _ r1 (by omega) (by omega) (by omega)).mono ?_
  rintro e w2 ⟨A1, n1, c1, A2, n2, c2, D, C, rfl, o1, hn1, hn2, r2, g2⟩
  replace X0 := X0.on g2 (by simp; omega)
  have b2 := b01.grown g2 (by omega) (by intro k hk; cases hk; omega)
  have hgl := r1.lt
  have z2 := b2.size
  have z2' := g2.size
  go_wp2_with fail
  refine (pick_any g _ 3 _ r2 (by omega) (by omega) (by omega)).mono ?_
  rintro e w3 ⟨y, rfl, y0, y1, r3, g3⟩
  replace X0 := X0.on g3 (by simp; omega)
  have b3 := b2.grown g3 (by omega) (by intro k hk; cases hk; omega)
  replace o1 := o1.keptG g3 hgl
  have f0 := X0.fz 0
  have f1 := X0.fz 1
  have d0 := X0.c0
  have d1 := X0.c1
  have Q0 := hid X0
  have QC := hid o1
  have QB := hid b3
  clear g2 g3 b2 b3 b01 b1 b0 X0 o1 r1 r2 r3
  go_wp2
  (try simp only [Exit.inBlock, Exit.then])
  refine bodyPost_ret (results_k1 rfl _ _ w.heap.size 25 _ (0, 0) _ (by simp [Act.put]) (Q0.out.set (.slice A1 n1 c1) (.slice A2 n2 c2)) Try.underlying25 rfl size_ctr) rfl ?_
  exact ⟨_, _, _, _, _, _, _, _, _, rfl, ((QC.out.putAt (by omega) _).putAt (by omega) _).mono (by omega), hn1, hn2, QB.out.trans (below_put2 _ w.heap.size _ _)⟩

set_option maxHeartbeats 1600000 in
theorem drawCounterOf_any (A : Option Addr) (n c : Nat) (w : World) (hs : By w w.heap.size A n) (hc : n ≤ c) :
    Calls Try.prog 19 #[.slice A n c] w fun e w' => ∃ z, e = .returned (.int .i64 z) ∧ -1 ≤ z ∧ z ≤ 9 ∧ Below w.heap.size w w' := by
  go_enter Try.func19, Try.ntmps19
  go_wp2_with fail
  refine (open_any A n c _ hs hc).mono ?_
  rintro e w1 ⟨g, rfl, r1, hg, b1⟩
  go_wp2_with fail
  refine (pick_any g _ 11 _ r1 (by omega) (by omega) (by omega)).mono ?_
  rintro e w2 ⟨y, rfl, y0, y1, r2, g2⟩
  have b2 := b1.grown g2 b1.size (by intro k hk; cases hk; exact hg)
  clear g2
  go_wp2
  go_ret
  exact ⟨_, rfl, by omega, by omega, b2⟩

/-- From a row of bools that the call owns, one element appended. -/
theorem pushBit {w w1 w2 : World} {B i g : Nat} {l : List Bool} {x : Bool} {v v2 : Value} (hg : w.grownBy w1 (some g)) (hB : w.heap.size ≤ B) (hB1 : B ≤ w1.heap.size)
    (hv : v.ownBlock = none ∨ ∃ k, v.ownBlock = some k ∧ B ≤ k)
    (h2 : w2.ownsRow B 4 1 v2 (i + 1) (bitsV l ++ [.bool x])) (hg2 : (w1.alloc (.cells #[.bool x] 4)).grownBy w2 v.ownBlock) :
    ∃ A c, v2 = .slice A (i + 1) c ∧ w2.ownsRow B 4 1 (.slice A (i + 1) c) (i + 1) (bitsV (l ++ [x])) ∧ w.grownBy w2 (some g) := by
  obtain ⟨g2, c2, rfl, _, _⟩ := own_shape h2
  refine ⟨_, _, rfl, by simpa [bitsV] using h2, ?_⟩
  refine (World.grownBy.andThen (row' := none) hg (grown_alloc w1 _ none) (by simp)).andThen hg2 ?_
  intro j hj
  rcases hv with hv | ⟨k, hv, hk⟩
  · rw [hv] at hj; cases hj
  · rw [hv] at hj; cases hj; left; omega

set_option maxRecDepth 100000 in
set_option maxHeartbeats 6400000 in
theorem drawCountedOf_any (A : Option Addr) (n c : Nat) (w : World) (hs : By w w.heap.size A n) (hc : n ≤ c) :
    Calls Try.prog 29 #[.slice A n c] w fun e w' => ∃ m A1 n1 c1 ts, e = .returned (.tuple #[.int .i64 m, .slice A1 n1 c1]) ∧ w'.ownsRow w.heap.size 4 1 (.slice A1 n1 c1) n1 (bitsV ts) ∧ n1 ≤ 301 ∧ 1 ≤ m ∧ m ≤ 16 ∧ Below w.heap.size w w' := by
  obtain ⟨i0, hi, hz0, hz1, hz2⟩ := info_parts info_bool
  go_enter Try.func29, Try.ntmps29
  go_wp2_with fail
  refine (open_any A n c _ hs hc).mono ?_
  rintro e w1 ⟨g, rfl, r1, hg, b1⟩
  go_wp2_with fail
  refine (pick_any g _ 8 _ r1 (by omega) (by omega) (by omega)).mono ?_
  rintro e w2 ⟨a, rfl, a0, a1, r2, g2⟩
  have b2 := b1.grown g2 b1.size (by intro k hk; cases hk; exact hg)
  go_wp2_with fail
  refine (pick_any g _ 20 _ r2 (by omega) (by omega) (by omega)).mono ?_
  rintro e w3 ⟨y, rfl, y0, y1, r3, g3⟩
  have b3 := b2.grown g3 b2.size (by intro k hk; cases hk; exact hg)
  have qy0 : 0 ≤ y / 19 := Int.ediv_nonneg y0 (by omega)
  have qy1 : y / 19 ≤ 1 := by omega
  go_wp2_with fail
  have hgl : g < w3.heap.size := r3.lt
  have r3' : Rd (w3.alloc (.cells #[] 4)) g (0 + 1 + 1) := r3.grown (grown_alloc _ _ none) (by simp)
  have ho0 : (w3.alloc (.cells #[] 4)).ownsRow w3.heap.size 4 1 (.slice (some ⟨w3.heap.size, 0, none⟩) 0 0) 0 (bitsV []) := World.ownsRow_lit w3 #[] 0 (Nat.le_refl _) (by simp [maxLen]) rfl
  have hg0 : w3.grownBy (w3.alloc (.cells #[] 4)) (some g) := grown_alloc w3 _ (some g)
  have B3 := hid b3
  clear g2 g3 b1 b2 b3 r1 r2 r3
  refine (pick_any g _ 4 _ r3' (by omega) (by omega) (by omega)).mono ?_
  rintro e w4 ⟨o, rfl, q0, q1, r4, g4⟩
  replace ho0 := ho0.kept g4 (.inr (by simp [Value.ownBlock]; omega))
  replace hg0 := hg0.andThen g4 (by simp)
  clear g4 r3'
  go_wp2_with fail
  refine (pick_any g _ 60 _ r4 (by omega) (by omega) (by omega)).mono ?_
  rintro e w5 ⟨u, rfl, u0, u1, r5, g5⟩
  replace ho0 := ho0.kept g5 (.inr (by simp [Value.ownBlock]; omega))
  replace hg0 := hg0.andThen g5 (by simp)
  clear g5 r4
  go_wp2_with fail
  refine (pick_any g _ 3 _ r5 (by omega) (by omega) (by omega)).mono ?_
  rintro e w6 ⟨v, rfl, v0, v1, r6, g6⟩
  replace ho0 := ho0.kept g6 (.inr (by simp [Value.ownBlock]; omega))
  replace hg0 := hg0.andThen g6 (by simp)
  clear g6 r5
  obtain ⟨K, hK⟩ := Int.eq_ofNat_of_zero_le (show 0 ≤ u + v * 40 by omega)
  have hK2 : K ≤ 140 := by omega
  go_wp2
  go_loopw [6, 8] (fun s kk wr => ∃ (A1 : Option Addr) (i c1 j : Nat) (ts : List Bool), s = .slice A1 i c1 ∧ kk = .int .i64 j ∧ i + j ≤ 140 ∧ wr.ownsRow w3.heap.size 4 1 (.slice A1 i c1) i (bitsV ts) ∧ Rd wr g (5 + i) ∧ w3.grownBy wr (some g)) (fun _ kk _ => (intOf kk).toNat)
  case atStart => exact ⟨_, 0, 0, K, [], rfl, by go_num, by omega, ho0, r6.more (by omega), hg0⟩
  case round =>
    clear ho0 r6 hg0
    obtain ⟨A1, i, c1, j, ts, rfl, rfl, hij, hown, hrr, hgg⟩ := hrel
    have hv := own_blk hown
    have hvg := own_ne hown hgl
    by_cases hj : 0 < j
    · go_wp2_with fail
      refine (pick_any g _ 4 _ hrr (by omega) (by omega) (by omega)).mono ?_
      rintro e w1 ⟨x, rfl, x0, x1, r1, g1⟩
      have hown1 := hown.kept g1 hvg
      have hgg1 := hgg.andThen g1 (by simp)
      have hzg := hgg1.size
      clear g1 hown
      go_wp2_with (at_builtin; refine wpList_append_own _ rfl (.tmp 33) (.tmp 38) 37 rfl w3.heap.size 4 i0 (.bool false) 1 1 Try.underlying37 hi hz0 hz1 hz2 rfl (by decide) (.slice A1 i c1) _ _ rfl (hown1.alloc _) ⟨w1.heap.size, 0, none⟩ 1 1 [.bool (decide (x < 1 + o))] rfl rfl (cell_one_new _ _ _) (by simp [Value.oneCell']) (by simp only [maxLen]; omega) (by omega) (by simp; omega) ?_; intro v2 w2 hown2 hgrow2 _)
      obtain ⟨A2, c2, rfl, hown3, hgg3⟩ := pushBit hgg1 (Nat.le_refl _) hzg hv hown2 hgrow2
      have hr3 : Rd w2 g (5 + i + 1) := (r1.grown (grown_alloc _ _ none) (by simp)).grown hgrow2 (by
        intro k hk
        rcases hv with h | ⟨k', h, hk'⟩
        · rw [h] at hk; cases hk
        · rw [h] at hk; cases hk; omega)
      clear hown2 hgrow2 hown1 hgg1 r1 hrr hgg
      go_wp2
      go_roundw
      case rel => exact ⟨A2, i + 1, c2, j - 1, _, rfl, by go_num, by omega, hown3, hr3, hgg3⟩
      case measure => simp [intOf]; omega
    · obtain rfl : j = 0 := by omega
      go_wp2_with fail
      refine (odd_any g _ 30 _ hrr (by omega) (by omega) (by omega)).mono ?_
      rintro e w7 ⟨b, rfl, r7, g7⟩
      replace hown := hown.kept g7 hvg
      replace hgg := hgg.andThen g7 (by simp)
      have BB := hid (B3.out.grown hgg B3.out.size (by intro k hk; cases hk; exact hg))
      have OO := hid (own_mono hown B3.out.size)
      have hzz := BB.out.size
      clear g7 hown hgg hrr r7 B3
      cases b with
      | false =>
        go_wp2
        go_ret2
        exact ⟨_, A1, i, c1, ts, rfl, OO.out, by omega, by omega, by omega, BB.out⟩
      | true =>
        clear OO
        go_wp2_with (refine wpList_make_full _ rfl (.const (.int .i64 301)) (.const (.int .i64 301)) 37 rfl w.heap.size 4 i0 _ 1 Try.underlying37 hi hz0 hz1 .i64 .i64 301 301 301 rfl rfl rfl rfl (by rw [hz2]; omega) (by simp only [maxLen]; omega) hzz ?_; intro w8 hown8 hg8)
        rw [madeBools] at hown8
        have B8 := hid (BB.out.grown hg8 hzz (by simp))
        have O8 := hid hown8
        clear hg8 hown8
        go_wp2
        go_ret2
        exact ⟨_, _, 301, _, _, rfl, O8.out, by omega, by omega, by omega, B8.out⟩
end Go.Proofs.Ytdacjpaaffpfgaa
