/-
  Walks of the model's draws of signals. No statement is proved here.
-/
import Derived.Test.YtajjmhfbdknlfaaC2s
import Derived.Test.YtajjmhfbdknlfaaDrO
import Derived.OwnWalk
namespace Go.Proofs.Ytajjmhfbdknlfaa
open Go.RowKit
set_option linter.unusedVariables false
set_option linter.unusedSimpArgs false

set_option maxHeartbeats 1600000 in
theorem last_any (g P : Nat) (w : World) (hr : Rd w g P) (hP : P < 100000) :
    Calls Try.prog 36 #[.pointer (some ⟨g, 0, none⟩)] w fun r w' => ∃ x, r = .returned (.int .i64 x) ∧ 1 ≤ x ∧ x ≤ 52 ∧ Rd w' g (P + 2) ∧ w.grownBy w' (some g) := by
  go_enter Try.func36, Try.ntmps36
  go_wp2_with fail
  refine (pick_any g _ 12 _ hr (by omega) (by omega) (by omega)).mono ?_
  rintro e w1 ⟨x, rfl, x0, x1, hr1, hg1⟩
  go_wp2_with fail
  refine (pick_any g _ 30 _ hr1 (by omega) (by omega) (by omega)).mono ?_
  rintro e w2 ⟨y, rfl, y0, y1, hr2, hg2⟩
  have hgg := hg1.trans hg2
  have d0 : 0 ≤ y / 29 := Int.ediv_nonneg y0 (by omega)
  have d1 : y / 29 ≤ 1 := by omega
  clear hg1 hg2
  go_wp2
  go_ret
  exact ⟨_, rfl, by omega, by omega, hr2, hgg⟩

theorem grown_below {a w w' : World} {row : Option Nat} {B : Nat} (h : a.grownBy w row) (hb : Below B w w') (hB : a.heap.size ≤ B) : a.grownBy w' row :=
  ⟨hb.os.trans h.os, hb.tape.trans h.tape, hb.output.trans h.output, Nat.le_trans h.size hb.size, fun i hi hn => (hb.block i (by omega)).trans (h.block i hi hn)⟩

/-- Block b is a signal's box. -/
def Bx (w : World) (b : Nat) (x y : Int) : Prop := w.heap[b]? = some (.cells #[.int .i64 x, .int .i64 y] 24 (0, 0))
section
variable {w w' : World} {b g : Nat} {x y : Int}
theorem Bx.lt (h : Bx w b x y) : b < w.heap.size := by
  rcases Nat.lt_or_ge b w.heap.size with hlt | hge
  · exact hlt
  · unfold Bx at h; rw [Array.getElem?_eq_none hge] at h; cases h
theorem Bx.new (w : World) (x y : Int) : Bx (w.alloc (.cells #[.int .i64 x, .int .i64 y] 24)) w.heap.size x y := heap_alloc_new w _
theorem Bx.on {row : Option Nat} (h : Bx w b x y) (hg : w.grownBy w' row) (hn : some b ≠ row) : Bx w' b x y := (hg.block b h.lt hn).trans h
theorem Bx.below {B : Nat} (h : Bx w b x y) (hb : Below B w w') (hB : b < B) : Bx w' b x y := (hb.block b hB).trans h
theorem Bx.c0 (h : Bx w b x y) : w.cell? ⟨b, 0, none⟩ = some (.int .i64 x) := cell_of_row w b 0 _ _ _ h
theorem Bx.c1 (h : Bx w b x y) : w.cell? ⟨b, 1, none⟩ = some (.int .i64 y) := cell_of_row w b 1 _ _ _ h
theorem Bx.fz (h : Bx w b x y) (i : Nat) : w.frozen? ⟨b, i, none⟩ = false := frozen_of_row w b i _ _ h
theorem Bx.set1 (h : Bx w b x y) (v : Int) : Bx (w.setCell ⟨b, 1, none⟩ (.int .i64 v)) b x v := by
  have := heap_setCell_same w b 1 _ _ (.int .i64 v) h
  unfold Bx
  rw [this]
  rfl
theorem Bx.set0 (h : Bx w b x y) (v : Int) : Bx (w.setCell ⟨b, 0, none⟩ (.int .i64 v)) b v y := by
  have := heap_setCell_same w b 0 _ _ (.int .i64 v) h
  unfold Bx
  rw [this]
  rfl
theorem Bx.set (h : Bx w b x y) (u v : Int) : Bx ((w.setCell ⟨b, 0, none⟩ (.int .i64 u)).setCell ⟨b, 1, none⟩ (.int .i64 v)) b u v := (h.set0 u).set1 v
end
theorem below_set2 (w : World) (b : Nat) (u v : Value) : Below b w ((w.setCell ⟨b, 0, none⟩ u).setCell ⟨b, 1, none⟩ v) :=
  ((Below.refl b w).setCell (p := ⟨b, 0, none⟩) (Nat.le_refl _) u).setCell (p := ⟨b, 1, none⟩) (Nat.le_refl _) v
theorem size_sig : (Try.prog.info? 24).map (·.size) = some 2 := by kernel_rfl

set_option maxHeartbeats 3200000 in
theorem signal_any (g P : Nat) (last m : Int) (w : World) (hr : Rd w g P) (hP : P < 100000) (h1 : 1 ≤ last) (h2 : last ≤ 52) (hm : 1 ≤ m) (hm2 : m ≤ 1000000) :
    Calls Try.prog 37 #[.pointer (some ⟨g, 0, none⟩), .int .i64 last, .int .i64 m] w fun r w' => ∃ f e, r = .returned (sig f e) ∧ -1 ≤ f ∧ f ≤ 53 ∧ -10 ≤ e ∧ e ≤ 10 ∧ Rd w' g (P + 5) ∧ w.grownBy w' (some g) := by
  have hglt := hr.lt
  go_enter Try.func37, Try.ntmps37
  go_wp2_with fail
  refine (pick_any g _ (last + 1) _ (hr.below ((Below.refl w.heap.size w).alloc (Nat.le_refl _) _) hglt) (by omega) (by omega) (by omega)).mono ?_
  rintro e w1 ⟨x, rfl, x0, x1, hr1, hg1⟩
  have B1 := hid ((Bx.new w 0 0).on hg1 (by simp; omega))
  have G1 := hid (World.grownBy.andThen (grown_alloc w (.cells #[.int .i64 0, .int .i64 0] 24) (some g)) hg1 (by simp))
  clear hg1
  go_wp2_with fail
  refine (pick_any g _ 3 _ hr1 (by omega) (by omega) (by omega)).mono ?_
  rintro e w2 ⟨y, rfl, y0, y1, hr2, hg2⟩
  have B2 := hid (B1.out.on hg2 (by simp; omega))
  have G2 := hid (G1.out.trans hg2)
  have hs2 := B2.out.lt
  clear hg2 hr1
  go_wp2_with fail
  have hb2 : Below w2.heap.size w2 (w2.alloc (.cells #[.int .i64 x, .int .i64 (1 + y)] 24)) := (Below.refl _ _).alloc (Nat.le_refl _) _
  refine (pick_any g _ 3 _ (hr2.below hb2 (by omega)) (by omega) (by omega) (by omega)).mono ?_
  rintro e w3 ⟨z, rfl, z0, z1, hr3, hg3⟩
  have B3 := hid ((B2.out.below hb2 hs2).on hg3 (by simp; omega))
  have C3 := hid ((Bx.new w2 x (1 + y)).on hg3 (by simp; omega))
  have G3 := hid ((grown_below G2.out hb2 G2.out.size).trans hg3)
  clear hg3 hb2 hr2
  have c0 := C3.out.c0
  have c1 := C3.out.c1
  have f1 := C3.out.fz 1
  by_cases hz : z = 0
  · have hb3 : Below w2.heap.size w3 (w3.setCell ⟨w2.heap.size, 1, none⟩ (.int .i64 (-(1 + y)))) := (Below.refl _ _).setCell (p := ⟨w2.heap.size, 1, none⟩) (Nat.le_refl _) _
    have C4 := hid (C3.out.set1 (-(1 + y)))
    have B4 := hid (B3.out.below hb3 hs2)
    have G4 := hid (grown_below G3.out hb3 G2.out.size)
    have hr4 := hr3.below hb3 (by omega)
    clear hb3
    go_wp2_with fail
    refine (odd_any g _ m _ hr4 (by omega) hm hm2).mono ?_
    rintro e w5 ⟨b, rfl, hr5, hg5⟩
    have B5 := hid (B4.out.on hg5 (by simp; omega))
    have C5 := hid (C4.out.on hg5 (by simp; omega))
    have G5 := hid (G4.out.trans hg5)
    clear hg5 hr4 c0 c1 f1
    cases b with
    | false =>
      have c0 := C5.out.c0
      have c1 := C5.out.c1
      have d0 := B5.out.c0
      have d1 := B5.out.c1
      have f0 := B5.out.fz 0
      have f1 := B5.out.fz 1
      have HR := hid (hr5.below (below_set2 w5 w.heap.size (.int .i64 x) (.int .i64 (-(1 + y)))) hglt)
      have HG := hid (grown_below G5.out (below_set2 w5 w.heap.size (.int .i64 x) (.int .i64 (-(1 + y)))) (Nat.le_refl _))
      have HB := hid (B5.out.set x (-(1 + y)))
      go_wp2
      (try simp only [Exit.inBlock, Exit.then])
      refine bodyPost_ret (results_cell_row rfl _ _ w.heap.size 24 _ (0, 0) _ (by simp) HB.out Try.underlying24 rfl size_sig) rfl ?_
      exact ⟨x, (-(1 + y)), rfl, by omega, by omega, by omega, by omega, HR.out.more (by omega), HG.out⟩
    | true =>
      have hb5 : Below w5.heap.size w5 (w5.alloc (.cells #[.int .i64 0, .int .i64 0, .int .i64 (-1), .int .i64 1, .int .i64 0, .int .i64 10, .int .i64 (last + 1), .int .i64 (-1)] 24)) := (Below.refl _ _).alloc (Nat.le_refl _) _
      have hs5 := B5.out.lt
      go_wp2_with fail
      refine (pick_any g _ 4 _ (hr5.below hb5 hr5.lt) (by omega) (by omega) (by omega)).mono ?_
      rintro e w6 ⟨q, rfl, q0, q1, hr6, hg6⟩
      have B6 := hid ((B5.out.below hb5 hs5).on hg6 (by simp; omega))
      have G6 := hid ((grown_below G5.out hb5 G5.out.size).trans hg6)
      have hL := (hg6.block w5.heap.size (by simp) (by have := hr5.lt; simp; omega)).trans (heap_alloc_new w5 _)
      have L : ∀ j : Nat, w6.cell? ⟨w5.heap.size, j, none⟩ = (#[.int .i64 0, .int .i64 0, .int .i64 (-1), .int .i64 1, .int .i64 0, .int .i64 10, .int .i64 (last + 1), .int .i64 (-1)] : Array Value)[j]? := fun j => cell_of_row w6 _ j _ _ _ hL
      clear hg6 hb5 hL hr5
      have d0 := B6.out.c0
      have d1 := B6.out.c1
      have f0 := B6.out.fz 0
      have f1 := B6.out.fz 1
      obtain ⟨ff, ee, j, ff0, ff1, hc0, hc1, hq, ee0, ee1⟩ : ∃ ff ee : Int, ∃ j : Nat, -1 ≤ ff ∧ ff ≤ 53 ∧ w6.cell? ⟨w5.heap.size, j * 2, none⟩ = some (.int .i64 ff) ∧ w6.cell? ⟨w5.heap.size, j * 2 + 1, none⟩ = some (.int .i64 ee) ∧ q = j ∧ -10 ≤ ee ∧ ee ≤ 10 := by
        have : q = 0 ∨ q = 1 ∨ q = 2 ∨ q = 3 := by omega
        rcases this with rfl | rfl | rfl | rfl
        · exact ⟨0, 0, 0, by omega, by omega, L 0, L 1, rfl, by omega, by omega⟩
        · exact ⟨-1, 1, 1, by omega, by omega, L 2, L 3, rfl, by omega, by omega⟩
        · exact ⟨0, 10, 2, by omega, by omega, L 4, L 5, rfl, by omega, by omega⟩
        · exact ⟨last + 1, -1, 3, by omega, by omega, L 6, L 7, rfl, by omega, by omega⟩
      subst hq
      clear L
      have HR := hid (hr6.below (below_set2 w6 w.heap.size (.int .i64 ff) (.int .i64 ee)) hglt)
      have HG := hid (grown_below G6.out (below_set2 w6 w.heap.size (.int .i64 ff) (.int .i64 ee)) (Nat.le_refl _))
      have HB := hid (B6.out.set ff ee)
      go_wp2
      (try simp only [Exit.inBlock, Exit.then])
      refine bodyPost_ret (results_cell_row rfl _ _ w.heap.size 24 _ (0, 0) _ (by simp) HB.out Try.underlying24 rfl size_sig) rfl ?_
      exact ⟨ff, ee, rfl, by omega, by omega, by omega, by omega, HR.out.more (by omega), HG.out⟩
  · have C4 := hid C3.out
    have B4 := hid B3.out
    have G4 := hid G3.out
    have hr4 := hr3
    go_wp2_with fail
    refine (odd_any g _ m _ hr4 (by omega) hm hm2).mono ?_
    rintro e w5 ⟨b, rfl, hr5, hg5⟩
    have B5 := hid (B4.out.on hg5 (by simp; omega))
    have C5 := hid (C4.out.on hg5 (by simp; omega))
    have G5 := hid (G4.out.trans hg5)
    clear hg5 hr4 c0 c1 f1
    cases b with
    | false =>
      have c0 := C5.out.c0
      have c1 := C5.out.c1
      have d0 := B5.out.c0
      have d1 := B5.out.c1
      have f0 := B5.out.fz 0
      have f1 := B5.out.fz 1
      have HR := hid (hr5.below (below_set2 w5 w.heap.size (.int .i64 x) (.int .i64 (1 + y))) hglt)
      have HG := hid (grown_below G5.out (below_set2 w5 w.heap.size (.int .i64 x) (.int .i64 (1 + y))) (Nat.le_refl _))
      have HB := hid (B5.out.set x (1 + y))
      go_wp2
      (try simp only [Exit.inBlock, Exit.then])
      refine bodyPost_ret (results_cell_row rfl _ _ w.heap.size 24 _ (0, 0) _ (by simp) HB.out Try.underlying24 rfl size_sig) rfl ?_
      exact ⟨x, (1 + y), rfl, by omega, by omega, by omega, by omega, HR.out.more (by omega), HG.out⟩
    | true =>
      have hb5 : Below w5.heap.size w5 (w5.alloc (.cells #[.int .i64 0, .int .i64 0, .int .i64 (-1), .int .i64 1, .int .i64 0, .int .i64 10, .int .i64 (last + 1), .int .i64 (-1)] 24)) := (Below.refl _ _).alloc (Nat.le_refl _) _
      have hs5 := B5.out.lt
      go_wp2_with fail
      refine (pick_any g _ 4 _ (hr5.below hb5 hr5.lt) (by omega) (by omega) (by omega)).mono ?_
      rintro e w6 ⟨q, rfl, q0, q1, hr6, hg6⟩
      have B6 := hid ((B5.out.below hb5 hs5).on hg6 (by simp; omega))
      have G6 := hid ((grown_below G5.out hb5 G5.out.size).trans hg6)
      have hL := (hg6.block w5.heap.size (by simp) (by have := hr5.lt; simp; omega)).trans (heap_alloc_new w5 _)
      have L : ∀ j : Nat, w6.cell? ⟨w5.heap.size, j, none⟩ = (#[.int .i64 0, .int .i64 0, .int .i64 (-1), .int .i64 1, .int .i64 0, .int .i64 10, .int .i64 (last + 1), .int .i64 (-1)] : Array Value)[j]? := fun j => cell_of_row w6 _ j _ _ _ hL
      clear hg6 hb5 hL hr5
      have d0 := B6.out.c0
      have d1 := B6.out.c1
      have f0 := B6.out.fz 0
      have f1 := B6.out.fz 1
      obtain ⟨ff, ee, j, ff0, ff1, hc0, hc1, hq, ee0, ee1⟩ : ∃ ff ee : Int, ∃ j : Nat, -1 ≤ ff ∧ ff ≤ 53 ∧ w6.cell? ⟨w5.heap.size, j * 2, none⟩ = some (.int .i64 ff) ∧ w6.cell? ⟨w5.heap.size, j * 2 + 1, none⟩ = some (.int .i64 ee) ∧ q = j ∧ -10 ≤ ee ∧ ee ≤ 10 := by
        have : q = 0 ∨ q = 1 ∨ q = 2 ∨ q = 3 := by omega
        rcases this with rfl | rfl | rfl | rfl
        · exact ⟨0, 0, 0, by omega, by omega, L 0, L 1, rfl, by omega, by omega⟩
        · exact ⟨-1, 1, 1, by omega, by omega, L 2, L 3, rfl, by omega, by omega⟩
        · exact ⟨0, 10, 2, by omega, by omega, L 4, L 5, rfl, by omega, by omega⟩
        · exact ⟨last + 1, -1, 3, by omega, by omega, L 6, L 7, rfl, by omega, by omega⟩
      subst hq
      clear L
      have HR := hid (hr6.below (below_set2 w6 w.heap.size (.int .i64 ff) (.int .i64 ee)) hglt)
      have HG := hid (grown_below G6.out (below_set2 w6 w.heap.size (.int .i64 ff) (.int .i64 ee)) (Nat.le_refl _))
      have HB := hid (B6.out.set ff ee)
      go_wp2
      (try simp only [Exit.inBlock, Exit.then])
      refine bodyPost_ret (results_cell_row rfl _ _ w.heap.size 24 _ (0, 0) _ (by simp) HB.out Try.underlying24 rfl size_sig) rfl ?_
      exact ⟨ff, ee, rfl, by omega, by omega, by omega, by omega, HR.out.more (by omega), HG.out⟩
end Go.Proofs.Ytajjmhfbdknlfaa
