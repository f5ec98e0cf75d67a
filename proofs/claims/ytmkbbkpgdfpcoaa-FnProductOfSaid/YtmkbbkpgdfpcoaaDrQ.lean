/-
  Walks of the model's draws of chapter 8. No statement is proved here.
-/
import Derived.Test.YtmkbbkpgdfpcoaaDrP
import Derived.IntWalk
import Derived.Deep.RegionWith
import Derived.OwnWalk
import Derived.BigRegion
namespace Go.Proofs.Ytmkbbkpgdfpcoaa
open Go.RowKit
set_option linter.unusedVariables false
set_option linter.unusedSimpArgs false

set_option maxHeartbeats 1600000 in
theorem drawTapsOk_any (A : Option Addr) (n c : Nat) (w : World) (hs : By w w.heap.size A n) (hc : n ≤ c) :
    Calls Try.prog 15 #[.slice A n c] w fun e w' => ∃ A1 n1 c1 l1, e = .returned (.slice A1 n1 c1) ∧ w'.ownsRow w.heap.size 3 1 (.slice A1 n1 c1) n1 (ints l1) ∧ n1 ≤ 9 ∧ numsIn l1 10 ∧ Below w.heap.size w w' := by
  go_enter Try.func15, Try.ntmps15
  go_wp2_with fail
  refine (open_any A n c _ hs hc).mono ?_
  rintro e w1 ⟨g, rfl, r1, hg, b1⟩
  have z1 := b1.size
  go_wp2_with fail
  refine (tapsDraw_any g _ 2 _ r1 (by omega) (by omega) (by omega)).mono ?_
  rintro e w2 ⟨A1, n1, c1, l1, rfl, o1, hn1, hv1, r2, g2⟩
  have ne1 := own_ne o1 r1.lt
  have z2 := g2.size
  have b2 := b1.grown g2 b1.size (by intro k hk; cases hk; exact hg)
  clear g2
  go_wp2
  go_ret
  exact ⟨A1, n1, c1, l1, rfl, own_mono o1 (by omega), hn1, hv1, b2⟩

set_option maxHeartbeats 1600000 in
theorem drawInOk_any (A : Option Addr) (n c : Nat) (w : World) (hs : By w w.heap.size A n) (hc : n ≤ c) :
    Calls Try.prog 19 #[.slice A n c] w fun e w' => ∃ A1 n1 c1 l1, e = .returned (.slice A1 n1 c1) ∧ w'.ownsRow w.heap.size 3 1 (.slice A1 n1 c1) n1 (ints l1) ∧ n1 ≤ 17 ∧ numsIn l1 100 ∧ Below w.heap.size w w' := by
  go_enter Try.func19, Try.ntmps19
  go_wp2_with fail
  refine (open_any A n c _ hs hc).mono ?_
  rintro e w1 ⟨g, rfl, r1, hg, b1⟩
  have z1 := b1.size
  go_wp2_with fail
  refine (numsDraw_any g _ 2 _ r1 (by omega) (by omega) (by omega)).mono ?_
  rintro e w2 ⟨A1, n1, c1, l1, rfl, o1, hn1, hv1, r2, g2⟩
  have ne1 := own_ne o1 r1.lt
  have z2 := g2.size
  have b2 := b1.grown g2 b1.size (by intro k hk; cases hk; exact hg)
  clear g2
  go_wp2
  go_ret
  exact ⟨A1, n1, c1, l1, rfl, own_mono o1 (by omega), hn1, hv1, b2⟩

set_option maxHeartbeats 1600000 in
theorem drawFedOf_any (A : Option Addr) (n c : Nat) (w : World) (hs : By w w.heap.size A n) (hc : n ≤ c) :
    Calls Try.prog 22 #[.slice A n c] w fun e w' => ∃ A1 n1 c1 l1 A2 n2 c2 l2, e = .returned (.tuple #[.slice A1 n1 c1, .slice A2 n2 c2]) ∧ w'.ownsRow w.heap.size 3 1 (.slice A1 n1 c1) n1 (ints l1) ∧ n1 ≤ 9 ∧ numsIn l1 10 ∧ w'.ownsRow w.heap.size 3 1 (.slice A2 n2 c2) n2 (ints l2) ∧ n2 ≤ 17 ∧ numsIn l2 100 ∧ Below w.heap.size w w' := by
  go_enter Try.func22, Try.ntmps22
  go_wp2_with fail
  refine (open_any A n c _ hs hc).mono ?_
  rintro e w1 ⟨g, rfl, r1, hg, b1⟩
  have z1 := b1.size
  go_wp2_with fail
  refine (tapsDraw_any g _ 12 _ r1 (by omega) (by omega) (by omega)).mono ?_
  rintro e w2 ⟨A1, n1, c1, l1, rfl, o1, hn1, hv1, r2, g2⟩
  have ne1 := own_ne o1 r1.lt
  have z2 := g2.size
  have b2 := b1.grown g2 b1.size (by intro k hk; cases hk; exact hg)
  go_wp2_with fail
  refine (numsDraw_any g _ 12 _ r2 (by omega) (by omega) (by omega)).mono ?_
  rintro e w3 ⟨A2, n2, c2, l2, rfl, o2, hn2, hv2, r3, g3⟩
  have ne2 := own_ne o2 r2.lt
  have z3 := g3.size
  have b3 := b2.grown g3 b2.size (by intro k hk; cases hk; exact hg)
  replace o1 := o1.kept g3 ne1
  clear g2 g3
  go_wp2
  go_ret2
  exact ⟨A1, n1, c1, l1, A2, n2, c2, l2, rfl, own_mono o1 (by omega), hn1, hv1, own_mono o2 (by omega), hn2, hv2, b3⟩

set_option maxHeartbeats 1600000 in
theorem drawProductOf_any (A : Option Addr) (n c : Nat) (w : World) (hs : By w w.heap.size A n) (hc : n ≤ c) :
    Calls Try.prog 26 #[.slice A n c] w fun e w' => ∃ A1 n1 c1 l1 A2 n2 c2 l2, e = .returned (.tuple #[.slice A1 n1 c1, .slice A2 n2 c2]) ∧ w'.ownsRow w.heap.size 3 1 (.slice A1 n1 c1) n1 (ints l1) ∧ n1 ≤ 9 ∧ numsIn l1 10 ∧ w'.ownsRow w.heap.size 3 1 (.slice A2 n2 c2) n2 (ints l2) ∧ n2 ≤ 9 ∧ numsIn l2 10 ∧ Below w.heap.size w w' := by
  go_enter Try.func26, Try.ntmps26
  go_wp2_with fail
  refine (open_any A n c _ hs hc).mono ?_
  rintro e w1 ⟨g, rfl, r1, hg, b1⟩
  have z1 := b1.size
  go_wp2_with fail
  refine (tapsDraw_any g _ 12 _ r1 (by omega) (by omega) (by omega)).mono ?_
  rintro e w2 ⟨A1, n1, c1, l1, rfl, o1, hn1, hv1, r2, g2⟩
  have ne1 := own_ne o1 r1.lt
  have z2 := g2.size
  have b2 := b1.grown g2 b1.size (by intro k hk; cases hk; exact hg)
  go_wp2_with fail
  refine (tapsDraw_any g _ 12 _ r2 (by omega) (by omega) (by omega)).mono ?_
  rintro e w3 ⟨A2, n2, c2, l2, rfl, o2, hn2, hv2, r3, g3⟩
  have ne2 := own_ne o2 r2.lt
  have z3 := g3.size
  have b3 := b2.grown g3 b2.size (by intro k hk; cases hk; exact hg)
  replace o1 := o1.kept g3 ne1
  clear g2 g3
  go_wp2
  go_ret2
  exact ⟨A1, n1, c1, l1, A2, n2, c2, l2, rfl, own_mono o1 (by omega), hn1, hv1, own_mono o2 (by omega), hn2, hv2, b3⟩

set_option maxHeartbeats 1600000 in
theorem drawBehindOf_any (A : Option Addr) (n c : Nat) (w : World) (hs : By w w.heap.size A n) (hc : n ≤ c) :
    Calls Try.prog 30 #[.slice A n c] w fun e w' => ∃ A1 n1 c1 l1 A2 n2 c2 l2 A3 n3 c3 l3, e = .returned (.tuple #[.slice A1 n1 c1, .slice A2 n2 c2, .slice A3 n3 c3]) ∧ w'.ownsRow w.heap.size 3 1 (.slice A1 n1 c1) n1 (ints l1) ∧ n1 ≤ 9 ∧ numsIn l1 10 ∧ w'.ownsRow w.heap.size 3 1 (.slice A2 n2 c2) n2 (ints l2) ∧ n2 ≤ 9 ∧ numsIn l2 10 ∧ w'.ownsRow w.heap.size 3 1 (.slice A3 n3 c3) n3 (ints l3) ∧ n3 ≤ 17 ∧ numsIn l3 100 ∧ Below w.heap.size w w' := by
  go_enter Try.func30, Try.ntmps30
  go_wp2_with fail
  refine (open_any A n c _ hs hc).mono ?_
  rintro e w1 ⟨g, rfl, r1, hg, b1⟩
  have z1 := b1.size
  have hgl1 := r1.lt
  replace r1 : Rd w1.drew g 0 := r1.below (Below.refl w1.heap.size w1).drew hgl1
  go_wp2
  go_region_with (first
    | (go_at_call 39; refine (tapsDraw_any g _ 14 _ r1 (by omega) (by omega) (by omega)).mono ?_; clear r1; rintro e w2 ⟨A1, n1, c1, l1, rfl, o1, hn1, hv1, r2, g2⟩)
    | (go_at_call 39; refine (tapsDraw_any g _ 14 _ r2 (by omega) (by omega) (by omega)).mono ?_; have hgl2 := r2.lt; clear r2; rintro e w3 ⟨A2, n2, c2, l2, rfl, o2, hn2, hv2, r3, g3⟩)
    | (go_at_call 44; refine (numsDraw_any g _ 14 _ r3 (by omega) (by omega) (by omega)).mono ?_; rintro e w4 ⟨A3, n3, c3, l3, rfl, o3, hn3, hv3, r4, g4⟩))
  all_goals
    have gd : w1.grownBy w1.drew none := ⟨rfl, rfl, rfl, Nat.le_refl _, fun _ _ _ => rfl⟩
    have zz2 := g2.size
    have zz3 := g3.size
    have zz4 := g4.size
    have zzd : w1.drew.heap.size = w1.heap.size := rfl
    rw [zzd] at o1 zz2
    have b2 := ((b1.drew).grown g2 b1.size (by intro k hk; cases hk; exact hg))
    have b3 := b2.grown g3 (by omega) (by intro k hk; cases hk; exact hg)
    have b4 := b3.grown g4 (by omega) (by intro k hk; cases hk; exact hg)
    have ne1 := own_ne o1 hgl1
    have ne2 := own_ne o2 hgl2
    have p1 := hid (own_mono (base' := w.heap.size) ((o1.kept g3 ne1).kept g4 ne1) (by omega))
    have p2 := hid (own_mono (base' := w.heap.size) (o2.kept g4 ne2) (by omega))
    have p3 := hid (own_mono (base' := w.heap.size) o3 (by omega))
    clear g2 g3 g4 o1 o2 o3
    go_wp2
    (try simp only [Exit.inBlock, Exit.then])
    refine bodyPost_ret (results_tmp3 rfl _ _ _) rfl ?_
    exact ⟨A1, n1, c1, l1, A2, n2, c2, l2, A3, n3, c3, l3, rfl, p1.out, hn1, hv1, p2.out, hn2, hv2, p3.out, hn3, hv3, b4⟩

set_option maxHeartbeats 1600000 in
theorem drawValueAt_any (A : Option Addr) (n c : Nat) (w : World) (hs : By w w.heap.size A n) (hc : n ≤ c) :
    Calls Try.prog 33 #[.slice A n c] w fun e w' => ∃ A1 n1 c1 l1 z, e = .returned (.tuple #[.slice A1 n1 c1, .int .i64 z]) ∧ w'.ownsRow w.heap.size 3 1 (.slice A1 n1 c1) n1 (ints l1) ∧ n1 ≤ 9 ∧ numsIn l1 10 ∧ -3 ≤ z ∧ z ≤ 4 ∧ Below w.heap.size w w' := by
  go_enter Try.func33, Try.ntmps33
  go_wp2_with fail
  refine (open_any A n c _ hs hc).mono ?_
  rintro e w1 ⟨g, rfl, r1, hg, b1⟩
  have z1 := b1.size
  go_wp2_with fail
  refine (tapsDraw_any g _ 12 _ r1 (by omega) (by omega) (by omega)).mono ?_
  rintro e w2 ⟨A1, n1, c1, l1, rfl, o1, hn1, hv1, r2, g2⟩
  have ne1 := own_ne o1 r1.lt
  have z2 := g2.size
  have b2 := b1.grown g2 b1.size (by intro k hk; cases hk; exact hg)
  go_wp2_with fail
  refine (pick_any g _ 8 _ r2 (by omega) (by omega) (by omega)).mono ?_
  rintro e w3 ⟨x, rfl, x0, x1, r3, g3⟩
  have b3 := b2.grown g3 b2.size (by intro k hk; cases hk; exact hg)
  replace o1 := o1.kept g3 ne1
  clear g2 g3
  go_wp2
  go_ret2
  exact ⟨A1, n1, c1, l1, _, rfl, own_mono o1 (by omega), hn1, hv1, by omega, by omega, b3⟩
end Go.Proofs.Ytmkbbkpgdfpcoaa
