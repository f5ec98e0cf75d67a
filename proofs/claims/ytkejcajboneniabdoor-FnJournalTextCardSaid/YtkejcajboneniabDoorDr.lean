/-
  Walks of the model's reader, which draws the laws' inputs. No statement is proved here.
-/
import Derived.Test.YtkejcajboneniabDoorProg
import Derived.Test.YtkejcajboneniabDoorEx0
import Derived.Deep.QuietTactic
import Derived.BigQuiet
import Derived.IntWalk
import Derived.Laws.BitsAllLaws
import Derived.Laws.BitsLemmas
namespace Go.Proofs.YtkejcajboneniabDoor
open Go.RowKit
set_option linter.unusedVariables false
set_option linter.unusedSimpArgs false

/-- Block g is a reader: a slice of at most 2000 bytes that lies below it, and a place of at most P. -/
def Rd (w : World) (g : Nat) (P : Nat) : Prop :=
  ∃ (A : Option Addr) (n c p : Nat), w.heap[g]? = some (.cells #[.slice A n c, .int .i64 p] 62 (0, 0)) ∧ By w g A n ∧ n ≤ 2000 ∧ p ≤ P

theorem Rd.lt {w : World} {g P : Nat} (h : Rd w g P) : g < w.heap.size := by
  obtain ⟨A, n, c, p, h, _⟩ := h
  rcases Nat.lt_or_ge g w.heap.size with hlt | hge
  · exact hlt
  · rw [Array.getElem?_eq_none hge] at h; cases h
theorem Rd.more {w : World} {g P P' : Nat} (h : Rd w g P) (hp : P ≤ P') : Rd w g P' := by
  obtain ⟨A, n, c, p, h1, h2, h3, h4⟩ := h
  exact ⟨A, n, c, p, h1, h2, h3, by omega⟩
theorem Rd.keep {w w' : World} {g P : Nat} (h : Rd w g P) (hk : ∀ k, k ≤ g → w'.heap[k]? = w.heap[k]?) : Rd w' g P := by
  obtain ⟨A, n, c, p, h1, h2, h3, h4⟩ := h
  exact ⟨A, n, c, p, (hk g (Nat.le_refl _)).trans h1, h2.keep (Nat.le_refl _) (fun q hq => World.cell?_of_block (hk q.block (by omega))), h3, h4⟩
/-- The reader stays where only newer blocks, and those at most, have changed. -/
theorem Rd.below {w w' : World} {g P B : Nat} (h : Rd w g P) (hb : Below B w w') (hg : g < B) : Rd w' g P := h.keep fun k hk => hb.block k (by omega)
theorem Rd.grown {w w' : World} {g P : Nat} {row : Option Nat} (h : Rd w g P) (hb : w.grownBy w' row) (hr : ∀ k, row = some k → g < k) : Rd w' g P :=
  h.keep fun k hk => hb.block k (by have := h.lt; omega) (fun e => by have := hr k e.symm; omega)

set_option maxHeartbeats 800000 in
theorem open_any (A : Option Addr) (n c : Nat) (w : World) (hs : By w w.heap.size A n) (hc : n ≤ c) :
    Calls Tryd.prog 18 #[.slice A n c] w fun e w' => ∃ g, e = .returned (.pointer (some ⟨g, 0, none⟩)) ∧ Rd w' g 0 ∧ w.heap.size ≤ g ∧ Below w.heap.size w w' := by
  have hm : n ≤ 9223372036854775807 := hs.1
  by_cases hbig : 2000 < n
  · go_enter Tryd.func18, Tryd.ntmps18
    go_wp2
    go_ret
    refine ⟨_, rfl, ⟨A, 2000, c, 0, heap_alloc_new w _, ⟨by simp [maxLen], fun hn => ?_⟩, by omega, Nat.le_refl _⟩, Nat.le_refl _, (Below.refl _ _).alloc (Nat.le_refl _) _⟩
    obtain ⟨b, off, e, hb, hcell⟩ := hs.2 (by omega)
    refine ⟨b, off, e, hb, fun j hj => ?_⟩
    obtain ⟨x, h1, h2, h3⟩ := hcell j (by omega)
    exact ⟨x, h1, h2, (World.cell?_alloc_lt w _ _ hb).trans h3⟩
  · go_enter Tryd.func18, Tryd.ntmps18
    go_wp2
    go_ret
    refine ⟨_, rfl, ⟨A, n, c, 0, heap_alloc_new w _, hs.keep (Nat.le_refl _) (fun q hq => World.cell?_alloc_lt w _ q hq), by omega, Nat.le_refl _⟩, Nat.le_refl _, (Below.refl _ _).alloc (Nat.le_refl _) _⟩

theorem ofInt_nn (a : Nat) (ha : a < 9223372036854775808) : (BitVec.ofInt 64 (a : Int)).toNat = a := by
  rw [BitVec.ofInt_natCast, BitVec.toNat_ofNat]; exact Nat.mod_eq_of_lt (by omega)
theorem xor_nn {a b : Int} (ha : 0 ≤ a) (ha' : a < 9223372036854775808) (hb : 0 ≤ b) (hb' : b < 9223372036854775808) : 0 ≤ bits .xor .i64 a b := by
  obtain ⟨a, rfl⟩ := Int.eq_ofNat_of_zero_le ha
  obtain ⟨b, rfl⟩ := Int.eq_ofNat_of_zero_le hb
  have hx : a ^^^ b < 2 ^ 63 := Nat.xor_lt_two_pow (by omega) (by omega)
  show 0 ≤ IntKind.i64.wrap ((BitVec.ofInt 64 (a : Int) ^^^ BitVec.ofInt 64 (b : Int)).toNat : Int)
  rw [BitVec.toNat_xor, ofInt_nn a (by omega), ofInt_nn b (by omega), IntKind.wrap_i64]
  omega
theorem grown_drewN {a w : World} {row : Option Nat} (h : a.grownBy w row) (n : Nat) : a.grownBy (w.drewN n) row := ⟨h.os, h.tape, h.output, h.size, h.block⟩

set_option maxHeartbeats 1600000 in
theorem pick_any (g P : Nat) (m : Int) (w : World) (hr : Rd w g P) (hP : P < 1000000) (hm : 1 ≤ m) (hm2 : m ≤ 1000000) :
    Calls Tryd.prog 33 #[.pointer (some ⟨g, 0, none⟩), .int .i64 m] w fun e w' => ∃ x : Int, e = .returned (.int .i64 x) ∧ 0 ≤ x ∧ x < m ∧ Rd w' g (P + 1) ∧ w.grownBy w' (some g) := by
  have hglt := hr.lt
  obtain ⟨A, n, c, p, hg, hb, hn, hp⟩ := hr
  have hc0 : w.cell? ⟨g, 0, none⟩ = some (.slice A n c) := cell_of_row w g 0 _ _ _ hg
  have hc1 : w.cell? ⟨g, 1, none⟩ = some (.int .i64 p) := cell_of_row w g 1 _ _ _ hg
  have hf1 : w.frozen? ⟨g, 1, none⟩ = false := frozen_of_row w g 1 _ _ hg
  have hg1 : (w.setCell ⟨g, 1, none⟩ (.int .i64 (p + 1))).heap[g]? = some (.cells #[.slice A n c, .int .i64 (p + 1)] 62 (0, 0)) := heap_setCell_same w g 1 _ _ _ hg
  have hgr : w.grownBy (w.setCell ⟨g, 1, none⟩ (.int .i64 (p + 1))) (some g) := ⟨rfl, rfl, rfl, by simp, fun k _ hk => heap_setCell_other w ⟨g, 1, none⟩ k _ (fun e => hk (by simp [e]))⟩
  have hrd : Rd (w.setCell ⟨g, 1, none⟩ (.int .i64 (p + 1))) g (P + 1) :=
    ⟨A, n, c, p + 1, hg1, hb.keep (Nat.le_refl _) (fun q hq => World.cell?_setCell_other w _ _ _ (fun e => by subst e; simp at hq)), hn, by omega⟩
  clear hg1 hg
  by_cases h0 : n = 0
  · subst h0
    have e1 : decide (m < 1) = false := by simp; omega
    go_enter Tryd.func33, Tryd.ntmps33
    go_wp2
    go_ret
    exact ⟨0, rfl, Int.le_refl _, by omega, hrd, hgr⟩
  · have e1 : decide (m < 1) = false := by simp; omega
    have e2 : ((n : Int) == 0) = false := by simp; omega
    obtain ⟨b, off, rfl, hbg, hcell⟩ := hb.2 (by omega)
    by_cases hlt : p < n
    · obtain ⟨x, hx0, hx1, hx2⟩ := hcell p hlt
      have hx3 : (w.setCell ⟨g, 1, none⟩ (.int .i64 (p + 1))).cell? ⟨b, off + p, none⟩ = some (.int .u8 x) := (World.cell?_setCell_other w _ _ _ (fun e => by injection e with e; omega)).trans hx2
      clear hcell
      go_enter Tryd.func33, Tryd.ntmps33
      go_wp2
      go_ret
      exact ⟨_, rfl, Int.emod_nonneg _ (by omega), Int.emod_lt_of_pos _ (by omega), hrd, hgr⟩
    · have hn1 : 1 ≤ n := by omega
      obtain ⟨i1, hi1⟩ : ∃ i1 : Nat, p % n = i1 := ⟨_, rfl⟩
      obtain ⟨i2, hi2⟩ : ∃ i2 : Nat, (p * 7 + 3) % n = i2 := ⟨_, rfl⟩
      obtain ⟨q, hq⟩ : ∃ q : Nat, p / n = q := ⟨_, rfl⟩
      have hb1 : i1 < n := by rw [← hi1]; exact Nat.mod_lt _ (by omega)
      have hb2 : i2 < n := by rw [← hi2]; exact Nat.mod_lt _ (by omega)
      have hb3 : q ≤ p := by rw [← hq]; exact Nat.div_le_self _ _
      obtain ⟨x, hx0, hx1, hx2⟩ := hcell _ hb1
      obtain ⟨y, hy0, hy1, hy2⟩ := hcell _ hb2
      have hx3 : (w.setCell ⟨g, 1, none⟩ (.int .i64 (p + 1))).cell? ⟨b, off + i1, none⟩ = some (.int .u8 x) := (World.cell?_setCell_other w _ _ _ (fun e => by injection e with e; omega)).trans hx2
      have hy3 : (w.setCell ⟨g, 1, none⟩ (.int .i64 (p + 1))).cell? ⟨b, off + i2, none⟩ = some (.int .u8 y) := (World.cell?_setCell_other w _ _ _ (fun e => by injection e with e; omega)).trans hy2
      have k1 : IntKind.i64.wrap (x * 131) = x * 131 := IntWalk.i64_in _ (by omega)
      have k2 : IntKind.i64.wrap (y * 1117) = y * 1117 := IntWalk.i64_in _ (by omega)
      have k3 : IntKind.i64.wrap (x * 131 + y * 1117) = x * 131 + y * 1117 := IntWalk.i64_in _ (by omega)
      have k4 : IntKind.i64.wrap ((p : Int) * 29) = (p : Int) * 29 := IntWalk.i64_in _ (by omega)
      have k5 : IntKind.i64.wrap (x * 131 + y * 1117 + (p : Int) * 29) = x * 131 + y * 1117 + (p : Int) * 29 := IntWalk.i64_in _ (by omega)
      have k6 : IntKind.i64.wrap ((q : Int) * 53) = (q : Int) * 53 := IntWalk.i64_in _ (by omega)
      have k7 : IntKind.i64.wrap (x * 131 + y * 1117 + (p : Int) * 29 + (q : Int) * 53) = x * 131 + y * 1117 + (p : Int) * 29 + (q : Int) * 53 := IntWalk.i64_in _ (by omega)
      have k8 : IntKind.i64.wrap ((p : Int) * 7) = (p : Int) * 7 := IntWalk.i64_in _ (by omega)
      have k9 : IntKind.i64.wrap ((p : Int) * 7 + 3) = (p : Int) * 7 + 3 := IntWalk.i64_in _ (by omega)
      have k10 : IntKind.i64.wrap (x : Int) = x := IntWalk.i64_in _ (by omega)
      have k11 : IntKind.i64.wrap (y : Int) = y := IntWalk.i64_in _ (by omega)
      have k12 : IntKind.i64.wrap (q : Int) = q := IntWalk.i64_in _ (by omega)
      have m1 : ((p : Int).tmod (n : Int)) = (i1 : Int) := by rw [← hi1]; rfl
      have m2 : (((p : Int) * 7 + 3).tmod (n : Int)) = (i2 : Int) := by rw [← hi2]; rfl
      have m3 : ((p : Int).tdiv (n : Int)) = (q : Int) := by rw [← hq]; rfl
      have m4 : ((p : Int) % (n : Int)) = (i1 : Int) := by rw [← hi1]; rfl
      have m5 : (((p : Int) * 7 + 3) % (n : Int)) = (i2 : Int) := by rw [← hi2]; rfl
      have m6 : ((p : Int) / (n : Int)) = (q : Int) := by rw [← hq]; rfl
      have hb1' : (i1 : Int) < (n : Int) := by omega
      have hb2' : (i2 : Int) < (n : Int) := by omega
      clear hcell hx2 hy2 hi1 hi2 hq
      go_enter Tryd.func33, Tryd.ntmps33
      go_wp2
      go_quiet (fail)
      clear k1 k2 k3 k4 k5 k6 k7 k8 k9 k10 k11 k12 m1 m2 m3 m4 m5 m6
      obtain ⟨X, hX⟩ : ∃ X : Int, x * 131 + y * 1117 + (p : Int) * 29 + (q : Int) * 53 = X := ⟨_, rfl⟩
      rw [hX]
      have hX0 : 0 ≤ X := by omega
      have hX1 : X ≤ 1000000000 := by omega
      clear hX hx3 hy3
      go_wp2
      go_ret
      exact ⟨_, rfl, Int.tmod_nonneg _ (xor_nn hX0 (by omega) (by omega) (by omega)), Int.tmod_lt_of_pos _ (by omega), hrd.keep (fun _ _ => rfl), grown_drewN hgr _⟩
theorem rd_push {w1 w2 : World} {g P B : Nat} {o : Obj} {v : Value} (hr : Rd w1 g P) (hg : (w1.alloc o).grownBy w2 v.ownBlock) (hv : v.ownBlock = none ∨ ∃ k, v.ownBlock = some k ∧ B ≤ k) (hB : g < B) : Rd w2 g P :=
  (hr.below ((Below.refl w1.heap.size w1).alloc (Nat.le_refl _) _) hr.lt).grown hg (by
    intro k hk
    rcases hv with h | ⟨k', h, hk'⟩
    · rw [h] at hk; cases hk
    · rw [h] at hk; cases hk; omega)
end Go.Proofs.YtkejcajboneniabDoor
