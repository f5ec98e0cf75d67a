/-
  Walks of the program's votes as a number of bits: VotesOk, what is heard from both sides, all. No statement is proved here.
-/
import Derived.Test.YtfmlekcdjjkolaaC1a
import Derived.Test.YtfmlekcdjjkolaaS7v
import Derived.Test.YtfmlekcdjjkolaaC7a
import Derived.Laws.Bits64b
import Derived.Laws.Rows
import Derived.OwnWalk
import Derived.IntWalk
import Derived.BigRegion
import Derived.Deep.RegionHeld3
namespace Go.Proofs.Ytfmlekcdjjkolaa
open Go.RowKit
set_option linter.unusedVariables false
set_option linter.unusedSimpArgs false

set_option maxHeartbeats 800000 in
theorem votesI_any (A : Option Addr) (n c : Nat) (l : List Int) (w : World) (B : Nat) (hs : Sl w B A n l) :
    Calls Try.prog 13 #[.slice A n c] w fun e w' => e = .returned (.bool (votesOk l)) ∧ w = w' := by
  go_enter Try.func13, Try.ntmps13
  go_wp2_with (go_at_call 34; refine (cellsOk_any _ _ _ l 2 _ _ hs).mono ?_; rintro e w' ⟨rfl, rfl⟩)
  go_ret
  exact ⟨rfl, rfl⟩
theorem implVotesOk_any (A : Option Addr) (n c : Nat) (l : List Int) (w : World) (hs : Sl w w.heap.size A n l) :
    Calls Try.prog 13 #[.slice A n c] w fun e w' => e = .returned (.bool (votesOk l)) ∧ Below w.heap.size w w' := by
  refine (votesI_any A n c l w _ hs).mono ?_
  rintro e w' ⟨rfl, rfl⟩
  exact ⟨rfl, Below.refl _ _⟩
theorem stepsOk7_any (s : Int) (w : World) :
    Calls Try.prog 37 #[.int .i64 s] w fun e w' => e = .returned (.bool (within s 0 60)) ∧ w = w' := by
  by_cases h1 : 0 ≤ s
  · go_enter Try.func37, Try.ntmps37
    go_wp2
    go_ret
    exact ⟨ret_bool (by simp [within, h1]), rfl⟩
  · have h1' : decide (0 ≤ s) = false := by simpa using h1
    go_enter Try.func37, Try.ntmps37
    go_wp2
    go_ret
    exact ⟨ret_bool (by simp [within]; omega), rfl⟩

/-- Votes as a value, and a block that holds them. -/
abbrev vot (x n : Nat) : Value := .agg #[.int .u64 x, .int .i64 n]
def Vb (w : World) (b x n : Nat) : Prop := w.heap[b]? = some (.cells #[.int .u64 x, .int .i64 n] 43 (0, 0))
section
variable {w w' : World} {b g x n : Nat}
theorem Vb.lt (h : Vb w b x n) : b < w.heap.size := by
  rcases Nat.lt_or_ge b w.heap.size with hlt | hge
  · exact hlt
  · unfold Vb at h; rw [Array.getElem?_eq_none hge] at h; cases h
theorem Vb.new (w : World) (x n : Nat) : Vb (w.alloc (.cells #[.int .u64 x, .int .i64 n] 43)) w.heap.size x n := heap_alloc_new w _
theorem Vb.on {row : Option Nat} (h : Vb w b x n) (hg : w.grownBy w' row) (hn : some b ≠ row) : Vb w' b x n := (hg.block b h.lt hn).trans h
theorem Vb.below {B : Nat} (h : Vb w b x n) (hb : Below B w w') (hB : b < B) : Vb w' b x n := (hb.block b hB).trans h
theorem Vb.c0 (h : Vb w b x n) : w.cell? ⟨b, 0, none⟩ = some (.int .u64 x) := cell_of_row w b 0 _ _ _ h
theorem Vb.c1 (h : Vb w b x n) : w.cell? ⟨b, 1, none⟩ = some (.int .i64 n) := cell_of_row w b 1 _ _ _ h
theorem Vb.fz (h : Vb w b x n) (i : Nat) : w.frozen? ⟨b, i, none⟩ = false := frozen_of_row w b i _ _ h
theorem Vb.set0 (h : Vb w b x n) (y : Nat) : Vb (w.setCell ⟨b, 0, none⟩ (.int .u64 y)) b y n := by
  have := heap_setCell_same w b 0 _ _ (.int .u64 y) h
  unfold Vb
  rw [this]
  rfl
theorem Vb.set1 (h : Vb w b x n) (m : Nat) : Vb (w.setCell ⟨b, 1, none⟩ (.int .i64 m)) b x m := by
  have := heap_setCell_same w b 1 _ _ (.int .i64 m) h
  unfold Vb
  rw [this]
  rfl
theorem Vb.set (h : Vb w b x n) (y m : Nat) : Vb ((w.setCell ⟨b, 0, none⟩ (.int .u64 y)).setCell ⟨b, 1, none⟩ (.int .i64 m)) b y m := (h.set0 y).set1 m
end
theorem drew_grown (w : World) : w.grownBy w.drew none := ⟨rfl, rfl, rfl, Nat.le_refl _, fun _ _ _ => rfl⟩
theorem size_vot : (Try.prog.info? 43).map (·.size) = some 2 := by kernel_rfl
theorem pow40 {n : Nat} (h : n ≤ 40) : 1 ≤ 2 ^ n ∧ 2 ^ n ≤ 1099511627776 := ⟨Nat.two_pow_pos n, by have := Nat.pow_le_pow_right (n := 2) (by omega) h; simpa using this⟩
theorem u64_in (x : Nat) (h : x < 18446744073709551616) : IntKind.u64.wrap (x : Int) = (x : Int) := by rw [IntKind.wrap_u64]; omega
theorem u64_pow {n : Nat} (h : n ≤ 40) : IntKind.u64.wrap (2 ^ n) = ((2 ^ n : Nat) : Int) := by
  have := pow40 h
  rw [show ((2 : Int) ^ n) = ((2 ^ n : Nat) : Int) from by simp, u64_in _ (by omega)]

set_option maxHeartbeats 800000 in
theorem all_any (x n : Nat) (w : World) (hn : n ≤ 40) :
    Calls Try.prog 49 #[vot x n] w fun e w' => e = .returned (.int .u64 ((2 ^ n - 1 : Nat) : Int)) ∧ w.grownBy w' none := by
  have X := Vb.new w x n
  have c1 := X.c1
  have hp := pow40 hn
  have B0 := hid (grown_alloc w (.cells #[.int .u64 x, .int .i64 n] 43) none)
  have HW := hid (show IntKind.u64.wrap (IntKind.u64.wrap (2 ^ n) - 1) = ((2 ^ n - 1 : Nat) : Int) from by
    rw [u64_pow hn, IntKind.wrap_u64]; omega)
  clear hp
  go_enter Try.func49, Try.ntmps49
  go_wp2
  go_ret
  exact ⟨by rw [← HW.out]; rfl, B0.out⟩

set_option maxHeartbeats 1600000 in
theorem fromLeft_any (x n : Nat) (w : World) (hn : n ≤ 40) (hx : x < 2 ^ n) :
    Calls Try.prog 47 #[vot x n] w fun e w' => e = .returned (.int .u64 (fromL x n : Nat)) ∧ w.grownBy w' none := by
  have X := Vb.new w x n
  have c0 := X.c0
  have c1 := X.c1
  have hp := pow40 hn
  have B0 := hid (grown_alloc w (.cells #[.int .u64 x, .int .i64 n] 43) none)
  have CA := hid (fun W : World => all_any x n W hn)
  have HW := hid (show bits .or .u64 (bits .and .u64 (IntKind.u64.wrap ((x : Int) * 2)) ((2 ^ n - 1 : Nat) : Int)) (bits .and .u64 (x : Int) 1) = (fromL x n : Nat) from by
    rw [show (x : Int) * 2 = ((x * 2 : Nat) : Int) from by simp, u64_in _ (by omega), bits_and_u64_nat _ _ (by omega) (by omega), show (1 : Int) = ((1 : Nat) : Int) from rfl, bits_and_u64_nat _ _ (by omega) (by omega), bits_or_u64_nat]
    · rfl
    · exact Nat.lt_of_le_of_lt Nat.and_le_right (by omega)
    · exact Nat.lt_of_le_of_lt Nat.and_le_left (by omega))
  clear hp X hx
  go_enter Try.func47, Try.ntmps47
  go_wp2_with fail
  go_region_held3 (fun w' => w'.cell? ⟨w.heap.size, 0, none⟩ = some (.int .u64 x) ∧ w'.cell? ⟨w.heap.size, 1, none⟩ = some (.int .i64 n))
    (first
      | go_keep
      | (go_split_ands
         refine ⟨?_, ?_⟩ <;> exact hg3.cell (by assumption) (by simp)))
    (first
      | (go_at_call 49; with_reducible refine Calls.mono (CA.out _) ?_; rintro r w3 ⟨rfl, hg3⟩))
  have HG := hid ((B0.out.trans (drew_grown _)).trans hg3)
  clear hg3
  go_wp2
  go_ret
  exact ⟨by rw [← HW.out]; rfl, HG.out⟩

set_option maxHeartbeats 1600000 in
theorem fromRight_any (x n : Nat) (w : World) (h1 : 1 ≤ n) (hn : n ≤ 40) (hx : x < 2 ^ n) :
    Calls Try.prog 48 #[vot x n] w fun e w' => e = .returned (.int .u64 (fromR x n : Nat)) ∧ w.grownBy w' none := by
  have X := Vb.new w x n
  have c0 := X.c0
  have c1 := X.c1
  obtain ⟨m, rfl⟩ : ∃ m, n = m + 1 := ⟨n - 1, by omega⟩
  have hp := pow40 hn
  have hq := pow40 (show m ≤ 40 by omega)
  have B0 := hid (grown_alloc w (.cells #[.int .u64 x, .int .i64 (m + 1 : Nat)] 43) none)
  have HW := hid (show bits .or .u64 ((x : Int) / 2) (bits .and .u64 (x : Int) (IntKind.u64.wrap (2 ^ m))) = (fromR x (m + 1) : Nat) from by
    rw [u64_pow (by omega), show (x : Int) / 2 = ((x / 2 : Nat) : Int) from by omega, bits_and_u64_nat _ _ (by omega) (by omega), bits_or_u64_nat]
    · rfl
    · omega
    · exact Nat.lt_of_le_of_lt Nat.and_le_left (by omega))
  clear hp hq X hx
  go_enter Try.func48, Try.ntmps48
  go_wp2
  go_ret
  exact ⟨by rw [← HW.out]; rfl, B0.out⟩

set_option maxRecDepth 100000 in
set_option maxHeartbeats 3200000 in
theorem voted_any (x n : Nat) (w : World) (h1 : 1 ≤ n) (hn : n ≤ 40) (hx : x < 2 ^ n) :
    Calls Try.prog 39 #[vot x n] w fun e w' => e = .returned (vot (votedB x n) n) ∧ Below w.heap.size w w' := by
  have X := (Vb.new w x n).on (row := none) (grown_alloc _ (.cells #[.int .u64 0, .int .i64 0] 43) none) (by simp)
  have hz : (w.alloc (.cells #[.int .u64 x, .int .i64 n] 43)).heap.size = w.heap.size + 1 := by simp
  have X1 : Vb ((w.alloc (.cells #[.int .u64 x, .int .i64 n] 43)).alloc (.cells #[.int .u64 0, .int .i64 0] 43)) (w.heap.size + 1) 0 0 := by rw [← hz]; exact Vb.new _ 0 0
  have B0 := hid (((Below.refl w.heap.size w).alloc (Nat.le_refl _) (.cells #[.int .u64 x, .int .i64 n] 43)).alloc (by simp) (.cells #[.int .u64 0, .int .i64 0] 43))
  have c0 := X.c0
  have c1 := X.c1
  have HX1 := hid X1
  have CL := hid (fun W : World => fromLeft_any x n W hn hx)
  have CR := hid (fun W : World => fromRight_any x n W h1 hn hx)
  have hp := pow40 hn
  have hl := fromL_lt (x := x) (n := n) hx
  have hr := fromR_lt (x := x) (n := n) hx
  obtain ⟨L, hL⟩ : ∃ L, fromL x n = L := ⟨_, rfl⟩
  obtain ⟨R, hR⟩ : ∃ R, fromR x n = R := ⟨_, rfl⟩
  have HW := hid (show bits .or .u64 (bits .or .u64 (bits .and .u64 (L : Int) (x : Int)) (bits .and .u64 (x : Int) (R : Int))) (bits .and .u64 (L : Int) (R : Int)) = (votedB x n : Nat) from by
    unfold votedB
    rw [hL] at hl ⊢; rw [hR] at hr ⊢
    have q1 : L &&& x ≤ L := Nat.and_le_left
    have q2 : x &&& R ≤ x := Nat.and_le_left
    have q3 : L &&& R ≤ L := Nat.and_le_left
    have q4 : (L &&& x) ||| (x &&& R) < 2 ^ n := Nat.or_lt_two_pow (by omega) (by omega)
    rw [bits_and_u64_nat _ _ (by omega) (by omega), bits_and_u64_nat _ _ (by omega) (by omega), bits_and_u64_nat _ _ (by omega) (by omega), bits_or_u64_nat _ _ (by omega) (by omega), bits_or_u64_nat _ _ (by omega) (by omega)])
  rw [hL] at CL; rw [hR] at CR
  clear hp hl hr hL hR X X1 hx hz
  go_enter Try.func39, Try.ntmps39
  go_wp2_with fail
  go_region_held3 (fun w' => w'.cell? ⟨w.heap.size, 0, none⟩ = some (.int .u64 x) ∧ w'.cell? ⟨w.heap.size, 1, none⟩ = some (.int .i64 n))
    (first
      | go_keep
      | (go_split_ands
         refine ⟨?_, ?_⟩ <;> exact hg4.cell (by assumption) (by simp))
      | (go_split_ands
         refine ⟨?_, ?_⟩ <;> exact hg3.cell (by assumption) (by simp)))
    (first
      | (go_at_call 47; with_reducible refine Calls.mono (CL.out _) ?_; rintro r w3 ⟨rfl, hg3⟩)
      | (go_at_call 48; with_reducible refine Calls.mono (CR.out _) ?_; rintro r w4 ⟨rfl, hg4⟩))
  have hg := ((drew_grown _).trans hg3).trans hg4
  have Y := HX1.out.on (row := none) hg (by simp)
  have BB := hid (B0.out.grown hg (by simp; omega) (by simp))
  have f0 := Y.fz 0
  have f1 := Y.fz 1
  have k0 := Y.c0
  have k1 := Y.c1
  have HY := hid Y
  clear hg3 hg4 hg Y HX1
  go_wp2
  (try simp only [Exit.inBlock, Exit.then])
  rw [HW.out]
  refine bodyPost_ret (results_cell_row rfl _ _ (w.heap.size + 1) 43 _ (0, 0) _ (by simp [Act.put]) (HY.out.set _ _) Try.underlying43 rfl size_vot) rfl ?_
  exact ⟨rfl, (BB.out.setCell (p := ⟨w.heap.size + 1, 0, none⟩) (by simp) _).setCell (p := ⟨w.heap.size + 1, 1, none⟩) (by simp) _⟩
end Go.Proofs.Ytfmlekcdjjkolaa
