/-
  Texts put together: C7g C7h C10f C10d C10g C10h C10k Rg Rb C11f C11h C11j C7b C7s. No statement is proved here.
-/
import Derived.Test.YtkejcajboneniaaM1
import Derived.Test.YtkejcajboneniaaM2
import Derived.Laws.Bits64b
import Derived.Laws.Rows
import Derived.OwnWalk
import Derived.IntWalk
import Derived.BigRegion
import Derived.Deep.RegionHeld3
import Derived.Deep.RegionWith
import Derived.RangeFuncNested
import Derived.RangeFuncBound
import Derived.RangeFuncCalls
import Derived.RangeFuncLeaves
import Derived.Shelf.Abstract
import Derived.Shelf.RegionOpen
import Derived.WalkKit
import Derived.OwnWalkIn
import Derived.TacticsInMore
import Derived.LoopNIn
import Derived.LoopIn
import Derived.RangeFuncBox
namespace Go.Proofs.Ytkejcajboneniaa
open Go.RowKit
set_option linter.unusedVariables false
set_option linter.unusedSimpArgs false

set_option maxHeartbeats 800000 in
theorem votesI_any (A : Option Addr) (n c : Nat) (l : List Int) (w : World) (B : Nat) (hs : Sl w B A n l) :
    Calls Try.prog 104 #[.slice A n c] w fun e w' => e = .returned (.bool (votesOk l)) ∧ w = w' := by
  go_enter Try.func104, Try.ntmps104
  go_wp2_with (go_at_call 45; refine (cellsOk_any _ _ _ l 2 _ _ hs).mono ?_; rintro e w' ⟨rfl, rfl⟩)
  go_ret
  exact ⟨rfl, rfl⟩
theorem implVotesOk_any (A : Option Addr) (n c : Nat) (l : List Int) (w : World) (hs : Sl w w.heap.size A n l) :
    Calls Try.prog 104 #[.slice A n c] w fun e w' => e = .returned (.bool (votesOk l)) ∧ Below w.heap.size w w' := by
  refine (votesI_any A n c l w _ hs).mono ?_
  rintro e w' ⟨rfl, rfl⟩
  exact ⟨rfl, Below.refl _ _⟩
theorem stepsOk7_any (s : Int) (w : World) :
    Calls Try.prog 102 #[.int .i64 s] w fun e w' => e = .returned (.bool (within s 0 60)) ∧ w = w' := by
  by_cases h1 : 0 ≤ s
  · go_enter Try.func102, Try.ntmps102
    go_wp2
    go_ret
    exact ⟨ret_bool (by simp [within, h1]), rfl⟩
  · have h1' : decide (0 ≤ s) = false := by simpa using h1
    go_enter Try.func102, Try.ntmps102
    go_wp2
    go_ret
    exact ⟨ret_bool (by simp [within]; omega), rfl⟩

/-- Votes as a value, and a block that holds them. -/
abbrev vot (x n : Nat) : Value := .agg #[.int .u64 x, .int .i64 n]
def Vb (w : World) (b x n : Nat) : Prop := w.heap[b]? = some (.cells #[.int .u64 x, .int .i64 n] 82 (0, 0))
section
variable {w w' : World} {b g x n : Nat}
theorem Vb.lt (h : Vb w b x n) : b < w.heap.size := by
  rcases Nat.lt_or_ge b w.heap.size with hlt | hge
  · exact hlt
  · unfold Vb at h; rw [Array.getElem?_eq_none hge] at h; cases h
theorem Vb.new (w : World) (x n : Nat) : Vb (w.alloc (.cells #[.int .u64 x, .int .i64 n] 82)) w.heap.size x n := heap_alloc_new w _
theorem Vb.on {row : Option Nat} (h : Vb w b x n) (hg : w.grownBy w' row) (hn : some b ≠ row) : Vb w' b x n := (hg.block b h.lt hn).trans h
theorem Vb.below {B : Nat} (h : Vb w b x n) (hb : Below B w w') (hB : b < B) : Vb w' b x n := (hb.block b hB).trans h
theorem Vb.c0 (h : Vb w b x n) : w.cell? ⟨b, 0, none⟩ = some (.int .u64 x) := cell_of_row w b 0 _ _ _ h
theorem Vb.c1 (h : Vb w b x n) : w.cell? ⟨b, 1, none⟩ = some (.int .i64 n) := cell_of_row w b 1 _ _ _ h
theorem Vb.fz (h : Vb w b x n) (i : Nat) : w.frozen? ⟨b, i, none⟩ = false := frozen_of_row w b i _ _ h
theorem Vb.set0 (h : Vb w b x n) (y : Nat) : Vb (w.setCell ⟨b, 0, none⟩ (.int .u64 y)) b y n := by
  have := heap_setCell_same w b 0 _ _ (.int .u64 y) h
  unfold Vb
  rw [this]
  rfl
theorem Vb.set1 (h : Vb w b x n) (m : Nat) : Vb (w.setCell ⟨b, 1, none⟩ (.int .i64 m)) b x m := by
  have := heap_setCell_same w b 1 _ _ (.int .i64 m) h
  unfold Vb
  rw [this]
  rfl
theorem Vb.set (h : Vb w b x n) (y m : Nat) : Vb ((w.setCell ⟨b, 0, none⟩ (.int .u64 y)).setCell ⟨b, 1, none⟩ (.int .i64 m)) b y m := (h.set0 y).set1 m
end
theorem drew_grown (w : World) : w.grownBy w.drew none := ⟨rfl, rfl, rfl, Nat.le_refl _, fun _ _ _ => rfl⟩
theorem size_vot : (Try.prog.info? 82).map (·.size) = some 2 := by kernel_rfl
theorem pow40 {n : Nat} (h : n ≤ 40) : 1 ≤ 2 ^ n ∧ 2 ^ n ≤ 1099511627776 := ⟨Nat.two_pow_pos n, by have := Nat.pow_le_pow_right (n := 2) (by omega) h; simpa using this⟩
theorem u64_in (x : Nat) (h : x < 18446744073709551616) : IntKind.u64.wrap (x : Int) = (x : Int) := by rw [IntKind.wrap_u64]; omega
theorem u64_pow {n : Nat} (h : n ≤ 40) : IntKind.u64.wrap (2 ^ n) = ((2 ^ n : Nat) : Int) := by
  have := pow40 h
  rw [show ((2 : Int) ^ n) = ((2 ^ n : Nat) : Int) from by simp, u64_in _ (by omega)]

set_option maxHeartbeats 800000 in
theorem all_any (x n : Nat) (w : World) (hn : n ≤ 40) :
    Calls Try.prog 116 #[vot x n] w fun e w' => e = .returned (.int .u64 ((2 ^ n - 1 : Nat) : Int)) ∧ w.grownBy w' none := by
  have X := Vb.new w x n
  have c1 := X.c1
  have hp := pow40 hn
  have B0 := hid (grown_alloc w (.cells #[.int .u64 x, .int .i64 n] 82) none)
  have HW := hid (show IntKind.u64.wrap (IntKind.u64.wrap (2 ^ n) - 1) = ((2 ^ n - 1 : Nat) : Int) from by
    rw [u64_pow hn, IntKind.wrap_u64]; omega)
  clear hp
  go_enter Try.func116, Try.ntmps116
  go_wp2
  go_ret
  exact ⟨by rw [← HW.out]; rfl, B0.out⟩

set_option maxHeartbeats 1600000 in
theorem fromLeft_any (x n : Nat) (w : World) (hn : n ≤ 40) (hx : x < 2 ^ n) :
    Calls Try.prog 114 #[vot x n] w fun e w' => e = .returned (.int .u64 (fromL x n : Nat)) ∧ w.grownBy w' none := by
  have X := Vb.new w x n
  have c0 := X.c0
  have c1 := X.c1
  have hp := pow40 hn
  have B0 := hid (grown_alloc w (.cells #[.int .u64 x, .int .i64 n] 82) none)
  have CA := hid (fun W : World => all_any x n W hn)
  have HW := hid (show bits .or .u64 (bits .and .u64 (IntKind.u64.wrap ((x : Int) * 2)) ((2 ^ n - 1 : Nat) : Int)) (bits .and .u64 (x : Int) 1) = (fromL x n : Nat) from by
    rw [show (x : Int) * 2 = ((x * 2 : Nat) : Int) from by simp, u64_in _ (by omega), bits_and_u64_nat _ _ (by omega) (by omega), show (1 : Int) = ((1 : Nat) : Int) from rfl, bits_and_u64_nat _ _ (by omega) (by omega), bits_or_u64_nat]
    · rfl
    · exact Nat.lt_of_le_of_lt Nat.and_le_right (by omega)
    · exact Nat.lt_of_le_of_lt Nat.and_le_left (by omega))
  clear hp X hx
  go_enter Try.func114, Try.ntmps114
  go_wp2_with fail
  go_region_held3 (fun w' => w'.cell? ⟨w.heap.size, 0, none⟩ = some (.int .u64 x) ∧ w'.cell? ⟨w.heap.size, 1, none⟩ = some (.int .i64 n))
    (first
      | go_keep
      | (go_split_ands
         refine ⟨?_, ?_⟩ <;> exact hg3.cell (by assumption) (by simp)))
    (first
      | (go_at_call 116; with_reducible refine Calls.mono (CA.out _) ?_; rintro r w3 ⟨rfl, hg3⟩))
  have HG := hid ((B0.out.trans (drew_grown _)).trans hg3)
  clear hg3
  go_wp2
  go_ret
  exact ⟨by rw [← HW.out]; rfl, HG.out⟩

set_option maxHeartbeats 1600000 in
theorem fromRight_any (x n : Nat) (w : World) (h1 : 1 ≤ n) (hn : n ≤ 40) (hx : x < 2 ^ n) :
    Calls Try.prog 115 #[vot x n] w fun e w' => e = .returned (.int .u64 (fromR x n : Nat)) ∧ w.grownBy w' none := by
  have X := Vb.new w x n
  have c0 := X.c0
  have c1 := X.c1
  obtain ⟨m, rfl⟩ : ∃ m, n = m + 1 := ⟨n - 1, by omega⟩
  have hp := pow40 hn
  have hq := pow40 (show m ≤ 40 by omega)
  have B0 := hid (grown_alloc w (.cells #[.int .u64 x, .int .i64 (m + 1 : Nat)] 82) none)
  have HW := hid (show bits .or .u64 ((x : Int) / 2) (bits .and .u64 (x : Int) (IntKind.u64.wrap (2 ^ m))) = (fromR x (m + 1) : Nat) from by
    rw [u64_pow (by omega), show (x : Int) / 2 = ((x / 2 : Nat) : Int) from by omega, bits_and_u64_nat _ _ (by omega) (by omega), bits_or_u64_nat]
    · rfl
    · omega
    · exact Nat.lt_of_le_of_lt Nat.and_le_left (by omega))
  clear hp hq X hx
  go_enter Try.func115, Try.ntmps115
  go_wp2
  go_ret
  exact ⟨by rw [← HW.out]; rfl, B0.out⟩

set_option maxRecDepth 100000 in
set_option maxHeartbeats 3200000 in
theorem voted_any (x n : Nat) (w : World) (h1 : 1 ≤ n) (hn : n ≤ 40) (hx : x < 2 ^ n) :
    Calls Try.prog 105 #[vot x n] w fun e w' => e = .returned (vot (votedB x n) n) ∧ Below w.heap.size w w' := by
  have X := (Vb.new w x n).on (row := none) (grown_alloc _ (.cells #[.int .u64 0, .int .i64 0] 82) none) (by simp)
  have hz : (w.alloc (.cells #[.int .u64 x, .int .i64 n] 82)).heap.size = w.heap.size + 1 := by simp
  have X1 : Vb ((w.alloc (.cells #[.int .u64 x, .int .i64 n] 82)).alloc (.cells #[.int .u64 0, .int .i64 0] 82)) (w.heap.size + 1) 0 0 := by rw [← hz]; exact Vb.new _ 0 0
  have B0 := hid (((Below.refl w.heap.size w).alloc (Nat.le_refl _) (.cells #[.int .u64 x, .int .i64 n] 82)).alloc (by simp) (.cells #[.int .u64 0, .int .i64 0] 82))
  have c0 := X.c0
  have c1 := X.c1
  have HX1 := hid X1
  have CL := hid (fun W : World => fromLeft_any x n W hn hx)
  have CR := hid (fun W : World => fromRight_any x n W h1 hn hx)
  have hp := pow40 hn
  have hl := fromL_lt (x := x) (n := n) hx
  have hr := fromR_lt (x := x) (n := n) hx
  obtain ⟨L, hL⟩ : ∃ L, fromL x n = L := ⟨_, rfl⟩
  obtain ⟨R, hR⟩ : ∃ R, fromR x n = R := ⟨_, rfl⟩
  have HW := hid (show bits .or .u64 (bits .or .u64 (bits .and .u64 (L : Int) (x : Int)) (bits .and .u64 (x : Int) (R : Int))) (bits .and .u64 (L : Int) (R : Int)) = (votedB x n : Nat) from by
    unfold votedB
    rw [hL] at hl ⊢; rw [hR] at hr ⊢
    have q1 : L &&& x ≤ L := Nat.and_le_left
    have q2 : x &&& R ≤ x := Nat.and_le_left
    have q3 : L &&& R ≤ L := Nat.and_le_left
    have q4 : (L &&& x) ||| (x &&& R) < 2 ^ n := Nat.or_lt_two_pow (by omega) (by omega)
    rw [bits_and_u64_nat _ _ (by omega) (by omega), bits_and_u64_nat _ _ (by omega) (by omega), bits_and_u64_nat _ _ (by omega) (by omega), bits_or_u64_nat _ _ (by omega) (by omega), bits_or_u64_nat _ _ (by omega) (by omega)])
  rw [hL] at CL; rw [hR] at CR
  clear hp hl hr hL hR X X1 hx hz
  go_enter Try.func105, Try.ntmps105
  go_wp2_with fail
  go_region_held3 (fun w' => w'.cell? ⟨w.heap.size, 0, none⟩ = some (.int .u64 x) ∧ w'.cell? ⟨w.heap.size, 1, none⟩ = some (.int .i64 n))
    (first
      | go_keep
      | (go_split_ands
         refine ⟨?_, ?_⟩ <;> exact hg4.cell (by assumption) (by simp))
      | (go_split_ands
         refine ⟨?_, ?_⟩ <;> exact hg3.cell (by assumption) (by simp)))
    (first
      | (go_at_call 114; with_reducible refine Calls.mono (CL.out _) ?_; rintro r w3 ⟨rfl, hg3⟩)
      | (go_at_call 115; with_reducible refine Calls.mono (CR.out _) ?_; rintro r w4 ⟨rfl, hg4⟩))
  have hg := ((drew_grown _).trans hg3).trans hg4
  have Y := HX1.out.on (row := none) hg (by simp)
  have BB := hid (B0.out.grown hg (by simp; omega) (by simp))
  have f0 := Y.fz 0
  have f1 := Y.fz 1
  have k0 := Y.c0
  have k1 := Y.c1
  have HY := hid Y
  clear hg3 hg4 hg Y HX1
  go_wp2
  (try simp only [Exit.inBlock, Exit.then])
  rw [HW.out]
  refine bodyPost_ret (results_cell_row rfl _ _ (w.heap.size + 1) 82 _ (0, 0) _ (by simp [Act.put]) (HY.out.set _ _) Try.underlying82 rfl size_vot) rfl ?_
  exact ⟨rfl, (BB.out.setCell (p := ⟨w.heap.size + 1, 0, none⟩) (by simp) _).setCell (p := ⟨w.heap.size + 1, 1, none⟩) (by simp) _⟩
end Go.Proofs.Ytkejcajboneniaa

namespace Go.Proofs.Ytkejcajboneniaa
open Go.RowKit
set_option linter.unusedVariables false
set_option linter.unusedSimpArgs false

theorem pk_step {l : List Int} (hb : bitsL l) {k : Nat} (h40 : k < 40) : bits .or .u64 ((pk l k : Nat) : Int) (IntKind.u64.wrap (IntKind.u64.wrap (nth l k) * 2 ^ k)) = ((pk l (k + 1) : Nat) : Int) := by
  have hp := pow40 (show k ≤ 40 by omega)
  have hl := pk_lt l k
  rw [pk]
  rcases bits_nth hb k with e | e
  · rw [e, if_neg (by decide), Nat.or_zero, show IntKind.u64.wrap 0 = 0 from rfl, Int.zero_mul, show IntKind.u64.wrap 0 = ((0 : Nat) : Int) from rfl, bits_or_u64_nat _ _ (by omega) (by omega), Nat.or_zero]
  · rw [e, if_pos rfl, show IntKind.u64.wrap 1 = 1 from rfl, Int.one_mul, u64_pow (by omega), bits_or_u64_nat _ _ (by omega) (by omega)]

set_option maxRecDepth 100000 in
set_option maxHeartbeats 3200000 in
theorem votesOf_any (A : Option Addr) (n c : Nat) (l : List Int) (w : World) (hs : Sl w w.heap.size A n l) (hn : n ≤ 40) (hb : bitsL l) :
    Calls Try.prog 81 #[.slice A n c] w fun e w' => e = .returned (vot (pk l n) n) ∧ Below w.heap.size w w' := by
  have HL := hid hs.len
  have hz : (w.alloc (.cells #[.int .u64 0, .int .i64 0] 82)).heap.size = w.heap.size + 1 := by simp
  have X0 : Vb ((w.alloc (.cells #[.int .u64 0, .int .i64 0] 82)).alloc (.cells #[.int .u64 0, .int .i64 n] 82)) w.heap.size 0 0 := (show Vb (w.alloc (.cells #[.int .u64 0, .int .i64 0] 82)) w.heap.size 0 0 from Vb.new w 0 0).on (row := none) (grown_alloc _ _ none) (by simp)
  have X1 : Vb ((w.alloc (.cells #[.int .u64 0, .int .i64 0] 82)).alloc (.cells #[.int .u64 0, .int .i64 n] 82)) (w.heap.size + 1) (pk l 0) n := by rw [← hz]; exact Vb.new _ 0 n
  have B0 := ((Below.refl w.heap.size w).alloc (Nat.le_refl _) (.cells #[.int .u64 0, .int .i64 0] 82)).alloc (by simp) (.cells #[.int .u64 0, .int .i64 n] 82)
  have HX0 := hid X0
  have HX1 := hid X1
  have HB0 := hid B0
  have HS := hid hs
  have HP := hid (fun (k : Nat) (h : k < 40) => pk_step hb h)
  clear X0 X1 B0 hz hs hb
  go_enter Try.func81, Try.ntmps81
  go_wp2_with fail
  obtain ⟨w0, e0⟩ : ∃ W, (w.alloc (.cells #[.int .u64 0, .int .i64 0] 82)).alloc (.cells #[.int .u64 0, .int .i64 n] 82) = W := ⟨_, rfl⟩
  rw [e0] at HX0 HX1 HB0 ⊢
  clear e0
  go_loopw [11] (fun i wr => ∃ k : Nat, i = .int .i64 k ∧ k ≤ n ∧ Hid (Vb wr w.heap.size 0 0) ∧ Hid (Vb wr (w.heap.size + 1) (pk l k) n) ∧ Hid (Below w.heap.size w wr)) (fun i _ => n - (intOf i).toNat)
  case atStart => exact ⟨0, rfl, Nat.zero_le _, HX0, HX1, HB0⟩
  case round =>
    clear HX0 HX1 HB0
    obtain ⟨k, rfl, hk, HX0, HX1, HB0⟩ := hrel
    by_cases hlt : k < n
    · obtain ⟨b, off, rfl, hbl, hc⟩ := (HS.out.below HB0.out).2.2 (by omega)
      have hx := hc k hlt
      have HE := hid (HP.out k (by omega))
      obtain ⟨x, hxe⟩ : ∃ x, nth l k = x := ⟨_, rfl⟩
      rw [hxe] at hx HE
      clear hxe hc
      have d0 := HX1.out.c0
      have d1 := HX1.out.c1
      have g0 := HX1.out.fz 0
      have hlt' : (k : Int) < (n : Int) := by omega
      obtain ⟨y, hy⟩ : ∃ y, pk l k = y := ⟨_, rfl⟩
      rw [hy] at HE HX1 d0
      clear hy
      go_wp2_with fail
      go_region
      rw [HE.out]
      have QX : Hid (Vb (wr.setCell ⟨w.heap.size + 1, 0, none⟩ (.int .u64 (pk l (k + 1) : Nat))).drew (w.heap.size + 1) (pk l (k + 1)) n) := hid (HX1.out.set0 _)
      have QB := hid ((HB0.out.setCell (p := ⟨w.heap.size + 1, 0, none⟩) (by simp) (.int .u64 (pk l (k + 1) : Nat))).drew)
      have Q0 : Hid (Vb (wr.setCell ⟨w.heap.size + 1, 0, none⟩ (.int .u64 (pk l (k + 1) : Nat))).drew w.heap.size 0 0) := hid ((heap_setCell_other _ _ _ _ (by simp)).trans HX0.out)
      clear HX0 HX1 HB0 d0 d1 g0 hx HE
      go_wp2
      go_roundw
      case rel => exact ⟨k + 1, by go_num, by omega, Q0, QX, QB⟩
      case measure => simp [intOf]; omega
    · obtain rfl : k = n := by omega
      have d0 := HX1.out.c0
      have d1 := HX1.out.c1
      have k0 := HX0.out.c0
      have k1 := HX0.out.c1
      have g0 := HX0.out.fz 0
      have g1 := HX0.out.fz 1
      have QB := hid ((HB0.out.setCell (p := ⟨w.heap.size, 0, none⟩) (Nat.le_refl _) (.int .u64 (pk l k : Nat))).setCell (p := ⟨w.heap.size, 1, none⟩) (Nat.le_refl _) (.int .i64 k))
      go_wp2
      (try simp only [Exit.inBlock, Exit.then])
      refine bodyPost_ret (results_cell_row rfl _ _ w.heap.size 82 _ (0, 0) _ (by simp [Act.put]) (HX0.out.set (pk l k) k) Try.underlying82 rfl size_vot) rfl ?_
      exact ⟨rfl, QB.out⟩

theorem row_at {l : List Int} {n k : Nat} (hb : bitsL l) (h40 : n ≤ 40) (hk : k < n) : bits .and .u64 (((pk l n : Nat) : Int) / 2 ^ k) 1 = nth l k := by
  have hp := pow40 h40
  have hl := pk_lt l n
  have hd : pk l n / 2 ^ k ≤ pk l n := Nat.div_le_self _ _
  rw [← pk_at hb hk, show (((pk l n : Nat) : Int) / 2 ^ k) = ((pk l n / 2 ^ k : Nat) : Int) from by simp, show (1 : Int) = ((1 : Nat) : Int) from rfl, bits_and_u64_nat _ _ (by omega) (by omega)]
/-- The list in the midst of being filled. -/
def midL (l : List Int) (n k : Nat) : List Int := l.take k ++ List.replicate (n - k) 0
theorem midL_set {l : List Int} {n k : Nat} (hl : l.length = n) (hk : k < n) : (midL l n k).set k (nth l k) = midL l n (k + 1) := by
  have e : n - k = (n - (k + 1)) + 1 := by omega
  unfold midL
  rw [e, List.replicate_succ, List.set_append_right _ _ (by rw [List.length_take]; omega), take_nth (by omega), List.length_take, show k - min k l.length = 0 from by have := Nat.min_le_left k l.length; rw [Nat.min_eq_left (by omega)]; omega, List.set_cons_zero, List.append_assoc]
  rfl
theorem midL_zero (l : List Int) (n : Nat) : midL l n 0 = List.replicate n 0 := by simp [midL]
theorem midL_all {l : List Int} {n : Nat} (hl : l.length = n) : midL l n n = l := by unfold midL; rw [List.take_of_length_le (by omega)]; simp

set_option maxRecDepth 100000 in
set_option maxHeartbeats 3200000 in
theorem voteRow_any (l : List Int) (n : Nat) (w : World) (hl : l.length = n) (hn : n ≤ 40) (hb : bitsL l) :
    Calls Try.prog 98 #[vot (pk l n) n] w fun e w' => ∃ A2 c2, e = .returned (.slice A2 n c2) ∧ w'.ownsRow w.heap.size 3 1 (.slice A2 n c2) n (ints l) ∧ Below w.heap.size w w' := by
  obtain ⟨i0, hi, hz0, hz1, hz2⟩ := info_parts info_int
  have X0 := Vb.new w (pk l n) n
  have c0 := X0.c0
  have c1 := X0.c1
  have HX0 := hid X0
  have HB0 := hid ((Below.refl w.heap.size w).alloc (Nat.le_refl _) (.cells #[.int .u64 (pk l n : Nat), .int .i64 n] 82))
  have HL := hid hl
  have HP := hid (fun (k : Nat) (h : k < n) => row_at hb hn h)
  have HI := hid (fun (k : Nat) => bits_nth hb k)
  clear X0 hl hb
  go_enter Try.func98, Try.ntmps98
  go_wp2_with (refine wpList_make_full _ rfl (.tmp 6) (.tmp 6) 23 rfl (w.heap.size + 1) 3 i0 _ 1 Try.underlying23 hi hz0 hz1 .i64 .i64 n n n rfl rfl rfl rfl (by rw [hz2]; omega) (by simp only [maxLen]; omega) (by simp) ?_; intro w1 o1 g1; rw [madeInts, show (w.alloc (.cells #[.int .u64 (pk l n : Nat), .int .i64 n] 82)).heap.size = w.heap.size + 1 from by simp] at o1)
  rw [← midL_zero l] at o1
  have B1 := hid (HB0.out.grown g1 (by simp) (by simp))
  have Y1 := hid (HX0.out.on (row := none) g1 (by simp))
  clear HB0 HX0 c0 c1 g1
  go_loopw [10] (fun i wr => ∃ k : Nat, i = .int .i64 k ∧ k ≤ n ∧ Hid (Vb wr w.heap.size (pk l n) n) ∧ wr.ownsRow (w.heap.size + 1) 3 1 (.slice (some ⟨w.heap.size + 1, 0, none⟩) n n) n (ints (midL l n k)) ∧ Hid (Below w.heap.size w wr)) (fun i _ => n - (intOf i).toNat)
  case atStart => exact ⟨0, rfl, Nat.zero_le _, Y1, o1, B1⟩
  case round =>
    clear o1 Y1 B1
    obtain ⟨k, rfl, hk, Y1, o1, B1⟩ := hrel
    by_cases hlt : k < n
    · have d0 := Y1.out.c0
      have hf := o1.frozenAt k
      obtain ⟨b', off', hb', _, hcs⟩ := (Sl.of_own o1).2.2 (by omega)
      obtain ⟨rfl, rfl⟩ : b' = w.heap.size + 1 ∧ off' = 0 := by injection hb' with hb'; injection hb' with q1 q2 q3; exact ⟨q1.symm, q2.symm⟩
      have hck := hcs k hlt
      rw [Nat.zero_add] at hck
      clear hcs hb'
      have HE := hid (HP.out k hlt)
      have hx := HI.out k
      have OO := hid (o1.stored k (.int .i64 (nth l k)))
      rw [ints_set, midL_set HL.out hlt] at OO
      obtain ⟨x, hxe⟩ : ∃ x, nth l k = x := ⟨_, rfl⟩
      rw [hxe] at HE OO hx
      have HV := hid hxe
      clear hxe
      have hw : IntKind.i64.wrap x = x := IntWalk.i64_in _ (by omega)
      have HW := hid (show IntKind.i64.wrap (bits .and .u64 (((pk l n : Nat) : Int) / 2 ^ k) 1) = x from by rw [HE.out, hw])
      have hlt' : (k : Int) < (n : Int) := by omega
      clear hw HE o1
      go_wp2
      have O1 := hid OO.out.1
      have Q1 := hid (Y1.out.on OO.out.2 (by simp))
      have QB := hid (B1.out.grown OO.out.2 B1.out.size (by intro j hj; cases hj; omega))
      clear OO Y1 B1
      go_roundw
      case rel => rw [show wrap64 (bits .and .u64 (((pk l n : Nat) : Int) / 2 ^ k) 1) = x from by rw [← IntWalk.i64_left]; exact HW.out]; exact ⟨k + 1, by go_num, by omega, Q1, O1.out, QB⟩
      case measure => simp [intOf]; omega
    · obtain rfl : k = n := by omega
      rw [midL_all HL.out] at o1
      have O1 := hid (own_mono (base' := w.heap.size) o1 (by simp))
      clear o1
      go_wp2
      go_ret
      exact ⟨_, _, rfl, O1.out, B1.out⟩

set_option maxRecDepth 100000 in
set_option maxHeartbeats 1600000 in
theorem opposed_any (l : List Int) (n : Nat) (w : World) (hl : l.length = n) (hn : n ≤ 40) (hb : bitsL l) :
    Calls Try.prog 107 #[vot (pk l n) n] w fun e w' => e = .returned (vot (pk (oppL l) n) n) ∧ Below w.heap.size w w' := by
  have X := (Vb.new w (pk l n) n).on (row := none) (grown_alloc _ (.cells #[.int .u64 0, .int .i64 0] 82) none) (by simp)
  have hz : (w.alloc (.cells #[.int .u64 (pk l n : Nat), .int .i64 n] 82)).heap.size = w.heap.size + 1 := by simp
  have X1 : Vb ((w.alloc (.cells #[.int .u64 (pk l n : Nat), .int .i64 n] 82)).alloc (.cells #[.int .u64 0, .int .i64 0] 82)) (w.heap.size + 1) 0 0 := by rw [← hz]; exact Vb.new _ 0 0
  have B0 := hid (((Below.refl w.heap.size w).alloc (Nat.le_refl _) (.cells #[.int .u64 (pk l n : Nat), .int .i64 n] 82)).alloc (by simp) (.cells #[.int .u64 0, .int .i64 0] 82))
  have c0 := X.c0
  have c1 := X.c1
  have HX1 := hid X1
  have HX := hid X
  have CA := hid (fun W : World => all_any (pk l n) n W hn)
  have hp := pow40 hn
  have hq := pk_lt l n
  have HW := hid (show bits .xor .u64 ((pk l n : Nat) : Int) ((2 ^ n - 1 : Nat) : Int) = (pk (oppL l) n : Nat) from by
    rw [← opposed_pk hl hb, bits_xor_u64_nat _ _ (by omega) (by omega)])
  clear hp hq X X1 hz hl hb
  obtain ⟨p, hpe⟩ : ∃ p, pk (oppL l) n = p := ⟨_, rfl⟩
  rw [hpe] at HW ⊢
  clear hpe
  go_enter Try.func107, Try.ntmps107
  go_wp2_with fail
  go_region_with (first
    | (go_at_call 116; with_reducible refine Calls.mono (CA.out _) ?_; rintro r w3 ⟨rfl, hg3⟩; have Z0 := HX.out.on ((drew_grown _).trans hg3) (by simp); have Z1 := HX1.out.on ((drew_grown _).trans hg3) (by simp); have e0 := Z0.c0; have e1 := Z0.c1; have r0 := Z1.c0; have r1 := Z1.c1; have s0 := Z1.fz 0; have s1 := Z1.fz 1))
  all_goals
    have BB := hid (((B0.out.grown ((drew_grown _).trans hg3) (by simp; omega) (by simp)).setCell (p := ⟨w.heap.size + 1, 0, none⟩) (by simp) (.int .u64 p)).setCell (p := ⟨w.heap.size + 1, 1, none⟩) (by simp) (.int .i64 n))
    rw [HW.out]
    go_wp2
    (try simp only [Exit.inBlock, Exit.then])
    refine bodyPost_ret (results_cell_row rfl _ _ (w.heap.size + 1) 82 _ (0, 0) _ (by simp [Act.put]) (Z1.set _ _) Try.underlying82 rfl size_vot) rfl ?_
    exact ⟨rfl, BB.out⟩
end Go.Proofs.Ytkejcajboneniaa

namespace Go.Proofs.Ytkejcajboneniaa
open Go.RowKit
set_option linter.unusedVariables false
set_option linter.unusedSimpArgs false

set_option maxHeartbeats 800000 in
theorem bitsI_any (A : Option Addr) (n c : Nat) (l : List Int) (w : World) (B : Nat) (hs : Sl w B A n l) :
    Calls Try.prog 23 #[.slice A n c] w fun e w' => e = .returned (.bool (bitsOk l)) ∧ w = w' := by
  have hm := hs.max
  have HL := hid hs.len
  by_cases h2 : 1 ≤ n
  · by_cases h3 : n ≤ 16
    · go_enter Try.func23, Try.ntmps23
      go_wp2_with (go_at_call 53; refine (allWithin_any _ _ _ l _ _ _ _ hs).mono ?_; rintro e w' ⟨rfl, rfl⟩)
      go_ret
      exact ⟨ret_bool (by unfold bitsOk within; rw [HL.out]; simp; omega), rfl⟩
    · have h3' : decide ((n : Int) ≤ 16) = false := by simp; omega
      go_enter Try.func23, Try.ntmps23
      go_wp2_with (go_at_call 53; refine (allWithin_any _ _ _ l _ _ _ _ hs).mono ?_; rintro e w' ⟨rfl, rfl⟩)
      go_ret
      exact ⟨ret_bool (by unfold bitsOk within; rw [HL.out]; simp; omega), rfl⟩
  · have h2' : decide (1 ≤ (n : Int)) = false := by simp; omega
    go_enter Try.func23, Try.ntmps23
    go_wp2_with (go_at_call 53; refine (allWithin_any _ _ _ l _ _ _ _ hs).mono ?_; rintro e w' ⟨rfl, rfl⟩)
    go_ret
    exact ⟨ret_bool (by unfold bitsOk within; rw [HL.out]; simp; omega), rfl⟩
theorem implBitsOk_any (A : Option Addr) (n c : Nat) (l : List Int) (w : World) (hs : Sl w w.heap.size A n l) :
    Calls Try.prog 23 #[.slice A n c] w fun e w' => e = .returned (.bool (bitsOk l)) ∧ Below w.heap.size w w' := by
  refine (bitsI_any A n c l w _ hs).mono ?_
  rintro e w' ⟨rfl, rfl⟩
  exact ⟨rfl, Below.refl _ _⟩

/-- A block that holds a ring of bits. -/
def Vr (w : World) (b x n : Nat) : Prop := w.heap[b]? = some (.cells #[.int .u64 x, .int .i64 n] 84 (0, 0))
section
variable {w w' : World} {b g x n : Nat}
theorem Vr.lt (h : Vr w b x n) : b < w.heap.size := by
  rcases Nat.lt_or_ge b w.heap.size with hlt | hge
  · exact hlt
  · unfold Vr at h; rw [Array.getElem?_eq_none hge] at h; cases h
theorem Vr.new (w : World) (x n : Nat) : Vr (w.alloc (.cells #[.int .u64 x, .int .i64 n] 84)) w.heap.size x n := heap_alloc_new w _
theorem Vr.on {row : Option Nat} (h : Vr w b x n) (hg : w.grownBy w' row) (hn : some b ≠ row) : Vr w' b x n := (hg.block b h.lt hn).trans h
theorem Vr.below {B : Nat} (h : Vr w b x n) (hb : Below B w w') (hB : b < B) : Vr w' b x n := (hb.block b hB).trans h
theorem Vr.c0 (h : Vr w b x n) : w.cell? ⟨b, 0, none⟩ = some (.int .u64 x) := cell_of_row w b 0 _ _ _ h
theorem Vr.c1 (h : Vr w b x n) : w.cell? ⟨b, 1, none⟩ = some (.int .i64 n) := cell_of_row w b 1 _ _ _ h
theorem Vr.fz (h : Vr w b x n) (i : Nat) : w.frozen? ⟨b, i, none⟩ = false := frozen_of_row w b i _ _ h
theorem Vr.set0 (h : Vr w b x n) (y : Nat) : Vr (w.setCell ⟨b, 0, none⟩ (.int .u64 y)) b y n := by
  have := heap_setCell_same w b 0 _ _ (.int .u64 y) h
  unfold Vr
  rw [this]
  rfl
theorem Vr.set1 (h : Vr w b x n) (m : Nat) : Vr (w.setCell ⟨b, 1, none⟩ (.int .i64 m)) b x m := by
  have := heap_setCell_same w b 1 _ _ (.int .i64 m) h
  unfold Vr
  rw [this]
  rfl
theorem Vr.set (h : Vr w b x n) (y m : Nat) : Vr ((w.setCell ⟨b, 0, none⟩ (.int .u64 y)).setCell ⟨b, 1, none⟩ (.int .i64 m)) b y m := (h.set0 y).set1 m
end
theorem size_vr : (Try.prog.info? 84).map (·.size) = some 2 := by kernel_rfl
theorem pk_pb (l : List Int) : ∀ k, pk l k = pb l k
  | 0 => rfl
  | k + 1 => by rw [pk, pb, pk_pb l k]

set_option maxHeartbeats 800000 in
theorem withOnes_any (x n y : Nat) (w : World) :
    Calls Try.prog 108 #[vot x n, .int .u64 y] w fun e w' => e = .returned (vot y n) ∧ Below w.heap.size w w' := by
  have hz : (w.alloc (.cells #[.int .u64 y, .int .i64 n] 84)).heap.size = w.heap.size + 1 := by simp
  have X1 : Vr ((w.alloc (.cells #[.int .u64 y, .int .i64 n] 84)).alloc (.cells #[.int .u64 y, .int .i64 n] 84)) (w.heap.size + 1) y n := by rw [← hz]; exact Vr.new _ y n
  have B0 := hid (((Below.refl w.heap.size w).alloc (Nat.le_refl _) (.cells #[.int .u64 y, .int .i64 n] 84)).alloc (by simp) (.cells #[.int .u64 y, .int .i64 n] 84))
  have HX := hid X1
  clear X1 hz
  go_enter Try.func108, Try.ntmps108
  go_wp2_with fail
  refine bodyPost_ret (results_cell_row rfl _ _ (w.heap.size + 1) 84 _ (0, 0) _ (by simp [Act.put]) HX.out Try.underlying84 rfl size_vr) rfl ?_
  exact ⟨rfl, B0.out⟩

/-- Turned by a places, as the program has it. -/
def trn (x n a : Nat) : Nat := (x * 2 ^ a ||| x / 2 ^ (n - a)) &&& (2 ^ n - 1)
theorem trn_lt (x n a : Nat) : trn x n a < 2 ^ n := Nat.lt_of_le_of_lt Nat.and_le_right (by have := Nat.two_pow_pos n; omega)
theorem trn_bits {x n a m : Nat} (hn : n ≤ 16) (hx : x < 2 ^ n) (hm : a + m = n) :
    bits .and .u64 (bits .or .u64 (IntKind.u64.wrap ((x : Int) * 2 ^ a)) ((x : Int) / 2 ^ m)) ((2 ^ n - 1 : Nat) : Int) = (trn x n a : Nat) := by
  have hp := pow40 (show n ≤ 40 by omega)
  have h16 : 2 ^ n ≤ 65536 := by have := Nat.pow_le_pow_right (n := 2) (by omega) hn; simpa using this
  have ha : 2 ^ a ≤ 65536 := by have := Nat.pow_le_pow_right (n := 2) (by omega) (show a ≤ 16 by omega); simpa using this
  have hxa : x * 2 ^ a ≤ 65536 * 65536 := Nat.mul_le_mul (by omega) ha
  have hxm : x / 2 ^ m ≤ x := Nat.div_le_self _ _
  have hor : x * 2 ^ a ||| x / 2 ^ m < 2 ^ 40 := Nat.or_lt_two_pow (by omega) (by omega)
  rw [show (x : Int) * 2 ^ a = ((x * 2 ^ a : Nat) : Int) from by push_cast; rfl, u64_in _ (by omega), show (x : Int) / 2 ^ m = ((x / 2 ^ m : Nat) : Int) from by push_cast; rfl,
    bits_or_u64_nat _ _ (by omega) (by omega), bits_and_u64_nat _ _ (by omega) (by omega)]
  unfold trn
  rw [show n - a = m by omega]

set_option maxHeartbeats 1600000 in
theorem turned_any (x n a : Nat) (w : World) (hn : n ≤ 16) (hx : x < 2 ^ n) (ha : a ≤ n) :
    Calls Try.prog 113 #[vot x n, .int .i64 a] w fun e w' => e = .returned (vot (trn x n a) n) ∧ Below w.heap.size w w' := by
  obtain ⟨m, hm⟩ : ∃ m, a + m = n := ⟨n - a, by omega⟩
  have hz : (w.alloc (.cells #[.int .u64 x, .int .i64 n] 84)).heap.size = w.heap.size + 1 := by simp
  have X := (Vr.new w x n).on (row := none) (grown_alloc _ (.cells #[.int .u64 0, .int .i64 0] 84) none) (by simp)
  have c0 := X.c0
  have c1 := X.c1
  have X1 : Vr ((w.alloc (.cells #[.int .u64 x, .int .i64 n] 84)).alloc (.cells #[.int .u64 0, .int .i64 0] 84)) (w.heap.size + 1) 0 0 := by rw [← hz]; exact Vr.new _ 0 0
  have B0 := hid (((Below.refl w.heap.size w).alloc (Nat.le_refl _) (.cells #[.int .u64 x, .int .i64 n] 84)).alloc (by simp) (.cells #[.int .u64 0, .int .i64 0] 84))
  have CA := hid (fun W : World => all_any x n W (by omega))
  have HW := trn_bits hn hx hm
  have CW := hid (fun W : World => show Calls Try.prog 108 #[vot x n, .int .u64 (bits .and .u64 (bits .or .u64 (IntKind.u64.wrap ((x : Int) * 2 ^ a)) ((x : Int) / 2 ^ m)) ((2 ^ n - 1 : Nat) : Int))] W fun e w' => e = .returned (vot (trn x n a) n) ∧ Below W.heap.size W w' from by
    rw [HW]; exact withOnes_any x n (trn x n a) W)
  clear HW
  have hmi : (n : Int) - (a : Int) = (m : Int) := by omega
  have hwm : IntKind.i64.wrap (m : Int) = (m : Int) := IntWalk.i64_in _ (by omega)
  have hm0 : (0 : Int) ≤ (m : Int) := by omega
  have hmn := hid hm
  have HX1 := hid X1
  clear hx hm ha X1 X hz
  go_enter Try.func113, Try.ntmps113
  go_wp2_with fail
  go_region_held3 (fun w' => w'.cell? ⟨w.heap.size, 0, none⟩ = some (.int .u64 x) ∧ w'.cell? ⟨w.heap.size, 1, none⟩ = some (.int .i64 n))
    (first
      | go_keep
      | (go_split_ands
         refine ⟨?_, ?_⟩ <;> exact hg3.cell (by assumption) (by simp))
      | (go_split_ands
         refine ⟨?_, ?_⟩ <;> exact (hb4.cell (by simp only []; omega)).trans (by assumption)))
    (first
      | (go_at_call 116; with_reducible refine Calls.mono (CA.out _) ?_; rintro r w3 ⟨rfl, hg3⟩; have hz3 : w.heap.size + 2 ≤ w3.heap.size := (by have h := hg3.size; simp at h; omega))
      | (go_at_call 108; with_reducible refine Calls.mono (CW.out _) ?_; rintro r w4 ⟨rfl, hb4⟩; have Y := (HX1.out.on (row := none) ((drew_grown _).trans hg3) (by simp)).below hb4 (by omega); have f0 := Y.fz 0; have f1 := Y.fz 1; have k0 := Y.c0; have k1 := Y.c1))
  have hg := (drew_grown _).trans hg3
  have BB := hid ((((B0.out.grown hg (by simp; omega) (by simp)).trans (hb4.mono (by omega))).setCell (p := ⟨w.heap.size + 1, 0, none⟩) (by simp) (.int .u64 (trn x n a : Nat))).setCell (p := ⟨w.heap.size + 1, 1, none⟩) (by simp) (.int .i64 n))
  have HY := hid (Y.set (trn x n a) n)
  clear hg hg3 hb4 Y
  go_wp2
  (try simp only [Exit.inBlock, Exit.then])
  refine bodyPost_ret (results_cell_row rfl _ _ (w.heap.size + 1) 84 _ (0, 0) _ (by simp [Act.put]) HY.out Try.underlying84 rfl size_vr) rfl ?_
  exact ⟨rfl, BB.out⟩

theorem bits_and_i64_nat (a b : Nat) (ha : a < 9223372036854775808) (hb : b < 9223372036854775808) : bits .and .i64 (a : Int) (b : Int) = ((a &&& b : Nat) : Int) := by
  have h1 : (BitVec.ofInt 64 (a : Int)).toNat = a := by
    rw [BitVec.ofInt_natCast, BitVec.toNat_ofNat]; exact Nat.mod_eq_of_lt (by omega)
  have h2 : (BitVec.ofInt 64 (b : Int)).toNat = b := by
    rw [BitVec.ofInt_natCast, BitVec.toNat_ofNat]; exact Nat.mod_eq_of_lt (by omega)
  have hx : a &&& b ≤ a := Nat.and_le_left
  show IntKind.i64.wrap ((BitVec.ofInt 64 (a : Int) &&& BitVec.ofInt 64 (b : Int)).toNat : Int) = _
  rw [BitVec.toNat_and, h1, h2]
  exact IntWalk.i64_in _ (by omega)
theorem and_pow (s j : Nat) : s &&& 2 ^ j = if s / 2 ^ j % 2 = 1 then 2 ^ j else 0 := by
  apply Nat.eq_of_testBit_eq
  intro i
  rw [Nat.testBit_and, Nat.testBit_two_pow]
  by_cases hij : j = i
  · subst hij
    rw [Nat.testBit_eq_decide_div_mod_eq]
    by_cases h : s / 2 ^ j % 2 = 1
    · rw [if_pos h, Nat.testBit_two_pow]; simp [h]
    · rw [if_neg h]; simp [h]
  · split
    · rw [Nat.testBit_two_pow]; simp [hij]
    · simp [hij]

theorem trn_L {x n a : Nat} (hx : x < 2 ^ n) (ha : a ≤ n) : trn x n a = turnL x n a := by
  unfold trn turnL
  rw [Nat.and_or_distrib_right, Nat.and_two_pow_sub_one_of_lt_two_pow (x := x / 2 ^ (n - a)) (Nat.lt_of_le_of_lt (Nat.div_le_self _ _) hx)]
theorem trn_R {x n a : Nat} (hx : x < 2 ^ n) (ha : a ≤ n) : trn x n (n - a) = turnR x n a := by
  unfold trn turnR
  rw [Nat.and_or_distrib_right, show n - (n - a) = a by omega, Nat.and_two_pow_sub_one_of_lt_two_pow (x := x / 2 ^ a) (Nat.lt_of_le_of_lt (Nat.div_le_self _ _) hx), Nat.or_comm]
theorem trn_far {l : List Int} {n : Nat} (hl : l.length = n) (h0 : 0 < n) (hb : ∀ x ∈ l, x = 0 ∨ x = 1) (a : Nat) : trn (pb l n) n (a % n) ^^^ trn (pb l n) n (n - a % n) = pb (farL a l) n := by
  have := Nat.mod_lt a h0
  rw [trn_L (pb_lt l n) (by omega), trn_R (pb_lt l n) (by omega), pb_far hl h0 hb]

set_option maxHeartbeats 1600000 in
theorem added_any (x y n : Nat) (w : World) (hn : n ≤ 16) (hx : x < 2 ^ n) (hy : y < 2 ^ n) :
    Calls Try.prog 112 #[vot x n, vot y n] w fun e w' => e = .returned (vot (x ^^^ y) n) ∧ Below w.heap.size w w' := by
  have hp := pow40 (show n ≤ 40 by omega)
  have HW := bits_xor_u64_nat x y (by omega) (by omega)
  have CW := hid (fun W : World => show Calls Try.prog 108 #[vot x n, .int .u64 (bits .xor .u64 (x : Int) (y : Int))] W fun e w' => e = .returned (vot (x ^^^ y) n) ∧ Below W.heap.size W w' from by
    rw [HW]; exact withOnes_any x n (x ^^^ y) W)
  obtain ⟨W, hW⟩ : ∃ W, ((w.alloc (.cells #[.int .u64 x, .int .i64 n] 84)).alloc (.cells #[.int .u64 y, .int .i64 n] 84)).alloc (.cells #[.int .u64 0, .int .i64 0] 84) = W := ⟨_, rfl⟩
  have hz1 : (w.alloc (.cells #[.int .u64 x, .int .i64 n] 84)).heap.size = w.heap.size + 1 := by simp
  have hz2 : ((w.alloc (.cells #[.int .u64 x, .int .i64 n] 84)).alloc (.cells #[.int .u64 y, .int .i64 n] 84)).heap.size = w.heap.size + 2 := by simp
  have X2 : Vr W (w.heap.size + 2) 0 0 := by rw [← hW, ← hz2]; exact Vr.new _ 0 0
  have B0 : Below w.heap.size w W := by rw [← hW]; exact (((Below.refl w.heap.size w).alloc (Nat.le_refl _) _).alloc (by simp) _).alloc (by simp; omega) _
  have hzW : W.heap.size = w.heap.size + 3 := by rw [← hW]; simp
  have HX := hid X2
  have HB := hid B0
  have HZ := hid hzW
  clear HW hp hx hy hz1 hz2 X2 B0 hzW
  have HWW := hid hW
  clear hW
  go_enter Try.func112, Try.ntmps112
  go_wp2_with fail
  with_reducible refine Calls.mono (CW.out _) ?_
  rintro e w4 ⟨rfl, b4⟩
  rw [HWW.out] at b4
  have hz := HZ.out
  have Y := HX.out.below b4 (by omega)
  have BB := hid (((HB.out.trans (b4.mono (by omega))).setCell (p := ⟨w.heap.size + 1 + 1, 0, none⟩) (by simp only []; omega) (.int .u64 (x ^^^ y : Nat))).setCell (p := ⟨w.heap.size + 1 + 1, 1, none⟩) (by simp only []; omega) (.int .i64 n))
  rw [show w.heap.size + 2 = w.heap.size + 1 + 1 by omega] at Y
  have f0 := Y.fz 0
  have f1 := Y.fz 1
  have k0 := Y.c0
  have k1 := Y.c1
  have HY := hid (Y.set (x ^^^ y) n)
  clear Y hz HX HB HWW HZ b4
  go_wp2
  (try simp only [Exit.inBlock, Exit.then])
  refine bodyPost_ret (results_cell_row rfl _ _ (w.heap.size + 1 + 1) 84 _ (0, 0) _ (by simp [Act.put]) HY.out Try.underlying84 rfl size_vr) rfl ?_
  exact ⟨rfl, BB.out⟩
end Go.Proofs.Ytkejcajboneniaa

namespace Go.Proofs.Ytkejcajboneniaa
open Go.RowKit
set_option linter.unusedVariables false
set_option linter.unusedSimpArgs false

theorem add_take {a b : List Int} {k : Nat} (h : k < a.length) : (addL a b).take (k + 1) = (addL a b).take k ++ [(nth a k + nth b k) % 2] := by
  rw [take_nth (by rw [addL_len]; exact h), nth_addL h]

end Go.Proofs.Ytkejcajboneniaa

namespace Go.Proofs.Ytkejcajboneniaa
open Go.RowKit
set_option linter.unusedVariables false
set_option linter.unusedSimpArgs false

set_option maxRecDepth 100000 in
set_option maxHeartbeats 3200000 in
theorem summedFar_any (l : List Int) (n p : Nat) (w : World) (hl : l.length = n) (h1 : 1 ≤ n) (hn : n ≤ 16) (hb : ∀ x ∈ l, x = 0 ∨ x = 1) (hp : p ≤ 100000) :
    Calls Try.prog 110 #[vot (pb l n) n, .int .i64 p] w fun e w' => e = .returned (vot (pb (farL p l) n) n) ∧ Below w.heap.size w w' := by
  have ha := Nat.mod_lt p (show 0 < n by omega)
  obtain ⟨a, hae⟩ : ∃ a, p % n = a := ⟨_, rfl⟩
  obtain ⟨m, hm⟩ : ∃ m, a + m = n := ⟨n - a, by omega⟩
  have HF := trn_far hl (by omega) hb p
  rw [hae, show n - a = m by omega] at HF
  have hx := pb_lt l n
  obtain ⟨x, hxe⟩ : ∃ x, pb l n = x := ⟨_, rfl⟩
  rw [hxe] at hx HF ⊢
  have CT := hid (fun W : World => turned_any x n a W hn hx (by omega))
  have CM := hid (fun W : World => turned_any x n m W hn hx (by omega))
  have hy := trn_lt x n a
  have hy2 := trn_lt x n m
  obtain ⟨y, hye⟩ : ∃ y, trn x n a = y := ⟨_, rfl⟩
  obtain ⟨z, hze⟩ : ∃ z, trn x n m = z := ⟨_, rfl⟩
  rw [hye] at hy CT HF
  rw [hze] at hy2 CM HF
  have CA := hid (fun W : World => added_any y z n W hn hy hy2)
  rw [HF] at CA
  obtain ⟨q, hq⟩ : ∃ q, pb (farL p l) n = q := ⟨_, rfl⟩
  rw [hq] at CA ⊢
  have hrem : ((p : Int)).tmod (n : Int) = (a : Int) := by rw [Int.tmod_eq_emod_of_nonneg (by omega)]; omega
  have hmi : (n : Int) - (a : Int) = (m : Int) := by omega
  have hwm : IntKind.i64.wrap (m : Int) = (m : Int) := IntWalk.i64_in _ (by omega)
  have hn0 : ¬ (n : Int) = 0 := by omega
  have hn0' : ¬ n = 0 := by omega
  clear HF hx hy hy2 hye hze hq hxe hae ha hb hl
  have hz : (w.alloc (.cells #[.int .u64 x, .int .i64 n] 84)).heap.size = w.heap.size + 1 := by simp
  have X := (Vr.new w x n).on (row := none) (grown_alloc _ (.cells #[.int .u64 0, .int .i64 0] 84) none) (by simp)
  have c0 := X.c0
  have c1 := X.c1
  have X1 : Vr ((w.alloc (.cells #[.int .u64 x, .int .i64 n] 84)).alloc (.cells #[.int .u64 0, .int .i64 0] 84)) (w.heap.size + 1) 0 0 := by rw [← hz]; exact Vr.new _ 0 0
  have B0 := hid (((Below.refl w.heap.size w).alloc (Nat.le_refl _) (.cells #[.int .u64 x, .int .i64 n] 84)).alloc (by simp) (.cells #[.int .u64 0, .int .i64 0] 84))
  have HX1 := hid X1
  clear X X1 hz
  have hmm := hid hm
  clear hm
  go_enter Try.func110, Try.ntmps110
  go_wp2_with fail
  go_region_held3 (fun w' => w'.cell? ⟨w.heap.size, 0, none⟩ = some (.int .u64 x) ∧ w'.cell? ⟨w.heap.size, 1, none⟩ = some (.int .i64 n))
    (first
      | go_keep
      | (go_split_ands
         refine ⟨?_, ?_⟩ <;> exact (b5.cell (by simp only []; omega)).trans (by assumption))
      | (go_split_ands
         refine ⟨?_, ?_⟩ <;> exact (b4.cell (by simp only []; omega)).trans (by assumption))
      | (go_split_ands
         refine ⟨?_, ?_⟩ <;> exact (b3.cell (by simp; omega)).trans (by assumption)))
    (first
      | (go_at_call 113; with_reducible refine Calls.mono (CT.out _) ?_; rintro r w3 ⟨rfl, b3⟩; have hz3 : w.heap.size + 2 ≤ w3.heap.size := (by have h := b3.size; simp at h; omega))
      | (go_at_call 113; with_reducible refine Calls.mono (CM.out _) ?_; rintro r w4 ⟨rfl, b4⟩; have hz4 : w.heap.size + 2 ≤ w4.heap.size := (by have h := b4.size; omega))
      | (go_at_call 112; with_reducible refine Calls.mono (CA.out _) ?_; rintro r w5 ⟨rfl, b5⟩; have hz5 : w.heap.size + 2 ≤ w5.heap.size := (by have h := b5.size; omega); have Y := (((HX1.out.on (row := none) (drew_grown _) (by simp)).below b3 (by simp)).below b4 (by omega)).below b5 (by omega); have f0 := Y.fz 0; have f1 := Y.fz 1; have k0 := Y.c0; have k1 := Y.c1))
  have B3 := (B0.out.grown (drew_grown _) (by simp; omega) (by simp)).trans (b3.mono (by simp; omega))
  have BB := hid ((((B3.trans (b4.mono (by omega))).trans (b5.mono (by omega))).setCell (p := ⟨w.heap.size + 1, 0, none⟩) (by simp) (.int .u64 q)).setCell (p := ⟨w.heap.size + 1, 1, none⟩) (by simp) (.int .i64 n))
  have HY := hid (Y.set q n)
  clear b3 b4 b5 Y B3
  go_wp2
  (try simp only [Exit.inBlock, Exit.then])
  refine bodyPost_ret (results_cell_row rfl _ _ (w.heap.size + 1) 84 _ (0, 0) _ (by simp [Act.put]) HY.out Try.underlying84 rfl size_vr) rfl ?_
  exact ⟨rfl, BB.out⟩

set_option maxRecDepth 100000 in
set_option maxHeartbeats 3200000 in
theorem summedAfterI_any (l : List Int) (n S : Nat) (w : World) (hl : l.length = n) (hok : bitsOk l = true) (hS : S ≤ 1000) :
    Calls Try.prog 101 #[vot (pb l n) n, .int .i64 S] w fun e w' => e = .returned (vot (pb (sumI S l) n) n) ∧ Below w.heap.size w w' := by
  obtain ⟨hb, h1, h2⟩ := bitsOk_iff.1 hok
  rw [hl] at h1 h2
  have CF := hid (fun (j p : Nat) (hp : p ≤ 100000) (W : World) => summedFar_any (sumI (S % 2 ^ j) l) n p W (by rw [sumI_len, hl]) h1 h2 (bitsOk_iff.1 (sumI_ok hok _)).1 hp)
  have HH := hid (fun (j : Nat) (h : S / 2 ^ j % 2 = 1) => half_step (S := S) (j := j) h (l := l) (by omega))
  have HK := hid (fun (j : Nat) (h : S / 2 ^ j % 2 = 0) => half_keep (S := S) (j := j) h)
  obtain ⟨x0, hx0⟩ : ∃ x0, pb l n = x0 := ⟨_, rfl⟩
  rw [hx0]
  have HX0 := hid hx0
  clear hx0
  have hz : (w.alloc (.cells #[.int .u64 x0, .int .i64 n] 84)).heap.size = w.heap.size + 1 := by simp
  have X := hid ((Vr.new w x0 n).on (row := none) (grown_alloc _ (.cells #[.int .u64 0, .int .i64 0] 84) none) (by simp))
  have X1 : Vr ((w.alloc (.cells #[.int .u64 x0, .int .i64 n] 84)).alloc (.cells #[.int .u64 0, .int .i64 0] 84)) (w.heap.size + 1) 0 0 := by rw [← hz]; exact Vr.new _ 0 0
  have HX1 := hid X1
  have B0 := hid (((Below.refl w.heap.size w).alloc (Nat.le_refl _) (.cells #[.int .u64 x0, .int .i64 n] 84)).alloc (by simp) (.cells #[.int .u64 0, .int .i64 0] 84))
  have hz2 : w.heap.size + 2 ≤ ((w.alloc (.cells #[.int .u64 x0, .int .i64 n] 84)).alloc (.cells #[.int .u64 0, .int .i64 0] 84)).heap.size := by simp
  have HZ := hid hz2
  clear X1 hz hz2 hok hb hl
  go_enter Try.func101, Try.ntmps101
  go_wp2_with fail
  obtain ⟨W, hW⟩ : ∃ W, (w.alloc (.cells #[.int .u64 x0, .int .i64 n] 84)).alloc (.cells #[.int .u64 0, .int .i64 0] 84) = W := ⟨_, rfl⟩
  rw [hW] at X B0 HZ HX1 ⊢
  clear hW
  rw [← HX0.out, show pb l n = pb (sumI (S % 2 ^ 0) l) n from by rw [Nat.pow_zero, Nat.mod_one]; rfl] at X
  go_loopw [5] (fun i wr => ∃ j P : Nat, i = .int .i64 P ∧ Hid (P = 2 ^ j) ∧ P ≤ 2000 ∧ Hid (0 < P) ∧ Hid (Vr wr w.heap.size (pb (sumI (S % 2 ^ j) l) n) n) ∧ Hid (Vr wr (w.heap.size + 1) 0 0) ∧ Hid (w.heap.size + 2 ≤ wr.heap.size) ∧ Hid (Below w.heap.size w wr)) (fun i _ => 2001 - (intOf i).toNat)
  case atStart => exact ⟨0, 1, rfl, hid rfl, by omega, hid (by omega), X, HX1, HZ, B0⟩
  case round =>
    clear X HX1 HZ B0
    obtain ⟨j, P, rfl, HP, hP, HP0, X, HX1, HZ, B0⟩ := hrel
    have c0 := X.out.c0
    have c1 := X.out.c1
    by_cases hlt : P ≤ S
    · have hlti : (P : Int) ≤ (S : Int) := by omega
      have hw2 : IntKind.i64.wrap ((P : Int) * 2) = (P : Int) * 2 := IntWalk.i64_in _ (by omega)
      have HP2 := hid (show P * 2 = 2 ^ (j + 1) from by rw [HP.out, Nat.pow_succ])
      have hand : bits .and .i64 (S : Int) (P : Int) = ((S &&& P : Nat) : Int) := bits_and_i64_nat _ _ (by omega) (by omega)
      have hpw : S &&& P = if S / 2 ^ j % 2 = 1 then P else 0 := by rw [HP.out]; exact and_pow S j
      rcases Nat.mod_two_eq_zero_or_one (S / 2 ^ j) with hm | hm
      · have HE := hid (HK.out j hm)
        rw [hpw, hm, if_neg (by decide)] at hand
        rw [← HE.out] at X
        clear hm hpw
        go_wp2_with fail
        go_roundw
        case rel => exact ⟨j + 1, P * 2, by go_num, HP2, by omega, hid (by have := HP0.out; omega), X, HX1, HZ, B0⟩
        case measure => have := HP0.out; simp [intOf]; omega
      · have HE := hid (HH.out j hm)
        rw [hpw, if_pos hm] at hand
        have HG := (show farL P (sumI (S % 2 ^ j) l) = sumI (S % 2 ^ (j + 1)) l from by rw [HP.out]; exact HE.out)
        have CC := hid (fun W : World => CF.out j P (by omega) W)
        rw [HG] at CC
        clear HG
        have hPne : ((P : Int) == 0) = false := by have := HP0.out; simp; omega
        have hPne2 : ¬ (P : Int) = 0 := by have := HP0.out; omega
        clear hm hpw
        go_wp2_with fail
        with_reducible refine Calls.mono (CC.out _) ?_
        rintro e w3 ⟨rfl, b3⟩
        have hz0 := HZ.out
        have hz3 := b3.size
        have Y := X.out.below b3 (by omega)
        have Y1 := HX1.out.below b3 (by omega)
        have f0 := Y.fz 0
        have f1 := Y.fz 1
        have k0 := Y.c0
        have k1 := Y.c1
        obtain ⟨q, hq⟩ : ∃ q, pb (sumI (S % 2 ^ (j + 1)) l) n = q := ⟨_, rfl⟩
        rw [hq]
        have Q1 : Hid (Vr ((w3.setCell ⟨w.heap.size, 0, none⟩ (.int .u64 q)).setCell ⟨w.heap.size, 1, none⟩ (.int .i64 n)) w.heap.size (pb (sumI (S % 2 ^ (j + 1)) l) n) n) := hid (by rw [hq]; exact Y.set q n)
        have Q2 : Hid (Vr ((w3.setCell ⟨w.heap.size, 0, none⟩ (.int .u64 q)).setCell ⟨w.heap.size, 1, none⟩ (.int .i64 n)) (w.heap.size + 1) 0 0) := hid ((heap_setCell_other _ _ _ _ (by simp)).trans ((heap_setCell_other _ _ _ _ (by simp)).trans Y1))
        have Q3 : Hid (w.heap.size + 2 ≤ ((w3.setCell ⟨w.heap.size, 0, none⟩ (.int .u64 q)).setCell ⟨w.heap.size, 1, none⟩ (.int .i64 n)).heap.size) := hid (by simp [World.setCell]; omega)
        have Q4 := hid (((B0.out.trans (b3.mono (by omega))).setCell (p := ⟨w.heap.size, 0, none⟩) (Nat.le_refl _) (.int .u64 q)).setCell (p := ⟨w.heap.size, 1, none⟩) (Nat.le_refl _) (.int .i64 n))
        clear X HX1 HZ B0 b3 Y Y1 hq hz0 hz3 c0 c1 CC
        go_wp2_with fail
        go_roundw
        case rel => exact ⟨j + 1, P * 2, by go_num, HP2, by omega, hid (by have := HP0.out; omega), Q1, Q2, Q3, Q4⟩
        case measure => have := HP0.out; simp [intOf]; omega
    · have HE := hid (show S % 2 ^ j = S from Nat.mod_eq_of_lt (by rw [← HP.out]; omega))
      rw [HE.out] at X c0
      have f0 := HX1.out.fz 0
      have f1 := HX1.out.fz 1
      have k0 := HX1.out.c0
      have k1 := HX1.out.c1
      obtain ⟨q, hq⟩ : ∃ q, pb (sumI S l) n = q := ⟨_, rfl⟩
      rw [hq] at c0
      have HQ := hid hq
      have HY := hid (HX1.out.set q n)
      have BB := hid ((B0.out.setCell (p := ⟨w.heap.size + 1, 0, none⟩) (by simp) (.int .u64 q)).setCell (p := ⟨w.heap.size + 1, 1, none⟩) (by simp) (.int .i64 n))
      clear X HX1 B0 hq HZ
      go_wp2
      (try simp only [Exit.inBlock, Exit.then])
      refine bodyPost_ret (results_cell_row rfl _ _ (w.heap.size + 1) 84 _ (0, 0) _ (by simp [Act.put]) HY.out Try.underlying84 rfl size_vr) rfl ?_
      exact ⟨by rw [HQ.out], BB.out⟩
end Go.Proofs.Ytkejcajboneniaa

namespace Go.Proofs.Ytkejcajboneniaa
open Go.RowKit
set_option linter.unusedVariables false
set_option linter.unusedSimpArgs false

def cA (x : Nat) : Nat := Nat.add (Nat.land (Nat.div x 2) 6148914691236517205) (Nat.land x 6148914691236517205)
def cB (x : Nat) : Nat := Nat.add (Nat.land (Nat.div x 4) 3689348814741910323) (Nat.land x 3689348814741910323)
def cC (x : Nat) : Nat := Nat.land (Nat.add (Nat.div x 16) x) 1085102592571150095
def cD (x : Nat) : Nat := Nat.add x (Nat.div x 256)
def cE (x : Nat) : Nat := Nat.add x (Nat.div x 65536)
def cF (x : Nat) : Nat := Nat.add x (Nat.div x 4294967296)
def cnt (x : Nat) : Nat := Nat.land (cF (cE (cD (cC (cB (cA x)))))) 127
theorem cnt_all : all2 16 (fun x => Nat.beq (cnt x) (pop16 x)) 0 = true := by decide +kernel
theorem cnt_pop {x : Nat} (h : x < 2 ^ 16) : cnt x = pop 16 x := by
  rw [← pop16_pop (Nat.le_refl 16) h]
  have h2 := all2_lt (p := fun x => Nat.beq (cnt x) (pop16 x)) cnt_all h
  generalize cnt x = u at h2
  generalize pop16 x = v at h2
  exact Nat.eq_of_beq_eq_true h2

set_option maxHeartbeats 800000 in
theorem onesCount_any (x : Nat) (w : World) (hx : x < 2 ^ 16) :
    Calls Try.prog 62 #[.int .u64 x] w fun e w' => e = .returned (.int .i64 (pop 16 x : Nat)) ∧ w = w' := by
  have HC := hid (cnt_pop hx)
  have lA1 : x / 2 &&& 6148914691236517205 ≤ x / 2 := Nat.and_le_left
  have lA2 : x &&& 6148914691236517205 ≤ x := Nat.and_le_left
  obtain ⟨a1, eA1⟩ : ∃ y, x / 2 &&& 6148914691236517205 = y := ⟨_, rfl⟩
  obtain ⟨a2, eA2⟩ : ∃ y, x &&& 6148914691236517205 = y := ⟨_, rfl⟩
  rw [eA1] at lA1
  rw [eA2] at lA2
  have hA1 : bits .and .u64 ((x : Int) / 2) 6148914691236517205 = (a1 : Int) := by have h := bits_and_u64_nat (x / 2) 6148914691236517205 (by omega) (by omega); rw [eA1] at h; rw [show ((x / 2 : Nat) : Int) = (x : Int) / 2 from by omega] at h; exact h
  have hA2 : bits .and .u64 (x : Int) 6148914691236517205 = (a2 : Int) := by have h := bits_and_u64_nat x 6148914691236517205 (by omega) (by omega); rw [eA2] at h; exact h
  obtain ⟨b, eb⟩ : ∃ y, a1 + a2 = y := ⟨_, rfl⟩
  have hA : IntKind.u64.wrap ((a1 : Int) + (a2 : Int)) = (b : Int) := by rw [show (a1 : Int) + (a2 : Int) = (b : Int) from by omega]; exact u64_in b (by omega)
  have lB1 : b / 4 &&& 3689348814741910323 ≤ b / 4 := Nat.and_le_left
  have lB2 : b &&& 3689348814741910323 ≤ b := Nat.and_le_left
  obtain ⟨b1, eB1⟩ : ∃ y, b / 4 &&& 3689348814741910323 = y := ⟨_, rfl⟩
  obtain ⟨b2, eB2⟩ : ∃ y, b &&& 3689348814741910323 = y := ⟨_, rfl⟩
  rw [eB1] at lB1
  rw [eB2] at lB2
  have hB1 : bits .and .u64 ((b : Int) / 4) 3689348814741910323 = (b1 : Int) := by have h := bits_and_u64_nat (b / 4) 3689348814741910323 (by omega) (by omega); rw [eB1] at h; rw [show ((b / 4 : Nat) : Int) = (b : Int) / 4 from by omega] at h; exact h
  have hB2 : bits .and .u64 (b : Int) 3689348814741910323 = (b2 : Int) := by have h := bits_and_u64_nat b 3689348814741910323 (by omega) (by omega); rw [eB2] at h; exact h
  obtain ⟨d, ed⟩ : ∃ y, b1 + b2 = y := ⟨_, rfl⟩
  have hB : IntKind.u64.wrap ((b1 : Int) + (b2 : Int)) = (d : Int) := by rw [show (b1 : Int) + (b2 : Int) = (d : Int) from by omega]; exact u64_in d (by omega)
  obtain ⟨e, ee⟩ : ∃ y, d / 16 + d = y := ⟨_, rfl⟩
  have hD : IntKind.u64.wrap ((d : Int) / 16 + (d : Int)) = (e : Int) := by rw [show (d : Int) / 16 + (d : Int) = (e : Int) from by omega]; exact u64_in e (by omega)
  have lD : e &&& 1085102592571150095 ≤ e := Nat.and_le_left
  obtain ⟨f, ef⟩ : ∃ y, e &&& 1085102592571150095 = y := ⟨_, rfl⟩
  rw [ef] at lD
  have hD2 : bits .and .u64 (e : Int) 1085102592571150095 = (f : Int) := by have h := bits_and_u64_nat e 1085102592571150095 (by omega) (by omega); rw [ef] at h; exact h
  obtain ⟨g, eg⟩ : ∃ y, f + f / 256 = y := ⟨_, rfl⟩
  have hF : IntKind.u64.wrap ((f : Int) + (f : Int) / 256) = (g : Int) := by rw [show (f : Int) + (f : Int) / 256 = (g : Int) from by omega]; exact u64_in g (by omega)
  obtain ⟨k, ek⟩ : ∃ y, g + g / 65536 = y := ⟨_, rfl⟩
  have hG : IntKind.u64.wrap ((g : Int) + (g : Int) / 65536) = (k : Int) := by rw [show (g : Int) + (g : Int) / 65536 = (k : Int) from by omega]; exact u64_in k (by omega)
  obtain ⟨m, em⟩ : ∃ y, k + k / 4294967296 = y := ⟨_, rfl⟩
  have hK : IntKind.u64.wrap ((k : Int) + (k : Int) / 4294967296) = (m : Int) := by rw [show (k : Int) + (k : Int) / 4294967296 = (m : Int) from by omega]; exact u64_in m (by omega)
  have hM : IntKind.i64.wrap (m : Int) = (m : Int) := IntWalk.i64_in _ (by omega)
  have HR : m &&& 127 = pop 16 x := by
    rw [← HC.out]
    subst em ek eg ef ee ed eB1 eB2 eb eA1 eA2
    rfl
  obtain ⟨p, hp⟩ : ∃ p, pop 16 x = p := ⟨_, rfl⟩
  rw [hp] at HR ⊢
  have hR : bits .and .i64 (m : Int) 127 = (p : Int) := by have h := bits_and_i64_nat m 127 (by omega) (by omega); rw [HR] at h; exact h
  clear HC lA1 lA2 lB1 lB2 lD hp HR em ek eg ef ee ed eB1 eB2 eb eA1 eA2 hx
  go_enter Try.func62, Try.ntmps62
  go_wp2
  go_ret
  exact ⟨rfl, rfl⟩

set_option maxHeartbeats 800000 in
theorem bitRingOf_any (A : Option Addr) (n c : Nat) (l : List Int) (w : World) (hs : Sl w w.heap.size A n l) (hn : n ≤ 16) (hb : ∀ x ∈ l, x = 0 ∨ x = 1) :
    Calls Try.prog 63 #[.slice A n c] w fun e w' => e = .returned (vot (pb l n) n) ∧ Below w.heap.size w w' := by
  have b0 : Below w.heap.size w (w.alloc (.cells #[.int .u64 0, .int .i64 0] 84)) := (Below.refl w.heap.size w).alloc (Nat.le_refl _) _
  have X0 : Vr (w.alloc (.cells #[.int .u64 0, .int .i64 0] 84)) w.heap.size 0 0 := Vr.new w 0 0
  have CV := hid (votesOf_any A n c l _ (hs.on b0) (by omega) hb)
  rw [pk_pb] at CV
  have hz : (w.alloc (.cells #[.int .u64 0, .int .i64 0] 84)).heap.size = w.heap.size + 1 := by simp
  have HX := hid X0
  have HB := hid b0
  have HZ := hid hz
  clear X0 b0 hz hs hb
  go_enter Try.func63, Try.ntmps63
  go_wp2_with fail
  with_reducible refine Calls.mono CV.out ?_
  rintro e w3 ⟨rfl, b3⟩
  rw [HZ.out] at b3
  have Y := HX.out.below b3 (by omega)
  have f0 := Y.fz 0
  have f1 := Y.fz 1
  have k0 := Y.c0
  have k1 := Y.c1
  obtain ⟨q, hq⟩ : ∃ q, pb l n = q := ⟨_, rfl⟩
  rw [hq]
  have HQ := hid hq
  have HY := hid (Y.set q n)
  have BB := hid (((HB.out.trans (b3.mono (by omega))).setCell (p := ⟨w.heap.size, 0, none⟩) (by simp) (.int .u64 q)).setCell (p := ⟨w.heap.size, 1, none⟩) (by simp) (.int .i64 n))
  clear Y HX HB HZ b3 hq CV
  go_wp2
  (try simp only [Exit.inBlock, Exit.then])
  refine bodyPost_ret (results_cell_row rfl _ _ w.heap.size 84 _ (0, 0) _ (by simp [Act.put]) HY.out Try.underlying84 rfl size_vr) rfl ?_
  exact ⟨by rw [HQ.out], BB.out⟩
end Go.Proofs.Ytkejcajboneniaa

namespace Go.Proofs.Ytkejcajboneniaa
open Go.RowKit
set_option linter.unusedVariables false
set_option linter.unusedSimpArgs false

theorem fld_vr (x n : Nat) (w : World) : (Instr.field 84 (vot x n) 0).run Try.prog w = .ok (vot x n) w := by kernel_rfl
theorem fld_vo (x n : Nat) (w : World) : (Instr.field 82 (vot x n) 0).run Try.prog w = .ok (.int .u64 x) w := by kernel_rfl
theorem pop_pb {l : List Int} {n : Nat} (hl : l.length = n) (hn : n ≤ 16) : pop 16 (pb l n) = ones l := by
  have e : code l = pb l n := by
    subst hl
    exact pb_eq (code_lt l) fun j hj => code_bit l j
  have h16 : pb l n < 2 ^ 16 := Nat.lt_of_lt_of_le (pb_lt l n) (Nat.pow_le_pow_right (by omega) hn)
  rw [← pop16_pop (Nat.le_refl 16) h16, pop16_pop hn (pb_lt l n), ← e, ← hl, code_pop]

set_option maxHeartbeats 1600000 in
theorem implOnesOf_any (A : Option Addr) (n c : Nat) (l : List Int) (w : World) (hs : Sl w w.heap.size A n l) :
    Calls Try.prog 33 #[.slice A n c] w fun e w' => e = .returned (.int .i64 (onesOut l)) ∧ Below w.heap.size w w' := by
  have HL := hid hs.len
  have CK := hid (bitsI_any A n c l w w.heap.size hs)
  cases hok : bitsOk l with
  | false =>
    have HV := hid (show onesOut l = -1 from by unfold onesOut; rw [hok]; rfl)
    rw [hok] at CK
    clear hok
    go_enter Try.func33, Try.ntmps33
    go_wp2_with fail
    with_reducible refine Calls.mono CK.out ?_
    rintro e w' ⟨rfl, rfl⟩
    go_wp2
    go_ret
    exact ⟨ret_int HV.out.symm, Below.refl _ _⟩
  | true =>
    obtain ⟨hb, h1, h2⟩ := bitsOk_iff.1 hok
    rw [HL.out] at h1 h2
    have HV := hid (show onesOut l = (ones l : Int) from by unfold onesOut; rw [if_pos hok])
    have HP := hid (pop_pb HL.out h2)
    have h16 : pb l n < 2 ^ 16 := Nat.lt_of_lt_of_le (pb_lt l n) (Nat.pow_le_pow_right (by omega) h2)
    have CC := hid (fun W : World => onesCount_any (pb l n) W h16)
    rw [HP.out] at CC
    rw [hok] at CK
    have CV := hid (bitRingOf_any A n c l w hs h2 hb)
    have hf1 := fld_vr (pb l n) n
    have hf2 := fld_vo (pb l n) n
    clear hok hb hs h16
    go_enter Try.func33, Try.ntmps33
    go_wp2_with fail
    with_reducible refine Calls.mono CK.out ?_
    rintro e w' ⟨rfl, rfl⟩
    go_wp2_with fail
    with_reducible refine Calls.mono CV.out ?_
    rintro e w1 ⟨rfl, b1⟩
    have B1 := hid b1
    clear b1
    go_wp2_with fail
    with_reducible refine Calls.mono (CC.out _) ?_
    rintro e w2 ⟨rfl, rfl⟩
    go_wp2
    go_ret
    exact ⟨ret_int HV.out.symm, B1.out⟩

set_option maxRecDepth 100000 in
set_option maxHeartbeats 3200000 in
theorem implSummedAfter_any (A : Option Addr) (n c : Nat) (l : List Int) (s : Int) (w : World) (hs : Sl w w.heap.size A n l) :
    Calls Try.prog 93 #[.slice A n c, .int .i64 s] w fun e w' => ∃ A2 m c2, e = .returned (.slice A2 m c2) ∧ w'.ownsRow w.heap.size 3 1 (.slice A2 m c2) m (ints (sumAft l s)) ∧ m ≤ 16 ∧ Below w.heap.size w w' := by
  have HL := hid hs.len
  have CK := hid (bitsI_any A n c l w w.heap.size hs)
  cases hok : (bitsOk l && within s 0 1000) with
  | false =>
    have HV := hid (show sumAft l s = [] from by unfold sumAft; rw [hok]; rfl)
    cases h0 : bitsOk l with
    | false =>
      rw [h0] at CK
      clear hok h0
      go_enter Try.func93, Try.ntmps93
      go_wp2_with fail
      with_reducible refine Calls.mono CK.out ?_
      rintro e w' ⟨rfl, rfl⟩
      go_wp2
      go_ret
      exact ⟨_, 0, _, rfl, by rw [HV.out]; exact World.ownsRow_nil _ _ _ _, by omega, Below.refl _ _⟩
    | true =>
      rw [h0, Bool.true_and] at hok
      rw [h0] at CK
      clear h0
      by_cases hs0 : s < 0
      · clear hok
        go_enter Try.func93, Try.ntmps93
        go_wp2_with fail
        with_reducible refine Calls.mono CK.out ?_
        rintro e w' ⟨rfl, rfl⟩
        go_wp2
        go_ret
        exact ⟨_, 0, _, rfl, by rw [HV.out]; exact World.ownsRow_nil _ _ _ _, by omega, Below.refl _ _⟩
      · have hs1 : 1000 < s := by
          rcases Int.lt_or_le 1000 s with h | h
          · exact h
          · rw [within_iff.2 ⟨by omega, by omega⟩] at hok; cases hok
        have hd : decide (s < 0) = false := by simpa using hs0
        clear hok
        go_enter Try.func93, Try.ntmps93
        go_wp2_with fail
        with_reducible refine Calls.mono CK.out ?_
        rintro e w' ⟨rfl, rfl⟩
        go_wp2
        go_ret
        exact ⟨_, 0, _, rfl, by rw [HV.out]; exact World.ownsRow_nil _ _ _ _, by omega, Below.refl _ _⟩
  | true =>
    have hok2 : bitsOk l = true ∧ within s 0 1000 = true := by simpa using hok
    obtain ⟨h0, hws⟩ := hok2
    obtain ⟨hb, h1, h2⟩ := bitsOk_iff.1 h0
    rw [HL.out] at h1 h2
    have hsb := within_iff.1 hws
    obtain ⟨S, rfl⟩ : ∃ S : Nat, s = S := Int.eq_ofNat_of_zero_le hsb.1
    have HV := hid (show sumAft l S = sumI S l from by unfold sumAft; rw [if_pos hok, Int.toNat_natCast])
    rw [h0] at CK
    have CV := hid (bitRingOf_any A n c l w hs h2 hb)
    have CS := hid (fun W : World => summedAfterI_any l n S W HL.out h0 (by omega))
    have CR := hid (fun W : World => voteRow_any (sumI S l) n W (by rw [sumI_len, HL.out]) (by omega) (bitsOk_iff.1 (sumI_ok h0 S)).1)
    rw [pk_pb] at CR
    have hd : decide ((S : Int) < 0) = false := by simp
    have hd2 : decide ((1000 : Int) < (S : Int)) = false := by simp; omega
    have hf1 := fld_vr (pb (sumI S l) n) n
    clear hok h0 hb hs hws
    go_enter Try.func93, Try.ntmps93
    go_wp2_with fail
    with_reducible refine Calls.mono CK.out ?_
    rintro e w' ⟨rfl, rfl⟩
    go_wp2_with fail
    with_reducible refine Calls.mono CV.out ?_
    rintro e w1 ⟨rfl, b1⟩
    have B1 := hid b1
    clear b1
    go_wp2_with fail
    with_reducible refine Calls.mono (CS.out _) ?_
    rintro e w2 ⟨rfl, b2⟩
    have B2 := hid (below_tr B1.out b2)
    clear b2 B1
    go_wp2_with fail
    with_reducible refine Calls.mono (CR.out _) ?_
    rintro e w3 ⟨A3, c3, rfl, o3, b3⟩
    have O3 := hid (own_mono o3 B2.out.size)
    have B3 := hid (below_tr B2.out b3)
    clear b3 o3 B2
    go_wp2
    go_ret
    exact ⟨_, n, _, rfl, by rw [HV.out]; exact O3.out, h2, B3.out⟩

set_option maxHeartbeats 800000 in
theorem implSummedOf_any (A : Option Addr) (n c : Nat) (l : List Int) (w : World) (hs : Sl w w.heap.size A n l) :
    Calls Try.prog 82 #[.slice A n c] w fun e w' => ∃ A2 m c2, e = .returned (.slice A2 m c2) ∧ w'.ownsRow w.heap.size 3 1 (.slice A2 m c2) m (ints (sumOut l)) ∧ m ≤ 16 ∧ Below w.heap.size w w' := by
  have HE := hid (show sumAft l 1 = sumOut l from by
    unfold sumAft sumOut
    rw [show within 1 0 1000 = true from by decide, Bool.and_true]
    rfl)
  have CA := hid (implSummedAfter_any A n c l 1 w hs)
  rw [HE.out] at CA
  go_enter Try.func82, Try.ntmps82
  go_wp2_with fail
  with_reducible refine Calls.mono CA.out ?_
  rintro e w3 ⟨A3, m, c3, rfl, o3, hm, b3⟩
  have O3 := hid o3
  have B3 := hid b3
  clear o3 b3
  go_wp2
  go_ret
  exact ⟨_, m, _, rfl, O3.out, hm, B3.out⟩

end Go.Proofs.Ytkejcajboneniaa

namespace Go.Proofs.Ytkejcajboneniaa
open Go.RowKit
set_option linter.unusedVariables false
set_option linter.unusedSimpArgs false

/-- How a round's body may be left: off its end; by 'return'. The loop's record is busy there. -/
def roundEnd (l : Nat) (rc : LoopState → Option Code → Loop) (R : Ending → World → Prop) : Exit → Act → World → Prop
  | .normal, _, w3 => w3.heap[l]? = some (.loop (rc .busy none)) ∧ R (.returned (.bool true)) (w3.putObj l (.loop (rc .ready none)))
  | .ret, _, w3 => w3.heap[l]? = some (.loop (rc .busy none)) ∧ R (.returned (.bool false)) (w3.putObj l (.loop (rc .done (some .ret))))
  | _, _, _ => False

/-- What is asked of a range over a function: its iterator, met by whatever the rounds do. -/
theorem range_bare {P : Program} {g : Operand} {ps : Array Tmp} {assign body : Code} {Q : Exit → Act → World → Prop} {a : Act} {W0 : World} {n gf : Nat} {lb : Array Value}
    (hg : a.eval g = .func (.func gf) #[] lb) (eg : ∀ args w, (callFunc gf args).run P w = .ok (.enter gf args) w)
    (h : ∀ (rc : LoopState → Option Code → Loop) (W1 : World), W1.heap.size = W0.heap.size + 2 → Below W0.heap.size W0 W1 →
      W1.heap[W0.heap.size + 1]? = some (.loop (rc .ready none)) → W1.heap[W0.heap.size]? = some (.deferred (some [])) →
      (∀ (args : Array Value) (W : World) (R : Ending → World → Prop), args.size = ps.size → W.heap[W0.heap.size + 1]? = some (.loop (rc .ready none)) →
        (∃ (a₁ : Act) (w₁ : World), (∀ K : Act → World → Prop, K a₁ w₁ → assign.wpIn (Fence.wide.inRound (W0.heap.size + 1)) (n - 1 - 1) P (Exit.then K (fun _ _ _ => False))
            { tmps := (ps.zip args).foldl (fun t (p, v) => t.setIfInBounds p v) a.tmps, defers := [] } W) ∧
          w₁.heap[W0.heap.size + 1]? = some (.loop (rc .ready none)) ∧
          body.wpIn (Fence.wide.inRound (W0.heap.size + 1)) (n - 1 - 1) P (roundEnd (W0.heap.size + 1) rc R) a₁ (w₁.putObj (W0.heap.size + 1) (.loop (rc .busy none)))) →
        YieldAt Fence.wide (n - 1 - 1) P (W0.heap.size + 1) args W R) →
      CallsIn Fence.wide (n - 1) P gf (#[.func (.yield (W0.heap.size + 1)) #[] #[]] ++ lb) W1 fun e W' => (∃ v, e = .returned v) ∧
        ((W'.heap[W0.heap.size + 1]? = some (.loop (rc .ready none)) ∧ ∀ o, Q .normal { a with defers := { target := .collected W0.heap.size, args := #[] } :: a.defers } (W'.putObj (W0.heap.size + 1) o)) ∨
         (W'.heap[W0.heap.size + 1]? = some (.loop (rc .done (some .ret))) ∧ ∀ o, Code.ret.wpIn Fence.wide n P Q { a with defers := { target := .collected W0.heap.size, args := #[] } :: a.defers } (W'.putObj (W0.heap.size + 1) o)))) :
    (Code.rangeFunc g ps assign body).wpIn Fence.wide n P Q a W0 := by
  refine wpIn_rangeFunc ?_
  intro fn hfn
  rw [show Fence.wide.round = none from rfl]
  obtain ⟨rc, hrc⟩ : ∃ rc : LoopState → Option Code → Loop, rc = fun st pe => { state := st, pending := pe, fn := fn, tmps := a.tmps, params := ps, assign := assign, body := body, defers := W0.heap.size } := ⟨_, rfl⟩
  obtain ⟨W1, hW1⟩ : ∃ W1, (W0.alloc (.deferred (some []))).alloc (.loop (rc .ready none)) = W1 := ⟨_, rfl⟩
  have hsz : W1.heap.size = W0.heap.size + 2 := by rw [← hW1]; simp
  have hbw : Below W0.heap.size W0 W1 := by rw [← hW1]; exact ((Below.refl _ W0).alloc (Nat.le_refl _) _).alloc (by simp) _
  have hL1 : W1.heap[W0.heap.size + 1]? = some (.loop (rc .ready none)) := by
    rw [← hW1]; have := World.alloc_heap_new (W0.alloc (.deferred (some []))) (.loop (rc .ready none)); rwa [World.size_alloc] at this
  have hK1 : W1.heap[W0.heap.size]? = some (.deferred (some [])) := by
    rw [← hW1]; exact (Below.heap_alloc _ _ _ (by simp)).trans (World.alloc_heap_new W0 _)
  refine ⟨W0.heap.size + 1, [{ target := .collected W0.heap.size, args := #[] }], W1, { target := .fn (.func gf) lb, args := #[.func (.yield (W0.heap.size + 1)) #[] #[]] }, W1, gf,
    #[.func (.yield (W0.heap.size + 1)) #[] #[]] ++ lb, W1, ?_, ?_, (fun _ _ => trivial), ?_, (fun h => by cases h), ?_⟩
  · rw [← hW1, hrc]
    exact run_enterLoop_outer _ _ _ _ _
  · simp only [resolve, hg]
    simp [go_sem]
  · simp [invoke, go_sem, eg]
  · refine (h rc W1 hsz hbw hL1 hK1 ?_).mono ?_
    · rintro args W R hps hl ⟨a₁, w₁, hK, hl1, hB⟩
      have hy := run_yield (P := P) (args := args) hl (by rw [hrc]; exact hps)
      rw [hrc] at hy
      refine ⟨fn, _, assign, body, hy, roundIn_of_wpIn hfn (hK _ ?_)⟩
      refine ⟨_, run_beginRound hl1 (by rw [hrc]), ?_⟩
      have hB' : body.wpIn (Fence.wide.inRound (W0.heap.size + 1)) (n - 1 - 1) P (roundEnd (W0.heap.size + 1) rc R) a₁ (w₁.putObj (W0.heap.size + 1) (.loop { rc .ready none with state := .busy })) := by rw [hrc] at hB ⊢; exact hB
      refine wpIn_mono hB' ?_
      rintro e2 a2 w3 hq
      cases e2 with
      | normal =>
        obtain ⟨h3, hR⟩ := hq
        refine ⟨_, _, run_endRound (P := P) none h3, ?_⟩
        rw [hrc] at hR ⊢
        exact hR
      | ret =>
        obtain ⟨h3, hR⟩ := hq
        refine ⟨_, _, run_endRound (P := P) (some .ret) h3, ?_⟩
        rw [hrc] at hR ⊢
        exact hR
      | exit id => exact hq.elim
      | goto t => exact hq.elim
      | panic c => exact hq.elim
      | outgrown => exact hq.elim
    · rintro e W2 ⟨⟨v, rfl⟩, (⟨hl, hq⟩ | ⟨hl, hq⟩)⟩
      · have he := run_endLoop (P := P) hl (by rw [hrc]; simp)
        rw [show (rc .ready none).pending = none from by rw [hrc]] at he
        exact ⟨none, _, he, hq _⟩
      · have he := run_endLoop (P := P) hl (by rw [hrc]; simp)
        rw [show (rc .done (some .ret)).pending = some .ret from by rw [hrc]] at he
        exact ⟨some .ret, _, he, hq _⟩
end Go.Proofs.Ytkejcajboneniaa

namespace Go.Proofs.Ytkejcajboneniaa
open Go.RowKit
set_option linter.unusedVariables false
set_option linter.unusedSimpArgs false

theorem boxed_putX {W : World} {B l : Nat} {t : TypeId} {v : Value} (h : Boxed W B t v) (o : Obj) (hne : B ≠ l) : Boxed (W.putObj l o) B t v := (World.putObj_heap_other hne).trans h
theorem below_putX {W W' : World} {B l : Nat} (h : Below B W W') (o : Obj) (hl : B ≤ l) (hB : B ≤ W'.heap.size) : Below B W (W'.putObj l o) := h.grown (grownBy_putObj' W' l o) hB (by intro k hk; cases hk; exact hl)

/-- How a round's body may be left: off its end; by 'return'; by 'break' (of the loop, or of one around it). The loop's record is busy there. -/
def roundEndX (l : Nat) (rc : LoopState → Option Code → Loop) (R : Ending → World → Prop) : Exit → Act → World → Prop
  | .normal, _, w3 => w3.heap[l]? = some (.loop (rc .busy none)) ∧ R (.returned (.bool true)) (w3.putObj l (.loop (rc .ready none)))
  | .ret, _, w3 => w3.heap[l]? = some (.loop (rc .busy none)) ∧ R (.returned (.bool false)) (w3.putObj l (.loop (rc .done (some .ret))))
  | .exit id, _, w3 => w3.heap[l]? = some (.loop (rc .busy none)) ∧ R (.returned (.bool false)) (w3.putObj l (.loop (rc .done (some (.exit id)))))
  | _, _, _ => False

/-- What is asked of a range over a function: its iterator, met by whatever the rounds do. -/
theorem range_bareX {P : Program} {g : Operand} {ps : Array Tmp} {assign body : Code} {Q : Exit → Act → World → Prop} {a : Act} {W0 : World} {n gf : Nat} {lb : Array Value}
    (hg : a.eval g = .func (.func gf) #[] lb) (eg : ∀ args w, (callFunc gf args).run P w = .ok (.enter gf args) w)
    (h : ∀ (rc : LoopState → Option Code → Loop) (W1 : World), W1.heap.size = W0.heap.size + 2 → Below W0.heap.size W0 W1 →
      W1.heap[W0.heap.size + 1]? = some (.loop (rc .ready none)) → W1.heap[W0.heap.size]? = some (.deferred (some [])) →
      (∀ (args : Array Value) (W : World) (R : Ending → World → Prop), args.size = ps.size → W.heap[W0.heap.size + 1]? = some (.loop (rc .ready none)) →
        (∃ (a₁ : Act) (w₁ : World), (∀ K : Act → World → Prop, K a₁ w₁ → assign.wpIn (Fence.wide.inRound (W0.heap.size + 1)) (n - 1 - 1) P (Exit.then K (fun _ _ _ => False))
            { tmps := (ps.zip args).foldl (fun t (p, v) => t.setIfInBounds p v) a.tmps, defers := [] } W) ∧
          w₁.heap[W0.heap.size + 1]? = some (.loop (rc .ready none)) ∧
          body.wpIn (Fence.wide.inRound (W0.heap.size + 1)) (n - 1 - 1) P (roundEndX (W0.heap.size + 1) rc R) a₁ (w₁.putObj (W0.heap.size + 1) (.loop (rc .busy none)))) →
        YieldAt Fence.wide (n - 1 - 1) P (W0.heap.size + 1) args W R) →
      CallsIn Fence.wide (n - 1) P gf (#[.func (.yield (W0.heap.size + 1)) #[] #[]] ++ lb) W1 fun e W' => (∃ v, e = .returned v) ∧
        ((W'.heap[W0.heap.size + 1]? = some (.loop (rc .ready none)) ∧ ∀ o, Q .normal { a with defers := { target := .collected W0.heap.size, args := #[] } :: a.defers } (W'.putObj (W0.heap.size + 1) o)) ∨
         (∃ cd, W'.heap[W0.heap.size + 1]? = some (.loop (rc .done (some cd))) ∧ ∀ o, cd.wpIn Fence.wide n P Q { a with defers := { target := .collected W0.heap.size, args := #[] } :: a.defers } (W'.putObj (W0.heap.size + 1) o)))) :
    (Code.rangeFunc g ps assign body).wpIn Fence.wide n P Q a W0 := by
  refine wpIn_rangeFunc ?_
  intro fn hfn
  rw [show Fence.wide.round = none from rfl]
  obtain ⟨rc, hrc⟩ : ∃ rc : LoopState → Option Code → Loop, rc = fun st pe => { state := st, pending := pe, fn := fn, tmps := a.tmps, params := ps, assign := assign, body := body, defers := W0.heap.size } := ⟨_, rfl⟩
  obtain ⟨W1, hW1⟩ : ∃ W1, (W0.alloc (.deferred (some []))).alloc (.loop (rc .ready none)) = W1 := ⟨_, rfl⟩
  have hsz : W1.heap.size = W0.heap.size + 2 := by rw [← hW1]; simp
  have hbw : Below W0.heap.size W0 W1 := by rw [← hW1]; exact ((Below.refl _ W0).alloc (Nat.le_refl _) _).alloc (by simp) _
  have hL1 : W1.heap[W0.heap.size + 1]? = some (.loop (rc .ready none)) := by
    rw [← hW1]; have := World.alloc_heap_new (W0.alloc (.deferred (some []))) (.loop (rc .ready none)); rwa [World.size_alloc] at this
  have hK1 : W1.heap[W0.heap.size]? = some (.deferred (some [])) := by
    rw [← hW1]; exact (Below.heap_alloc _ _ _ (by simp)).trans (World.alloc_heap_new W0 _)
  refine ⟨W0.heap.size + 1, [{ target := .collected W0.heap.size, args := #[] }], W1, { target := .fn (.func gf) lb, args := #[.func (.yield (W0.heap.size + 1)) #[] #[]] }, W1, gf,
    #[.func (.yield (W0.heap.size + 1)) #[] #[]] ++ lb, W1, ?_, ?_, (fun _ _ => trivial), ?_, (fun h => by cases h), ?_⟩
  · rw [← hW1, hrc]
    exact run_enterLoop_outer _ _ _ _ _
  · simp only [resolve, hg]
    simp [go_sem]
  · simp [invoke, go_sem, eg]
  · refine (h rc W1 hsz hbw hL1 hK1 ?_).mono ?_
    · rintro args W R hps hl ⟨a₁, w₁, hK, hl1, hB⟩
      have hy := run_yield (P := P) (args := args) hl (by rw [hrc]; exact hps)
      rw [hrc] at hy
      refine ⟨fn, _, assign, body, hy, roundIn_of_wpIn hfn (hK _ ?_)⟩
      refine ⟨_, run_beginRound hl1 (by rw [hrc]), ?_⟩
      have hB' : body.wpIn (Fence.wide.inRound (W0.heap.size + 1)) (n - 1 - 1) P (roundEndX (W0.heap.size + 1) rc R) a₁ (w₁.putObj (W0.heap.size + 1) (.loop { rc .ready none with state := .busy })) := by rw [hrc] at hB ⊢; exact hB
      refine wpIn_mono hB' ?_
      rintro e2 a2 w3 hq
      cases e2 with
      | normal =>
        obtain ⟨h3, hR⟩ := hq
        refine ⟨_, _, run_endRound (P := P) none h3, ?_⟩
        rw [hrc] at hR ⊢
        exact hR
      | ret =>
        obtain ⟨h3, hR⟩ := hq
        refine ⟨_, _, run_endRound (P := P) (some .ret) h3, ?_⟩
        rw [hrc] at hR ⊢
        exact hR
      | exit id =>
        obtain ⟨h3, hR⟩ := hq
        refine ⟨_, _, run_endRound (P := P) (some (.exit id)) h3, ?_⟩
        rw [hrc] at hR ⊢
        exact hR
      | goto t => exact hq.elim
      | panic c => exact hq.elim
      | outgrown => exact hq.elim
    · rintro e W2 ⟨⟨v, rfl⟩, (⟨hl, hq⟩ | ⟨cd, hl, hq⟩)⟩
      · have he := run_endLoop (P := P) hl (by rw [hrc]; simp)
        rw [show (rc .ready none).pending = none from by rw [hrc]] at he
        exact ⟨none, _, he, hq _⟩
      · have he := run_endLoop (P := P) hl (by rw [hrc]; simp)
        rw [show (rc .done (some cd)).pending = some cd from by rw [hrc]] at he
        exact ⟨some cd, _, he, hq _⟩
end Go.Proofs.Ytkejcajboneniaa

namespace Go.Proofs.Ytkejcajboneniaa
open Go.RowKit
set_option linter.unusedVariables false
set_option linter.unusedSimpArgs false

theorem bits_andNot_u64_nat (a b : Nat) (ha : a < 18446744073709551616) (hb : b < 18446744073709551616) : bits .andNot .u64 (a : Int) (b : Int) = ((a &&& (2 ^ 64 - (b + 1)) : Nat) : Int) := by
  have h1 : (BitVec.ofInt 64 (a : Int)).toNat = a := by
    rw [BitVec.ofInt_natCast, BitVec.toNat_ofNat]; exact Nat.mod_eq_of_lt (by omega)
  have h2 : (BitVec.ofInt 64 (b : Int)).toNat = b := by
    rw [BitVec.ofInt_natCast, BitVec.toNat_ofNat]; exact Nat.mod_eq_of_lt (by omega)
  have hx : a &&& (2 ^ 64 - (b + 1)) ≤ a := Nat.and_le_left
  show IntKind.u64.wrap ((BitVec.ofInt 64 (a : Int) &&& ~~~ BitVec.ofInt 64 (b : Int)).toNat : Int) = _
  rw [BitVec.toNat_and, BitVec.toNat_not, h1, h2, show 2 ^ 64 - 1 - b = 2 ^ 64 - (b + 1) by omega]
  exact u64_in _ (by omega)

theorem trn_one_bit {y : Nat} (h : y < 2 ^ 1) : (trn y 1 0).testBit 0 = y.testBit 0 ∧ (trn y 1 1).testBit 0 = y.testBit 0 := by
  obtain rfl | rfl : y = 0 ∨ y = 1 := by omega
  · exact ⟨by decide, by decide⟩
  · exact ⟨by decide, by decide⟩
theorem trn_next {l : List Int} {n j : Nat} (hj : j < n) : (trn (pb l n) n (n - 1)).testBit j = decide (nth l ((j + 1) % n) = 1) := by
  by_cases h1 : n = 1
  · subst h1
    obtain rfl : j = 0 := by omega
    rw [show (1 : Nat) - 1 = 0 from rfl, (trn_one_bit (pb_lt l 1)).1, pb_bit]
    simp
  · rw [trn_R (pb_lt l n) (by omega), pb_right (by omega) hj]
theorem trn_prev {l : List Int} {n j : Nat} (hj : j < n) : (trn (pb l n) n 1).testBit j = decide (nth l ((j + n - 1) % n) = 1) := by
  by_cases h1 : n = 1
  · subst h1
    obtain rfl : j = 0 := by omega
    rw [(trn_one_bit (pb_lt l 1)).2, pb_bit]
    simp
  · rw [trn_L (pb_lt l n) (by omega), pb_left (by omega) hj]
theorem going_pb {l : List Int} {n : Nat} (hl : l.length = n) (hn : n ≤ 16) (hb : ∀ x ∈ l, x = 0 ∨ x = 1) : pb l n &&& (2 ^ 64 - (trn (pb l n) n (n - 1) + 1)) = pb (flowL l) n := by
  have ht := trn_lt (pb l n) n (n - 1)
  have hp := pow40 (show n ≤ 40 by omega)
  refine pb_ring hl (Nat.lt_of_le_of_lt Nat.and_le_left (pb_lt l n)) fun j hj => ?_
  rw [Nat.testBit_and, pb_bit, Nat.testBit_two_pow_sub_succ (by omega), trn_next hj]
  unfold flowF
  rcases bit_nth hb j with e1 | e1 <;> rcases bit_nth hb ((j + 1) % n) with e2 | e2 <;> rw [e1, e2] <;> simp [hj] <;> omega
theorem driven_pb {l : List Int} {n : Nat} (hl : l.length = n) (hn : n ≤ 16) (hb : ∀ x ∈ l, x = 0 ∨ x = 1) : (pb l n ^^^ pb (flowL l) n) ^^^ trn (pb (flowL l) n) n 1 = pb (driveL l) n := by
  refine pb_ring hl (Nat.xor_lt_two_pow (Nat.xor_lt_two_pow (pb_lt _ _) (pb_lt _ _)) (trn_lt _ _ _)) fun j hj => ?_
  have hk := Nat.mod_lt (j + n - 1) (show 0 < n by omega)
  have hkj : ((j + n - 1) % n + 1) % n = j := by
    rw [Nat.mod_add_mod, show j + n - 1 + 1 = j + n by omega, Nat.add_mod_right]
    exact Nat.mod_eq_of_lt hj
  rw [Nat.testBit_xor, Nat.testBit_xor, pb_bit, pb_bit, trn_prev hj, nth_flow (by omega), nth_flow (by omega), hl, hkj]
  unfold driveF
  rcases bit_nth hb j with e1 | e1 <;> rcases bit_nth hb ((j + 1) % n) with e2 | e2 <;> rcases bit_nth hb ((j + n - 1) % n) with e3 | e3 <;> rw [e1, e2, e3] <;> simp [hj]

set_option maxRecDepth 100000 in
set_option maxHeartbeats 3200000 in
theorem going_any (l : List Int) (n : Nat) (w : World) (hl : l.length = n) (h1 : 1 ≤ n) (hn : n ≤ 16) (hb : ∀ x ∈ l, x = 0 ∨ x = 1) :
    Calls Try.prog 111 #[vot (pb l n) n] w fun e w' => e = .returned (vot (pb (flowL l) n) n) ∧ Below w.heap.size w w' := by
  have HG := going_pb hl hn hb
  have hx := pb_lt l n
  have hp := pow40 (show n ≤ 40 by omega)
  obtain ⟨m, hm⟩ : ∃ m, n - 1 = m := ⟨_, rfl⟩
  rw [hm] at HG
  obtain ⟨x, hxe⟩ : ∃ x, pb l n = x := ⟨_, rfl⟩
  rw [hxe] at hx HG ⊢
  have ht := trn_lt x n m
  have CT := hid (fun W : World => turned_any x n m W hn hx (by omega))
  obtain ⟨t, hte⟩ : ∃ t, trn x n m = t := ⟨_, rfl⟩
  rw [hte] at ht CT HG
  obtain ⟨g, hg⟩ : ∃ g, pb (flowL l) n = g := ⟨_, rfl⟩
  rw [hg] at HG ⊢
  have HW := bits_andNot_u64_nat x t (by omega) (by omega)
  rw [HG] at HW
  have CW := hid (fun W : World => show Calls Try.prog 108 #[vot x n, .int .u64 (bits .andNot .u64 (x : Int) (t : Int))] W fun e w' => e = .returned (vot g n) ∧ Below W.heap.size W w' from by
    rw [HW]; exact withOnes_any x n g W)
  have hmi : (n : Int) - 1 = (m : Int) := by omega
  have hwm : IntKind.i64.wrap (m : Int) = (m : Int) := IntWalk.i64_in _ (by omega)
  clear HW HG hg ht hte hx hxe hb hl hm hp
  have hz : (w.alloc (.cells #[.int .u64 x, .int .i64 n] 84)).heap.size = w.heap.size + 1 := by simp
  have X := (Vr.new w x n).on (row := none) (grown_alloc _ (.cells #[.int .u64 0, .int .i64 0] 84) none) (by simp)
  have c0 := X.c0
  have c1 := X.c1
  have X1 : Vr ((w.alloc (.cells #[.int .u64 x, .int .i64 n] 84)).alloc (.cells #[.int .u64 0, .int .i64 0] 84)) (w.heap.size + 1) 0 0 := by rw [← hz]; exact Vr.new _ 0 0
  have B0 := hid (((Below.refl w.heap.size w).alloc (Nat.le_refl _) (.cells #[.int .u64 x, .int .i64 n] 84)).alloc (by simp) (.cells #[.int .u64 0, .int .i64 0] 84))
  have hzW : ((w.alloc (.cells #[.int .u64 x, .int .i64 n] 84)).alloc (.cells #[.int .u64 0, .int .i64 0] 84)).heap.size = w.heap.size + 2 := by simp
  have HX := hid X
  have HX1 := hid X1
  have HZ := hid hzW
  clear X X1 hz hzW
  go_enter Try.func111, Try.ntmps111
  go_wp2_with fail
  with_reducible refine Calls.mono (CT.out _) ?_
  rintro e w3 ⟨rfl, b3⟩
  rw [HZ.out] at b3
  have hz3 : w.heap.size + 2 ≤ w3.heap.size := by have h := b3.size; rw [HZ.out] at h; exact h
  have N3 := Vr.new w3 t n
  have g3 := grown_alloc w3 (.cells #[.int .u64 t, .int .i64 n] 84) none
  have Y := (HX.out.below b3 (by omega)).on g3 (by simp)
  have Y1 := (HX1.out.below b3 (by omega)).on g3 (by simp)
  have B3 := hid ((B0.out.trans (b3.mono (by omega))).alloc (by omega) (.cells #[.int .u64 t, .int .i64 n] 84))
  have d0 := Y.c0
  have d1 := Y.c1
  have k0 := N3.c0
  have k1 := N3.c1
  have HY1 := hid Y1
  have hz4 : (w3.alloc (.cells #[.int .u64 t, .int .i64 n] 84)).heap.size = w3.heap.size + 1 := by simp
  have HZ4 := hid hz4
  clear b3 N3 g3 Y Y1 HX HX1 HZ B0 c0 c1 hz4
  go_wp2_with fail
  with_reducible refine Calls.mono (CW.out _) ?_
  rintro e w5 ⟨rfl, b5⟩
  rw [HZ4.out] at b5
  have Y := HY1.out.below b5 (by omega)
  have f0 := Y.fz 0
  have f1 := Y.fz 1
  have j0 := Y.c0
  have j1 := Y.c1
  have BB := hid (((B3.out.trans (b5.mono (by omega))).setCell (p := ⟨w.heap.size + 1, 0, none⟩) (by simp) (.int .u64 g)).setCell (p := ⟨w.heap.size + 1, 1, none⟩) (by simp) (.int .i64 n))
  have HY := hid (Y.set g n)
  clear b5 Y HY1 HZ4 B3 d0 d1 k0 k1
  go_wp2
  (try simp only [Exit.inBlock, Exit.then])
  refine bodyPost_ret (results_cell_row rfl _ _ (w.heap.size + 1) 84 _ (0, 0) _ (by simp [Act.put]) HY.out Try.underlying84 rfl size_vr) rfl ?_
  exact ⟨rfl, BB.out⟩

set_option maxRecDepth 100000 in
set_option maxHeartbeats 3200000 in
theorem driven_any (l : List Int) (n : Nat) (w : World) (hl : l.length = n) (h1 : 1 ≤ n) (hn : n ≤ 16) (hb : ∀ x ∈ l, x = 0 ∨ x = 1) :
    Calls Try.prog 103 #[vot (pb l n) n] w fun e w' => e = .returned (vot (pb (driveL l) n) n) ∧ Below w.heap.size w w' := by
  have HD := driven_pb hl hn hb
  have CG := hid (fun W : World => going_any l n W hl h1 hn hb)
  have hx := pb_lt l n
  have hg := pb_lt (flowL l) n
  obtain ⟨x, hxe⟩ : ∃ x, pb l n = x := ⟨_, rfl⟩
  obtain ⟨g, hge⟩ : ∃ g, pb (flowL l) n = g := ⟨_, rfl⟩
  rw [hxe, hge] at HD CG
  rw [hxe] at hx ⊢
  rw [hge] at hg
  have ht := trn_lt g n 1
  have CT := hid (fun W : World => show Calls Try.prog 113 #[vot g n, .int .i64 1] W fun e w' => e = .returned (vot (trn g n 1) n) ∧ Below W.heap.size W w' from turned_any g n 1 W hn hg h1)
  have CA := hid (fun W : World => added_any x g n W hn hx hg)
  have hy : x ^^^ g < 2 ^ n := Nat.xor_lt_two_pow hx hg
  obtain ⟨t, hte⟩ : ∃ t, trn g n 1 = t := ⟨_, rfl⟩
  obtain ⟨y, hye⟩ : ∃ y, x ^^^ g = y := ⟨_, rfl⟩
  rw [hte] at ht CT HD
  rw [hye] at hy CA HD
  have CB := hid (fun W : World => added_any y t n W hn hy ht)
  rw [HD] at CB
  obtain ⟨q, hq⟩ : ∃ q, pb (driveL l) n = q := ⟨_, rfl⟩
  rw [hq] at CB ⊢
  clear HD hq hye hte hge hxe hx hg ht hy hb hl h1
  have hz : (w.alloc (.cells #[.int .u64 x, .int .i64 n] 84)).heap.size = w.heap.size + 1 := by simp
  have X := (Vr.new w x n).on (row := none) (grown_alloc _ (.cells #[.int .u64 0, .int .i64 0] 84) none) (by simp)
  have c0 := X.c0
  have c1 := X.c1
  have X1 : Vr ((w.alloc (.cells #[.int .u64 x, .int .i64 n] 84)).alloc (.cells #[.int .u64 0, .int .i64 0] 84)) (w.heap.size + 1) 0 0 := by rw [← hz]; exact Vr.new _ 0 0
  have B0 := hid (((Below.refl w.heap.size w).alloc (Nat.le_refl _) (.cells #[.int .u64 x, .int .i64 n] 84)).alloc (by simp) (.cells #[.int .u64 0, .int .i64 0] 84))
  have hzW : ((w.alloc (.cells #[.int .u64 x, .int .i64 n] 84)).alloc (.cells #[.int .u64 0, .int .i64 0] 84)).heap.size = w.heap.size + 2 := by simp
  have HX := hid X
  have HX1 := hid X1
  have HZ := hid hzW
  clear X X1 hz hzW
  go_enter Try.func103, Try.ntmps103
  go_wp2_with fail
  with_reducible refine Calls.mono (CG.out _) ?_
  rintro e w2 ⟨rfl, b2⟩
  rw [HZ.out] at b2
  have hz3 : w.heap.size + 2 ≤ w2.heap.size := by have h := b2.size; rw [HZ.out] at h; exact h
  have N3 := Vr.new w2 g n
  have g3 := grown_alloc w2 (.cells #[.int .u64 g, .int .i64 n] 84) none
  have Y := (HX.out.below b2 (by omega)).on g3 (by simp)
  have Y1 := (HX1.out.below b2 (by omega)).on g3 (by simp)
  have B3 := hid ((B0.out.trans (b2.mono (by omega))).alloc (by omega) (.cells #[.int .u64 g, .int .i64 n] 84))
  have hz4 : (w2.alloc (.cells #[.int .u64 g, .int .i64 n] 84)).heap.size = w2.heap.size + 1 := by simp
  clear b2 g3 HX HX1 HZ B0 c0 c1
  go_wp2_with fail
  obtain ⟨b, hbe⟩ : ∃ b, w2.heap.size = b := ⟨_, rfl⟩
  obtain ⟨W, hW⟩ : ∃ W, w2.alloc (.cells #[.int .u64 g, .int .i64 n] 84) = W := ⟨_, rfl⟩
  rw [hW, hbe] at hz4 N3
  rw [hbe] at hz3 ⊢
  rw [hW] at Y Y1 B3 ⊢
  clear hW hbe
  have hbn1 : b ≠ w.heap.size + 1 := by omega
  have hbn2 : w.heap.size + 1 ≠ b := by omega
  have d0 := Y.c0
  have d1 := Y.c1
  have k0 := N3.c0
  have k1 := N3.c1
  have HY1 := hid Y1
  clear Y1 Y N3
  go_region_held3 (fun w' => (w'.cell? ⟨w.heap.size, 0, none⟩ = some (.int .u64 x) ∧ w'.cell? ⟨w.heap.size, 1, none⟩ = some (.int .i64 n)) ∧ (w'.cell? ⟨b, 0, none⟩ = some (.int .u64 g) ∧ w'.cell? ⟨b, 1, none⟩ = some (.int .i64 n)))
    (first
      | go_keep
      | (go_split_ands
         refine ⟨⟨?_, ?_⟩, ?_, ?_⟩ <;> exact (b5.cell (by simp only []; omega)).trans (by assumption))
      | (go_split_ands
         refine ⟨⟨?_, ?_⟩, ?_, ?_⟩ <;> exact (b4.cell (by simp only []; omega)).trans (by assumption))
      | (go_split_ands
         refine ⟨⟨?_, ?_⟩, ?_, ?_⟩ <;> exact (b3.cell (by simp; omega)).trans (by assumption)))
    (first
      | (go_at_call 112; with_reducible refine Calls.mono (CA.out _) ?_; rintro r w3 ⟨rfl, b3⟩; have hz5 : b + 1 ≤ w3.heap.size := (by have h := b3.size; simp at h; omega))
      | (go_at_call 113; with_reducible refine Calls.mono (CT.out _) ?_; rintro r w4 ⟨rfl, b4⟩; have hz6 : b + 1 ≤ w4.heap.size := (by have h := b4.size; omega))
      | (go_at_call 112; with_reducible refine Calls.mono (CB.out _) ?_; rintro r w5 ⟨rfl, b5⟩; have hz7 : b + 1 ≤ w5.heap.size := (by have h := b5.size; omega); have Y := (((HY1.out.on (row := none) (drew_grown _) (by simp)).below b3 (by simp; omega)).below b4 (by omega)).below b5 (by omega); have f0 := Y.fz 0; have f1 := Y.fz 1; have k0 := Y.c0; have k1 := Y.c1))
  have B4 := (B3.out.grown (drew_grown _) (by omega) (by simp)).trans (b3.mono (by simp; omega))
  have BB := hid ((((B4.trans (b4.mono (by omega))).trans (b5.mono (by omega))).setCell (p := ⟨w.heap.size + 1, 0, none⟩) (by simp) (.int .u64 q)).setCell (p := ⟨w.heap.size + 1, 1, none⟩) (by simp) (.int .i64 n))
  have HY := hid (Y.set q n)
  clear b3 b4 b5 Y B4
  go_wp2
  (try simp only [Exit.inBlock, Exit.then])
  refine bodyPost_ret (results_cell_row rfl _ _ (w.heap.size + 1) 84 _ (0, 0) _ (by simp [Act.put]) HY.out Try.underlying84 rfl size_vr) rfl ?_
  exact ⟨rfl, BB.out⟩

end Go.Proofs.Ytkejcajboneniaa

namespace Go.Proofs.Ytkejcajboneniaa
open Go.RowKit
set_option linter.unusedVariables false
set_option linter.unusedSimpArgs false

/-- Bits of one half and those of the other exchanged, k at a time. -/
def stp (x k m : Nat) : Nat := (x / 2 ^ k &&& m) ||| (x &&& m) * 2 ^ k
def swp (k i : Nat) : Nat := if i / k % 2 = 0 then i + k else i - k
theorem stp_bit (x k m i : Nat) : (stp x k m).testBit i = ((x.testBit (i + k) && m.testBit i) || (decide (k ≤ i) && (x.testBit (i - k) && m.testBit (i - k)))) := by
  unfold stp
  rw [Nat.testBit_or, Nat.testBit_and, Nat.testBit_div_two_pow, Nat.mul_comm _ (2 ^ k), Nat.testBit_two_pow_mul, Nat.testBit_and]
theorem stp_at {x k m i : Nat} (hk : 0 < k) (hm : ∀ i, i < 64 → m.testBit i = decide (i / k % 2 = 0)) (hi : i < 64) : (stp x k m).testBit i = x.testBit (swp k i) := by
  rw [stp_bit, hm i hi, hm (i - k) (by omega)]
  unfold swp
  by_cases h : k ≤ i
  · have e : (i - k) / k = i / k - 1 := by
      have h2 := Nat.add_div_right (i - k) hk
      rw [show i - k + k = i by omega] at h2
      rw [h2]
      exact (Nat.add_sub_cancel ..).symm
    have h1 : 1 ≤ i / k := (Nat.le_div_iff_mul_le hk).2 (by omega)
    rw [e]
    generalize i / k = u at h1
    rcases Nat.mod_two_eq_zero_or_one u with h0 | h0
    · rw [if_pos h0, h0]
      rw [show (u - 1) % 2 = 1 by omega]
      simp
    · rw [if_neg (by omega), h0]
      rw [show (u - 1) % 2 = 0 by omega]
      simp [h]
  · rw [show i / k = 0 from Nat.div_eq_of_lt (by omega)]
    simp [h]
theorem msk0 : ∀ i, i < 64 → (6148914691236517205 : Nat).testBit i = decide (i / 1 % 2 = 0) := by decide +kernel
theorem msk1 : ∀ i, i < 64 → (3689348814741910323 : Nat).testBit i = decide (i / 2 % 2 = 0) := by decide +kernel
theorem msk2 : ∀ i, i < 64 → (1085102592571150095 : Nat).testBit i = decide (i / 4 % 2 = 0) := by decide +kernel
theorem msk3 : ∀ i, i < 64 → (71777214294589695 : Nat).testBit i = decide (i / 8 % 2 = 0) := by decide +kernel
theorem msk4 : ∀ i, i < 64 → (281470681808895 : Nat).testBit i = decide (i / 16 % 2 = 0) := by decide +kernel

theorem stp_lt {x k m a : Nat} (hx : x < 2 ^ a) : stp x k m < 2 ^ (a + k) := by
  have hp : 2 ^ (a + k) = 2 ^ a * 2 ^ k := Nat.pow_add ..
  have h1 : 0 < 2 ^ k := Nat.two_pow_pos k
  refine Nat.or_lt_two_pow ?_ ?_
  · have h2 : x / 2 ^ k &&& m ≤ x := Nat.le_trans Nat.and_le_left (Nat.div_le_self _ _)
    have h3 : 2 ^ a * 1 ≤ 2 ^ a * 2 ^ k := Nat.mul_le_mul_left _ h1
    omega
  · rw [hp]
    exact Nat.mul_lt_mul_of_pos_right (Nat.lt_of_le_of_lt Nat.and_le_left hx) h1

def rvA (x : Nat) : Nat := stp (stp (stp x 1 6148914691236517205) 2 3689348814741910323) 4 1085102592571150095
def rvB (x : Nat) : Nat := stp (stp x 8 71777214294589695) 16 281470681808895
def rvC (x : Nat) : Nat := x / 4294967296 ||| x * 4294967296 % 18446744073709551616
theorem rv_idx : ∀ i, i < 16 → 16 + i < 64 ∧ swp 16 (16 + i) < 64 ∧ swp 8 (swp 16 (16 + i)) < 64 ∧ swp 4 (swp 8 (swp 16 (16 + i))) < 64 ∧ swp 2 (swp 4 (swp 8 (swp 16 (16 + i)))) < 64 ∧ swp 1 (swp 2 (swp 4 (swp 8 (swp 16 (16 + i))))) = 15 - i := by decide +kernel
theorem rv_bit {x i : Nat} (hx : x < 2 ^ 16) (hi : i < 16) : (rvC (rvB (rvA x))).testBit (48 + i) = x.testBit (15 - i) := by
  have hA : rvA x < 2 ^ 23 := stp_lt (a := 19) (k := 4) (stp_lt (a := 17) (k := 2) (stp_lt (a := 16) (k := 1) hx))
  have hB : rvB (rvA x) < 2 ^ 47 := stp_lt (a := 31) (k := 16) (stp_lt (a := 23) (k := 8) hA)
  obtain ⟨g1, g2, g3, g4, g5, g6⟩ := rv_idx i hi
  unfold rvC
  rw [Nat.testBit_or, show (4294967296 : Nat) = 2 ^ 32 from rfl, Nat.testBit_div_two_pow, Nat.testBit_lt_two_pow (Nat.lt_of_lt_of_le hB (Nat.pow_le_pow_right (by omega) (by omega))),
    show (18446744073709551616 : Nat) = 2 ^ 64 from rfl, Nat.testBit_mod_two_pow, Nat.mul_comm _ (2 ^ 32), Nat.testBit_two_pow_mul, show 48 + i - 32 = 16 + i by omega]
  unfold rvB rvA
  rw [stp_at (by omega) msk4 g1, stp_at (by omega) msk3 g2, stp_at (by omega) msk2 g3, stp_at (by omega) msk1 g4, stp_at (by omega) msk0 g5, g6]
  simp [show 48 + i < 64 by omega, show 32 ≤ 48 + i by omega]
theorem rvC_lt {x : Nat} (hx : x < 2 ^ 64) : rvC x < 2 ^ 64 := Nat.or_lt_two_pow (Nat.lt_of_le_of_lt (Nat.div_le_self _ _) hx) (Nat.mod_lt _ (by decide))

theorem wrap_shl {x : Nat} : IntKind.u64.wrap ((x : Int) * 4294967296) = ((x * 4294967296 % 18446744073709551616 : Nat) : Int) := by
  rw [IntKind.wrap_u64]
  omega

set_option maxHeartbeats 800000 in
theorem revBytes_any (x : Nat) (w : World) (hx : x < 2 ^ 23) :
    Calls Try.prog 117 #[.int .u64 x] w fun e w' => e = .returned (.int .u64 (rvC (rvB x) : Nat)) ∧ w = w' := by
  have lA1 : x / 256 &&& 71777214294589695 ≤ x / 256 := Nat.and_le_left
  have lA2 : x &&& 71777214294589695 ≤ x := Nat.and_le_left
  obtain ⟨a1, eA1⟩ : ∃ y, x / 256 &&& 71777214294589695 = y := ⟨_, rfl⟩
  obtain ⟨a2, eA2⟩ : ∃ y, x &&& 71777214294589695 = y := ⟨_, rfl⟩
  rw [eA1] at lA1
  rw [eA2] at lA2
  have hA1 : bits .and .u64 ((x : Int) / 256) 71777214294589695 = (a1 : Int) := by have h := bits_and_u64_nat (x / 256) 71777214294589695 (by omega) (by omega); rw [eA1] at h; rw [show ((x / 256 : Nat) : Int) = (x : Int) / 256 from by omega] at h; exact h
  have hA2 : bits .and .u64 (x : Int) 71777214294589695 = (a2 : Int) := by have h := bits_and_u64_nat x 71777214294589695 (by omega) (by omega); rw [eA2] at h; exact h
  have hA3 : IntKind.u64.wrap ((a2 : Int) * 256) = ((a2 * 256 : Nat) : Int) := by rw [show (a2 : Int) * 256 = ((a2 * 256 : Nat) : Int) from by omega]; exact u64_in _ (by omega)
  have lb : a1 ||| a2 * 256 < 2 ^ 31 := by have h := stp_lt (k := 8) (m := 71777214294589695) hx; unfold stp at h; rw [show (2 : Nat) ^ 8 = 256 from rfl, eA1, eA2] at h; exact h
  obtain ⟨b, eb⟩ : ∃ y, a1 ||| a2 * 256 = y := ⟨_, rfl⟩
  rw [eb] at lb
  have hA : bits .or .u64 (a1 : Int) ((a2 * 256 : Nat) : Int) = (b : Int) := by have h := bits_or_u64_nat a1 (a2 * 256) (by omega) (by omega); rw [eb] at h; exact h
  rw [← hA3] at hA
  have lB1 : b / 65536 &&& 281470681808895 ≤ b / 65536 := Nat.and_le_left
  have lB2 : b &&& 281470681808895 ≤ b := Nat.and_le_left
  obtain ⟨b1, eB1⟩ : ∃ y, b / 65536 &&& 281470681808895 = y := ⟨_, rfl⟩
  obtain ⟨b2, eB2⟩ : ∃ y, b &&& 281470681808895 = y := ⟨_, rfl⟩
  rw [eB1] at lB1
  rw [eB2] at lB2
  have hB1 : bits .and .u64 ((b : Int) / 65536) 281470681808895 = (b1 : Int) := by have h := bits_and_u64_nat (b / 65536) 281470681808895 (by omega) (by omega); rw [eB1] at h; rw [show ((b / 65536 : Nat) : Int) = (b : Int) / 65536 from by omega] at h; exact h
  have hB2 : bits .and .u64 (b : Int) 281470681808895 = (b2 : Int) := by have h := bits_and_u64_nat b 281470681808895 (by omega) (by omega); rw [eB2] at h; exact h
  have hB3 : IntKind.u64.wrap ((b2 : Int) * 65536) = ((b2 * 65536 : Nat) : Int) := by rw [show (b2 : Int) * 65536 = ((b2 * 65536 : Nat) : Int) from by omega]; exact u64_in _ (by omega)
  have lc : b1 ||| b2 * 65536 < 2 ^ 47 := by have h := stp_lt (k := 16) (m := 281470681808895) lb; unfold stp at h; rw [show (2 : Nat) ^ 16 = 65536 from rfl, eB1, eB2] at h; exact h
  obtain ⟨c, ec⟩ : ∃ y, b1 ||| b2 * 65536 = y := ⟨_, rfl⟩
  rw [ec] at lc
  have hB : bits .or .u64 (b1 : Int) ((b2 * 65536 : Nat) : Int) = (c : Int) := by have h := bits_or_u64_nat b1 (b2 * 65536) (by omega) (by omega); rw [ec] at h; exact h
  rw [← hB3] at hB
  have hC : bits .or .u64 ((c : Int) / 4294967296) (IntKind.u64.wrap ((c : Int) * 4294967296)) = ((rvC c : Nat) : Int) := by
    rw [wrap_shl, show (c : Int) / 4294967296 = ((c / 4294967296 : Nat) : Int) from by omega, bits_or_u64_nat _ _ (by omega) (by omega)]
    rfl
  have HR : rvC (rvB x) = rvC c := by
    subst ec eB1 eB2 eb eA1 eA2
    rfl
  rw [HR]
  obtain ⟨r, er⟩ : ∃ r, rvC c = r := ⟨_, rfl⟩
  rw [er] at hC ⊢
  clear HR er lA1 lA2 lB1 lB2 lb lc eA1 eA2 eb eB1 eB2 ec hx hA3 hB3
  go_enter Try.func117, Try.ntmps117
  go_wp2
  go_ret
  exact ⟨rfl, rfl⟩

set_option maxHeartbeats 800000 in
theorem rev_any (x : Nat) (w : World) (hx : x < 2 ^ 16) :
    Calls Try.prog 109 #[.int .u64 x] w fun e w' => e = .returned (.int .u64 (rvC (rvB (rvA x)) : Nat)) ∧ w = w' := by
  have lA1 : x / 2 &&& 6148914691236517205 ≤ x / 2 := Nat.and_le_left
  have lA2 : x &&& 6148914691236517205 ≤ x := Nat.and_le_left
  obtain ⟨a1, eA1⟩ : ∃ y, x / 2 &&& 6148914691236517205 = y := ⟨_, rfl⟩
  obtain ⟨a2, eA2⟩ : ∃ y, x &&& 6148914691236517205 = y := ⟨_, rfl⟩
  rw [eA1] at lA1
  rw [eA2] at lA2
  have hA1 : bits .and .u64 ((x : Int) / 2) 6148914691236517205 = (a1 : Int) := by have h := bits_and_u64_nat (x / 2) 6148914691236517205 (by omega) (by omega); rw [eA1] at h; rw [show ((x / 2 : Nat) : Int) = (x : Int) / 2 from by omega] at h; exact h
  have hA2 : bits .and .u64 (x : Int) 6148914691236517205 = (a2 : Int) := by have h := bits_and_u64_nat x 6148914691236517205 (by omega) (by omega); rw [eA2] at h; exact h
  have hA3 : IntKind.u64.wrap ((a2 : Int) * 2) = ((a2 * 2 : Nat) : Int) := by rw [show (a2 : Int) * 2 = ((a2 * 2 : Nat) : Int) from by omega]; exact u64_in _ (by omega)
  have lxA : a1 ||| a2 * 2 < 2 ^ 17 := by have h := stp_lt (k := 1) (m := 6148914691236517205) hx; unfold stp at h; rw [show (2 : Nat) ^ 1 = 2 from rfl, eA1, eA2] at h; exact h
  obtain ⟨a, ea⟩ : ∃ y, a1 ||| a2 * 2 = y := ⟨_, rfl⟩
  rw [ea] at lxA
  have hA : bits .or .u64 (a1 : Int) ((a2 * 2 : Nat) : Int) = (a : Int) := by have h := bits_or_u64_nat a1 (a2 * 2) (by omega) (by omega); rw [ea] at h; exact h
  rw [← hA3] at hA
  have lB1 : a / 4 &&& 3689348814741910323 ≤ a / 4 := Nat.and_le_left
  have lB2 : a &&& 3689348814741910323 ≤ a := Nat.and_le_left
  obtain ⟨b1, eB1⟩ : ∃ y, a / 4 &&& 3689348814741910323 = y := ⟨_, rfl⟩
  obtain ⟨b2, eB2⟩ : ∃ y, a &&& 3689348814741910323 = y := ⟨_, rfl⟩
  rw [eB1] at lB1
  rw [eB2] at lB2
  have hB1 : bits .and .u64 ((a : Int) / 4) 3689348814741910323 = (b1 : Int) := by have h := bits_and_u64_nat (a / 4) 3689348814741910323 (by omega) (by omega); rw [eB1] at h; rw [show ((a / 4 : Nat) : Int) = (a : Int) / 4 from by omega] at h; exact h
  have hB2 : bits .and .u64 (a : Int) 3689348814741910323 = (b2 : Int) := by have h := bits_and_u64_nat a 3689348814741910323 (by omega) (by omega); rw [eB2] at h; exact h
  have hB3 : IntKind.u64.wrap ((b2 : Int) * 4) = ((b2 * 4 : Nat) : Int) := by rw [show (b2 : Int) * 4 = ((b2 * 4 : Nat) : Int) from by omega]; exact u64_in _ (by omega)
  have lxB : b1 ||| b2 * 4 < 2 ^ 19 := by have h := stp_lt (k := 2) (m := 3689348814741910323) lxA; unfold stp at h; rw [show (2 : Nat) ^ 2 = 4 from rfl, eB1, eB2] at h; exact h
  obtain ⟨b, eb⟩ : ∃ y, b1 ||| b2 * 4 = y := ⟨_, rfl⟩
  rw [eb] at lxB
  have hB : bits .or .u64 (b1 : Int) ((b2 * 4 : Nat) : Int) = (b : Int) := by have h := bits_or_u64_nat b1 (b2 * 4) (by omega) (by omega); rw [eb] at h; exact h
  rw [← hB3] at hB
  have lC1 : b / 16 &&& 1085102592571150095 ≤ b / 16 := Nat.and_le_left
  have lC2 : b &&& 1085102592571150095 ≤ b := Nat.and_le_left
  obtain ⟨c1, eC1⟩ : ∃ y, b / 16 &&& 1085102592571150095 = y := ⟨_, rfl⟩
  obtain ⟨c2, eC2⟩ : ∃ y, b &&& 1085102592571150095 = y := ⟨_, rfl⟩
  rw [eC1] at lC1
  rw [eC2] at lC2
  have hC1 : bits .and .u64 ((b : Int) / 16) 1085102592571150095 = (c1 : Int) := by have h := bits_and_u64_nat (b / 16) 1085102592571150095 (by omega) (by omega); rw [eC1] at h; rw [show ((b / 16 : Nat) : Int) = (b : Int) / 16 from by omega] at h; exact h
  have hC2 : bits .and .u64 (b : Int) 1085102592571150095 = (c2 : Int) := by have h := bits_and_u64_nat b 1085102592571150095 (by omega) (by omega); rw [eC2] at h; exact h
  have hC3 : IntKind.u64.wrap ((c2 : Int) * 16) = ((c2 * 16 : Nat) : Int) := by rw [show (c2 : Int) * 16 = ((c2 * 16 : Nat) : Int) from by omega]; exact u64_in _ (by omega)
  have lxC : c1 ||| c2 * 16 < 2 ^ 23 := by have h := stp_lt (k := 4) (m := 1085102592571150095) lxB; unfold stp at h; rw [show (2 : Nat) ^ 4 = 16 from rfl, eC1, eC2] at h; exact h
  obtain ⟨c, ec⟩ : ∃ y, c1 ||| c2 * 16 = y := ⟨_, rfl⟩
  rw [ec] at lxC
  have hC : bits .or .u64 (c1 : Int) ((c2 * 16 : Nat) : Int) = (c : Int) := by have h := bits_or_u64_nat c1 (c2 * 16) (by omega) (by omega); rw [ec] at h; exact h
  rw [← hC3] at hC
  have HR : rvA x = c := by
    subst ec eC1 eC2 eb eB1 eB2 ea eA1 eA2
    rfl
  have CR := hid (revBytes_any c w lxC)
  rw [← HR] at CR
  obtain ⟨r, er⟩ : ∃ r, rvC (rvB (rvA x)) = r := ⟨_, rfl⟩
  rw [er] at CR ⊢
  rw [HR] at CR
  clear er HR lA1 lA2 lB1 lB2 lC1 lC2 lxA lxB lxC ea eA1 eA2 eb eB1 eB2 ec eC1 eC2 hx hA3 hB3 hC3
  go_enter Try.func109, Try.ntmps109
  go_wp2_with fail
  with_reducible refine Calls.mono CR.out ?_
  rintro e w2 ⟨rfl, rfl⟩
  go_wp2
  go_ret
  exact ⟨rfl, rfl⟩

theorem opp_nth {l : List Int} {k : Nat} (h : k < l.length) : nth (oppL l) k = 1 - nth l k := by
  simp [nth, oppL, List.getD, h]
theorem free_pb {l : List Int} {n : Nat} (hl : l.length = n) (h1 : 1 ≤ n) (hn : n ≤ 16) : rvC (rvB (rvA (pb (oppL l) n))) / 2 ^ (64 - n) = pb (freeL l) n := by
  have h16 : pb (oppL l) n < 2 ^ 16 := Nat.lt_of_lt_of_le (pb_lt _ n) (Nat.pow_le_pow_right (by omega) hn)
  have hA : rvA (pb (oppL l) n) < 2 ^ 23 := stp_lt (a := 19) (k := 4) (stp_lt (a := 17) (k := 2) (stp_lt (a := 16) (k := 1) h16))
  have hB : rvB (rvA (pb (oppL l) n)) < 2 ^ 47 := stp_lt (a := 31) (k := 16) (stp_lt (a := 23) (k := 8) hA)
  refine pb_eq ?_ fun j hj => ?_
  · refine Nat.div_lt_of_lt_mul ?_
    rw [← Nat.pow_add, show 64 - n + n = 64 by omega]
    exact rvC_lt (Nat.lt_of_lt_of_le hB (Nat.pow_le_pow_right (by omega) (by omega)))
  · rw [Nat.testBit_div_two_pow, show j + (64 - n) = 48 + (16 - n + j) by omega, rv_bit h16 (by omega), pb_bit, show 15 - (16 - n + j) = n - 1 - j by omega, opp_nth (by omega), nth_free (by omega), hl]
    simp; omega

set_option maxRecDepth 100000 in
set_option maxHeartbeats 3200000 in
theorem freeAs_any (l : List Int) (n : Nat) (w : World) (hl : l.length = n) (h1 : 1 ≤ n) (hn : n ≤ 16) (hb : ∀ x ∈ l, x = 0 ∨ x = 1) :
    Calls Try.prog 97 #[vot (pb l n) n] w fun e w' => e = .returned (vot (pb (freeL l) n) n) ∧ Below w.heap.size w w' := by
  have HF := free_pb hl h1 hn
  have CO := hid (fun W : World => opposed_any l n W hl (by omega) hb)
  rw [pk_pb, pk_pb] at CO
  have h16 : pb (oppL l) n < 2 ^ 16 := Nat.lt_of_lt_of_le (pb_lt _ n) (Nat.pow_le_pow_right (by omega) hn)
  obtain ⟨x, hxe⟩ : ∃ x, pb l n = x := ⟨_, rfl⟩
  obtain ⟨o, hoe⟩ : ∃ o, pb (oppL l) n = o := ⟨_, rfl⟩
  rw [hxe, hoe] at CO
  rw [hxe]
  rw [hoe] at HF h16
  have CR := hid (fun W : World => show Calls Try.prog 109 #[.int .u64 o] W fun e w' => e = .returned (.int .u64 (rvC (rvB (rvA o)) : Nat)) ∧ Below W.heap.size W w' from (rev_any o W h16).mono (by rintro e w' ⟨he, rfl⟩; exact ⟨he, Below.refl _ _⟩))
  obtain ⟨m, hm⟩ : ∃ m, 64 - n = m := ⟨_, rfl⟩
  obtain ⟨r, hr⟩ : ∃ r, rvC (rvB (rvA o)) = r := ⟨_, rfl⟩
  obtain ⟨q, hq⟩ : ∃ q, pb (freeL l) n = q := ⟨_, rfl⟩
  rw [hr] at CR
  rw [hr, hm, hq] at HF
  rw [hq]
  have CW := hid (fun W : World => show Calls Try.prog 108 #[vot x n, .int .u64 ((r : Int) / 2 ^ m)] W fun e w' => e = .returned (vot q n) ∧ Below W.heap.size W w' from by
    rw [show (r : Int) / 2 ^ m = ((r / 2 ^ m : Nat) : Int) from by push_cast; rfl, HF]; exact withOnes_any x n q W)
  have hf2 := fld_vo o n
  have hmi : (64 : Int) - (n : Int) = (m : Int) := by omega
  have hwm : IntKind.i64.wrap (m : Int) = (m : Int) := IntWalk.i64_in _ (by omega)
  have hm0 : (0 : Int) ≤ (m : Int) := by omega
  have hm64 : (m : Int) < 64 := by omega
  have hm64' : m < 64 := by omega
  clear HF hq hr hoe hxe h16 hb hl h1
  have hmn := hid hm
  clear hm
  have hz : (w.alloc (.cells #[.int .u64 x, .int .i64 n] 84)).heap.size = w.heap.size + 1 := by simp
  have X := (Vr.new w x n).on (row := none) (grown_alloc _ (.cells #[.int .u64 0, .int .i64 0] 84) none) (by simp)
  have c0 := X.c0
  have c1 := X.c1
  have X1 : Vr ((w.alloc (.cells #[.int .u64 x, .int .i64 n] 84)).alloc (.cells #[.int .u64 0, .int .i64 0] 84)) (w.heap.size + 1) 0 0 := by rw [← hz]; exact Vr.new _ 0 0
  have B0 := hid (((Below.refl w.heap.size w).alloc (Nat.le_refl _) (.cells #[.int .u64 x, .int .i64 n] 84)).alloc (by simp) (.cells #[.int .u64 0, .int .i64 0] 84))
  have hzW : ((w.alloc (.cells #[.int .u64 x, .int .i64 n] 84)).alloc (.cells #[.int .u64 0, .int .i64 0] 84)).heap.size = w.heap.size + 2 := by simp
  have HX := hid X
  have HX1 := hid X1
  have HZ := hid hzW
  clear X X1 hz hzW
  go_enter Try.func97, Try.ntmps97
  go_wp2_with fail
  with_reducible refine Calls.mono (CO.out _) ?_
  rintro e w2 ⟨rfl, b2⟩
  rw [HZ.out] at b2
  have hz3 : w.heap.size + 2 ≤ w2.heap.size := by have h := b2.size; rw [HZ.out] at h; exact h
  have Y := HX.out.below b2 (by omega)
  have HY1 := hid (HX1.out.below b2 (by omega))
  have B2 := hid (B0.out.trans (b2.mono (by omega)))
  have d0 := Y.c0
  have d1 := Y.c1
  clear b2 HX HX1 HZ B0 c0 c1 Y
  go_wp2_with fail
  go_region_held3 (fun w' => w'.cell? ⟨w.heap.size, 0, none⟩ = some (.int .u64 x) ∧ w'.cell? ⟨w.heap.size, 1, none⟩ = some (.int .i64 n))
    (first
      | go_keep
      | (go_split_ands
         refine ⟨?_, ?_⟩ <;> exact (b4.cell (by simp only []; omega)).trans (by assumption))
      | (go_split_ands
         refine ⟨?_, ?_⟩ <;> exact (b3.cell (by simp; omega)).trans (by assumption)))
    (first
      | (go_at_call 109; with_reducible refine Calls.mono (CR.out _) ?_; rintro r w3 ⟨rfl, b3⟩; have hz5 : w.heap.size + 2 ≤ w3.heap.size := (by have h := b3.size; simp at h; omega))
      | (go_at_call 108; with_reducible refine Calls.mono (CW.out _) ?_; rintro r w4 ⟨rfl, b4⟩; have hz6 : w.heap.size + 2 ≤ w4.heap.size := (by have h := b4.size; omega); have Y := ((HY1.out.on (row := none) (drew_grown _) (by simp)).below b3 (by simp; omega)).below b4 (by omega); have f0 := Y.fz 0; have f1 := Y.fz 1; have k0 := Y.c0; have k1 := Y.c1))
  have B4 := (B2.out.grown (drew_grown _) (by omega) (by simp)).trans (b3.mono (by simp; omega))
  have BB := hid (((B4.trans (b4.mono (by omega))).setCell (p := ⟨w.heap.size + 1, 0, none⟩) (by simp) (.int .u64 q)).setCell (p := ⟨w.heap.size + 1, 1, none⟩) (by simp) (.int .i64 n))
  have HY := hid (Y.set q n)
  clear b3 b4 Y B4
  go_wp2
  (try simp only [Exit.inBlock, Exit.then])
  refine bodyPost_ret (results_cell_row rfl _ _ (w.heap.size + 1) 84 _ (0, 0) _ (by simp [Act.put]) HY.out Try.underlying84 rfl size_vr) rfl ?_
  exact ⟨rfl, BB.out⟩
end Go.Proofs.Ytkejcajboneniaa

namespace Go.Proofs.Ytkejcajboneniaa
open Go.RowKit
set_option linter.unusedVariables false
set_option linter.unusedSimpArgs false

theorem grown_some {w w' : World} {b : Nat} (h : Below w.heap.size w w') : w.grownBy w' (some b) := ⟨h.os, h.tape, h.output, h.size, fun k hk _ => h.block k hk⟩
theorem grown_set2 (w : World) (b : Nat) (v u : Value) : w.grownBy ((w.setCell ⟨b, 0, none⟩ v).setCell ⟨b, 1, none⟩ u) (some b) := by
  refine ⟨rfl, rfl, rfl, by simp [World.setCell], fun k hk hne => ?_⟩
  have hb : k ≠ b := fun e => hne (by rw [e])
  exact (heap_setCell_other _ ⟨b, 1, none⟩ k u (by simpa using hb)).trans (heap_setCell_other w ⟨b, 0, none⟩ k v (by simpa using hb))

end Go.Proofs.Ytkejcajboneniaa

namespace Go.Proofs.Ytkejcajboneniaa
open Go.RowKit
set_option linter.unusedVariables false
set_option linter.unusedSimpArgs false

/-- What OpposedOf gives. -/
def oppOut (l : List Int) : List Int := if votesOk l = true then oppL l else []
theorem opp_take {l : List Int} {k : Nat} (h : k < l.length) : (oppL l).take (k + 1) = (oppL l).take k ++ [1 - nth l k] := by
  rw [take_nth (by rw [opp_len]; exact h), nth_opp h]

end Go.Proofs.Ytkejcajboneniaa

namespace Go.Proofs.Ytkejcajboneniaa
open Go.RowKit
set_option linter.unusedVariables false
set_option linter.unusedSimpArgs false

/-- What SettledAfter tells. -/
def settleC (l : List Int) : Int := if votesOk l = true then (settleL l : Int) else -1
theorem take_same {a b : List Int} {k : Nat} (h1 : k < a.length) (h2 : k < b.length) : a.take (k + 1) = b.take (k + 1) ↔ a.take k = b.take k ∧ nth a k = nth b k := by
  rw [take_nth h1, take_nth h2]
  constructor
  · intro h
    have := List.append_inj' h (by simp)
    exact ⟨this.1, by simpa using this.2⟩
  · rintro ⟨h, h'⟩; rw [h, h']

end Go.Proofs.Ytkejcajboneniaa
