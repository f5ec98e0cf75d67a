/-
  Texts put together: C7g C7h C10f C10g C10d. No statement is proved here.
-/
import Derived.Test.YtkejcajboneniabGreatDoorQMa
import Derived.Test.YtkejcajboneniabGreatDoorQMb
import Derived.Laws.Bits64b
import Derived.Laws.Rows
import Derived.OwnWalk
import Derived.IntWalk
import Derived.BigRegion
import Derived.Deep.RegionHeld3
import Derived.Deep.RegionWith
set_option linter.unusedVariables false
set_option linter.unusedSimpArgs false
namespace Go.Proofs.YtkejcajboneniabGreatDoor
open Go.RowKit

set_option maxHeartbeats 800000 in
theorem votesI_any (A : Option Addr) (n c : Nat) (l : List Int) (w : World) (B : Nat) (hs : Sl w B A n l) :
    Calls Tryz.prog 191 #[.slice A n c] w fun e w' => e = .returned (.bool (votesOk l)) ∧ w = w' := by
  go_enter Tryz.func191, Tryz.ntmps191
  go_wp2_with (go_at_call 60; refine (cellsOk_any _ _ _ l 2 _ _ hs).mono ?_; rintro e w' ⟨rfl, rfl⟩)
  go_ret
  exact ⟨rfl, rfl⟩
theorem stepsOk7_any (s : Int) (w : World) :
    Calls Tryz.prog 189 #[.int .i64 s] w fun e w' => e = .returned (.bool (within s 0 60)) ∧ w = w' := by
  by_cases h1 : 0 ≤ s
  · go_enter Tryz.func189, Tryz.ntmps189
    go_wp2
    go_ret
    exact ⟨ret_bool (by simp [within, h1]), rfl⟩
  · have h1' : decide (0 ≤ s) = false := by simpa using h1
    go_enter Tryz.func189, Tryz.ntmps189
    go_wp2
    go_ret
    exact ⟨ret_bool (by simp [within]; omega), rfl⟩

/-- Votes as a value, and a block that holds them. -/
abbrev vot (x n : Nat) : Value := .agg #[.int .u64 x, .int .i64 n]
def Vb (w : World) (b x n : Nat) : Prop := w.heap[b]? = some (.cells #[.int .u64 x, .int .i64 n] 149 (0, 0))
section
variable {w w' : World} {b g x n : Nat}
theorem Vb.lt (h : Vb w b x n) : b < w.heap.size := by
  rcases Nat.lt_or_ge b w.heap.size with hlt | hge
  · exact hlt
  · unfold Vb at h; rw [Array.getElem?_eq_none hge] at h; cases h
theorem Vb.new (w : World) (x n : Nat) : Vb (w.alloc (.cells #[.int .u64 x, .int .i64 n] 149)) w.heap.size x n := heap_alloc_new w _
theorem Vb.on {row : Option Nat} (h : Vb w b x n) (hg : w.grownBy w' row) (hn : some b ≠ row) : Vb w' b x n := (hg.block b h.lt hn).trans h
theorem Vb.below {B : Nat} (h : Vb w b x n) (hb : Below B w w') (hB : b < B) : Vb w' b x n := (hb.block b hB).trans h
theorem Vb.c0 (h : Vb w b x n) : w.cell? ⟨b, 0, none⟩ = some (.int .u64 x) := cell_of_row w b 0 _ _ _ h
theorem Vb.c1 (h : Vb w b x n) : w.cell? ⟨b, 1, none⟩ = some (.int .i64 n) := cell_of_row w b 1 _ _ _ h
theorem Vb.fz (h : Vb w b x n) (i : Nat) : w.frozen? ⟨b, i, none⟩ = false := frozen_of_row w b i _ _ h
theorem Vb.set0 (h : Vb w b x n) (y : Nat) : Vb (w.setCell ⟨b, 0, none⟩ (.int .u64 y)) b y n := by
  have := heap_setCell_same w b 0 _ _ (.int .u64 y) h
  unfold Vb
  rw [this]
  rfl
theorem Vb.set1 (h : Vb w b x n) (m : Nat) : Vb (w.setCell ⟨b, 1, none⟩ (.int .i64 m)) b x m := by
  have := heap_setCell_same w b 1 _ _ (.int .i64 m) h
  unfold Vb
  rw [this]
  rfl
theorem Vb.set (h : Vb w b x n) (y m : Nat) : Vb ((w.setCell ⟨b, 0, none⟩ (.int .u64 y)).setCell ⟨b, 1, none⟩ (.int .i64 m)) b y m := (h.set0 y).set1 m
end
theorem drew_grown (w : World) : w.grownBy w.drew none := ⟨rfl, rfl, rfl, Nat.le_refl _, fun _ _ _ => rfl⟩
theorem size_vot : (Tryz.prog.info? 149).map (·.size) = some 2 := by kernel_rfl
theorem pow40 {n : Nat} (h : n ≤ 40) : 1 ≤ 2 ^ n ∧ 2 ^ n ≤ 1099511627776 := ⟨Nat.two_pow_pos n, by have := Nat.pow_le_pow_right (n := 2) (by omega) h; simpa using this⟩
theorem u64_in (x : Nat) (h : x < 18446744073709551616) : IntKind.u64.wrap (x : Int) = (x : Int) := by rw [IntKind.wrap_u64]; omega
theorem u64_pow {n : Nat} (h : n ≤ 40) : IntKind.u64.wrap (2 ^ n) = ((2 ^ n : Nat) : Int) := by
  have := pow40 h
  rw [show ((2 : Int) ^ n) = ((2 ^ n : Nat) : Int) from by simp, u64_in _ (by omega)]

set_option maxHeartbeats 800000 in
theorem all_any (x n : Nat) (w : World) (hn : n ≤ 40) :
    Calls Tryz.prog 218 #[vot x n] w fun e w' => e = .returned (.int .u64 ((2 ^ n - 1 : Nat) : Int)) ∧ w.grownBy w' none := by
  have X := Vb.new w x n
  have c1 := X.c1
  have hp := pow40 hn
  have B0 := hid (grown_alloc w (.cells #[.int .u64 x, .int .i64 n] 149) none)
  have HW := hid (show IntKind.u64.wrap (IntKind.u64.wrap (2 ^ n) - 1) = ((2 ^ n - 1 : Nat) : Int) from by
    rw [u64_pow hn, IntKind.wrap_u64]; omega)
  clear hp
  go_enter Tryz.func218, Tryz.ntmps218
  go_wp2
  go_ret
  exact ⟨by rw [← HW.out]; rfl, B0.out⟩

set_option maxHeartbeats 1600000 in
theorem fromLeft_any (x n : Nat) (w : World) (hn : n ≤ 40) (hx : x < 2 ^ n) :
    Calls Tryz.prog 216 #[vot x n] w fun e w' => e = .returned (.int .u64 (fromL x n : Nat)) ∧ w.grownBy w' none := by
  have X := Vb.new w x n
  have c0 := X.c0
  have c1 := X.c1
  have hp := pow40 hn
  have B0 := hid (grown_alloc w (.cells #[.int .u64 x, .int .i64 n] 149) none)
  have CA := hid (fun W : World => all_any x n W hn)
  have HW := hid (show bits .or .u64 (bits .and .u64 (IntKind.u64.wrap ((x : Int) * 2)) ((2 ^ n - 1 : Nat) : Int)) (bits .and .u64 (x : Int) 1) = (fromL x n : Nat) from by
    rw [show (x : Int) * 2 = ((x * 2 : Nat) : Int) from by simp, u64_in _ (by omega), bits_and_u64_nat _ _ (by omega) (by omega), show (1 : Int) = ((1 : Nat) : Int) from rfl, bits_and_u64_nat _ _ (by omega) (by omega), bits_or_u64_nat]
    · rfl
    · exact Nat.lt_of_le_of_lt Nat.and_le_right (by omega)
    · exact Nat.lt_of_le_of_lt Nat.and_le_left (by omega))
  clear hp X hx
  go_enter Tryz.func216, Tryz.ntmps216
  go_wp2_with fail
  go_region_held3 (fun w' => w'.cell? ⟨w.heap.size, 0, none⟩ = some (.int .u64 x) ∧ w'.cell? ⟨w.heap.size, 1, none⟩ = some (.int .i64 n))
    (first
      | go_keep
      | (go_split_ands
         refine ⟨?_, ?_⟩ <;> exact hg3.cell (by assumption) (by simp)))
    (first
      | (go_at_call 218; with_reducible refine Calls.mono (CA.out _) ?_; rintro r w3 ⟨rfl, hg3⟩))
  have HG := hid ((B0.out.trans (drew_grown _)).trans hg3)
  clear hg3
  go_wp2
  go_ret
  exact ⟨by rw [← HW.out]; rfl, HG.out⟩

set_option maxHeartbeats 1600000 in
theorem fromRight_any (x n : Nat) (w : World) (h1 : 1 ≤ n) (hn : n ≤ 40) (hx : x < 2 ^ n) :
    Calls Tryz.prog 217 #[vot x n] w fun e w' => e = .returned (.int .u64 (fromR x n : Nat)) ∧ w.grownBy w' none := by
  have X := Vb.new w x n
  have c0 := X.c0
  have c1 := X.c1
  obtain ⟨m, rfl⟩ : ∃ m, n = m + 1 := ⟨n - 1, by omega⟩
  have hp := pow40 hn
  have hq := pow40 (show m ≤ 40 by omega)
  have B0 := hid (grown_alloc w (.cells #[.int .u64 x, .int .i64 (m + 1 : Nat)] 149) none)
  have HW := hid (show bits .or .u64 ((x : Int) / 2) (bits .and .u64 (x : Int) (IntKind.u64.wrap (2 ^ m))) = (fromR x (m + 1) : Nat) from by
    rw [u64_pow (by omega), show (x : Int) / 2 = ((x / 2 : Nat) : Int) from by omega, bits_and_u64_nat _ _ (by omega) (by omega), bits_or_u64_nat]
    · rfl
    · omega
    · exact Nat.lt_of_le_of_lt Nat.and_le_left (by omega))
  clear hp hq X hx
  go_enter Tryz.func217, Tryz.ntmps217
  go_wp2
  go_ret
  exact ⟨by rw [← HW.out]; rfl, B0.out⟩

set_option maxRecDepth 100000 in
set_option maxHeartbeats 3200000 in
theorem voted_any (x n : Nat) (w : World) (h1 : 1 ≤ n) (hn : n ≤ 40) (hx : x < 2 ^ n) :
    Calls Tryz.prog 193 #[vot x n] w fun e w' => e = .returned (vot (votedB x n) n) ∧ Below w.heap.size w w' := by
  have X := (Vb.new w x n).on (row := none) (grown_alloc _ (.cells #[.int .u64 0, .int .i64 0] 149) none) (by simp)
  have hz : (w.alloc (.cells #[.int .u64 x, .int .i64 n] 149)).heap.size = w.heap.size + 1 := by simp
  have X1 : Vb ((w.alloc (.cells #[.int .u64 x, .int .i64 n] 149)).alloc (.cells #[.int .u64 0, .int .i64 0] 149)) (w.heap.size + 1) 0 0 := by rw [← hz]; exact Vb.new _ 0 0
  have B0 := hid (((Below.refl w.heap.size w).alloc (Nat.le_refl _) (.cells #[.int .u64 x, .int .i64 n] 149)).alloc (by simp) (.cells #[.int .u64 0, .int .i64 0] 149))
  have c0 := X.c0
  have c1 := X.c1
  have HX1 := hid X1
  have CL := hid (fun W : World => fromLeft_any x n W hn hx)
  have CR := hid (fun W : World => fromRight_any x n W h1 hn hx)
  have hp := pow40 hn
  have hl := fromL_lt (x := x) (n := n) hx
  have hr := fromR_lt (x := x) (n := n) hx
  obtain ⟨L, hL⟩ : ∃ L, fromL x n = L := ⟨_, rfl⟩
  obtain ⟨R, hR⟩ : ∃ R, fromR x n = R := ⟨_, rfl⟩
  have HW := hid (show bits .or .u64 (bits .or .u64 (bits .and .u64 (L : Int) (x : Int)) (bits .and .u64 (x : Int) (R : Int))) (bits .and .u64 (L : Int) (R : Int)) = (votedB x n : Nat) from by
    unfold votedB
    rw [hL] at hl ⊢; rw [hR] at hr ⊢
    have q1 : L &&& x ≤ L := Nat.and_le_left
    have q2 : x &&& R ≤ x := Nat.and_le_left
    have q3 : L &&& R ≤ L := Nat.and_le_left
    have q4 : (L &&& x) ||| (x &&& R) < 2 ^ n := Nat.or_lt_two_pow (by omega) (by omega)
    rw [bits_and_u64_nat _ _ (by omega) (by omega), bits_and_u64_nat _ _ (by omega) (by omega), bits_and_u64_nat _ _ (by omega) (by omega), bits_or_u64_nat _ _ (by omega) (by omega), bits_or_u64_nat _ _ (by omega) (by omega)])
  rw [hL] at CL; rw [hR] at CR
  clear hp hl hr hL hR X X1 hx hz
  go_enter Tryz.func193, Tryz.ntmps193
  go_wp2_with fail
  go_region_held3 (fun w' => w'.cell? ⟨w.heap.size, 0, none⟩ = some (.int .u64 x) ∧ w'.cell? ⟨w.heap.size, 1, none⟩ = some (.int .i64 n))
    (first
      | go_keep
      | (go_split_ands
         refine ⟨?_, ?_⟩ <;> exact hg4.cell (by assumption) (by simp))
      | (go_split_ands
         refine ⟨?_, ?_⟩ <;> exact hg3.cell (by assumption) (by simp)))
    (first
      | (go_at_call 216; with_reducible refine Calls.mono (CL.out _) ?_; rintro r w3 ⟨rfl, hg3⟩)
      | (go_at_call 217; with_reducible refine Calls.mono (CR.out _) ?_; rintro r w4 ⟨rfl, hg4⟩))
  have hg := ((drew_grown _).trans hg3).trans hg4
  have Y := HX1.out.on (row := none) hg (by simp)
  have BB := hid (B0.out.grown hg (by simp; omega) (by simp))
  have f0 := Y.fz 0
  have f1 := Y.fz 1
  have k0 := Y.c0
  have k1 := Y.c1
  have HY := hid Y
  clear hg3 hg4 hg Y HX1
  go_wp2
  (try simp only [Exit.inBlock, Exit.then])
  rw [HW.out]
  refine bodyPost_ret (results_cell_row rfl _ _ (w.heap.size + 1) 149 _ (0, 0) _ (by simp [Act.put]) (HY.out.set _ _) Tryz.underlying149 rfl size_vot) rfl ?_
  exact ⟨rfl, (BB.out.setCell (p := ⟨w.heap.size + 1, 0, none⟩) (by simp) _).setCell (p := ⟨w.heap.size + 1, 1, none⟩) (by simp) _⟩
end Go.Proofs.YtkejcajboneniabGreatDoor
namespace Go.Proofs.YtkejcajboneniabGreatDoor
open Go.RowKit

theorem pk_step {l : List Int} (hb : bitsL l) {k : Nat} (h40 : k < 40) : bits .or .u64 ((pk l k : Nat) : Int) (IntKind.u64.wrap (IntKind.u64.wrap (nth l k) * 2 ^ k)) = ((pk l (k + 1) : Nat) : Int) := by
  have hp := pow40 (show k ≤ 40 by omega)
  have hl := pk_lt l k
  rw [pk]
  rcases bits_nth hb k with e | e
  · rw [e, if_neg (by decide), Nat.or_zero, show IntKind.u64.wrap 0 = 0 from rfl, Int.zero_mul, show IntKind.u64.wrap 0 = ((0 : Nat) : Int) from rfl, bits_or_u64_nat _ _ (by omega) (by omega), Nat.or_zero]
  · rw [e, if_pos rfl, show IntKind.u64.wrap 1 = 1 from rfl, Int.one_mul, u64_pow (by omega), bits_or_u64_nat _ _ (by omega) (by omega)]

set_option maxRecDepth 100000 in
set_option maxHeartbeats 3200000 in
theorem votesOf_any (A : Option Addr) (n c : Nat) (l : List Int) (w : World) (hs : Sl w w.heap.size A n l) (hn : n ≤ 40) (hb : bitsL l) :
    Calls Tryz.prog 192 #[.slice A n c] w fun e w' => e = .returned (vot (pk l n) n) ∧ Below w.heap.size w w' := by
  have HL := hid hs.len
  have hz : (w.alloc (.cells #[.int .u64 0, .int .i64 0] 149)).heap.size = w.heap.size + 1 := by simp
  have X0 : Vb ((w.alloc (.cells #[.int .u64 0, .int .i64 0] 149)).alloc (.cells #[.int .u64 0, .int .i64 n] 149)) w.heap.size 0 0 := (show Vb (w.alloc (.cells #[.int .u64 0, .int .i64 0] 149)) w.heap.size 0 0 from Vb.new w 0 0).on (row := none) (grown_alloc _ _ none) (by simp)
  have X1 : Vb ((w.alloc (.cells #[.int .u64 0, .int .i64 0] 149)).alloc (.cells #[.int .u64 0, .int .i64 n] 149)) (w.heap.size + 1) (pk l 0) n := by rw [← hz]; exact Vb.new _ 0 n
  have B0 := ((Below.refl w.heap.size w).alloc (Nat.le_refl _) (.cells #[.int .u64 0, .int .i64 0] 149)).alloc (by simp) (.cells #[.int .u64 0, .int .i64 n] 149)
  have HX0 := hid X0
  have HX1 := hid X1
  have HB0 := hid B0
  have HS := hid hs
  have HP := hid (fun (k : Nat) (h : k < 40) => pk_step hb h)
  clear X0 X1 B0 hz hs hb
  go_enter Tryz.func192, Tryz.ntmps192
  go_wp2_with fail
  obtain ⟨w0, e0⟩ : ∃ W, (w.alloc (.cells #[.int .u64 0, .int .i64 0] 149)).alloc (.cells #[.int .u64 0, .int .i64 n] 149) = W := ⟨_, rfl⟩
  rw [e0] at HX0 HX1 HB0 ⊢
  clear e0
  go_loopw [11] (fun i wr => ∃ k : Nat, i = .int .i64 k ∧ k ≤ n ∧ Hid (Vb wr w.heap.size 0 0) ∧ Hid (Vb wr (w.heap.size + 1) (pk l k) n) ∧ Hid (Below w.heap.size w wr)) (fun i _ => n - (intOf i).toNat)
  case atStart => exact ⟨0, rfl, Nat.zero_le _, HX0, HX1, HB0⟩
  case round =>
    clear HX0 HX1 HB0
    obtain ⟨k, rfl, hk, HX0, HX1, HB0⟩ := hrel
    by_cases hlt : k < n
    · obtain ⟨b, off, rfl, hbl, hc⟩ := (HS.out.below HB0.out).2.2 (by omega)
      have hx := hc k hlt
      have HE := hid (HP.out k (by omega))
      obtain ⟨x, hxe⟩ : ∃ x, nth l k = x := ⟨_, rfl⟩
      rw [hxe] at hx HE
      clear hxe hc
      have d0 := HX1.out.c0
      have d1 := HX1.out.c1
      have g0 := HX1.out.fz 0
      have hlt' : (k : Int) < (n : Int) := by omega
      obtain ⟨y, hy⟩ : ∃ y, pk l k = y := ⟨_, rfl⟩
      rw [hy] at HE HX1 d0
      clear hy
      go_wp2_with fail
      go_region
      rw [HE.out]
      have QX : Hid (Vb (wr.setCell ⟨w.heap.size + 1, 0, none⟩ (.int .u64 (pk l (k + 1) : Nat))).drew (w.heap.size + 1) (pk l (k + 1)) n) := hid (HX1.out.set0 _)
      have QB := hid ((HB0.out.setCell (p := ⟨w.heap.size + 1, 0, none⟩) (by simp) (.int .u64 (pk l (k + 1) : Nat))).drew)
      have Q0 : Hid (Vb (wr.setCell ⟨w.heap.size + 1, 0, none⟩ (.int .u64 (pk l (k + 1) : Nat))).drew w.heap.size 0 0) := hid ((heap_setCell_other _ _ _ _ (by simp)).trans HX0.out)
      clear HX0 HX1 HB0 d0 d1 g0 hx HE
      go_wp2
      go_roundw
      case rel => exact ⟨k + 1, by go_num, by omega, Q0, QX, QB⟩
      case measure => simp [intOf]; omega
    · obtain rfl : k = n := by omega
      have d0 := HX1.out.c0
      have d1 := HX1.out.c1
      have k0 := HX0.out.c0
      have k1 := HX0.out.c1
      have g0 := HX0.out.fz 0
      have g1 := HX0.out.fz 1
      have QB := hid ((HB0.out.setCell (p := ⟨w.heap.size, 0, none⟩) (Nat.le_refl _) (.int .u64 (pk l k : Nat))).setCell (p := ⟨w.heap.size, 1, none⟩) (Nat.le_refl _) (.int .i64 k))
      go_wp2
      (try simp only [Exit.inBlock, Exit.then])
      refine bodyPost_ret (results_cell_row rfl _ _ w.heap.size 149 _ (0, 0) _ (by simp [Act.put]) (HX0.out.set (pk l k) k) Tryz.underlying149 rfl size_vot) rfl ?_
      exact ⟨rfl, QB.out⟩

theorem row_at {l : List Int} {n k : Nat} (hb : bitsL l) (h40 : n ≤ 40) (hk : k < n) : bits .and .u64 (((pk l n : Nat) : Int) / 2 ^ k) 1 = nth l k := by
  have hp := pow40 h40
  have hl := pk_lt l n
  have hd : pk l n / 2 ^ k ≤ pk l n := Nat.div_le_self _ _
  rw [← pk_at hb hk, show (((pk l n : Nat) : Int) / 2 ^ k) = ((pk l n / 2 ^ k : Nat) : Int) from by simp, show (1 : Int) = ((1 : Nat) : Int) from rfl, bits_and_u64_nat _ _ (by omega) (by omega)]
/-- The list in the midst of being filled. -/
def midL (l : List Int) (n k : Nat) : List Int := l.take k ++ List.replicate (n - k) 0
theorem midL_set {l : List Int} {n k : Nat} (hl : l.length = n) (hk : k < n) : (midL l n k).set k (nth l k) = midL l n (k + 1) := by
  have e : n - k = (n - (k + 1)) + 1 := by omega
  unfold midL
  rw [e, List.replicate_succ, List.set_append_right _ _ (by rw [List.length_take]; omega), take_nth (by omega), List.length_take, show k - min k l.length = 0 from by have := Nat.min_le_left k l.length; rw [Nat.min_eq_left (by omega)]; omega, List.set_cons_zero, List.append_assoc]
  rfl
theorem midL_zero (l : List Int) (n : Nat) : midL l n 0 = List.replicate n 0 := by simp [midL]
theorem midL_all {l : List Int} {n : Nat} (hl : l.length = n) : midL l n n = l := by unfold midL; rw [List.take_of_length_le (by omega)]; simp

set_option maxRecDepth 100000 in
set_option maxHeartbeats 3200000 in
theorem voteRow_any (l : List Int) (n : Nat) (w : World) (hl : l.length = n) (hn : n ≤ 40) (hb : bitsL l) :
    Calls Tryz.prog 160 #[vot (pk l n) n] w fun e w' => ∃ A2 c2, e = .returned (.slice A2 n c2) ∧ w'.ownsRow w.heap.size 3 1 (.slice A2 n c2) n (ints l) ∧ Below w.heap.size w w' := by
  obtain ⟨i0, hi, hz0, hz1, hz2⟩ := info_parts info_int
  have X0 := Vb.new w (pk l n) n
  have c0 := X0.c0
  have c1 := X0.c1
  have HX0 := hid X0
  have HB0 := hid ((Below.refl w.heap.size w).alloc (Nat.le_refl _) (.cells #[.int .u64 (pk l n : Nat), .int .i64 n] 149))
  have HL := hid hl
  have HP := hid (fun (k : Nat) (h : k < n) => row_at hb hn h)
  have HI := hid (fun (k : Nat) => bits_nth hb k)
  clear X0 hl hb
  go_enter Tryz.func160, Tryz.ntmps160
  go_wp2_with (refine wpList_make_full _ rfl (.tmp 6) (.tmp 6) 28 rfl (w.heap.size + 1) 3 i0 _ 1 Tryz.underlying28 hi hz0 hz1 .i64 .i64 n n n rfl rfl rfl rfl (by rw [hz2]; omega) (by simp only [maxLen]; omega) (by simp) ?_; intro w1 o1 g1; rw [madeInts, show (w.alloc (.cells #[.int .u64 (pk l n : Nat), .int .i64 n] 149)).heap.size = w.heap.size + 1 from by simp] at o1)
  rw [← midL_zero l] at o1
  have B1 := hid (HB0.out.grown g1 (by simp) (by simp))
  have Y1 := hid (HX0.out.on (row := none) g1 (by simp))
  clear HB0 HX0 c0 c1 g1
  go_loopw [10] (fun i wr => ∃ k : Nat, i = .int .i64 k ∧ k ≤ n ∧ Hid (Vb wr w.heap.size (pk l n) n) ∧ wr.ownsRow (w.heap.size + 1) 3 1 (.slice (some ⟨w.heap.size + 1, 0, none⟩) n n) n (ints (midL l n k)) ∧ Hid (Below w.heap.size w wr)) (fun i _ => n - (intOf i).toNat)
  case atStart => exact ⟨0, rfl, Nat.zero_le _, Y1, o1, B1⟩
  case round =>
    clear o1 Y1 B1
    obtain ⟨k, rfl, hk, Y1, o1, B1⟩ := hrel
    by_cases hlt : k < n
    · have d0 := Y1.out.c0
      have hf := o1.frozenAt k
      obtain ⟨b', off', hb', _, hcs⟩ := (Sl.of_own o1).2.2 (by omega)
      obtain ⟨rfl, rfl⟩ : b' = w.heap.size + 1 ∧ off' = 0 := by injection hb' with hb'; injection hb' with q1 q2 q3; exact ⟨q1.symm, q2.symm⟩
      have hck := hcs k hlt
      rw [Nat.zero_add] at hck
      clear hcs hb'
      have HE := hid (HP.out k hlt)
      have hx := HI.out k
      have OO := hid (o1.stored k (.int .i64 (nth l k)))
      rw [ints_set, midL_set HL.out hlt] at OO
      obtain ⟨x, hxe⟩ : ∃ x, nth l k = x := ⟨_, rfl⟩
      rw [hxe] at HE OO hx
      have HV := hid hxe
      clear hxe
      have hw : IntKind.i64.wrap x = x := IntWalk.i64_in _ (by omega)
      have HW := hid (show IntKind.i64.wrap (bits .and .u64 (((pk l n : Nat) : Int) / 2 ^ k) 1) = x from by rw [HE.out, hw])
      have hlt' : (k : Int) < (n : Int) := by omega
      clear hw HE o1
      go_wp2
      have O1 := hid OO.out.1
      have Q1 := hid (Y1.out.on OO.out.2 (by simp))
      have QB := hid (B1.out.grown OO.out.2 B1.out.size (by intro j hj; cases hj; omega))
      clear OO Y1 B1
      go_roundw
      case rel => rw [show wrap64 (bits .and .u64 (((pk l n : Nat) : Int) / 2 ^ k) 1) = x from by rw [← IntWalk.i64_left]; exact HW.out]; exact ⟨k + 1, by go_num, by omega, Q1, O1.out, QB⟩
      case measure => simp [intOf]; omega
    · obtain rfl : k = n := by omega
      rw [midL_all HL.out] at o1
      have O1 := hid (own_mono (base' := w.heap.size) o1 (by simp))
      clear o1
      go_wp2
      go_ret
      exact ⟨_, _, rfl, O1.out, B1.out⟩

set_option maxRecDepth 100000 in
set_option maxHeartbeats 1600000 in
theorem opposed_any (l : List Int) (n : Nat) (w : World) (hl : l.length = n) (hn : n ≤ 40) (hb : bitsL l) :
    Calls Tryz.prog 195 #[vot (pk l n) n] w fun e w' => e = .returned (vot (pk (oppL l) n) n) ∧ Below w.heap.size w w' := by
  have X := (Vb.new w (pk l n) n).on (row := none) (grown_alloc _ (.cells #[.int .u64 0, .int .i64 0] 149) none) (by simp)
  have hz : (w.alloc (.cells #[.int .u64 (pk l n : Nat), .int .i64 n] 149)).heap.size = w.heap.size + 1 := by simp
  have X1 : Vb ((w.alloc (.cells #[.int .u64 (pk l n : Nat), .int .i64 n] 149)).alloc (.cells #[.int .u64 0, .int .i64 0] 149)) (w.heap.size + 1) 0 0 := by rw [← hz]; exact Vb.new _ 0 0
  have B0 := hid (((Below.refl w.heap.size w).alloc (Nat.le_refl _) (.cells #[.int .u64 (pk l n : Nat), .int .i64 n] 149)).alloc (by simp) (.cells #[.int .u64 0, .int .i64 0] 149))
  have c0 := X.c0
  have c1 := X.c1
  have HX1 := hid X1
  have HX := hid X
  have CA := hid (fun W : World => all_any (pk l n) n W hn)
  have hp := pow40 hn
  have hq := pk_lt l n
  have HW := hid (show bits .xor .u64 ((pk l n : Nat) : Int) ((2 ^ n - 1 : Nat) : Int) = (pk (oppL l) n : Nat) from by
    rw [← opposed_pk hl hb, bits_xor_u64_nat _ _ (by omega) (by omega)])
  clear hp hq X X1 hz hl hb
  obtain ⟨p, hpe⟩ : ∃ p, pk (oppL l) n = p := ⟨_, rfl⟩
  rw [hpe] at HW ⊢
  clear hpe
  go_enter Tryz.func195, Tryz.ntmps195
  go_wp2_with fail
  go_region_with (first
    | (go_at_call 218; with_reducible refine Calls.mono (CA.out _) ?_; rintro r w3 ⟨rfl, hg3⟩; have Z0 := HX.out.on ((drew_grown _).trans hg3) (by simp); have Z1 := HX1.out.on ((drew_grown _).trans hg3) (by simp); have e0 := Z0.c0; have e1 := Z0.c1; have r0 := Z1.c0; have r1 := Z1.c1; have s0 := Z1.fz 0; have s1 := Z1.fz 1))
  all_goals
    have BB := hid (((B0.out.grown ((drew_grown _).trans hg3) (by simp; omega) (by simp)).setCell (p := ⟨w.heap.size + 1, 0, none⟩) (by simp) (.int .u64 p)).setCell (p := ⟨w.heap.size + 1, 1, none⟩) (by simp) (.int .i64 n))
    rw [HW.out]
    go_wp2
    (try simp only [Exit.inBlock, Exit.then])
    refine bodyPost_ret (results_cell_row rfl _ _ (w.heap.size + 1) 149 _ (0, 0) _ (by simp [Act.put]) (Z1.set _ _) Tryz.underlying149 rfl size_vot) rfl ?_
    exact ⟨rfl, BB.out⟩
end Go.Proofs.YtkejcajboneniabGreatDoor
namespace Go.Proofs.YtkejcajboneniabGreatDoor
open Go.RowKit

set_option maxHeartbeats 800000 in
theorem bitsI_any (A : Option Addr) (n c : Nat) (l : List Int) (w : World) (B : Nat) (hs : Sl w B A n l) :
    Calls Tryz.prog 78 #[.slice A n c] w fun e w' => e = .returned (.bool (bitsOk l)) ∧ w = w' := by
  have hm := hs.max
  have HL := hid hs.len
  by_cases h2 : 1 ≤ n
  · by_cases h3 : n ≤ 16
    · go_enter Tryz.func78, Tryz.ntmps78
      go_wp2_with (go_at_call 107; refine (allWithin_any _ _ _ l _ _ _ _ hs).mono ?_; rintro e w' ⟨rfl, rfl⟩)
      go_ret
      exact ⟨ret_bool (by unfold bitsOk within; rw [HL.out]; simp; omega), rfl⟩
    · have h3' : decide ((n : Int) ≤ 16) = false := by simp; omega
      go_enter Tryz.func78, Tryz.ntmps78
      go_wp2_with (go_at_call 107; refine (allWithin_any _ _ _ l _ _ _ _ hs).mono ?_; rintro e w' ⟨rfl, rfl⟩)
      go_ret
      exact ⟨ret_bool (by unfold bitsOk within; rw [HL.out]; simp; omega), rfl⟩
  · have h2' : decide (1 ≤ (n : Int)) = false := by simp; omega
    go_enter Tryz.func78, Tryz.ntmps78
    go_wp2_with (go_at_call 107; refine (allWithin_any _ _ _ l _ _ _ _ hs).mono ?_; rintro e w' ⟨rfl, rfl⟩)
    go_ret
    exact ⟨ret_bool (by unfold bitsOk within; rw [HL.out]; simp; omega), rfl⟩
/-- A block that holds a ring of bits. -/
def Vr (w : World) (b x n : Nat) : Prop := w.heap[b]? = some (.cells #[.int .u64 x, .int .i64 n] 151 (0, 0))
section
variable {w w' : World} {b g x n : Nat}
theorem Vr.lt (h : Vr w b x n) : b < w.heap.size := by
  rcases Nat.lt_or_ge b w.heap.size with hlt | hge
  · exact hlt
  · unfold Vr at h; rw [Array.getElem?_eq_none hge] at h; cases h
theorem Vr.new (w : World) (x n : Nat) : Vr (w.alloc (.cells #[.int .u64 x, .int .i64 n] 151)) w.heap.size x n := heap_alloc_new w _
theorem Vr.on {row : Option Nat} (h : Vr w b x n) (hg : w.grownBy w' row) (hn : some b ≠ row) : Vr w' b x n := (hg.block b h.lt hn).trans h
theorem Vr.below {B : Nat} (h : Vr w b x n) (hb : Below B w w') (hB : b < B) : Vr w' b x n := (hb.block b hB).trans h
theorem Vr.c0 (h : Vr w b x n) : w.cell? ⟨b, 0, none⟩ = some (.int .u64 x) := cell_of_row w b 0 _ _ _ h
theorem Vr.c1 (h : Vr w b x n) : w.cell? ⟨b, 1, none⟩ = some (.int .i64 n) := cell_of_row w b 1 _ _ _ h
theorem Vr.fz (h : Vr w b x n) (i : Nat) : w.frozen? ⟨b, i, none⟩ = false := frozen_of_row w b i _ _ h
theorem Vr.set0 (h : Vr w b x n) (y : Nat) : Vr (w.setCell ⟨b, 0, none⟩ (.int .u64 y)) b y n := by
  have := heap_setCell_same w b 0 _ _ (.int .u64 y) h
  unfold Vr
  rw [this]
  rfl
theorem Vr.set1 (h : Vr w b x n) (m : Nat) : Vr (w.setCell ⟨b, 1, none⟩ (.int .i64 m)) b x m := by
  have := heap_setCell_same w b 1 _ _ (.int .i64 m) h
  unfold Vr
  rw [this]
  rfl
theorem Vr.set (h : Vr w b x n) (y m : Nat) : Vr ((w.setCell ⟨b, 0, none⟩ (.int .u64 y)).setCell ⟨b, 1, none⟩ (.int .i64 m)) b y m := (h.set0 y).set1 m
end
theorem size_vr : (Tryz.prog.info? 151).map (·.size) = some 2 := by kernel_rfl
theorem pk_pb (l : List Int) : ∀ k, pk l k = pb l k
  | 0 => rfl
  | k + 1 => by rw [pk, pb, pk_pb l k]

set_option maxHeartbeats 800000 in
theorem withOnes_any (x n y : Nat) (w : World) :
    Calls Tryz.prog 196 #[vot x n, .int .u64 y] w fun e w' => e = .returned (vot y n) ∧ Below w.heap.size w w' := by
  have hz : (w.alloc (.cells #[.int .u64 y, .int .i64 n] 151)).heap.size = w.heap.size + 1 := by simp
  have X1 : Vr ((w.alloc (.cells #[.int .u64 y, .int .i64 n] 151)).alloc (.cells #[.int .u64 y, .int .i64 n] 151)) (w.heap.size + 1) y n := by rw [← hz]; exact Vr.new _ y n
  have B0 := hid (((Below.refl w.heap.size w).alloc (Nat.le_refl _) (.cells #[.int .u64 y, .int .i64 n] 151)).alloc (by simp) (.cells #[.int .u64 y, .int .i64 n] 151))
  have HX := hid X1
  clear X1 hz
  go_enter Tryz.func196, Tryz.ntmps196
  go_wp2_with fail
  refine bodyPost_ret (results_cell_row rfl _ _ (w.heap.size + 1) 151 _ (0, 0) _ (by simp [Act.put]) HX.out Tryz.underlying151 rfl size_vr) rfl ?_
  exact ⟨rfl, B0.out⟩

/-- Turned by a places, as the program has it. -/
def trn (x n a : Nat) : Nat := (x * 2 ^ a ||| x / 2 ^ (n - a)) &&& (2 ^ n - 1)
theorem trn_lt (x n a : Nat) : trn x n a < 2 ^ n := Nat.lt_of_le_of_lt Nat.and_le_right (by have := Nat.two_pow_pos n; omega)
theorem trn_bits {x n a m : Nat} (hn : n ≤ 16) (hx : x < 2 ^ n) (hm : a + m = n) :
    bits .and .u64 (bits .or .u64 (IntKind.u64.wrap ((x : Int) * 2 ^ a)) ((x : Int) / 2 ^ m)) ((2 ^ n - 1 : Nat) : Int) = (trn x n a : Nat) := by
  have hp := pow40 (show n ≤ 40 by omega)
  have h16 : 2 ^ n ≤ 65536 := by have := Nat.pow_le_pow_right (n := 2) (by omega) hn; simpa using this
  have ha : 2 ^ a ≤ 65536 := by have := Nat.pow_le_pow_right (n := 2) (by omega) (show a ≤ 16 by omega); simpa using this
  have hxa : x * 2 ^ a ≤ 65536 * 65536 := Nat.mul_le_mul (by omega) ha
  have hxm : x / 2 ^ m ≤ x := Nat.div_le_self _ _
  have hor : x * 2 ^ a ||| x / 2 ^ m < 2 ^ 40 := Nat.or_lt_two_pow (by omega) (by omega)
  rw [show (x : Int) * 2 ^ a = ((x * 2 ^ a : Nat) : Int) from by push_cast; rfl, u64_in _ (by omega), show (x : Int) / 2 ^ m = ((x / 2 ^ m : Nat) : Int) from by push_cast; rfl,
    bits_or_u64_nat _ _ (by omega) (by omega), bits_and_u64_nat _ _ (by omega) (by omega)]
  unfold trn
  rw [show n - a = m by omega]

set_option maxHeartbeats 1600000 in
theorem turned_any (x n a : Nat) (w : World) (hn : n ≤ 16) (hx : x < 2 ^ n) (ha : a ≤ n) :
    Calls Tryz.prog 215 #[vot x n, .int .i64 a] w fun e w' => e = .returned (vot (trn x n a) n) ∧ Below w.heap.size w w' := by
  obtain ⟨m, hm⟩ : ∃ m, a + m = n := ⟨n - a, by omega⟩
  have hz : (w.alloc (.cells #[.int .u64 x, .int .i64 n] 151)).heap.size = w.heap.size + 1 := by simp
  have X := (Vr.new w x n).on (row := none) (grown_alloc _ (.cells #[.int .u64 0, .int .i64 0] 151) none) (by simp)
  have c0 := X.c0
  have c1 := X.c1
  have X1 : Vr ((w.alloc (.cells #[.int .u64 x, .int .i64 n] 151)).alloc (.cells #[.int .u64 0, .int .i64 0] 151)) (w.heap.size + 1) 0 0 := by rw [← hz]; exact Vr.new _ 0 0
  have B0 := hid (((Below.refl w.heap.size w).alloc (Nat.le_refl _) (.cells #[.int .u64 x, .int .i64 n] 151)).alloc (by simp) (.cells #[.int .u64 0, .int .i64 0] 151))
  have CA := hid (fun W : World => all_any x n W (by omega))
  have HW := trn_bits hn hx hm
  have CW := hid (fun W : World => show Calls Tryz.prog 196 #[vot x n, .int .u64 (bits .and .u64 (bits .or .u64 (IntKind.u64.wrap ((x : Int) * 2 ^ a)) ((x : Int) / 2 ^ m)) ((2 ^ n - 1 : Nat) : Int))] W fun e w' => e = .returned (vot (trn x n a) n) ∧ Below W.heap.size W w' from by
    rw [HW]; exact withOnes_any x n (trn x n a) W)
  clear HW
  have hmi : (n : Int) - (a : Int) = (m : Int) := by omega
  have hwm : IntKind.i64.wrap (m : Int) = (m : Int) := IntWalk.i64_in _ (by omega)
  have hm0 : (0 : Int) ≤ (m : Int) := by omega
  have hmn := hid hm
  have HX1 := hid X1
  clear hx hm ha X1 X hz
  go_enter Tryz.func215, Tryz.ntmps215
  go_wp2_with fail
  go_region_held3 (fun w' => w'.cell? ⟨w.heap.size, 0, none⟩ = some (.int .u64 x) ∧ w'.cell? ⟨w.heap.size, 1, none⟩ = some (.int .i64 n))
    (first
      | go_keep
      | (go_split_ands
         refine ⟨?_, ?_⟩ <;> exact hg3.cell (by assumption) (by simp))
      | (go_split_ands
         refine ⟨?_, ?_⟩ <;> exact (hb4.cell (by simp only []; omega)).trans (by assumption)))
    (first
      | (go_at_call 218; with_reducible refine Calls.mono (CA.out _) ?_; rintro r w3 ⟨rfl, hg3⟩; have hz3 : w.heap.size + 2 ≤ w3.heap.size := (by have h := hg3.size; simp at h; omega))
      | (go_at_call 196; with_reducible refine Calls.mono (CW.out _) ?_; rintro r w4 ⟨rfl, hb4⟩; have Y := (HX1.out.on (row := none) ((drew_grown _).trans hg3) (by simp)).below hb4 (by omega); have f0 := Y.fz 0; have f1 := Y.fz 1; have k0 := Y.c0; have k1 := Y.c1))
  have hg := (drew_grown _).trans hg3
  have BB := hid ((((B0.out.grown hg (by simp; omega) (by simp)).trans (hb4.mono (by omega))).setCell (p := ⟨w.heap.size + 1, 0, none⟩) (by simp) (.int .u64 (trn x n a : Nat))).setCell (p := ⟨w.heap.size + 1, 1, none⟩) (by simp) (.int .i64 n))
  have HY := hid (Y.set (trn x n a) n)
  clear hg hg3 hb4 Y
  go_wp2
  (try simp only [Exit.inBlock, Exit.then])
  refine bodyPost_ret (results_cell_row rfl _ _ (w.heap.size + 1) 151 _ (0, 0) _ (by simp [Act.put]) HY.out Tryz.underlying151 rfl size_vr) rfl ?_
  exact ⟨rfl, BB.out⟩

theorem bits_and_i64_nat (a b : Nat) (ha : a < 9223372036854775808) (hb : b < 9223372036854775808) : bits .and .i64 (a : Int) (b : Int) = ((a &&& b : Nat) : Int) := by
  have h1 : (BitVec.ofInt 64 (a : Int)).toNat = a := by
    rw [BitVec.ofInt_natCast, BitVec.toNat_ofNat]; exact Nat.mod_eq_of_lt (by omega)
  have h2 : (BitVec.ofInt 64 (b : Int)).toNat = b := by
    rw [BitVec.ofInt_natCast, BitVec.toNat_ofNat]; exact Nat.mod_eq_of_lt (by omega)
  have hx : a &&& b ≤ a := Nat.and_le_left
  show IntKind.i64.wrap ((BitVec.ofInt 64 (a : Int) &&& BitVec.ofInt 64 (b : Int)).toNat : Int) = _
  rw [BitVec.toNat_and, h1, h2]
  exact IntWalk.i64_in _ (by omega)
theorem and_pow (s j : Nat) : s &&& 2 ^ j = if s / 2 ^ j % 2 = 1 then 2 ^ j else 0 := by
  apply Nat.eq_of_testBit_eq
  intro i
  rw [Nat.testBit_and, Nat.testBit_two_pow]
  by_cases hij : j = i
  · subst hij
    rw [Nat.testBit_eq_decide_div_mod_eq]
    by_cases h : s / 2 ^ j % 2 = 1
    · rw [if_pos h, Nat.testBit_two_pow]; simp [h]
    · rw [if_neg h]; simp [h]
  · split
    · rw [Nat.testBit_two_pow]; simp [hij]
    · simp [hij]

theorem trn_L {x n a : Nat} (hx : x < 2 ^ n) (ha : a ≤ n) : trn x n a = turnL x n a := by
  unfold trn turnL
  rw [Nat.and_or_distrib_right, Nat.and_two_pow_sub_one_of_lt_two_pow (x := x / 2 ^ (n - a)) (Nat.lt_of_le_of_lt (Nat.div_le_self _ _) hx)]
theorem trn_R {x n a : Nat} (hx : x < 2 ^ n) (ha : a ≤ n) : trn x n (n - a) = turnR x n a := by
  unfold trn turnR
  rw [Nat.and_or_distrib_right, show n - (n - a) = a by omega, Nat.and_two_pow_sub_one_of_lt_two_pow (x := x / 2 ^ a) (Nat.lt_of_le_of_lt (Nat.div_le_self _ _) hx), Nat.or_comm]
theorem trn_far {l : List Int} {n : Nat} (hl : l.length = n) (h0 : 0 < n) (hb : ∀ x ∈ l, x = 0 ∨ x = 1) (a : Nat) : trn (pb l n) n (a % n) ^^^ trn (pb l n) n (n - a % n) = pb (farL a l) n := by
  have := Nat.mod_lt a h0
  rw [trn_L (pb_lt l n) (by omega), trn_R (pb_lt l n) (by omega), pb_far hl h0 hb]

set_option maxHeartbeats 1600000 in
theorem added_any (x y n : Nat) (w : World) (hn : n ≤ 16) (hx : x < 2 ^ n) (hy : y < 2 ^ n) :
    Calls Tryz.prog 214 #[vot x n, vot y n] w fun e w' => e = .returned (vot (x ^^^ y) n) ∧ Below w.heap.size w w' := by
  have hp := pow40 (show n ≤ 40 by omega)
  have HW := bits_xor_u64_nat x y (by omega) (by omega)
  have CW := hid (fun W : World => show Calls Tryz.prog 196 #[vot x n, .int .u64 (bits .xor .u64 (x : Int) (y : Int))] W fun e w' => e = .returned (vot (x ^^^ y) n) ∧ Below W.heap.size W w' from by
    rw [HW]; exact withOnes_any x n (x ^^^ y) W)
  obtain ⟨W, hW⟩ : ∃ W, ((w.alloc (.cells #[.int .u64 x, .int .i64 n] 151)).alloc (.cells #[.int .u64 y, .int .i64 n] 151)).alloc (.cells #[.int .u64 0, .int .i64 0] 151) = W := ⟨_, rfl⟩
  have hz1 : (w.alloc (.cells #[.int .u64 x, .int .i64 n] 151)).heap.size = w.heap.size + 1 := by simp
  have hz2 : ((w.alloc (.cells #[.int .u64 x, .int .i64 n] 151)).alloc (.cells #[.int .u64 y, .int .i64 n] 151)).heap.size = w.heap.size + 2 := by simp
  have X2 : Vr W (w.heap.size + 2) 0 0 := by rw [← hW, ← hz2]; exact Vr.new _ 0 0
  have B0 : Below w.heap.size w W := by rw [← hW]; exact (((Below.refl w.heap.size w).alloc (Nat.le_refl _) _).alloc (by simp) _).alloc (by simp; omega) _
  have hzW : W.heap.size = w.heap.size + 3 := by rw [← hW]; simp
  have HX := hid X2
  have HB := hid B0
  have HZ := hid hzW
  clear HW hp hx hy hz1 hz2 X2 B0 hzW
  have HWW := hid hW
  clear hW
  go_enter Tryz.func214, Tryz.ntmps214
  go_wp2_with fail
  with_reducible refine Calls.mono (CW.out _) ?_
  rintro e w4 ⟨rfl, b4⟩
  rw [HWW.out] at b4
  have hz := HZ.out
  have Y := HX.out.below b4 (by omega)
  have BB := hid (((HB.out.trans (b4.mono (by omega))).setCell (p := ⟨w.heap.size + 1 + 1, 0, none⟩) (by simp only []; omega) (.int .u64 (x ^^^ y : Nat))).setCell (p := ⟨w.heap.size + 1 + 1, 1, none⟩) (by simp only []; omega) (.int .i64 n))
  rw [show w.heap.size + 2 = w.heap.size + 1 + 1 by omega] at Y
  have f0 := Y.fz 0
  have f1 := Y.fz 1
  have k0 := Y.c0
  have k1 := Y.c1
  have HY := hid (Y.set (x ^^^ y) n)
  clear Y hz HX HB HWW HZ b4
  go_wp2
  (try simp only [Exit.inBlock, Exit.then])
  refine bodyPost_ret (results_cell_row rfl _ _ (w.heap.size + 1 + 1) 151 _ (0, 0) _ (by simp [Act.put]) HY.out Tryz.underlying151 rfl size_vr) rfl ?_
  exact ⟨rfl, BB.out⟩
end Go.Proofs.YtkejcajboneniabGreatDoor
namespace Go.Proofs.YtkejcajboneniabGreatDoor
open Go.RowKit

set_option maxRecDepth 100000 in
set_option maxHeartbeats 3200000 in
theorem summedFar_any (l : List Int) (n p : Nat) (w : World) (hl : l.length = n) (h1 : 1 ≤ n) (hn : n ≤ 16) (hb : ∀ x ∈ l, x = 0 ∨ x = 1) (hp : p ≤ 100000) :
    Calls Tryz.prog 212 #[vot (pb l n) n, .int .i64 p] w fun e w' => e = .returned (vot (pb (farL p l) n) n) ∧ Below w.heap.size w w' := by
  have ha := Nat.mod_lt p (show 0 < n by omega)
  obtain ⟨a, hae⟩ : ∃ a, p % n = a := ⟨_, rfl⟩
  obtain ⟨m, hm⟩ : ∃ m, a + m = n := ⟨n - a, by omega⟩
  have HF := trn_far hl (by omega) hb p
  rw [hae, show n - a = m by omega] at HF
  have hx := pb_lt l n
  obtain ⟨x, hxe⟩ : ∃ x, pb l n = x := ⟨_, rfl⟩
  rw [hxe] at hx HF ⊢
  have CT := hid (fun W : World => turned_any x n a W hn hx (by omega))
  have CM := hid (fun W : World => turned_any x n m W hn hx (by omega))
  have hy := trn_lt x n a
  have hy2 := trn_lt x n m
  obtain ⟨y, hye⟩ : ∃ y, trn x n a = y := ⟨_, rfl⟩
  obtain ⟨z, hze⟩ : ∃ z, trn x n m = z := ⟨_, rfl⟩
  rw [hye] at hy CT HF
  rw [hze] at hy2 CM HF
  have CA := hid (fun W : World => added_any y z n W hn hy hy2)
  rw [HF] at CA
  obtain ⟨q, hq⟩ : ∃ q, pb (farL p l) n = q := ⟨_, rfl⟩
  rw [hq] at CA ⊢
  have hrem : ((p : Int)).tmod (n : Int) = (a : Int) := by rw [Int.tmod_eq_emod_of_nonneg (by omega)]; omega
  have hmi : (n : Int) - (a : Int) = (m : Int) := by omega
  have hwm : IntKind.i64.wrap (m : Int) = (m : Int) := IntWalk.i64_in _ (by omega)
  have hn0 : ¬ (n : Int) = 0 := by omega
  have hn0' : ¬ n = 0 := by omega
  clear HF hx hy hy2 hye hze hq hxe hae ha hb hl
  have hz : (w.alloc (.cells #[.int .u64 x, .int .i64 n] 151)).heap.size = w.heap.size + 1 := by simp
  have X := (Vr.new w x n).on (row := none) (grown_alloc _ (.cells #[.int .u64 0, .int .i64 0] 151) none) (by simp)
  have c0 := X.c0
  have c1 := X.c1
  have X1 : Vr ((w.alloc (.cells #[.int .u64 x, .int .i64 n] 151)).alloc (.cells #[.int .u64 0, .int .i64 0] 151)) (w.heap.size + 1) 0 0 := by rw [← hz]; exact Vr.new _ 0 0
  have B0 := hid (((Below.refl w.heap.size w).alloc (Nat.le_refl _) (.cells #[.int .u64 x, .int .i64 n] 151)).alloc (by simp) (.cells #[.int .u64 0, .int .i64 0] 151))
  have HX1 := hid X1
  clear X X1 hz
  have hmm := hid hm
  clear hm
  go_enter Tryz.func212, Tryz.ntmps212
  go_wp2_with fail
  go_region_held3 (fun w' => w'.cell? ⟨w.heap.size, 0, none⟩ = some (.int .u64 x) ∧ w'.cell? ⟨w.heap.size, 1, none⟩ = some (.int .i64 n))
    (first
      | go_keep
      | (go_split_ands
         refine ⟨?_, ?_⟩ <;> exact (b5.cell (by simp only []; omega)).trans (by assumption))
      | (go_split_ands
         refine ⟨?_, ?_⟩ <;> exact (b4.cell (by simp only []; omega)).trans (by assumption))
      | (go_split_ands
         refine ⟨?_, ?_⟩ <;> exact (b3.cell (by simp; omega)).trans (by assumption)))
    (first
      | (go_at_call 215; with_reducible refine Calls.mono (CT.out _) ?_; rintro r w3 ⟨rfl, b3⟩; have hz3 : w.heap.size + 2 ≤ w3.heap.size := (by have h := b3.size; simp at h; omega))
      | (go_at_call 215; with_reducible refine Calls.mono (CM.out _) ?_; rintro r w4 ⟨rfl, b4⟩; have hz4 : w.heap.size + 2 ≤ w4.heap.size := (by have h := b4.size; omega))
      | (go_at_call 214; with_reducible refine Calls.mono (CA.out _) ?_; rintro r w5 ⟨rfl, b5⟩; have hz5 : w.heap.size + 2 ≤ w5.heap.size := (by have h := b5.size; omega); have Y := (((HX1.out.on (row := none) (drew_grown _) (by simp)).below b3 (by simp)).below b4 (by omega)).below b5 (by omega); have f0 := Y.fz 0; have f1 := Y.fz 1; have k0 := Y.c0; have k1 := Y.c1))
  have B3 := (B0.out.grown (drew_grown _) (by simp; omega) (by simp)).trans (b3.mono (by simp; omega))
  have BB := hid ((((B3.trans (b4.mono (by omega))).trans (b5.mono (by omega))).setCell (p := ⟨w.heap.size + 1, 0, none⟩) (by simp) (.int .u64 q)).setCell (p := ⟨w.heap.size + 1, 1, none⟩) (by simp) (.int .i64 n))
  have HY := hid (Y.set q n)
  clear b3 b4 b5 Y B3
  go_wp2
  (try simp only [Exit.inBlock, Exit.then])
  refine bodyPost_ret (results_cell_row rfl _ _ (w.heap.size + 1) 151 _ (0, 0) _ (by simp [Act.put]) HY.out Tryz.underlying151 rfl size_vr) rfl ?_
  exact ⟨rfl, BB.out⟩

set_option maxRecDepth 100000 in
set_option maxHeartbeats 3200000 in
theorem summedAfterI_any (l : List Int) (n S : Nat) (w : World) (hl : l.length = n) (hok : bitsOk l = true) (hS : S ≤ 1000) :
    Calls Tryz.prog 188 #[vot (pb l n) n, .int .i64 S] w fun e w' => e = .returned (vot (pb (sumI S l) n) n) ∧ Below w.heap.size w w' := by
  obtain ⟨hb, h1, h2⟩ := bitsOk_iff.1 hok
  rw [hl] at h1 h2
  have CF := hid (fun (j p : Nat) (hp : p ≤ 100000) (W : World) => summedFar_any (sumI (S % 2 ^ j) l) n p W (by rw [sumI_len, hl]) h1 h2 (bitsOk_iff.1 (sumI_ok hok _)).1 hp)
  have HH := hid (fun (j : Nat) (h : S / 2 ^ j % 2 = 1) => half_step (S := S) (j := j) h (l := l) (by omega))
  have HK := hid (fun (j : Nat) (h : S / 2 ^ j % 2 = 0) => half_keep (S := S) (j := j) h)
  obtain ⟨x0, hx0⟩ : ∃ x0, pb l n = x0 := ⟨_, rfl⟩
  rw [hx0]
  have HX0 := hid hx0
  clear hx0
  have hz : (w.alloc (.cells #[.int .u64 x0, .int .i64 n] 151)).heap.size = w.heap.size + 1 := by simp
  have X := hid ((Vr.new w x0 n).on (row := none) (grown_alloc _ (.cells #[.int .u64 0, .int .i64 0] 151) none) (by simp))
  have X1 : Vr ((w.alloc (.cells #[.int .u64 x0, .int .i64 n] 151)).alloc (.cells #[.int .u64 0, .int .i64 0] 151)) (w.heap.size + 1) 0 0 := by rw [← hz]; exact Vr.new _ 0 0
  have HX1 := hid X1
  have B0 := hid (((Below.refl w.heap.size w).alloc (Nat.le_refl _) (.cells #[.int .u64 x0, .int .i64 n] 151)).alloc (by simp) (.cells #[.int .u64 0, .int .i64 0] 151))
  have hz2 : w.heap.size + 2 ≤ ((w.alloc (.cells #[.int .u64 x0, .int .i64 n] 151)).alloc (.cells #[.int .u64 0, .int .i64 0] 151)).heap.size := by simp
  have HZ := hid hz2
  clear X1 hz hz2 hok hb hl
  go_enter Tryz.func188, Tryz.ntmps188
  go_wp2_with fail
  obtain ⟨W, hW⟩ : ∃ W, (w.alloc (.cells #[.int .u64 x0, .int .i64 n] 151)).alloc (.cells #[.int .u64 0, .int .i64 0] 151) = W := ⟨_, rfl⟩
  rw [hW] at X B0 HZ HX1 ⊢
  clear hW
  rw [← HX0.out, show pb l n = pb (sumI (S % 2 ^ 0) l) n from by rw [Nat.pow_zero, Nat.mod_one]; rfl] at X
  go_loopw [5] (fun i wr => ∃ j P : Nat, i = .int .i64 P ∧ Hid (P = 2 ^ j) ∧ P ≤ 2000 ∧ Hid (0 < P) ∧ Hid (Vr wr w.heap.size (pb (sumI (S % 2 ^ j) l) n) n) ∧ Hid (Vr wr (w.heap.size + 1) 0 0) ∧ Hid (w.heap.size + 2 ≤ wr.heap.size) ∧ Hid (Below w.heap.size w wr)) (fun i _ => 2001 - (intOf i).toNat)
  case atStart => exact ⟨0, 1, rfl, hid rfl, by omega, hid (by omega), X, HX1, HZ, B0⟩
  case round =>
    clear X HX1 HZ B0
    obtain ⟨j, P, rfl, HP, hP, HP0, X, HX1, HZ, B0⟩ := hrel
    have c0 := X.out.c0
    have c1 := X.out.c1
    by_cases hlt : P ≤ S
    · have hlti : (P : Int) ≤ (S : Int) := by omega
      have hw2 : IntKind.i64.wrap ((P : Int) * 2) = (P : Int) * 2 := IntWalk.i64_in _ (by omega)
      have HP2 := hid (show P * 2 = 2 ^ (j + 1) from by rw [HP.out, Nat.pow_succ])
      have hand : bits .and .i64 (S : Int) (P : Int) = ((S &&& P : Nat) : Int) := bits_and_i64_nat _ _ (by omega) (by omega)
      have hpw : S &&& P = if S / 2 ^ j % 2 = 1 then P else 0 := by rw [HP.out]; exact and_pow S j
      rcases Nat.mod_two_eq_zero_or_one (S / 2 ^ j) with hm | hm
      · have HE := hid (HK.out j hm)
        rw [hpw, hm, if_neg (by decide)] at hand
        rw [← HE.out] at X
        clear hm hpw
        go_wp2_with fail
        go_roundw
        case rel => exact ⟨j + 1, P * 2, by go_num, HP2, by omega, hid (by have := HP0.out; omega), X, HX1, HZ, B0⟩
        case measure => have := HP0.out; simp [intOf]; omega
      · have HE := hid (HH.out j hm)
        rw [hpw, if_pos hm] at hand
        have HG := (show farL P (sumI (S % 2 ^ j) l) = sumI (S % 2 ^ (j + 1)) l from by rw [HP.out]; exact HE.out)
        have CC := hid (fun W : World => CF.out j P (by omega) W)
        rw [HG] at CC
        clear HG
        have hPne : ((P : Int) == 0) = false := by have := HP0.out; simp; omega
        have hPne2 : ¬ (P : Int) = 0 := by have := HP0.out; omega
        clear hm hpw
        go_wp2_with fail
        with_reducible refine Calls.mono (CC.out _) ?_
        rintro e w3 ⟨rfl, b3⟩
        have hz0 := HZ.out
        have hz3 := b3.size
        have Y := X.out.below b3 (by omega)
        have Y1 := HX1.out.below b3 (by omega)
        have f0 := Y.fz 0
        have f1 := Y.fz 1
        have k0 := Y.c0
        have k1 := Y.c1
        obtain ⟨q, hq⟩ : ∃ q, pb (sumI (S % 2 ^ (j + 1)) l) n = q := ⟨_, rfl⟩
        rw [hq]
        have Q1 : Hid (Vr ((w3.setCell ⟨w.heap.size, 0, none⟩ (.int .u64 q)).setCell ⟨w.heap.size, 1, none⟩ (.int .i64 n)) w.heap.size (pb (sumI (S % 2 ^ (j + 1)) l) n) n) := hid (by rw [hq]; exact Y.set q n)
        have Q2 : Hid (Vr ((w3.setCell ⟨w.heap.size, 0, none⟩ (.int .u64 q)).setCell ⟨w.heap.size, 1, none⟩ (.int .i64 n)) (w.heap.size + 1) 0 0) := hid ((heap_setCell_other _ _ _ _ (by simp)).trans ((heap_setCell_other _ _ _ _ (by simp)).trans Y1))
        have Q3 : Hid (w.heap.size + 2 ≤ ((w3.setCell ⟨w.heap.size, 0, none⟩ (.int .u64 q)).setCell ⟨w.heap.size, 1, none⟩ (.int .i64 n)).heap.size) := hid (by simp [World.setCell]; omega)
        have Q4 := hid (((B0.out.trans (b3.mono (by omega))).setCell (p := ⟨w.heap.size, 0, none⟩) (Nat.le_refl _) (.int .u64 q)).setCell (p := ⟨w.heap.size, 1, none⟩) (Nat.le_refl _) (.int .i64 n))
        clear X HX1 HZ B0 b3 Y Y1 hq hz0 hz3 c0 c1 CC
        go_wp2_with fail
        go_roundw
        case rel => exact ⟨j + 1, P * 2, by go_num, HP2, by omega, hid (by have := HP0.out; omega), Q1, Q2, Q3, Q4⟩
        case measure => have := HP0.out; simp [intOf]; omega
    · have HE := hid (show S % 2 ^ j = S from Nat.mod_eq_of_lt (by rw [← HP.out]; omega))
      rw [HE.out] at X c0
      have f0 := HX1.out.fz 0
      have f1 := HX1.out.fz 1
      have k0 := HX1.out.c0
      have k1 := HX1.out.c1
      obtain ⟨q, hq⟩ : ∃ q, pb (sumI S l) n = q := ⟨_, rfl⟩
      rw [hq] at c0
      have HQ := hid hq
      have HY := hid (HX1.out.set q n)
      have BB := hid ((B0.out.setCell (p := ⟨w.heap.size + 1, 0, none⟩) (by simp) (.int .u64 q)).setCell (p := ⟨w.heap.size + 1, 1, none⟩) (by simp) (.int .i64 n))
      clear X HX1 B0 hq HZ
      go_wp2
      (try simp only [Exit.inBlock, Exit.then])
      refine bodyPost_ret (results_cell_row rfl _ _ (w.heap.size + 1) 151 _ (0, 0) _ (by simp [Act.put]) HY.out Tryz.underlying151 rfl size_vr) rfl ?_
      exact ⟨by rw [HQ.out], BB.out⟩
end Go.Proofs.YtkejcajboneniabGreatDoor
namespace Go.Proofs.YtkejcajboneniabGreatDoor
open Go.RowKit

end Go.Proofs.YtkejcajboneniabGreatDoor
