/-
  Texts put together: C11f C11h C11j C11i C7i. No statement is proved here.
-/
import Derived.Test.YtkejcajboneniabGreatDoorQMq
import Derived.Test.YtkejcajboneniabGreatDoorQMc
import Derived.Test.YtkejcajboneniabGreatDoorQMa
import Derived.RangeFuncBox
import Derived.Test.YtkejcajboneniabGreatDoorQMp
import Derived.Test.YtkejcajboneniabGreatDoorQMg
set_option linter.unusedVariables false
set_option linter.unusedSimpArgs false
namespace Go.Proofs.YtkejcajboneniabGreatDoor
open Go.RowKit

theorem bits_andNot_u64_nat (a b : Nat) (ha : a < 18446744073709551616) (hb : b < 18446744073709551616) : bits .andNot .u64 (a : Int) (b : Int) = ((a &&& (2 ^ 64 - (b + 1)) : Nat) : Int) := by
  have h1 : (BitVec.ofInt 64 (a : Int)).toNat = a := by
    rw [BitVec.ofInt_natCast, BitVec.toNat_ofNat]; exact Nat.mod_eq_of_lt (by omega)
  have h2 : (BitVec.ofInt 64 (b : Int)).toNat = b := by
    rw [BitVec.ofInt_natCast, BitVec.toNat_ofNat]; exact Nat.mod_eq_of_lt (by omega)
  have hx : a &&& (2 ^ 64 - (b + 1)) ≤ a := Nat.and_le_left
  show IntKind.u64.wrap ((BitVec.ofInt 64 (a : Int) &&& ~~~ BitVec.ofInt 64 (b : Int)).toNat : Int) = _
  rw [BitVec.toNat_and, BitVec.toNat_not, h1, h2, show 2 ^ 64 - 1 - b = 2 ^ 64 - (b + 1) by omega]
  exact u64_in _ (by omega)

theorem trn_one_bit {y : Nat} (h : y < 2 ^ 1) : (trn y 1 0).testBit 0 = y.testBit 0 ∧ (trn y 1 1).testBit 0 = y.testBit 0 := by
  obtain rfl | rfl : y = 0 ∨ y = 1 := by omega
  · exact ⟨by decide, by decide⟩
  · exact ⟨by decide, by decide⟩
theorem trn_next {l : List Int} {n j : Nat} (hj : j < n) : (trn (pb l n) n (n - 1)).testBit j = decide (nth l ((j + 1) % n) = 1) := by
  by_cases h1 : n = 1
  · subst h1
    obtain rfl : j = 0 := by omega
    rw [show (1 : Nat) - 1 = 0 from rfl, (trn_one_bit (pb_lt l 1)).1, pb_bit]
    simp
  · rw [trn_R (pb_lt l n) (by omega), pb_right (by omega) hj]
theorem trn_prev {l : List Int} {n j : Nat} (hj : j < n) : (trn (pb l n) n 1).testBit j = decide (nth l ((j + n - 1) % n) = 1) := by
  by_cases h1 : n = 1
  · subst h1
    obtain rfl : j = 0 := by omega
    rw [(trn_one_bit (pb_lt l 1)).2, pb_bit]
    simp
  · rw [trn_L (pb_lt l n) (by omega), pb_left (by omega) hj]
theorem going_pb {l : List Int} {n : Nat} (hl : l.length = n) (hn : n ≤ 16) (hb : ∀ x ∈ l, x = 0 ∨ x = 1) : pb l n &&& (2 ^ 64 - (trn (pb l n) n (n - 1) + 1)) = pb (flowL l) n := by
  have ht := trn_lt (pb l n) n (n - 1)
  have hp := pow40 (show n ≤ 40 by omega)
  refine pb_ring hl (Nat.lt_of_le_of_lt Nat.and_le_left (pb_lt l n)) fun j hj => ?_
  rw [Nat.testBit_and, pb_bit, Nat.testBit_two_pow_sub_succ (by omega), trn_next hj]
  unfold flowF
  rcases bit_nth hb j with e1 | e1 <;> rcases bit_nth hb ((j + 1) % n) with e2 | e2 <;> rw [e1, e2] <;> simp [hj] <;> omega
theorem driven_pb {l : List Int} {n : Nat} (hl : l.length = n) (hn : n ≤ 16) (hb : ∀ x ∈ l, x = 0 ∨ x = 1) : (pb l n ^^^ pb (flowL l) n) ^^^ trn (pb (flowL l) n) n 1 = pb (driveL l) n := by
  refine pb_ring hl (Nat.xor_lt_two_pow (Nat.xor_lt_two_pow (pb_lt _ _) (pb_lt _ _)) (trn_lt _ _ _)) fun j hj => ?_
  have hk := Nat.mod_lt (j + n - 1) (show 0 < n by omega)
  have hkj : ((j + n - 1) % n + 1) % n = j := by
    rw [Nat.mod_add_mod, show j + n - 1 + 1 = j + n by omega, Nat.add_mod_right]
    exact Nat.mod_eq_of_lt hj
  rw [Nat.testBit_xor, Nat.testBit_xor, pb_bit, pb_bit, trn_prev hj, nth_flow (by omega), nth_flow (by omega), hl, hkj]
  unfold driveF
  rcases bit_nth hb j with e1 | e1 <;> rcases bit_nth hb ((j + 1) % n) with e2 | e2 <;> rcases bit_nth hb ((j + n - 1) % n) with e3 | e3 <;> rw [e1, e2, e3] <;> simp [hj]

set_option maxRecDepth 100000 in
set_option maxHeartbeats 3200000 in
theorem going_any (l : List Int) (n : Nat) (w : World) (hl : l.length = n) (h1 : 1 ≤ n) (hn : n ≤ 16) (hb : ∀ x ∈ l, x = 0 ∨ x = 1) :
    Calls Tryz.prog 213 #[vot (pb l n) n] w fun e w' => e = .returned (vot (pb (flowL l) n) n) ∧ Below w.heap.size w w' := by
  have HG := going_pb hl hn hb
  have hx := pb_lt l n
  have hp := pow40 (show n ≤ 40 by omega)
  obtain ⟨m, hm⟩ : ∃ m, n - 1 = m := ⟨_, rfl⟩
  rw [hm] at HG
  obtain ⟨x, hxe⟩ : ∃ x, pb l n = x := ⟨_, rfl⟩
  rw [hxe] at hx HG ⊢
  have ht := trn_lt x n m
  have CT := hid (fun W : World => turned_any x n m W hn hx (by omega))
  obtain ⟨t, hte⟩ : ∃ t, trn x n m = t := ⟨_, rfl⟩
  rw [hte] at ht CT HG
  obtain ⟨g, hg⟩ : ∃ g, pb (flowL l) n = g := ⟨_, rfl⟩
  rw [hg] at HG ⊢
  have HW := bits_andNot_u64_nat x t (by omega) (by omega)
  rw [HG] at HW
  have CW := hid (fun W : World => show Calls Tryz.prog 196 #[vot x n, .int .u64 (bits .andNot .u64 (x : Int) (t : Int))] W fun e w' => e = .returned (vot g n) ∧ Below W.heap.size W w' from by
    rw [HW]; exact withOnes_any x n g W)
  have hmi : (n : Int) - 1 = (m : Int) := by omega
  have hwm : IntKind.i64.wrap (m : Int) = (m : Int) := IntWalk.i64_in _ (by omega)
  clear HW HG hg ht hte hx hxe hb hl hm hp
  have hz : (w.alloc (.cells #[.int .u64 x, .int .i64 n] 151)).heap.size = w.heap.size + 1 := by simp
  have X := (Vr.new w x n).on (row := none) (grown_alloc _ (.cells #[.int .u64 0, .int .i64 0] 151) none) (by simp)
  have c0 := X.c0
  have c1 := X.c1
  have X1 : Vr ((w.alloc (.cells #[.int .u64 x, .int .i64 n] 151)).alloc (.cells #[.int .u64 0, .int .i64 0] 151)) (w.heap.size + 1) 0 0 := by rw [← hz]; exact Vr.new _ 0 0
  have B0 := hid (((Below.refl w.heap.size w).alloc (Nat.le_refl _) (.cells #[.int .u64 x, .int .i64 n] 151)).alloc (by simp) (.cells #[.int .u64 0, .int .i64 0] 151))
  have hzW : ((w.alloc (.cells #[.int .u64 x, .int .i64 n] 151)).alloc (.cells #[.int .u64 0, .int .i64 0] 151)).heap.size = w.heap.size + 2 := by simp
  have HX := hid X
  have HX1 := hid X1
  have HZ := hid hzW
  clear X X1 hz hzW
  go_enter Tryz.func213, Tryz.ntmps213
  go_wp2_with fail
  with_reducible refine Calls.mono (CT.out _) ?_
  rintro e w3 ⟨rfl, b3⟩
  rw [HZ.out] at b3
  have hz3 : w.heap.size + 2 ≤ w3.heap.size := by have h := b3.size; rw [HZ.out] at h; exact h
  have N3 := Vr.new w3 t n
  have g3 := grown_alloc w3 (.cells #[.int .u64 t, .int .i64 n] 151) none
  have Y := (HX.out.below b3 (by omega)).on g3 (by simp)
  have Y1 := (HX1.out.below b3 (by omega)).on g3 (by simp)
  have B3 := hid ((B0.out.trans (b3.mono (by omega))).alloc (by omega) (.cells #[.int .u64 t, .int .i64 n] 151))
  have d0 := Y.c0
  have d1 := Y.c1
  have k0 := N3.c0
  have k1 := N3.c1
  have HY1 := hid Y1
  have hz4 : (w3.alloc (.cells #[.int .u64 t, .int .i64 n] 151)).heap.size = w3.heap.size + 1 := by simp
  have HZ4 := hid hz4
  clear b3 N3 g3 Y Y1 HX HX1 HZ B0 c0 c1 hz4
  go_wp2_with fail
  with_reducible refine Calls.mono (CW.out _) ?_
  rintro e w5 ⟨rfl, b5⟩
  rw [HZ4.out] at b5
  have Y := HY1.out.below b5 (by omega)
  have f0 := Y.fz 0
  have f1 := Y.fz 1
  have j0 := Y.c0
  have j1 := Y.c1
  have BB := hid (((B3.out.trans (b5.mono (by omega))).setCell (p := ⟨w.heap.size + 1, 0, none⟩) (by simp) (.int .u64 g)).setCell (p := ⟨w.heap.size + 1, 1, none⟩) (by simp) (.int .i64 n))
  have HY := hid (Y.set g n)
  clear b5 Y HY1 HZ4 B3 d0 d1 k0 k1
  go_wp2
  (try simp only [Exit.inBlock, Exit.then])
  refine bodyPost_ret (results_cell_row rfl _ _ (w.heap.size + 1) 151 _ (0, 0) _ (by simp [Act.put]) HY.out Tryz.underlying151 rfl size_vr) rfl ?_
  exact ⟨rfl, BB.out⟩

set_option maxRecDepth 100000 in
set_option maxHeartbeats 3200000 in
theorem driven_any (l : List Int) (n : Nat) (w : World) (hl : l.length = n) (h1 : 1 ≤ n) (hn : n ≤ 16) (hb : ∀ x ∈ l, x = 0 ∨ x = 1) :
    Calls Tryz.prog 190 #[vot (pb l n) n] w fun e w' => e = .returned (vot (pb (driveL l) n) n) ∧ Below w.heap.size w w' := by
  have HD := driven_pb hl hn hb
  have CG := hid (fun W : World => going_any l n W hl h1 hn hb)
  have hx := pb_lt l n
  have hg := pb_lt (flowL l) n
  obtain ⟨x, hxe⟩ : ∃ x, pb l n = x := ⟨_, rfl⟩
  obtain ⟨g, hge⟩ : ∃ g, pb (flowL l) n = g := ⟨_, rfl⟩
  rw [hxe, hge] at HD CG
  rw [hxe] at hx ⊢
  rw [hge] at hg
  have ht := trn_lt g n 1
  have CT := hid (fun W : World => show Calls Tryz.prog 215 #[vot g n, .int .i64 1] W fun e w' => e = .returned (vot (trn g n 1) n) ∧ Below W.heap.size W w' from turned_any g n 1 W hn hg h1)
  have CA := hid (fun W : World => added_any x g n W hn hx hg)
  have hy : x ^^^ g < 2 ^ n := Nat.xor_lt_two_pow hx hg
  obtain ⟨t, hte⟩ : ∃ t, trn g n 1 = t := ⟨_, rfl⟩
  obtain ⟨y, hye⟩ : ∃ y, x ^^^ g = y := ⟨_, rfl⟩
  rw [hte] at ht CT HD
  rw [hye] at hy CA HD
  have CB := hid (fun W : World => added_any y t n W hn hy ht)
  rw [HD] at CB
  obtain ⟨q, hq⟩ : ∃ q, pb (driveL l) n = q := ⟨_, rfl⟩
  rw [hq] at CB ⊢
  clear HD hq hye hte hge hxe hx hg ht hy hb hl h1
  have hz : (w.alloc (.cells #[.int .u64 x, .int .i64 n] 151)).heap.size = w.heap.size + 1 := by simp
  have X := (Vr.new w x n).on (row := none) (grown_alloc _ (.cells #[.int .u64 0, .int .i64 0] 151) none) (by simp)
  have c0 := X.c0
  have c1 := X.c1
  have X1 : Vr ((w.alloc (.cells #[.int .u64 x, .int .i64 n] 151)).alloc (.cells #[.int .u64 0, .int .i64 0] 151)) (w.heap.size + 1) 0 0 := by rw [← hz]; exact Vr.new _ 0 0
  have B0 := hid (((Below.refl w.heap.size w).alloc (Nat.le_refl _) (.cells #[.int .u64 x, .int .i64 n] 151)).alloc (by simp) (.cells #[.int .u64 0, .int .i64 0] 151))
  have hzW : ((w.alloc (.cells #[.int .u64 x, .int .i64 n] 151)).alloc (.cells #[.int .u64 0, .int .i64 0] 151)).heap.size = w.heap.size + 2 := by simp
  have HX := hid X
  have HX1 := hid X1
  have HZ := hid hzW
  clear X X1 hz hzW
  go_enter Tryz.func190, Tryz.ntmps190
  go_wp2_with fail
  with_reducible refine Calls.mono (CG.out _) ?_
  rintro e w2 ⟨rfl, b2⟩
  rw [HZ.out] at b2
  have hz3 : w.heap.size + 2 ≤ w2.heap.size := by have h := b2.size; rw [HZ.out] at h; exact h
  have N3 := Vr.new w2 g n
  have g3 := grown_alloc w2 (.cells #[.int .u64 g, .int .i64 n] 151) none
  have Y := (HX.out.below b2 (by omega)).on g3 (by simp)
  have Y1 := (HX1.out.below b2 (by omega)).on g3 (by simp)
  have B3 := hid ((B0.out.trans (b2.mono (by omega))).alloc (by omega) (.cells #[.int .u64 g, .int .i64 n] 151))
  have hz4 : (w2.alloc (.cells #[.int .u64 g, .int .i64 n] 151)).heap.size = w2.heap.size + 1 := by simp
  clear b2 g3 HX HX1 HZ B0 c0 c1
  go_wp2_with fail
  obtain ⟨b, hbe⟩ : ∃ b, w2.heap.size = b := ⟨_, rfl⟩
  obtain ⟨W, hW⟩ : ∃ W, w2.alloc (.cells #[.int .u64 g, .int .i64 n] 151) = W := ⟨_, rfl⟩
  rw [hW, hbe] at hz4 N3
  rw [hbe] at hz3 ⊢
  rw [hW] at Y Y1 B3 ⊢
  clear hW hbe
  have hbn1 : b ≠ w.heap.size + 1 := by omega
  have hbn2 : w.heap.size + 1 ≠ b := by omega
  have d0 := Y.c0
  have d1 := Y.c1
  have k0 := N3.c0
  have k1 := N3.c1
  have HY1 := hid Y1
  clear Y1 Y N3
  go_region_held3 (fun w' => (w'.cell? ⟨w.heap.size, 0, none⟩ = some (.int .u64 x) ∧ w'.cell? ⟨w.heap.size, 1, none⟩ = some (.int .i64 n)) ∧ (w'.cell? ⟨b, 0, none⟩ = some (.int .u64 g) ∧ w'.cell? ⟨b, 1, none⟩ = some (.int .i64 n)))
    (first
      | go_keep
      | (go_split_ands
         refine ⟨⟨?_, ?_⟩, ?_, ?_⟩ <;> exact (b5.cell (by simp only []; omega)).trans (by assumption))
      | (go_split_ands
         refine ⟨⟨?_, ?_⟩, ?_, ?_⟩ <;> exact (b4.cell (by simp only []; omega)).trans (by assumption))
      | (go_split_ands
         refine ⟨⟨?_, ?_⟩, ?_, ?_⟩ <;> exact (b3.cell (by simp; omega)).trans (by assumption)))
    (first
      | (go_at_call 214; with_reducible refine Calls.mono (CA.out _) ?_; rintro r w3 ⟨rfl, b3⟩; have hz5 : b + 1 ≤ w3.heap.size := (by have h := b3.size; simp at h; omega))
      | (go_at_call 215; with_reducible refine Calls.mono (CT.out _) ?_; rintro r w4 ⟨rfl, b4⟩; have hz6 : b + 1 ≤ w4.heap.size := (by have h := b4.size; omega))
      | (go_at_call 214; with_reducible refine Calls.mono (CB.out _) ?_; rintro r w5 ⟨rfl, b5⟩; have hz7 : b + 1 ≤ w5.heap.size := (by have h := b5.size; omega); have Y := (((HY1.out.on (row := none) (drew_grown _) (by simp)).below b3 (by simp; omega)).below b4 (by omega)).below b5 (by omega); have f0 := Y.fz 0; have f1 := Y.fz 1; have k0 := Y.c0; have k1 := Y.c1))
  have B4 := (B3.out.grown (drew_grown _) (by omega) (by simp)).trans (b3.mono (by simp; omega))
  have BB := hid ((((B4.trans (b4.mono (by omega))).trans (b5.mono (by omega))).setCell (p := ⟨w.heap.size + 1, 0, none⟩) (by simp) (.int .u64 q)).setCell (p := ⟨w.heap.size + 1, 1, none⟩) (by simp) (.int .i64 n))
  have HY := hid (Y.set q n)
  clear b3 b4 b5 Y B4
  go_wp2
  (try simp only [Exit.inBlock, Exit.then])
  refine bodyPost_ret (results_cell_row rfl _ _ (w.heap.size + 1) 151 _ (0, 0) _ (by simp [Act.put]) HY.out Tryz.underlying151 rfl size_vr) rfl ?_
  exact ⟨rfl, BB.out⟩

set_option maxHeartbeats 800000 in
theorem flow_any (l : List Int) (n : Nat) (w : World) (hl : l.length = n) (h1 : 1 ≤ n) (hn : n ≤ 16) (hb : ∀ x ∈ l, x = 0 ∨ x = 1) :
    Calls Tryz.prog 203 #[vot (pb l n) n] w fun e w' => e = .returned (.int .i64 (flowN l)) ∧ Below w.heap.size w w' := by
  have CG := hid (fun W : World => going_any l n W hl h1 hn hb)
  have hfl : (flowL l).length = n := by rw [show (flowL l).length = l.length from ringL_len _ l, hl]
  have HP : pop 16 (pb (flowL l) n) = flowN l := pop_pb hfl hn
  have h16 : pb (flowL l) n < 2 ^ 16 := Nat.lt_of_lt_of_le (pb_lt _ n) (Nat.pow_le_pow_right (by omega) hn)
  have CC := hid (fun W : World => onesCount_any (pb (flowL l) n) W h16)
  rw [HP] at CC
  obtain ⟨x, hxe⟩ : ∃ x, pb l n = x := ⟨_, rfl⟩
  obtain ⟨g, hge⟩ : ∃ g, pb (flowL l) n = g := ⟨_, rfl⟩
  rw [hxe, hge] at CG
  rw [hxe]
  rw [hge] at CC
  have hf1 := fld_vr g n
  have hf2 := fld_vo g n
  have c0 := (Vr.new w x n).c0
  have c1 := (Vr.new w x n).c1
  have B0 := hid ((Below.refl w.heap.size w).alloc (Nat.le_refl _) (.cells #[.int .u64 x, .int .i64 n] 151))
  clear HP h16 hge hxe hfl hl h1 hb
  go_enter Tryz.func203, Tryz.ntmps203
  go_wp2_with fail
  with_reducible refine Calls.mono (CG.out _) ?_
  rintro e w1 ⟨rfl, b1⟩
  have B1 := hid (below_tr B0.out (b1.mono (by simp)))
  clear b1
  go_wp2_with fail
  with_reducible refine Calls.mono (CC.out _) ?_
  rintro e w2 ⟨rfl, rfl⟩
  go_wp2
  go_ret
  exact ⟨rfl, B1.out⟩
end Go.Proofs.YtkejcajboneniabGreatDoor
namespace Go.Proofs.YtkejcajboneniabGreatDoor
open Go.RowKit

/-- Bits of one half and those of the other exchanged, k at a time. -/
def stp (x k m : Nat) : Nat := (x / 2 ^ k &&& m) ||| (x &&& m) * 2 ^ k
def swp (k i : Nat) : Nat := if i / k % 2 = 0 then i + k else i - k
theorem stp_bit (x k m i : Nat) : (stp x k m).testBit i = ((x.testBit (i + k) && m.testBit i) || (decide (k ≤ i) && (x.testBit (i - k) && m.testBit (i - k)))) := by
  unfold stp
  rw [Nat.testBit_or, Nat.testBit_and, Nat.testBit_div_two_pow, Nat.mul_comm _ (2 ^ k), Nat.testBit_two_pow_mul, Nat.testBit_and]
theorem stp_at {x k m i : Nat} (hk : 0 < k) (hm : ∀ i, i < 64 → m.testBit i = decide (i / k % 2 = 0)) (hi : i < 64) : (stp x k m).testBit i = x.testBit (swp k i) := by
  rw [stp_bit, hm i hi, hm (i - k) (by omega)]
  unfold swp
  by_cases h : k ≤ i
  · have e : (i - k) / k = i / k - 1 := by
      have h2 := Nat.add_div_right (i - k) hk
      rw [show i - k + k = i by omega] at h2
      rw [h2]
      exact (Nat.add_sub_cancel ..).symm
    have h1 : 1 ≤ i / k := (Nat.le_div_iff_mul_le hk).2 (by omega)
    rw [e]
    generalize i / k = u at h1
    rcases Nat.mod_two_eq_zero_or_one u with h0 | h0
    · rw [if_pos h0, h0]
      rw [show (u - 1) % 2 = 1 by omega]
      simp
    · rw [if_neg (by omega), h0]
      rw [show (u - 1) % 2 = 0 by omega]
      simp [h]
  · rw [show i / k = 0 from Nat.div_eq_of_lt (by omega)]
    simp [h]
theorem msk0 : ∀ i, i < 64 → (6148914691236517205 : Nat).testBit i = decide (i / 1 % 2 = 0) := by decide +kernel
theorem msk1 : ∀ i, i < 64 → (3689348814741910323 : Nat).testBit i = decide (i / 2 % 2 = 0) := by decide +kernel
theorem msk2 : ∀ i, i < 64 → (1085102592571150095 : Nat).testBit i = decide (i / 4 % 2 = 0) := by decide +kernel
theorem msk3 : ∀ i, i < 64 → (71777214294589695 : Nat).testBit i = decide (i / 8 % 2 = 0) := by decide +kernel
theorem msk4 : ∀ i, i < 64 → (281470681808895 : Nat).testBit i = decide (i / 16 % 2 = 0) := by decide +kernel

theorem stp_lt {x k m a : Nat} (hx : x < 2 ^ a) : stp x k m < 2 ^ (a + k) := by
  have hp : 2 ^ (a + k) = 2 ^ a * 2 ^ k := Nat.pow_add ..
  have h1 : 0 < 2 ^ k := Nat.two_pow_pos k
  refine Nat.or_lt_two_pow ?_ ?_
  · have h2 : x / 2 ^ k &&& m ≤ x := Nat.le_trans Nat.and_le_left (Nat.div_le_self _ _)
    have h3 : 2 ^ a * 1 ≤ 2 ^ a * 2 ^ k := Nat.mul_le_mul_left _ h1
    omega
  · rw [hp]
    exact Nat.mul_lt_mul_of_pos_right (Nat.lt_of_le_of_lt Nat.and_le_left hx) h1

def rvA (x : Nat) : Nat := stp (stp (stp x 1 6148914691236517205) 2 3689348814741910323) 4 1085102592571150095
def rvB (x : Nat) : Nat := stp (stp x 8 71777214294589695) 16 281470681808895
def rvC (x : Nat) : Nat := x / 4294967296 ||| x * 4294967296 % 18446744073709551616
theorem rv_idx : ∀ i, i < 16 → 16 + i < 64 ∧ swp 16 (16 + i) < 64 ∧ swp 8 (swp 16 (16 + i)) < 64 ∧ swp 4 (swp 8 (swp 16 (16 + i))) < 64 ∧ swp 2 (swp 4 (swp 8 (swp 16 (16 + i)))) < 64 ∧ swp 1 (swp 2 (swp 4 (swp 8 (swp 16 (16 + i))))) = 15 - i := by decide +kernel
theorem rv_bit {x i : Nat} (hx : x < 2 ^ 16) (hi : i < 16) : (rvC (rvB (rvA x))).testBit (48 + i) = x.testBit (15 - i) := by
  have hA : rvA x < 2 ^ 23 := stp_lt (a := 19) (k := 4) (stp_lt (a := 17) (k := 2) (stp_lt (a := 16) (k := 1) hx))
  have hB : rvB (rvA x) < 2 ^ 47 := stp_lt (a := 31) (k := 16) (stp_lt (a := 23) (k := 8) hA)
  obtain ⟨g1, g2, g3, g4, g5, g6⟩ := rv_idx i hi
  unfold rvC
  rw [Nat.testBit_or, show (4294967296 : Nat) = 2 ^ 32 from rfl, Nat.testBit_div_two_pow, Nat.testBit_lt_two_pow (Nat.lt_of_lt_of_le hB (Nat.pow_le_pow_right (by omega) (by omega))),
    show (18446744073709551616 : Nat) = 2 ^ 64 from rfl, Nat.testBit_mod_two_pow, Nat.mul_comm _ (2 ^ 32), Nat.testBit_two_pow_mul, show 48 + i - 32 = 16 + i by omega]
  unfold rvB rvA
  rw [stp_at (by omega) msk4 g1, stp_at (by omega) msk3 g2, stp_at (by omega) msk2 g3, stp_at (by omega) msk1 g4, stp_at (by omega) msk0 g5, g6]
  simp [show 48 + i < 64 by omega, show 32 ≤ 48 + i by omega]
theorem rvC_lt {x : Nat} (hx : x < 2 ^ 64) : rvC x < 2 ^ 64 := Nat.or_lt_two_pow (Nat.lt_of_le_of_lt (Nat.div_le_self _ _) hx) (Nat.mod_lt _ (by decide))

theorem wrap_shl {x : Nat} : IntKind.u64.wrap ((x : Int) * 4294967296) = ((x * 4294967296 % 18446744073709551616 : Nat) : Int) := by
  rw [IntKind.wrap_u64]
  omega

set_option maxHeartbeats 800000 in
theorem revBytes_any (x : Nat) (w : World) (hx : x < 2 ^ 23) :
    Calls Tryz.prog 219 #[.int .u64 x] w fun e w' => e = .returned (.int .u64 (rvC (rvB x) : Nat)) ∧ w = w' := by
  have lA1 : x / 256 &&& 71777214294589695 ≤ x / 256 := Nat.and_le_left
  have lA2 : x &&& 71777214294589695 ≤ x := Nat.and_le_left
  obtain ⟨a1, eA1⟩ : ∃ y, x / 256 &&& 71777214294589695 = y := ⟨_, rfl⟩
  obtain ⟨a2, eA2⟩ : ∃ y, x &&& 71777214294589695 = y := ⟨_, rfl⟩
  rw [eA1] at lA1
  rw [eA2] at lA2
  have hA1 : bits .and .u64 ((x : Int) / 256) 71777214294589695 = (a1 : Int) := by have h := bits_and_u64_nat (x / 256) 71777214294589695 (by omega) (by omega); rw [eA1] at h; rw [show ((x / 256 : Nat) : Int) = (x : Int) / 256 from by omega] at h; exact h
  have hA2 : bits .and .u64 (x : Int) 71777214294589695 = (a2 : Int) := by have h := bits_and_u64_nat x 71777214294589695 (by omega) (by omega); rw [eA2] at h; exact h
  have hA3 : IntKind.u64.wrap ((a2 : Int) * 256) = ((a2 * 256 : Nat) : Int) := by rw [show (a2 : Int) * 256 = ((a2 * 256 : Nat) : Int) from by omega]; exact u64_in _ (by omega)
  have lb : a1 ||| a2 * 256 < 2 ^ 31 := by have h := stp_lt (k := 8) (m := 71777214294589695) hx; unfold stp at h; rw [show (2 : Nat) ^ 8 = 256 from rfl, eA1, eA2] at h; exact h
  obtain ⟨b, eb⟩ : ∃ y, a1 ||| a2 * 256 = y := ⟨_, rfl⟩
  rw [eb] at lb
  have hA : bits .or .u64 (a1 : Int) ((a2 * 256 : Nat) : Int) = (b : Int) := by have h := bits_or_u64_nat a1 (a2 * 256) (by omega) (by omega); rw [eb] at h; exact h
  rw [← hA3] at hA
  have lB1 : b / 65536 &&& 281470681808895 ≤ b / 65536 := Nat.and_le_left
  have lB2 : b &&& 281470681808895 ≤ b := Nat.and_le_left
  obtain ⟨b1, eB1⟩ : ∃ y, b / 65536 &&& 281470681808895 = y := ⟨_, rfl⟩
  obtain ⟨b2, eB2⟩ : ∃ y, b &&& 281470681808895 = y := ⟨_, rfl⟩
  rw [eB1] at lB1
  rw [eB2] at lB2
  have hB1 : bits .and .u64 ((b : Int) / 65536) 281470681808895 = (b1 : Int) := by have h := bits_and_u64_nat (b / 65536) 281470681808895 (by omega) (by omega); rw [eB1] at h; rw [show ((b / 65536 : Nat) : Int) = (b : Int) / 65536 from by omega] at h; exact h
  have hB2 : bits .and .u64 (b : Int) 281470681808895 = (b2 : Int) := by have h := bits_and_u64_nat b 281470681808895 (by omega) (by omega); rw [eB2] at h; exact h
  have hB3 : IntKind.u64.wrap ((b2 : Int) * 65536) = ((b2 * 65536 : Nat) : Int) := by rw [show (b2 : Int) * 65536 = ((b2 * 65536 : Nat) : Int) from by omega]; exact u64_in _ (by omega)
  have lc : b1 ||| b2 * 65536 < 2 ^ 47 := by have h := stp_lt (k := 16) (m := 281470681808895) lb; unfold stp at h; rw [show (2 : Nat) ^ 16 = 65536 from rfl, eB1, eB2] at h; exact h
  obtain ⟨c, ec⟩ : ∃ y, b1 ||| b2 * 65536 = y := ⟨_, rfl⟩
  rw [ec] at lc
  have hB : bits .or .u64 (b1 : Int) ((b2 * 65536 : Nat) : Int) = (c : Int) := by have h := bits_or_u64_nat b1 (b2 * 65536) (by omega) (by omega); rw [ec] at h; exact h
  rw [← hB3] at hB
  have hC : bits .or .u64 ((c : Int) / 4294967296) (IntKind.u64.wrap ((c : Int) * 4294967296)) = ((rvC c : Nat) : Int) := by
    rw [wrap_shl, show (c : Int) / 4294967296 = ((c / 4294967296 : Nat) : Int) from by omega, bits_or_u64_nat _ _ (by omega) (by omega)]
    rfl
  have HR : rvC (rvB x) = rvC c := by
    subst ec eB1 eB2 eb eA1 eA2
    rfl
  rw [HR]
  obtain ⟨r, er⟩ : ∃ r, rvC c = r := ⟨_, rfl⟩
  rw [er] at hC ⊢
  clear HR er lA1 lA2 lB1 lB2 lb lc eA1 eA2 eb eB1 eB2 ec hx hA3 hB3
  go_enter Tryz.func219, Tryz.ntmps219
  go_wp2
  go_ret
  exact ⟨rfl, rfl⟩

set_option maxHeartbeats 800000 in
theorem rev_any (x : Nat) (w : World) (hx : x < 2 ^ 16) :
    Calls Tryz.prog 197 #[.int .u64 x] w fun e w' => e = .returned (.int .u64 (rvC (rvB (rvA x)) : Nat)) ∧ w = w' := by
  have lA1 : x / 2 &&& 6148914691236517205 ≤ x / 2 := Nat.and_le_left
  have lA2 : x &&& 6148914691236517205 ≤ x := Nat.and_le_left
  obtain ⟨a1, eA1⟩ : ∃ y, x / 2 &&& 6148914691236517205 = y := ⟨_, rfl⟩
  obtain ⟨a2, eA2⟩ : ∃ y, x &&& 6148914691236517205 = y := ⟨_, rfl⟩
  rw [eA1] at lA1
  rw [eA2] at lA2
  have hA1 : bits .and .u64 ((x : Int) / 2) 6148914691236517205 = (a1 : Int) := by have h := bits_and_u64_nat (x / 2) 6148914691236517205 (by omega) (by omega); rw [eA1] at h; rw [show ((x / 2 : Nat) : Int) = (x : Int) / 2 from by omega] at h; exact h
  have hA2 : bits .and .u64 (x : Int) 6148914691236517205 = (a2 : Int) := by have h := bits_and_u64_nat x 6148914691236517205 (by omega) (by omega); rw [eA2] at h; exact h
  have hA3 : IntKind.u64.wrap ((a2 : Int) * 2) = ((a2 * 2 : Nat) : Int) := by rw [show (a2 : Int) * 2 = ((a2 * 2 : Nat) : Int) from by omega]; exact u64_in _ (by omega)
  have lxA : a1 ||| a2 * 2 < 2 ^ 17 := by have h := stp_lt (k := 1) (m := 6148914691236517205) hx; unfold stp at h; rw [show (2 : Nat) ^ 1 = 2 from rfl, eA1, eA2] at h; exact h
  obtain ⟨a, ea⟩ : ∃ y, a1 ||| a2 * 2 = y := ⟨_, rfl⟩
  rw [ea] at lxA
  have hA : bits .or .u64 (a1 : Int) ((a2 * 2 : Nat) : Int) = (a : Int) := by have h := bits_or_u64_nat a1 (a2 * 2) (by omega) (by omega); rw [ea] at h; exact h
  rw [← hA3] at hA
  have lB1 : a / 4 &&& 3689348814741910323 ≤ a / 4 := Nat.and_le_left
  have lB2 : a &&& 3689348814741910323 ≤ a := Nat.and_le_left
  obtain ⟨b1, eB1⟩ : ∃ y, a / 4 &&& 3689348814741910323 = y := ⟨_, rfl⟩
  obtain ⟨b2, eB2⟩ : ∃ y, a &&& 3689348814741910323 = y := ⟨_, rfl⟩
  rw [eB1] at lB1
  rw [eB2] at lB2
  have hB1 : bits .and .u64 ((a : Int) / 4) 3689348814741910323 = (b1 : Int) := by have h := bits_and_u64_nat (a / 4) 3689348814741910323 (by omega) (by omega); rw [eB1] at h; rw [show ((a / 4 : Nat) : Int) = (a : Int) / 4 from by omega] at h; exact h
  have hB2 : bits .and .u64 (a : Int) 3689348814741910323 = (b2 : Int) := by have h := bits_and_u64_nat a 3689348814741910323 (by omega) (by omega); rw [eB2] at h; exact h
  have hB3 : IntKind.u64.wrap ((b2 : Int) * 4) = ((b2 * 4 : Nat) : Int) := by rw [show (b2 : Int) * 4 = ((b2 * 4 : Nat) : Int) from by omega]; exact u64_in _ (by omega)
  have lxB : b1 ||| b2 * 4 < 2 ^ 19 := by have h := stp_lt (k := 2) (m := 3689348814741910323) lxA; unfold stp at h; rw [show (2 : Nat) ^ 2 = 4 from rfl, eB1, eB2] at h; exact h
  obtain ⟨b, eb⟩ : ∃ y, b1 ||| b2 * 4 = y := ⟨_, rfl⟩
  rw [eb] at lxB
  have hB : bits .or .u64 (b1 : Int) ((b2 * 4 : Nat) : Int) = (b : Int) := by have h := bits_or_u64_nat b1 (b2 * 4) (by omega) (by omega); rw [eb] at h; exact h
  rw [← hB3] at hB
  have lC1 : b / 16 &&& 1085102592571150095 ≤ b / 16 := Nat.and_le_left
  have lC2 : b &&& 1085102592571150095 ≤ b := Nat.and_le_left
  obtain ⟨c1, eC1⟩ : ∃ y, b / 16 &&& 1085102592571150095 = y := ⟨_, rfl⟩
  obtain ⟨c2, eC2⟩ : ∃ y, b &&& 1085102592571150095 = y := ⟨_, rfl⟩
  rw [eC1] at lC1
  rw [eC2] at lC2
  have hC1 : bits .and .u64 ((b : Int) / 16) 1085102592571150095 = (c1 : Int) := by have h := bits_and_u64_nat (b / 16) 1085102592571150095 (by omega) (by omega); rw [eC1] at h; rw [show ((b / 16 : Nat) : Int) = (b : Int) / 16 from by omega] at h; exact h
  have hC2 : bits .and .u64 (b : Int) 1085102592571150095 = (c2 : Int) := by have h := bits_and_u64_nat b 1085102592571150095 (by omega) (by omega); rw [eC2] at h; exact h
  have hC3 : IntKind.u64.wrap ((c2 : Int) * 16) = ((c2 * 16 : Nat) : Int) := by rw [show (c2 : Int) * 16 = ((c2 * 16 : Nat) : Int) from by omega]; exact u64_in _ (by omega)
  have lxC : c1 ||| c2 * 16 < 2 ^ 23 := by have h := stp_lt (k := 4) (m := 1085102592571150095) lxB; unfold stp at h; rw [show (2 : Nat) ^ 4 = 16 from rfl, eC1, eC2] at h; exact h
  obtain ⟨c, ec⟩ : ∃ y, c1 ||| c2 * 16 = y := ⟨_, rfl⟩
  rw [ec] at lxC
  have hC : bits .or .u64 (c1 : Int) ((c2 * 16 : Nat) : Int) = (c : Int) := by have h := bits_or_u64_nat c1 (c2 * 16) (by omega) (by omega); rw [ec] at h; exact h
  rw [← hC3] at hC
  have HR : rvA x = c := by
    subst ec eC1 eC2 eb eB1 eB2 ea eA1 eA2
    rfl
  have CR := hid (revBytes_any c w lxC)
  rw [← HR] at CR
  obtain ⟨r, er⟩ : ∃ r, rvC (rvB (rvA x)) = r := ⟨_, rfl⟩
  rw [er] at CR ⊢
  rw [HR] at CR
  clear er HR lA1 lA2 lB1 lB2 lC1 lC2 lxA lxB lxC ea eA1 eA2 eb eB1 eB2 ec eC1 eC2 hx hA3 hB3 hC3
  go_enter Tryz.func197, Tryz.ntmps197
  go_wp2_with fail
  with_reducible refine Calls.mono CR.out ?_
  rintro e w2 ⟨rfl, rfl⟩
  go_wp2
  go_ret
  exact ⟨rfl, rfl⟩

theorem opp_nth {l : List Int} {k : Nat} (h : k < l.length) : nth (oppL l) k = 1 - nth l k := by
  simp [nth, oppL, List.getD, h]
theorem free_pb {l : List Int} {n : Nat} (hl : l.length = n) (h1 : 1 ≤ n) (hn : n ≤ 16) : rvC (rvB (rvA (pb (oppL l) n))) / 2 ^ (64 - n) = pb (freeL l) n := by
  have h16 : pb (oppL l) n < 2 ^ 16 := Nat.lt_of_lt_of_le (pb_lt _ n) (Nat.pow_le_pow_right (by omega) hn)
  have hA : rvA (pb (oppL l) n) < 2 ^ 23 := stp_lt (a := 19) (k := 4) (stp_lt (a := 17) (k := 2) (stp_lt (a := 16) (k := 1) h16))
  have hB : rvB (rvA (pb (oppL l) n)) < 2 ^ 47 := stp_lt (a := 31) (k := 16) (stp_lt (a := 23) (k := 8) hA)
  refine pb_eq ?_ fun j hj => ?_
  · refine Nat.div_lt_of_lt_mul ?_
    rw [← Nat.pow_add, show 64 - n + n = 64 by omega]
    exact rvC_lt (Nat.lt_of_lt_of_le hB (Nat.pow_le_pow_right (by omega) (by omega)))
  · rw [Nat.testBit_div_two_pow, show j + (64 - n) = 48 + (16 - n + j) by omega, rv_bit h16 (by omega), pb_bit, show 15 - (16 - n + j) = n - 1 - j by omega, opp_nth (by omega), nth_free (by omega), hl]
    simp; omega

set_option maxRecDepth 100000 in
set_option maxHeartbeats 3200000 in
theorem freeAs_any (l : List Int) (n : Nat) (w : World) (hl : l.length = n) (h1 : 1 ≤ n) (hn : n ≤ 16) (hb : ∀ x ∈ l, x = 0 ∨ x = 1) :
    Calls Tryz.prog 159 #[vot (pb l n) n] w fun e w' => e = .returned (vot (pb (freeL l) n) n) ∧ Below w.heap.size w w' := by
  have HF := free_pb hl h1 hn
  have CO := hid (fun W : World => opposed_any l n W hl (by omega) hb)
  rw [pk_pb, pk_pb] at CO
  have h16 : pb (oppL l) n < 2 ^ 16 := Nat.lt_of_lt_of_le (pb_lt _ n) (Nat.pow_le_pow_right (by omega) hn)
  obtain ⟨x, hxe⟩ : ∃ x, pb l n = x := ⟨_, rfl⟩
  obtain ⟨o, hoe⟩ : ∃ o, pb (oppL l) n = o := ⟨_, rfl⟩
  rw [hxe, hoe] at CO
  rw [hxe]
  rw [hoe] at HF h16
  have CR := hid (fun W : World => show Calls Tryz.prog 197 #[.int .u64 o] W fun e w' => e = .returned (.int .u64 (rvC (rvB (rvA o)) : Nat)) ∧ Below W.heap.size W w' from (rev_any o W h16).mono (by rintro e w' ⟨he, rfl⟩; exact ⟨he, Below.refl _ _⟩))
  obtain ⟨m, hm⟩ : ∃ m, 64 - n = m := ⟨_, rfl⟩
  obtain ⟨r, hr⟩ : ∃ r, rvC (rvB (rvA o)) = r := ⟨_, rfl⟩
  obtain ⟨q, hq⟩ : ∃ q, pb (freeL l) n = q := ⟨_, rfl⟩
  rw [hr] at CR
  rw [hr, hm, hq] at HF
  rw [hq]
  have CW := hid (fun W : World => show Calls Tryz.prog 196 #[vot x n, .int .u64 ((r : Int) / 2 ^ m)] W fun e w' => e = .returned (vot q n) ∧ Below W.heap.size W w' from by
    rw [show (r : Int) / 2 ^ m = ((r / 2 ^ m : Nat) : Int) from by push_cast; rfl, HF]; exact withOnes_any x n q W)
  have hf2 := fld_vo o n
  have hmi : (64 : Int) - (n : Int) = (m : Int) := by omega
  have hwm : IntKind.i64.wrap (m : Int) = (m : Int) := IntWalk.i64_in _ (by omega)
  have hm0 : (0 : Int) ≤ (m : Int) := by omega
  have hm64 : (m : Int) < 64 := by omega
  have hm64' : m < 64 := by omega
  clear HF hq hr hoe hxe h16 hb hl h1
  have hmn := hid hm
  clear hm
  have hz : (w.alloc (.cells #[.int .u64 x, .int .i64 n] 151)).heap.size = w.heap.size + 1 := by simp
  have X := (Vr.new w x n).on (row := none) (grown_alloc _ (.cells #[.int .u64 0, .int .i64 0] 151) none) (by simp)
  have c0 := X.c0
  have c1 := X.c1
  have X1 : Vr ((w.alloc (.cells #[.int .u64 x, .int .i64 n] 151)).alloc (.cells #[.int .u64 0, .int .i64 0] 151)) (w.heap.size + 1) 0 0 := by rw [← hz]; exact Vr.new _ 0 0
  have B0 := hid (((Below.refl w.heap.size w).alloc (Nat.le_refl _) (.cells #[.int .u64 x, .int .i64 n] 151)).alloc (by simp) (.cells #[.int .u64 0, .int .i64 0] 151))
  have hzW : ((w.alloc (.cells #[.int .u64 x, .int .i64 n] 151)).alloc (.cells #[.int .u64 0, .int .i64 0] 151)).heap.size = w.heap.size + 2 := by simp
  have HX := hid X
  have HX1 := hid X1
  have HZ := hid hzW
  clear X X1 hz hzW
  go_enter Tryz.func159, Tryz.ntmps159
  go_wp2_with fail
  with_reducible refine Calls.mono (CO.out _) ?_
  rintro e w2 ⟨rfl, b2⟩
  rw [HZ.out] at b2
  have hz3 : w.heap.size + 2 ≤ w2.heap.size := by have h := b2.size; rw [HZ.out] at h; exact h
  have Y := HX.out.below b2 (by omega)
  have HY1 := hid (HX1.out.below b2 (by omega))
  have B2 := hid (B0.out.trans (b2.mono (by omega)))
  have d0 := Y.c0
  have d1 := Y.c1
  clear b2 HX HX1 HZ B0 c0 c1 Y
  go_wp2_with fail
  go_region_held3 (fun w' => w'.cell? ⟨w.heap.size, 0, none⟩ = some (.int .u64 x) ∧ w'.cell? ⟨w.heap.size, 1, none⟩ = some (.int .i64 n))
    (first
      | go_keep
      | (go_split_ands
         refine ⟨?_, ?_⟩ <;> exact (b4.cell (by simp only []; omega)).trans (by assumption))
      | (go_split_ands
         refine ⟨?_, ?_⟩ <;> exact (b3.cell (by simp; omega)).trans (by assumption)))
    (first
      | (go_at_call 197; with_reducible refine Calls.mono (CR.out _) ?_; rintro r w3 ⟨rfl, b3⟩; have hz5 : w.heap.size + 2 ≤ w3.heap.size := (by have h := b3.size; simp at h; omega))
      | (go_at_call 196; with_reducible refine Calls.mono (CW.out _) ?_; rintro r w4 ⟨rfl, b4⟩; have hz6 : w.heap.size + 2 ≤ w4.heap.size := (by have h := b4.size; omega); have Y := ((HY1.out.on (row := none) (drew_grown _) (by simp)).below b3 (by simp; omega)).below b4 (by omega); have f0 := Y.fz 0; have f1 := Y.fz 1; have k0 := Y.c0; have k1 := Y.c1))
  have B4 := (B2.out.grown (drew_grown _) (by omega) (by simp)).trans (b3.mono (by simp; omega))
  have BB := hid (((B4.trans (b4.mono (by omega))).setCell (p := ⟨w.heap.size + 1, 0, none⟩) (by simp) (.int .u64 q)).setCell (p := ⟨w.heap.size + 1, 1, none⟩) (by simp) (.int .i64 n))
  have HY := hid (Y.set q n)
  clear b3 b4 Y B4
  go_wp2
  (try simp only [Exit.inBlock, Exit.then])
  refine bodyPost_ret (results_cell_row rfl _ _ (w.heap.size + 1) 151 _ (0, 0) _ (by simp [Act.put]) HY.out Tryz.underlying151 rfl size_vr) rfl ?_
  exact ⟨rfl, BB.out⟩
end Go.Proofs.YtkejcajboneniabGreatDoor
namespace Go.Proofs.YtkejcajboneniabGreatDoor
open Go.RowKit

theorem flowsF_any (x n T : Nat) (w : World) :
    Calls Tryz.prog 204 #[vot x n, .int .i64 T] w fun e w' =>
      e = .returned (.func (.func 222) #[] #[.pointer (some ⟨w.heap.size, 0, none⟩), .pointer (some ⟨w.heap.size + 1, 0, none⟩)]) ∧
      w' = (w.alloc (.cells #[.int .u64 x, .int .i64 n] 151)).alloc (.cells #[.int .i64 T] 3) := by
  go_enter Tryz.func204, Tryz.ntmps204
  go_wp2
  go_ret
  exact ⟨rfl, rfl⟩

attribute [local go_sem] Oper.semAt_some
theorem grown_some {w w' : World} {b : Nat} (h : Below w.heap.size w w') : w.grownBy w' (some b) := ⟨h.os, h.tape, h.output, h.size, fun k hk _ => h.block k hk⟩
theorem grown_set2 (w : World) (b : Nat) (v u : Value) : w.grownBy ((w.setCell ⟨b, 0, none⟩ v).setCell ⟨b, 1, none⟩ u) (some b) := by
  refine ⟨rfl, rfl, rfl, by simp [World.setCell], fun k hk hne => ?_⟩
  have hb : k ≠ b := fun e => hne (by rw [e])
  exact (heap_setCell_other _ ⟨b, 1, none⟩ k u (by simpa using hb)).trans (heap_setCell_other w ⟨b, 0, none⟩ k v (by simpa using hb))

set_option maxRecDepth 100000 in
set_option maxHeartbeats 1600000 in
/-- The iterator: the flows after 0, 1 .. T steps are handed over to whatever goes on with J and stops with Jx; the ring lies in a block of its own, B. -/
theorem flows_in (m l h : Nat) (n T : Nat) (lst : List Int) (J : Nat → World → Prop) (Jx : World → Prop) (W0 : World) (B : Nat) (hB : W0.heap.size = B)
    (hL : lst.length = n) (h1 : 1 ≤ n) (hn : n ≤ 16) (hb : ∀ x ∈ lst, x = 0 ∨ x = 1) (hT : T ≤ 60)
    (hc1 : Vr W0 h (pb lst n) n) (hc2 : W0.cell? ⟨h + 1, 0, none⟩ = some (.int .i64 T)) (hh : h + 1 < W0.heap.size)
    (hJb : ∀ (k x : Nat) (W W' : World), J k W → Vr W B x n → W.grownBy W' (some B) → J k W')
    (hY : ∀ (k x : Nat) (W : World), J k W → Vr W B x n → k ≤ T →
      YieldAt Fence.wide (m - 1) Tryz.prog l #[.int .i64 (flowN (driveI k lst))] W fun e W' =>
        (e = .returned (.bool true) ∧ J (k + 1) W' ∧ Vr W' B x n) ∨ (e = .returned (.bool false) ∧ Jx W'))
    (h0 : ∀ W, W0.grownBy W none → J 0 W) :
    CallsIn Fence.wide m Tryz.prog 222 #[.func (.yield l) #[] #[], .pointer (some ⟨h, 0, none⟩), .pointer (some ⟨h + 1, 0, none⟩)] W0 fun e W' => (∃ v, e = .returned v) ∧ (J (T + 1) W' ∨ Jx W') := by
  refine callsIn_of_wp Tryz.func222 rfl trivial ?_ rfl
  simp only [Tryz.ntmps222, List.size_toArray, List.length_cons, List.length_nil, Nat.reduceAdd, Nat.reduceSub, Array.replicate_succ, Array.replicate_zero, List.push_toArray, List.append_toArray, List.nil_append, List.cons_append]
  subst hB
  have HY := hid hY; clear hY
  have HJB := hid hJb; clear hJb
  have HJ0 := hid h0; clear h0
  have HDL := hid (fun k => show (driveI k lst).length = n from by rw [driveI_len, hL])
  have HDB := hid (fun k => (end_driveI hb k).2)
  have CF := hid (fun (k : Nat) (W : World) => flow_any (driveI k lst) n W (HDL.out k) h1 hn (HDB.out k))
  have CD := hid (fun (k : Nat) (W : World) => driven_any (driveI k lst) n W (HDL.out k) h1 hn (HDB.out k))
  have hwd : Fence.wide.depth.isSome = false := rfl
  have hf1 : Fence.wide.fn 203 := trivial
  have hf2 : Fence.wide.fn 190 := trivial
  obtain ⟨x0, hx0⟩ : ∃ x0, pb lst n = x0 := ⟨_, rfl⟩
  rw [hx0] at hc1
  have c0 := hc1.c0
  have c1 := hc1.c1
  have hc3 : (W0.alloc (.cells #[.int .u64 x0, .int .i64 n] 151)).cell? ⟨h + 1, 0, none⟩ = some (.int .i64 T) := (World.cell?_of_block (Below.heap_alloc W0 _ (h + 1) hh)).trans hc2
  have HX := hid (show Vr (W0.alloc (.cells #[.int .u64 x0, .int .i64 n] 151)) W0.heap.size (pb (driveI 0 lst) n) n from by rw [show pb (driveI 0 lst) n = x0 from hx0]; exact Vr.new _ _ _)
  have HJ := hid (HJ0.out (W0.alloc (.cells #[.int .u64 x0, .int .i64 n] 151)) (grown_alloc _ _ none))
  clear hx0 hc1 hb hL HJ0
  gi_wp2
  obtain ⟨W1, hW1⟩ : ∃ W1, W0.alloc (.cells #[.int .u64 x0, .int .i64 n] 151) = W1 := ⟨_, rfl⟩
  rw [hW1] at HX HJ ⊢
  clear hW1 hc3 c0 c1 hc2
  gi_loopw [7] (fun i wr => ∃ k : Nat, i = .int .i64 k ∧ k ≤ T ∧ Hid (J k wr) ∧ Hid (Vr wr W0.heap.size (pb (driveI k lst) n) n)) (fun i _ => T - (intOf i).toNat)
  case atStart => exact ⟨0, rfl, Nat.zero_le _, HJ, HX⟩
  case round =>
    clear HJ HX
    obtain ⟨k, rfl, hk, HJ, HX⟩ := hrel
    have c0 := HX.out.c0
    have c1 := HX.out.c1
    have CFk := hid (CF.out k)
    have HYk := hid (fun (x : Nat) (W : World) => HY.out k x W)
    obtain ⟨x, hx⟩ : ∃ x, pb (driveI k lst) n = x := ⟨_, rfl⟩
    obtain ⟨fl, hfl⟩ : ∃ fl, flowN (driveI k lst) = fl := ⟨_, rfl⟩
    have CDk := hid (CD.out k)
    rw [← driveI_last] at CDk
    rw [hx, hfl] at CFk
    rw [hx] at c0 HX CDk
    rw [hfl] at HYk
    clear hx hfl
    by_cases hlt : k < T
    · have hlt2 : (k : Int) < (T : Int) := by omega
      gi_wp2_with (gi_at_call 203; refine (callsIn_wide.2 (CFk.out _)).mono ?_; rintro e W3 ⟨rfl, b3⟩; have X3 := HX.out.below b3 HX.out.lt; have J3 := HJB.out k _ _ _ HJ.out HX.out (grown_some b3); obtain ⟨fn, tmps, assign, body, hy, hRd⟩ := HYk.out _ _ J3 X3 (by omega); have HR := hid hRd; clear hRd)
      refine HR.out.mono ?_
      rintro e W4 (⟨rfl, hj, hm⟩ | ⟨rfl, hj⟩)
      · have HJ4 := hid hj
        have HX4 := hid hm
        have d0 := hm.c0
        have d1 := hm.c1
        clear hj hm b3 X3 J3 HR hy HX HJ c0 c1
        obtain ⟨y, hy⟩ : ∃ y, pb (driveI (k + 1) lst) n = y := ⟨_, rfl⟩
        rw [hy] at CDk
        have HYY := hid hy
        clear hy
        gi_wp2_with (gi_at_call 190; refine (callsIn_wide.2 (CDk.out _)).mono ?_; rintro e W5 ⟨rfl, b5⟩; have X5 := HX4.out.below b5 HX4.out.lt; have J5 := hid (HJB.out (k + 1) _ _ _ HJ4.out HX4.out (grown_some b5)); have f0 := X5.fz 0; have f1 := X5.fz 1; have k0 := X5.c0; have k1 := X5.c1)
        have J6 := hid (HJB.out (k + 1) _ _ _ J5.out X5 (grown_set2 W5 W0.heap.size (.int .u64 y) (.int .i64 n)))
        have X6 := hid (show Vr ((W5.setCell ⟨W0.heap.size, 0, none⟩ (.int .u64 y)).setCell ⟨W0.heap.size, 1, none⟩ (.int .i64 n)) W0.heap.size (pb (driveI (k + 1) lst) n) n from by rw [HYY.out]; exact X5.set y n)
        clear X5 J5 b5 f0 f1 k0 k1
        go_roundw
        case rel => exact ⟨k + 1, by go_num, by omega, J6, X6⟩
        case measure => simp [intOf]; omega
      · have HJ3 := hid hj; clear hj
        gi_wp2
        refine bodyPost_ret (results_none rfl _ _ _) rfl ?_
        exact ⟨⟨_, rfl⟩, .inr HJ3.out⟩
    · obtain rfl : k = T := by omega
      gi_wp2_with (gi_at_call 203; refine (callsIn_wide.2 (CFk.out _)).mono ?_; rintro e W3 ⟨rfl, b3⟩; have X3 := HX.out.below b3 HX.out.lt; have J3 := HJB.out k _ _ _ HJ.out HX.out (grown_some b3); obtain ⟨fn, tmps, assign, body, hy, hRd⟩ := HYk.out _ _ J3 X3 (by omega); have HR := hid hRd; clear hRd)
      refine HR.out.mono ?_
      rintro e W4 (⟨rfl, hj, hm⟩ | ⟨rfl, hj⟩)
      · have HJ3 := hid hj; clear hj hm
        gi_wp2
        go_end0
        exact ⟨⟨_, rfl⟩, .inl HJ3.out⟩
      · have HJ3 := hid hj; clear hj
        gi_wp2
        go_end0
        exact ⟨⟨_, rfl⟩, .inr HJ3.out⟩
end Go.Proofs.YtkejcajboneniabGreatDoor
namespace Go.Proofs.YtkejcajboneniabGreatDoor
open Go.RowKit

theorem steps11_any (T : Int) (w : World) : Calls Tryz.prog 189 #[.int .i64 T] w fun e w' => e = .returned (.bool (within T 0 60)) ∧ w = w' := by
  by_cases h : 0 ≤ T
  · go_enter Tryz.func189, Tryz.ntmps189
    go_wp2
    go_ret
    exact ⟨ret_bool (by unfold within; simp [h]), rfl⟩
  · have h' : decide (0 ≤ T) = false := by simpa using h
    go_enter Tryz.func189, Tryz.ntmps189
    go_wp2
    go_ret
    exact ⟨ret_bool (by unfold within; simp; omega), rfl⟩

set_option maxHeartbeats 1600000 in
theorem implFlowOf_any (A : Option Addr) (n c : Nat) (l : List Int) (w : World) (hs : Sl w w.heap.size A n l) :
    Calls Tryz.prog 173 #[.slice A n c] w fun e w' => e = .returned (.int .i64 (flowOut l)) ∧ Below w.heap.size w w' := by
  have HL := hid hs.len
  have CK := hid (bitsI_any A n c l w w.heap.size hs)
  cases hok : bitsOk l with
  | false =>
    have HV := hid (show flowOut l = -1 from by unfold flowOut; rw [hok]; rfl)
    rw [hok] at CK
    clear hok
    go_enter Tryz.func173, Tryz.ntmps173
    go_wp2_with fail
    with_reducible refine Calls.mono CK.out ?_
    rintro e w' ⟨rfl, rfl⟩
    go_wp2
    go_ret
    exact ⟨ret_int HV.out.symm, Below.refl _ _⟩
  | true =>
    obtain ⟨hb, h1, h2⟩ := bitsOk_iff.1 hok
    rw [HL.out] at h1 h2
    have HV := hid (show flowOut l = (flowN l : Int) from by unfold flowOut; rw [if_pos hok])
    rw [hok] at CK
    have CV := hid (bitRingOf_any A n c l w hs h2 hb)
    have CF := hid (fun W : World => flow_any l n W HL.out h1 h2 hb)
    clear hok hb hs
    go_enter Tryz.func173, Tryz.ntmps173
    go_wp2_with fail
    with_reducible refine Calls.mono CK.out ?_
    rintro e w' ⟨rfl, rfl⟩
    go_wp2_with fail
    with_reducible refine Calls.mono CV.out ?_
    rintro e w1 ⟨rfl, b1⟩
    have B1 := hid b1
    clear b1
    go_wp2_with fail
    with_reducible refine Calls.mono (CF.out _) ?_
    rintro e w2 ⟨rfl, b2⟩
    have B2 := hid (below_tr B1.out b2)
    clear b2
    go_wp2
    go_ret
    exact ⟨ret_int HV.out.symm, B2.out⟩

set_option maxHeartbeats 1600000 in
theorem implEndFlow_any (A : Option Addr) (n c : Nat) (l : List Int) (w : World) (hs : Sl w w.heap.size A n l) :
    Calls Tryz.prog 174 #[.slice A n c] w fun e w' => e = .returned (.int .i64 (endOut l)) ∧ Below w.heap.size w w' := by
  have HL := hid hs.len
  have CK := hid (bitsI_any A n c l w w.heap.size hs)
  have CO := hid (implOnesOf_any A n c l w hs)
  cases hok : bitsOk l with
  | false =>
    have HV := hid (show endOut l = -1 from by unfold endOut; rw [hok]; rfl)
    rw [hok] at CK
    clear hok
    go_enter Tryz.func174, Tryz.ntmps174
    go_wp2_with fail
    with_reducible refine Calls.mono CK.out ?_
    rintro e w' ⟨rfl, rfl⟩
    go_wp2
    go_ret
    exact ⟨ret_int HV.out.symm, Below.refl _ _⟩
  | true =>
    obtain ⟨hb, h1, h2⟩ := bitsOk_iff.1 hok
    have hle := ones_le l
    have hv : endOut l = ((min (ones l) (l.length - ones l) : Nat) : Int) := by unfold endOut; rw [if_pos hok]; rfl
    rw [show onesOut l = (ones l : Int) from by unfold onesOut; rw [if_pos hok]] at CO
    rw [HL.out] at h1 h2 hle hv
    obtain ⟨q, hq⟩ : ∃ q, ones l = q := ⟨_, rfl⟩
    rw [hq] at hv hle CO
    have HV := hid hv
    have w1 : IntKind.i64.wrap ((n : Int) - (q : Int)) = (n : Int) - (q : Int) := IntWalk.i64_in _ (by omega)
    have hmn : min (q : Int) ((n : Int) - (q : Int)) = ((min q (n - q) : Nat) : Int) := by omega
    rw [hok] at CK
    clear hok hs hb hv hq
    go_enter Tryz.func174, Tryz.ntmps174
    go_wp2_with fail
    with_reducible refine Calls.mono CK.out ?_
    rintro e w' ⟨rfl, rfl⟩
    go_wp2_with fail
    with_reducible refine Calls.mono CO.out ?_
    rintro e w2 ⟨rfl, b2⟩
    have B2 := hid b2
    clear b2
    go_wp2
    go_ret
    exact ⟨ret_int (by rw [HV.out]), B2.out⟩

set_option maxHeartbeats 1600000 in
theorem implFreeAs_any (A : Option Addr) (n c : Nat) (l : List Int) (w : World) (hs : Sl w w.heap.size A n l) :
    Calls Tryz.prog 124 #[.slice A n c] w fun e w' => ∃ A2 m c2, e = .returned (.slice A2 m c2) ∧ w'.ownsRow w.heap.size 3 1 (.slice A2 m c2) m (ints (freeOut l)) ∧ m ≤ 16 ∧ Below w.heap.size w w' := by
  have HL := hid hs.len
  have CK := hid (bitsI_any A n c l w w.heap.size hs)
  cases hok : bitsOk l with
  | false =>
    have HV := hid (show freeOut l = [] from by unfold freeOut; rw [hok]; rfl)
    rw [hok] at CK
    clear hok
    go_enter Tryz.func124, Tryz.ntmps124
    go_wp2_with fail
    with_reducible refine Calls.mono CK.out ?_
    rintro e w' ⟨rfl, rfl⟩
    go_wp2
    go_ret
    exact ⟨_, 0, _, rfl, by rw [HV.out]; exact World.ownsRow_nil _ _ _ _, by omega, Below.refl _ _⟩
  | true =>
    obtain ⟨hb, h1, h2⟩ := bitsOk_iff.1 hok
    rw [HL.out] at h1 h2
    have HV := hid (show freeOut l = freeL l from by unfold freeOut; rw [if_pos hok])
    rw [hok] at CK
    have CV := hid (bitRingOf_any A n c l w hs h2 hb)
    have CF := hid (fun W : World => freeAs_any l n W HL.out h1 h2 hb)
    have CR := hid (fun W : World => voteRow_any (freeL l) n W (by rw [freeL_len, HL.out]) (by omega) (freeL_bits hb))
    rw [pk_pb] at CR
    have hf1 := fld_vr (pb (freeL l) n) n
    clear hok hb hs
    go_enter Tryz.func124, Tryz.ntmps124
    go_wp2_with fail
    with_reducible refine Calls.mono CK.out ?_
    rintro e w' ⟨rfl, rfl⟩
    go_wp2_with fail
    with_reducible refine Calls.mono CV.out ?_
    rintro e w1 ⟨rfl, b1⟩
    have B1 := hid b1
    clear b1
    go_wp2_with fail
    with_reducible refine Calls.mono (CF.out _) ?_
    rintro e w2 ⟨rfl, b2⟩
    have B2 := hid (below_tr B1.out b2)
    clear b2 B1
    go_wp2_with fail
    with_reducible refine Calls.mono (CR.out _) ?_
    rintro e w3 ⟨A3, c3, rfl, o3, b3⟩
    have O3 := hid (own_mono o3 B2.out.size)
    have B3 := hid (below_tr B2.out b3)
    clear b3 o3 B2
    go_wp2
    go_ret
    exact ⟨_, n, _, rfl, by rw [HV.out]; exact O3.out, h2, B3.out⟩

set_option maxRecDepth 100000 in
set_option maxHeartbeats 3200000 in
theorem implDrivenAfter_any (A : Option Addr) (n c : Nat) (l : List Int) (s : Int) (w : World) (hs : Sl w w.heap.size A n l) :
    Calls Tryz.prog 155 #[.slice A n c, .int .i64 s] w fun e w' => ∃ A2 m c2, e = .returned (.slice A2 m c2) ∧ w'.ownsRow w.heap.size 3 1 (.slice A2 m c2) m (ints (drivenAft l s)) ∧ m ≤ 16 ∧ Below w.heap.size w w' := by
  have HL := hid hs.len
  have CK := hid (bitsI_any A n c l w w.heap.size hs)
  have CS := hid (steps11_any s w)
  cases hok : (bitsOk l && within s 0 60) with
  | false =>
    have HV := hid (show drivenAft l s = [] from by unfold drivenAft; rw [hok]; rfl)
    cases h0 : bitsOk l with
    | false =>
      rw [h0] at CK
      clear hok h0 CS
      go_enter Tryz.func155, Tryz.ntmps155
      go_wp2_with (go_at_call 78; with_reducible refine Calls.mono CK.out ?_; rintro e w' ⟨rfl, rfl⟩)
      go_ret
      exact ⟨_, 0, _, rfl, by rw [HV.out]; exact World.ownsRow_nil _ _ _ _, by omega, Below.refl _ _⟩
    | true =>
      rw [h0, Bool.true_and] at hok
      rw [h0] at CK
      rw [hok] at CS
      clear h0 hok
      go_enter Tryz.func155, Tryz.ntmps155
      go_wp2_with (first | (go_at_call 78; with_reducible refine Calls.mono CK.out ?_; rintro e w' ⟨rfl, rfl⟩) | (go_at_call 189; with_reducible refine Calls.mono CS.out ?_; rintro e w' ⟨rfl, rfl⟩))
      go_ret
      exact ⟨_, 0, _, rfl, by rw [HV.out]; exact World.ownsRow_nil _ _ _ _, by omega, Below.refl _ _⟩
  | true =>
    have hok2 : bitsOk l = true ∧ within s 0 60 = true := by simpa using hok
    obtain ⟨h0, hws⟩ := hok2
    obtain ⟨hb, h1, h2⟩ := bitsOk_iff.1 h0
    rw [HL.out] at h1 h2
    have hsb := within_iff.1 hws
    obtain ⟨S, rfl⟩ : ∃ S : Nat, s = S := Int.eq_ofNat_of_zero_le hsb.1
    have hS : S ≤ 60 := by omega
    have HV := hid (show drivenAft l S = driveI S l from by unfold drivenAft; rw [if_pos hok, Int.toNat_natCast])
    rw [h0] at CK
    rw [hws] at CS
    have CV := hid (bitRingOf_any A n c l w hs h2 hb)
    have HDL := hid (fun k => show (driveI k l).length = n from by rw [driveI_len, HL.out])
    have HDB := hid (fun k => (end_driveI hb k).2)
    have CD := hid (fun (k : Nat) (W : World) => driven_any (driveI k l) n W (HDL.out k) h1 h2 (HDB.out k))
    have CR := hid (fun W : World => voteRow_any (driveI S l) n W (HDL.out S) (by omega) (HDB.out S))
    rw [pk_pb] at CR
    clear hok h0 hb hs hws hsb
    go_enter Tryz.func155, Tryz.ntmps155
    go_wp2_with (first | (go_at_call 78; with_reducible refine Calls.mono CK.out ?_; rintro e w' ⟨rfl, rfl⟩) | (go_at_call 189; with_reducible refine Calls.mono CS.out ?_; rintro e w' ⟨rfl, rfl⟩))
    with_reducible refine Calls.mono CV.out ?_
    rintro e w1 ⟨rfl, b1⟩
    have hzb := b1.size
    have X1 := hid (Vr.new w1 (pb l n) n)
    have B1 := hid (b1.alloc (by omega) (.cells #[.int .u64 (pb l n : Nat), .int .i64 n] 151))
    have hz2 : (w1.alloc (.cells #[.int .u64 (pb l n : Nat), .int .i64 n] 151)).heap.size = w1.heap.size + 1 := by simp
    clear CV b1
    go_wp2_with fail
    obtain ⟨b, hbe⟩ : ∃ b, w1.heap.size = b := ⟨_, rfl⟩
    obtain ⟨w2, hw2⟩ : ∃ W, w1.alloc (.cells #[.int .u64 (pb l n : Nat), .int .i64 n] 151) = W := ⟨_, rfl⟩
    rw [hbe] at X1 hz2 hzb ⊢
    rw [hw2] at X1 B1 hz2 ⊢
    clear hw2 hbe
    have X2 : Hid (Vr w2 b (pb (driveI 0 l) n) n) := hid X1.out
    clear X1
    go_loopw [17] (fun i wr => ∃ k : Nat, i = .int .i64 k ∧ k ≤ S ∧ Hid (Vr wr b (pb (driveI k l) n) n) ∧ b < wr.heap.size ∧ Hid (Below w.heap.size w wr)) (fun i _ => S - (intOf i).toNat)
    case atStart => exact ⟨0, rfl, Nat.zero_le _, X2, by omega, B1⟩
    case round =>
      clear X2 hz2 B1
      obtain ⟨k, rfl, hk, X, hbz, HB⟩ := hrel
      have c0 := X.out.c0
      have c1 := X.out.c1
      by_cases hlt : k < S
      · have hlt2 : (k : Int) < (S : Int) := by omega
        have CDk := hid (CD.out k)
        rw [← driveI_last] at CDk
        obtain ⟨x, hx⟩ : ∃ x, pb (driveI k l) n = x := ⟨_, rfl⟩
        obtain ⟨y, hy⟩ : ∃ y, pb (driveI (k + 1) l) n = y := ⟨_, rfl⟩
        rw [hx] at c0 CDk X
        rw [hy] at CDk
        have HYY := hid hy
        clear hx hy
        go_wp2_with fail
        with_reducible refine Calls.mono (CDk.out _) ?_
        rintro e w4 ⟨rfl, b4⟩
        have hs4 := b4.size
        have X4 := X.out.below b4 (by omega)
        have f0 := X4.fz 0
        have f1 := X4.fz 1
        have j0 := X4.c0
        have j1 := X4.c1
        have X5 : Hid (Vr ((w4.setCell ⟨b, 0, none⟩ (.int .u64 y)).setCell ⟨b, 1, none⟩ (.int .i64 n)) b (pb (driveI (k + 1) l) n) n) := hid (by rw [HYY.out]; exact X4.set y n)
        have B5 := hid (((HB.out.trans (b4.mono (by omega))).setCell (p := ⟨b, 0, none⟩) (by simp only []; omega) (.int .u64 y)).setCell (p := ⟨b, 1, none⟩) (by simp only []; omega) (.int .i64 n))
        have hz5 : ((w4.setCell ⟨b, 0, none⟩ (.int .u64 y)).setCell ⟨b, 1, none⟩ (.int .i64 n)).heap.size = w4.heap.size := by simp [World.setCell]
        clear X4 b4 HB X c0 c1
        go_wp2_with fail
        go_roundw
        case rel => exact ⟨k + 1, by go_num, by omega, X5, by omega, B5⟩
        case measure => simp [intOf]; omega
      · obtain rfl : k = S := by omega
        obtain ⟨x, hx⟩ : ∃ x, pb (driveI k l) n = x := ⟨_, rfl⟩
        rw [hx] at c0 CR
        clear hx X
        go_wp2_with fail
        with_reducible refine Calls.mono (CR.out _) ?_
        rintro e w3 ⟨A3, c3, rfl, o3, b3⟩
        have O3 := hid (own_mono o3 HB.out.size)
        have B3 := hid (below_tr HB.out b3)
        clear b3 o3
        go_wp2
        go_ret
        exact ⟨_, n, _, rfl, by rw [HV.out]; exact O3.out, h2, B3.out⟩

set_option maxHeartbeats 800000 in
theorem implDrivenOf_any (A : Option Addr) (n c : Nat) (l : List Int) (w : World) (hs : Sl w w.heap.size A n l) :
    Calls Tryz.prog 120 #[.slice A n c] w fun e w' => ∃ A2 m c2, e = .returned (.slice A2 m c2) ∧ w'.ownsRow w.heap.size 3 1 (.slice A2 m c2) m (ints (drivenOut l)) ∧ m ≤ 16 ∧ Below w.heap.size w w' := by
  have HE := hid (show drivenAft l 1 = drivenOut l from by
    unfold drivenAft drivenOut
    rw [show within 1 0 60 = true from by decide, Bool.and_true]
    rfl)
  have CA := hid (implDrivenAfter_any A n c l 1 w hs)
  rw [HE.out] at CA
  go_enter Tryz.func120, Tryz.ntmps120
  go_wp2_with fail
  with_reducible refine Calls.mono CA.out ?_
  rintro e w3 ⟨A3, m, c3, rfl, o3, hm, b3⟩
  have O3 := hid o3
  have B3 := hid b3
  clear o3 b3
  go_wp2
  go_ret
  exact ⟨_, m, _, rfl, O3.out, hm, B3.out⟩

attribute [local go_sem] Oper.semAt_some

set_option maxRecDepth 100000 in
set_option maxHeartbeats 3200000 in
theorem flowing_yes (A : Option Addr) (n c : Nat) (l : List Int) (w : World) (hs : Sl w w.heap.size A n l) (hok : bitsOk l = true) :
    Calls Tryz.prog 175 #[.slice A n c] w fun e w' => e = .returned (.int .i64 (flowingOut l)) ∧ Below w.heap.size w w' := by
  have HL := hid hs.len
  obtain ⟨hb, h1, h2⟩ := bitsOk_iff.1 hok
  rw [HL.out] at h1 h2
  obtain ⟨hk1, hk2, hk3⟩ := flowK_spec hok
  rw [HL.out] at hk3
  have HKE := hid hk1
  have HK := hid hk3
  clear hk1 hk2 hk3
  have HOK := hid hok
  have HV := hid (show flowingOut l = (flowK l : Int) from by unfold flowingOut; rw [if_pos hok])
  have CK := hid (bitsI_any A n c l w w.heap.size hs)
  rw [hok] at CK
  obtain ⟨T, hT⟩ : ∃ T, n / 2 = T := ⟨_, rfl⟩
  have hT8 : T ≤ 8 := by omega
  have htd : ((n : Int)).tdiv 2 = (T : Int) := by rw [Int.tdiv_eq_ediv_of_nonneg (by omega)]; omega
  have hwt : IntKind.i64.wrap (T : Int) = (T : Int) := IntWalk.i64_in _ (by omega)
  have HTT := hid hT
  clear hT
  obtain ⟨E, hE⟩ : ∃ E, endN l = E := ⟨_, rfl⟩
  have hE16 : E ≤ 16 := by rw [← hE]; unfold endN; have := ones_le l; rw [HL.out] at this; omega
  have hEO : endOut l = (E : Int) := by rw [← hE]; unfold endOut; rw [if_pos hok]
  have HEE := hid hE
  have hz0 : (w.alloc (.cells #[.int .i64 0] 3)).heap.size = w.heap.size + 1 := by simp
  have b0 : Below w.heap.size w (w.alloc (.cells #[.int .i64 0] 3)) := (Below.refl _ _).alloc (Nat.le_refl _) _
  have CE := hid (implEndFlow_any A n c l _ (hs.on b0))
  rw [hEO] at CE
  have CV := hid (fun (W : World) (hW : Below w.heap.size w W) => bitRingOf_any A n c l W (hs.on hW) h2 hb)
  have HB0 := hid b0
  have HBB := hid hb
  have X0 := Boxed.new w 3 (.int .i64 0)
  have HX0 := hid X0
  have HZ0 := hid hz0
  clear hE hEO hok hb b0 X0 hz0 hs
  refine (callsIn_wide (n := 5)).1 ?_
  have hwd : Fence.wide.depth.isSome = false := rfl
  have hwr : Fence.wide.round = none := rfl
  have hf1 : Fence.wide.fn 78 := trivial
  have hf2 : Fence.wide.fn 174 := trivial
  have hf3 : Fence.wide.fn 204 := trivial
  have hf4 : Fence.wide.fn 158 := trivial
  refine callsIn_of_wp_marks Tryz.func175 rfl trivial ?_ rfl
  simp only [Tryz.ntmps175, List.size_toArray, List.length_cons, List.length_nil, Nat.reduceAdd, Nat.reduceSub, Array.replicate_succ, Array.replicate_zero, List.push_toArray, List.append_toArray, List.nil_append, List.cons_append]
  gi_wp2_with (first
    | (gi_at_call 78; refine (callsIn_wide.2 CK.out).mono ?_; rintro e w' ⟨rfl, rfl⟩)
    | (gi_at_call 174; refine (callsIn_wide.2 CE.out).mono ?_; rintro e w2 ⟨rfl, b2⟩; rw [HZ0.out] at b2)
    | (gi_at_call 158; refine (callsIn_wide.2 (CV.out _ ((HB0.out.trans (b2.mono (by omega))).alloc (by have h := b2.size; rw [HZ0.out] at h; omega) _))).mono ?_; rintro e w3 ⟨rfl, b3⟩)
    | (gi_at_call 204; refine (callsIn_wide.2 (flowsF_any _ _ _ _)).mono ?_; rintro e w' ⟨rfl, rfl⟩))
  obtain ⟨z, hz⟩ : ∃ z, w2.heap.size = z := ⟨_, rfl⟩
  have hz2 : w.heap.size + 1 ≤ z := by rw [← hz]; have h := b2.size; rw [HZ0.out] at h; exact h
  have hza : (w2.alloc (.cells #[.int .i64 E] 3)).heap.size = z + 1 := by rw [← hz]; simp
  rw [hza] at b3
  have hz3 : z + 1 ≤ w3.heap.size := by have h := b3.size; rw [hza] at h; exact h
  have b4 : Below w.heap.size w (w2.alloc (.cells #[.int .i64 E] 3)) := (HB0.out.trans (b2.mono (by omega))).alloc (by omega) _
  have b5 : Below w.heap.size w w3 := b4.trans (b3.mono (by omega))
  have y0 : Boxed w3 w.heap.size 3 (.int .i64 0) := (b3.block _ (by omega)).trans (Boxed.alloc ((b2.block _ (by omega)).trans HX0.out) _)
  have y1 : Boxed w3 z 3 (.int .i64 E) := (b3.block _ (by omega)).trans (by rw [← hz]; exact Boxed.new w2 _ _)
  rw [hz]
  obtain ⟨g, hg⟩ : ∃ g, w3.heap.size = g := ⟨_, rfl⟩
  rw [hg] at hz3 ⊢
  obtain ⟨W0, hW0⟩ : ∃ W0 : World, (w3.alloc (.cells #[.int .u64 (pb l n : Nat), .int .i64 n] 151)).alloc (.cells #[.int .i64 T] 3) = W0 := ⟨_, rfl⟩
  rw [hW0]
  have hsz : W0.heap.size = g + 2 := by rw [← hW0, ← hg]; simp
  have hb0 : Below w.heap.size w W0 := by rw [← hW0]; exact (b5.alloc (by omega) _).alloc (by simp; omega) _
  have x0 : Boxed W0 w.heap.size 3 (.int .i64 0) := by rw [← hW0]; exact (y0.alloc _).alloc _
  have x1 : Boxed W0 z 3 (.int .i64 E) := by rw [← hW0]; exact (y1.alloc _).alloc _
  have v1 : Vr W0 g (pb l n) n := by rw [← hW0, ← hg]; exact (Vr.new w3 (pb l n) n).on (row := none) (grown_alloc _ _ none) (by simp)
  have hc2 : W0.cell? ⟨g + 1, 0, none⟩ = some (.int .i64 T) := by
    rw [← hW0, ← hg]
    have h1 := Boxed.new (w3.alloc (.cells #[.int .u64 (pb l n : Nat), .int .i64 n] 151)) 3 (.int .i64 T)
    rw [World.size_alloc] at h1
    exact h1.cell
  clear hW0 hg y0 y1 b5 b4 b3 b2 hza hz CE CV HX0 HZ0 HB0 CK
  have eg : ∀ args w, (callFunc 222 args).run Tryz.prog w = .ok (.enter 222 args) w := enters_of Tryz.func222 (by kernel_rfl) rfl
  refine range_bareX (n := 5) rfl eg ?_
  intro rc W1 hs1 hb1 hl1 hd1 hY
  have hbW := hb0.trans (hb1.mono (by omega))
  refine (flows_in (5 - 1) (W0.heap.size + 1) g n T l
    (fun k W => W.heap[W0.heap.size + 1]? = some (.loop (rc .ready none)) ∧ W.heap[W0.heap.size]? = some (.deferred (some [])) ∧
      Boxed W w.heap.size 3 (.int .i64 k) ∧ Boxed W z 3 (.int .i64 E) ∧ (∀ j, j < k → flowN (driveI j l) ≠ E) ∧ Below w.heap.size w W)
    (fun W => ∃ k : Nat, k ≤ T ∧ W.heap[W0.heap.size + 1]? = some (.loop (rc .done (some (.exit 0)))) ∧ W.heap[W0.heap.size]? = some (.deferred (some [])) ∧
      Boxed W w.heap.size 3 (.int .i64 k) ∧ flowK l = k ∧ Below w.heap.size w W) W1 (W0.heap.size + 2) hs1
    HL.out h1 h2 HBB.out (by omega) ((hb1.block _ (by omega)).trans v1) ((hb1.cell (p := ⟨g + 1, 0, none⟩) (by simp; omega)).trans hc2) (by omega) ?kept ?yields ?start).mono ?behind
  case kept =>
    rintro k x W W' ⟨g1, g2, g3, g4, g5, g6⟩ hm hgr
    have hlt : W0.heap.size + 2 < W.heap.size := hm.lt
    exact ⟨(hgr.block _ (by omega) (by simp)).trans g1, (hgr.block _ (by omega) (by simp)).trans g2, g3.kept hgr (by simp; omega), g4.kept hgr (by simp; omega), g5, g6.grown hgr g6.size (by intro i hi; cases hi; omega)⟩
  case start =>
    intro W hgr
    exact ⟨(hgr.block _ (by omega) (by simp)).trans hl1, (hgr.block _ (by omega) (by simp)).trans hd1, Boxed.kept (W := W1) ((hb1.block _ (by omega)).trans x0) hgr (by simp), Boxed.kept (W := W1) ((hb1.block _ (by omega)).trans x1) hgr (by simp), fun j h => absurd h (by omega), hbW.trans ((below_grown hgr).mono hbW.size)⟩
  case yields =>
    rintro k x W ⟨hl, hd, hv, hu, hpre, hb⟩ hm hkT
    refine hY #[.int .i64 (flowN (driveI k l))] W _ rfl hl ⟨?a1, ?w1, ?assign, ?ready, ?body⟩
    case assign =>
      intro K hK
      gi_wp2
      exact hK
    case ready => exact hl
    have hsW : w.heap.size ≤ W.heap.size := hb.size
    have hlW : W0.heap.size + 1 < W.heap.size := (Array.getElem?_eq_some_iff.1 hl).1
    obtain ⟨Wb, hWb⟩ : ∃ Wb, W.putObj (W0.heap.size + 1) (.loop (rc .busy none)) = Wb := ⟨_, rfl⟩
    rw [hWb]
    have lb : Wb.heap[W0.heap.size + 1]? = some (.loop (rc .busy none)) := by rw [← hWb]; exact World.putObj_heap_same hlW
    have db : Wb.heap[W0.heap.size]? = some (.deferred (some [])) := by rw [← hWb]; exact (World.putObj_heap_other (by omega)).trans hd
    have vb : Boxed Wb w.heap.size 3 (.int .i64 k) := by rw [← hWb]; exact boxed_putX hv _ (by omega)
    have ub : Boxed Wb z 3 (.int .i64 E) := by rw [← hWb]; exact boxed_putX hu _ (by omega)
    have bb : Below w.heap.size w Wb := by rw [← hWb]; exact below_putX hb _ (by omega) hsW
    have mb : Vr Wb (W0.heap.size + 2) x n := by rw [← hWb]; exact (World.putObj_heap_other (by omega)).trans hm
    have hc1 := vb.cell
    have hf1 := vb.frozen
    have hc2 := ub.cell
    have hzz : z + 1 < W0.heap.size := by omega
    clear hl hd hv hu hb hWb hm hsz
    by_cases hfl : flowN (driveI k l) = E
    · have HV2 := hid (show flowK l = k from flowK_at HOK.out (by rw [hfl, HEE.out]) (by rw [HEE.out]; exact hpre))
      rw [hfl]
      have hee : ((E : Int) == (E : Int)) = true := by simp
      clear hfl hpre
      gi_wp2
      exact ⟨lb, .inr ⟨rfl, k, hkT, World.putObj_heap_same (Array.getElem?_eq_some_iff.1 lb).1, (World.putObj_heap_other (by omega)).trans db, boxed_putX vb _ (by omega), HV2.out, below_putX bb _ (by omega) bb.size⟩⟩
    · have HP := hid (show ∀ j, j < k + 1 → flowN (driveI j l) ≠ E from fun j hj => by
        by_cases h : j < k
        · exact hpre j h
        · obtain rfl : j = k := by omega
          exact hfl)
      obtain ⟨f, hf⟩ : ∃ f, flowN (driveI k l) = f := ⟨_, rfl⟩
      rw [hf] at hfl ⊢
      have hee : ((f : Int) == (E : Int)) = false := by simp; omega
      have hee2 : ¬ (f : Int) = (E : Int) := by omega
      have HE1 := hid (show (k : Int) + 1 = ((k + 1 : Nat) : Int) from by omega)
      have V2 := hid (vb.set (.int .i64 ((k : Int) + 1)))
      have U2 := hid (Boxed.other (B' := w.heap.size) (u := .int .i64 ((k : Int) + 1)) ub (by omega))
      have hK3 := KeepsOthers.setCell Wb ⟨w.heap.size, 0, none⟩ (.int .i64 ((k : Int) + 1))
      have hl3 := hK3.same _ _ lb rfl
      have hd3 := hK3.same _ _ db rfl
      have b3 := hid (bb.setCell (p := ⟨w.heap.size, 0, none⟩) (Nat.le_refl _) (.int .i64 ((k : Int) + 1)))
      have m3 := hid (show Vr (Wb.setCell ⟨w.heap.size, 0, none⟩ (.int .i64 ((k : Int) + 1))) (W0.heap.size + 2) x n from (heap_setCell_other Wb ⟨w.heap.size, 0, none⟩ _ _ (by simp; omega)).trans mb)
      clear hf hfl hpre mb bb vb ub
      gi_wp2
      exact ⟨hl3, .inl ⟨rfl, ⟨World.putObj_heap_same (Array.getElem?_eq_some_iff.1 hl3).1, (World.putObj_heap_other (by omega)).trans hd3, boxed_putX V2.out _ (by omega), boxed_putX U2.out _ (by omega), HP.out, below_putX b3.out _ (by omega) b3.out.size⟩, (World.putObj_heap_other (by omega)).trans m3.out⟩⟩
  case behind =>
    rintro e W' ⟨hv, (⟨hl, hd, hv2, hu2, hall, hb⟩ | ⟨k, hkT, hl, hd, hv2, hst, hb⟩)⟩
    · exact absurd HKE.out (by rw [HEE.out]; exact hall (flowK l) (by have := HK.out; have := HTT.out; omega))
    · refine ⟨hv, .inr ⟨_, hl, fun o => ?_⟩⟩
      obtain ⟨W2, hW2⟩ : ∃ W2, W'.putObj (W0.heap.size + 1) o = W2 := ⟨_, rfl⟩
      rw [hW2]
      have hcv : W2.cell? ⟨w.heap.size, 0, none⟩ = some (.int .i64 k) := by rw [← hW2]; exact (boxed_putX hv2 _ (by omega)).cell
      have hK2 : W2.heap[W0.heap.size]? = some (.deferred (some [])) := by rw [← hW2]; exact (World.putObj_heap_other (by omega)).trans hd
      have hb2 : Below w.heap.size w W2 := by rw [← hW2]; exact below_putX hb _ (by omega) hb.size
      have HST := hid hst
      have hzz : z + 1 < W0.heap.size := by omega
      clear hW2 hb hl hd hv2 hst hsz
      gi_wp2
      refine ⟨by simp, .inl ⟨_, _, rfl, run_takeDeferred hK2, ?_⟩⟩
      exact ⟨_, results_tmp rfl _ _ _, by rw [HV.out, HST.out]; rfl, below_putX hb2 _ (by omega) hb2.size⟩

theorem implFlowingAfter_any (A : Option Addr) (n c : Nat) (l : List Int) (w : World) (hs : Sl w w.heap.size A n l) :
    Calls Tryz.prog 175 #[.slice A n c] w fun e w' => e = .returned (.int .i64 (flowingOut l)) ∧ Below w.heap.size w w' := by
  cases hok : bitsOk l with
  | true => exact flowing_yes A n c l w hs hok
  | false =>
    have HL := hid hs.len
    have CK := hid (bitsI_any A n c l w w.heap.size hs)
    have HV := hid (show flowingOut l = -1 from by unfold flowingOut; rw [hok]; rfl)
    rw [hok] at CK
    clear hok
    go_enter Tryz.func175, Tryz.ntmps175
    go_wp2_with fail
    with_reducible refine Calls.mono CK.out ?_
    rintro e w' ⟨rfl, rfl⟩
    go_wp2
    go_ret
    exact ⟨ret_int HV.out.symm, Below.refl _ _⟩
end Go.Proofs.YtkejcajboneniabGreatDoor
namespace Go.Proofs.YtkejcajboneniabGreatDoor
open Go.RowKit

set_option maxRecDepth 100000 in
set_option maxHeartbeats 3200000 in
theorem implVotedAfter_any (A : Option Addr) (n c : Nat) (l : List Int) (s : Int) (w : World) (hs : Sl w w.heap.size A n l) :
    Calls Tryz.prog 156 #[.slice A n c, .int .i64 s] w fun e w' => ∃ A2 m c2, e = .returned (.slice A2 m c2) ∧ w'.ownsRow w.heap.size 3 1 (.slice A2 m c2) m (ints (votedN l s)) ∧ m ≤ 40 ∧ Below w.heap.size w w' := by
  have HL := hid hs.len
  have CK := hid (votesI_any A n c l w w.heap.size hs)
  cases hok : (votesOk l && within s 0 60) with
  | false =>
    have HV := hid (show votedN l s = [] from by unfold votedN; rw [hok]; rfl)
    cases h0 : votesOk l with
    | false =>
      rw [h0] at CK
      clear hok h0
      go_enter Tryz.func156, Tryz.ntmps156
      go_wp2_with fail
      with_reducible refine Calls.mono CK.out ?_
      rintro e w' ⟨rfl, rfl⟩
      go_wp2
      go_ret
      exact ⟨_, 0, _, rfl, by rw [HV.out]; exact World.ownsRow_nil _ _ _ _, by omega, Below.refl _ _⟩
    | true =>
      rw [h0, Bool.true_and] at hok
      rw [h0] at CK
      clear h0
      go_enter Tryz.func156, Tryz.ntmps156
      go_wp2_with fail
      with_reducible refine Calls.mono CK.out ?_
      rintro e w' ⟨rfl, rfl⟩
      go_wp2_with (go_at_call 189; refine (stepsOk7_any _ _).mono ?_; rintro e w' ⟨rfl, rfl⟩)
      go_ret
      exact ⟨_, 0, _, rfl, by rw [HV.out]; exact World.ownsRow_nil _ _ _ _, by omega, Below.refl _ _⟩
  | true =>
    have hok2 : votesOk l = true ∧ within s 0 60 = true := by simpa using hok
    obtain ⟨h0, hws⟩ := hok2
    obtain ⟨⟨h1, h2⟩, hb⟩ := votesOk_iff.1 h0
    rw [HL.out] at h1 h2
    have hsb := within_iff.1 hws
    obtain ⟨S, rfl⟩ : ∃ S : Nat, s = S := Int.eq_ofNat_of_zero_le hsb.1
    have HV := hid (show votedN l S = voteN S l from by unfold votedN; rw [if_pos hok, Int.toNat_natCast])
    rw [h0] at CK
    have HP := hid (fun k => voted_pk (n := n) (by rw [voteN_len, HL.out]) h1 (voteN_bits hb k))
    have CV := hid (votesOf_any A n c l w hs h2 hb)
    have CR := hid (fun W : World => voteRow_any (voteN S l) n W (by rw [voteN_len, HL.out]) h2 (voteN_bits hb S))
    clear hok h0 hb hs
    go_enter Tryz.func156, Tryz.ntmps156
    go_wp2_with fail
    with_reducible refine Calls.mono CK.out ?_
    rintro e w' ⟨rfl, rfl⟩
    go_wp2_with (first
      | (go_at_call 189; refine (stepsOk7_any _ _).mono ?_; rintro e w' ⟨rfl, rfl⟩)
      | (go_at_call 192; with_reducible refine Calls.mono CV.out ?_; rintro e w1 ⟨rfl, b1⟩))
    have QX := hid (Vb.new w1 (pk l n) n)
    have QB := hid (b1.alloc b1.size (.cells #[.int .u64 (pk l n : Nat), .int .i64 n] 149))
    have hz1 : w1.heap.size + 1 ≤ (w1.alloc (.cells #[.int .u64 (pk l n : Nat), .int .i64 n] 149)).heap.size := by simp
    have hw1 := b1.size
    obtain ⟨b, hb⟩ : ∃ b, w1.heap.size = b := ⟨_, rfl⟩
    obtain ⟨w2, hw2⟩ : ∃ w2, w1.alloc (.cells #[.int .u64 (pk l n : Nat), .int .i64 n] 149) = w2 := ⟨_, rfl⟩
    rw [hw2] at QX QB hz1 ⊢
    rw [hb] at QX hz1 hw1 ⊢
    clear hw2 hb b1 CV
    go_loopw [17] (fun i wr => ∃ k : Nat, i = .int .i64 k ∧ k ≤ S ∧ Hid (Vb wr b (pk (voteN k l) n) n) ∧ b + 1 ≤ wr.heap.size ∧ Hid (Below w.heap.size w wr)) (fun i _ => S - (intOf i).toNat)
    case atStart => exact ⟨0, rfl, Nat.zero_le _, QX, hz1, QB⟩
    case round =>
      clear QX QB hz1
      obtain ⟨k, rfl, hk, QX, hz1, QB⟩ := hrel
      have d0 := QX.out.c0
      have d1 := QX.out.c1
      by_cases hlt : k < S
      · have hlt' : (k : Int) < (S : Int) := by omega
        have CW := hid (voted_any (pk (voteN k l) n) n wr h1 h2 (pk_lt _ _))
        rw [HP.out k, ← voteN_succ] at CW
        go_wp2_with (go_at_call 193; with_reducible refine Calls.mono CW.out ?_; rintro e w3 ⟨rfl, b3⟩; have Y := QX.out.below b3 (by omega); have g0 := Y.fz 0; have g1 := Y.fz 1; have j0 := Y.c0; have j1 := Y.c1)
        have hz3 := b3.size
        have Q1 := hid (Y.set (pk (voteN (k + 1) l) n) n)
        have Q2 := hid (((QB.out.trans (b3.mono QB.out.size)).setCell (p := ⟨b, 0, none⟩) hw1 (.int .u64 (pk (voteN (k + 1) l) n : Nat))).setCell (p := ⟨b, 1, none⟩) hw1 (.int .i64 n))
        have hz4 : b + 1 ≤ ((w3.setCell ⟨b, 0, none⟩ (.int .u64 (pk (voteN (k + 1) l) n : Nat))).setCell ⟨b, 1, none⟩ (.int .i64 n)).heap.size := by simp [World.setCell]; omega
        go_roundw
        case rel => exact ⟨k + 1, by go_num, by omega, Q1, hz4, Q2⟩
        case measure => simp [intOf]; omega
      · obtain rfl : k = S := by omega
        go_wp2_with fail
        with_reducible refine Calls.mono (CR.out wr) ?_
        rintro e w3 ⟨A3, c3, rfl, o3, b3⟩
        have O3 := hid (own_mono o3 QB.out.size)
        have HB3 := hid (QB.out.trans (b3.mono QB.out.size))
        clear b3 o3
        go_wp2
        go_ret
        exact ⟨_, n, _, rfl, by rw [HV.out]; exact O3.out, h2, HB3.out⟩

set_option maxHeartbeats 800000 in
theorem implVotedOf_any (A : Option Addr) (n c : Nat) (l : List Int) (w : World) (hs : Sl w w.heap.size A n l) :
    Calls Tryz.prog 121 #[.slice A n c] w fun e w' => ∃ A2 m c2, e = .returned (.slice A2 m c2) ∧ w'.ownsRow w.heap.size 3 1 (.slice A2 m c2) m (ints (votedOut l)) ∧ m ≤ 40 ∧ Below w.heap.size w w' := by
  have HE := hid (show votedN l 1 = votedOut l from by
    unfold votedN votedOut
    rw [show within 1 0 60 = true from by decide, Bool.and_true]
    rfl)
  have CA := hid (implVotedAfter_any A n c l 1 w hs)
  rw [HE.out] at CA
  go_enter Tryz.func121, Tryz.ntmps121
  go_wp2_with fail
  with_reducible refine Calls.mono CA.out ?_
  rintro e w3 ⟨A3, m, c3, rfl, o3, hm, b3⟩
  have O3 := hid o3
  have B3 := hid b3
  clear o3 b3
  go_wp2
  go_ret
  exact ⟨_, m, _, rfl, O3.out, hm, B3.out⟩

set_option maxRecDepth 100000 in
set_option maxHeartbeats 3200000 in
theorem implSettledAfter_any (A : Option Addr) (n c : Nat) (l : List Int) (w : World) (hs : Sl w w.heap.size A n l) :
    Calls Tryz.prog 176 #[.slice A n c] w fun e w' => e = .returned (.int .i64 (settleC l)) ∧ Below w.heap.size w w' := by
  have HL := hid hs.len
  have CK := hid (votesI_any A n c l w w.heap.size hs)
  cases hok : votesOk l with
  | false =>
    have HV := hid (show settleC l = -1 from by unfold settleC; rw [hok]; rfl)
    rw [hok] at CK
    clear hok
    go_enter Tryz.func176, Tryz.ntmps176
    go_wp2_with fail
    with_reducible refine Calls.mono CK.out ?_
    rintro e w' ⟨rfl, rfl⟩
    go_wp2
    go_ret
    exact ⟨ret_int HV.out.symm, Below.refl _ _⟩
  | true =>
    obtain ⟨⟨h1, h2⟩, hb⟩ := votesOk_iff.1 hok
    rw [HL.out] at h1 h2
    have HV := hid (show settleC l = settleL l from by unfold settleC; rw [if_pos hok])
    rw [hok] at CK
    have HP := hid (fun k => voted_pk (n := n) (by rw [voteN_len, HL.out]) h1 (voteN_bits hb k))
    have HS := hid (fun (k : Nat) (h : l.length ≤ 2 * k + 2) => voteN_still hb h)
    have HJ := hid (fun (k : Nat) (h : pk (voteN (k + 1) l) n = pk (voteN k l) n) => show voteL (voteN k l) = voteN k l from by
      rw [← voteN_succ]; exact pk_inj (by rw [voteN_len, HL.out]) (by rw [voteN_len, HL.out]) (voteN_bits hb _) (voteN_bits hb _) h)
    have CV := hid (votesOf_any A n c l w hs h2 hb)
    have CW := hid (fun (k : Nat) (W : World) => voted_any (pk (voteN k l) n) n W h1 h2 (pk_lt _ _))
    have CW' := hid (fun (k : Nat) (W : World) => by have h := CW.out k W; rw [HP.out k, ← voteN_succ] at h; exact h)
    clear hok hb hs
    go_enter Tryz.func176, Tryz.ntmps176
    go_wp2_with fail
    with_reducible refine Calls.mono CK.out ?_
    rintro e w' ⟨rfl, rfl⟩
    go_wp2_with fail
    with_reducible refine Calls.mono CV.out ?_
    rintro e w1 ⟨rfl, b1⟩
    have QX1 := hid (Vb.new w1 (pk l n) n)
    have QB1 := hid (b1.alloc b1.size (.cells #[.int .u64 (pk l n : Nat), .int .i64 n] 149))
    have hz1 : w1.heap.size + 1 = (w1.alloc (.cells #[.int .u64 (pk l n : Nat), .int .i64 n] 149)).heap.size := by simp
    have hw1 := b1.size
    go_wp2_with fail
    obtain ⟨a, ha⟩ : ∃ a, w1.heap.size = a := ⟨_, rfl⟩
    obtain ⟨w2, hw2⟩ : ∃ w2, w1.alloc (.cells #[.int .u64 (pk l n : Nat), .int .i64 n] 149) = w2 := ⟨_, rfl⟩
    rw [hw2] at QX1 QB1 hz1 ⊢
    rw [ha] at QX1 hz1 hw1 ⊢
    clear hw2 ha b1 CV
    refine Calls.mono (show Calls Tryz.prog 193 #[.agg #[.int .u64 (pk l n : Nat), .int .i64 n]] w2 _ from CW'.out 0 w2) ?_
    rintro e w3 ⟨rfl, b3⟩
    have hz3 := b3.size
    have QX3 := hid ((QX1.out.below b3 (by omega)).on (row := none) (grown_alloc _ (.cells #[.int .u64 (pk (voteN (0 + 1) l) n : Nat), .int .i64 n] 149) none) (by simp))
    have QY3 := hid (Vb.new w3 (pk (voteN (0 + 1) l) n) n)
    have QB3 := hid ((QB1.out.trans (b3.mono QB1.out.size)).alloc (by omega) (.cells #[.int .u64 (pk (voteN (0 + 1) l) n : Nat), .int .i64 n] 149))
    have hz4 : (w3.alloc (.cells #[.int .u64 (pk (voteN (0 + 1) l) n : Nat), .int .i64 n] 149)).heap.size = w3.heap.size + 1 := by simp
    clear b3 QX1 QB1
    go_wp2
    obtain ⟨b, hb⟩ : ∃ b, w3.heap.size = b := ⟨_, rfl⟩
    rw [hb] at QY3 hz4 hz3 ⊢
    clear hb
    obtain ⟨w4, hw4⟩ : ∃ w4, w3.alloc (.cells #[.int .u64 (pk (voteN (0 + 1) l) n : Nat), .int .i64 n] 149) = w4 := ⟨_, rfl⟩
    rw [hw4] at QX3 QY3 QB3 hz4 ⊢
    clear hw4
    go_loopw [3, 5] (fun i nx wr => ∃ (k b : Nat), i = .int .i64 k ∧ nx = .pointer (some ⟨b, 0, none⟩) ∧ k ≤ 20 ∧ a < b ∧ b < wr.heap.size ∧ Hid (Vb wr a (pk (voteN k l) n) n) ∧ Hid (Vb wr b (pk (voteN (k + 1) l) n) n) ∧ Hid (Below w.heap.size w wr) ∧ Hid (∀ j, j < k → voteL (voteN j l) ≠ voteN j l)) (fun i _ _ => 41 - (intOf i).toNat)
    case atStart => exact ⟨0, b, rfl, rfl, by omega, by omega, by omega, QX3, QY3, QB3, hid (fun j hj => absurd hj (by omega))⟩
    case round =>
      clear QX3 QY3 QB3 hz4 hz3
      obtain ⟨k, b, rfl, rfl, hk, hab, hbz, QX, QY, QB, QN⟩ := hrel
      have d0 := QX.out.c0
      have d1 := QX.out.c1
      have e0 := QY.out.c0
      have e1 := QY.out.c1
      have g0 := QX.out.fz 0
      have g1 := QX.out.fz 1
      by_cases he : pk (voteN (k + 1) l) n = pk (voteN k l) n
      · have HF := hid (show settleC l = (k : Int) from by
          rw [HV.out, settle_eq (l := l) (s := k) ⟨HJ.out k he, QN.out⟩ (by omega)])
        obtain ⟨p, hp⟩ : ∃ p, pk (voteN k l) n = p := ⟨_, rfl⟩
        rw [he, hp] at e0
        rw [hp] at d0
        clear he hp
        go_wp2
        go_ret
        exact ⟨ret_int HF.out.symm, QB.out⟩
      · have hkk : 2 * k + 2 < n := by
          rcases Nat.lt_or_ge (2 * k + 2) n with h | h
          · exact h
          · exact absurd (by rw [voteN_succ, HS.out k (by rw [HL.out]; omega)]) he
        have QN' : Hid (∀ j, j < k + 1 → voteL (voteN j l) ≠ voteN j l) := hid (fun j hj => by
          rcases (show j < k ∨ j = k by omega) with h | rfl
          · exact QN.out j h
          · intro h; exact he (by rw [voteN_succ, h]))
        obtain ⟨q, hq⟩ : ∃ q, pk (voteN (k + 1) l) n = q := ⟨_, rfl⟩
        have QX5 := hid ((QX.out.set q n).on (row := none) (grown_alloc _ (.cells #[.int .u64 q, .int .i64 n] 149) none) (by simp))
        have QY5 := hid (Vb.new ((wr.setCell ⟨a, 0, none⟩ (.int .u64 q)).setCell ⟨a, 1, none⟩ (.int .i64 n)) q n)
        have hs5 : ((wr.setCell ⟨a, 0, none⟩ (.int .u64 q)).setCell ⟨a, 1, none⟩ (.int .i64 n)).heap.size = wr.heap.size := by simp [World.setCell]
        have hz5 : (((wr.setCell ⟨a, 0, none⟩ (.int .u64 q)).setCell ⟨a, 1, none⟩ (.int .i64 n)).alloc (.cells #[.int .u64 q, .int .i64 n] 149)).heap.size = wr.heap.size + 1 := by rw [← hs5]; simp
        have QB5 := hid (((QB.out.setCell (p := ⟨a, 0, none⟩) hw1 (.int .u64 q)).setCell (p := ⟨a, 1, none⟩) hw1 (.int .i64 n)).alloc (by rw [hs5]; omega) (.cells #[.int .u64 q, .int .i64 n] 149))
        rw [hs5] at QY5
        have CC := hid (CW'.out (k + 1) (((wr.setCell ⟨a, 0, none⟩ (.int .u64 q)).setCell ⟨a, 1, none⟩ (.int .i64 n)).alloc (.cells #[.int .u64 q, .int .i64 n] 149)))
        have z0 := QX5.out.c0
        have z1 := QX5.out.c1
        have HQ := hid hq
        rw [hq] at CC
        obtain ⟨p, hp⟩ : ∃ p, pk (voteN k l) n = p := ⟨_, rfl⟩
        rw [hq] at e0 he
        rw [hp] at d0 he
        have he' : ((q : Int) == (p : Int)) = false := by simp; omega
        clear hp hq
        go_wp2_with fail
        with_reducible refine Calls.mono CC.out ?_
        rintro e w5 ⟨rfl, b5⟩
        rw [hz5] at b5
        have hz6 := b5.size
        rw [hz5] at hz6
        have Y := QY5.out.below b5 (by omega)
        have X := QX5.out.below b5 (by omega)
        have r0 := Y.fz 0
        have r1 := Y.fz 1
        have j0 := Y.c0
        have j1 := Y.c1
        have Y6 := hid (Y.set (pk (voteN (k + 1 + 1) l) n) n)
        have X6 : Hid (Vb ((w5.setCell ⟨wr.heap.size, 0, none⟩ (.int .u64 (pk (voteN (k + 1 + 1) l) n : Nat))).setCell ⟨wr.heap.size, 1, none⟩ (.int .i64 n)) a (pk (voteN (k + 1) l) n) n) := hid (by
          rw [HQ.out]
          exact (heap_setCell_other _ _ _ _ (by simp; omega)).trans ((heap_setCell_other _ _ _ _ (by simp; omega)).trans X))
        have hwz := QB.out.size
        have B6 := hid (((QB5.out.trans (b5.mono (by omega))).setCell (p := ⟨wr.heap.size, 0, none⟩) hwz (.int .u64 (pk (voteN (k + 1 + 1) l) n : Nat))).setCell (p := ⟨wr.heap.size, 1, none⟩) hwz (.int .i64 n))
        have hz7 : ((w5.setCell ⟨wr.heap.size, 0, none⟩ (.int .u64 (pk (voteN (k + 1 + 1) l) n : Nat))).setCell ⟨wr.heap.size, 1, none⟩ (.int .i64 n)).heap.size = w5.heap.size := by simp [World.setCell]
        clear QX QY QB QN QX5 QY5 QB5 CC b5 X Y z0 z1 d0 d1 e0 e1 g0 g1
        go_wp2
        go_roundw
        case rel => exact ⟨k + 1, wr.heap.size, by go_num, rfl, by omega, by omega, by omega, X6, Y6, B6, QN'⟩
        case measure => simp [intOf]; omega
end Go.Proofs.YtkejcajboneniabGreatDoor
