/-
  Walks of the program's cars: those that go, a step, how many go. No statement is proved here.
-/
import Derived.Test.YtmjcefidhigppaaC10h
import Derived.Test.YtmjcefidhigppaaC10k
import Derived.Test.YtmjcefidhigppaaS11b
namespace Go.Proofs.Ytmjcefidhigppaa
open Go.RowKit
set_option linter.unusedVariables false
set_option linter.unusedSimpArgs false

theorem bits_andNot_u64_nat (a b : Nat) (ha : a < 18446744073709551616) (hb : b < 18446744073709551616) : bits .andNot .u64 (a : Int) (b : Int) = ((a &&& (2 ^ 64 - (b + 1)) : Nat) : Int) := by
  have h1 : (BitVec.ofInt 64 (a : Int)).toNat = a := by
    rw [BitVec.ofInt_natCast, BitVec.toNat_ofNat]; exact Nat.mod_eq_of_lt (by omega)
  have h2 : (BitVec.ofInt 64 (b : Int)).toNat = b := by
    rw [BitVec.ofInt_natCast, BitVec.toNat_ofNat]; exact Nat.mod_eq_of_lt (by omega)
  have hx : a &&& (2 ^ 64 - (b + 1)) ≤ a := Nat.and_le_left
  show IntKind.u64.wrap ((BitVec.ofInt 64 (a : Int) &&& ~~~ BitVec.ofInt 64 (b : Int)).toNat : Int) = _
  rw [BitVec.toNat_and, BitVec.toNat_not, h1, h2, show 2 ^ 64 - 1 - b = 2 ^ 64 - (b + 1) by omega]
  exact u64_in _ (by omega)

theorem trn_one_bit {y : Nat} (h : y < 2 ^ 1) : (trn y 1 0).testBit 0 = y.testBit 0 ∧ (trn y 1 1).testBit 0 = y.testBit 0 := by
  obtain rfl | rfl : y = 0 ∨ y = 1 := by omega
  · exact ⟨by decide, by decide⟩
  · exact ⟨by decide, by decide⟩
theorem trn_next {l : List Int} {n j : Nat} (hj : j < n) : (trn (pb l n) n (n - 1)).testBit j = decide (nth l ((j + 1) % n) = 1) := by
  by_cases h1 : n = 1
  · subst h1
    obtain rfl : j = 0 := by omega
    rw [show (1 : Nat) - 1 = 0 from rfl, (trn_one_bit (pb_lt l 1)).1, pb_bit]
    simp
  · rw [trn_R (pb_lt l n) (by omega), pb_right (by omega) hj]
theorem trn_prev {l : List Int} {n j : Nat} (hj : j < n) : (trn (pb l n) n 1).testBit j = decide (nth l ((j + n - 1) % n) = 1) := by
  by_cases h1 : n = 1
  · subst h1
    obtain rfl : j = 0 := by omega
    rw [(trn_one_bit (pb_lt l 1)).2, pb_bit]
    simp
  · rw [trn_L (pb_lt l n) (by omega), pb_left (by omega) hj]
theorem going_pb {l : List Int} {n : Nat} (hl : l.length = n) (hn : n ≤ 16) (hb : ∀ x ∈ l, x = 0 ∨ x = 1) : pb l n &&& (2 ^ 64 - (trn (pb l n) n (n - 1) + 1)) = pb (flowL l) n := by
  have ht := trn_lt (pb l n) n (n - 1)
  have hp := pow40 (show n ≤ 40 by omega)
  refine pb_ring hl (Nat.lt_of_le_of_lt Nat.and_le_left (pb_lt l n)) fun j hj => ?_
  rw [Nat.testBit_and, pb_bit, Nat.testBit_two_pow_sub_succ (by omega), trn_next hj]
  unfold flowF
  rcases bit_nth hb j with e1 | e1 <;> rcases bit_nth hb ((j + 1) % n) with e2 | e2 <;> rw [e1, e2] <;> simp [hj] <;> omega
theorem driven_pb {l : List Int} {n : Nat} (hl : l.length = n) (hn : n ≤ 16) (hb : ∀ x ∈ l, x = 0 ∨ x = 1) : (pb l n ^^^ pb (flowL l) n) ^^^ trn (pb (flowL l) n) n 1 = pb (driveL l) n := by
  refine pb_ring hl (Nat.xor_lt_two_pow (Nat.xor_lt_two_pow (pb_lt _ _) (pb_lt _ _)) (trn_lt _ _ _)) fun j hj => ?_
  have hk := Nat.mod_lt (j + n - 1) (show 0 < n by omega)
  have hkj : ((j + n - 1) % n + 1) % n = j := by
    rw [Nat.mod_add_mod, show j + n - 1 + 1 = j + n by omega, Nat.add_mod_right]
    exact Nat.mod_eq_of_lt hj
  rw [Nat.testBit_xor, Nat.testBit_xor, pb_bit, pb_bit, trn_prev hj, nth_flow (by omega), nth_flow (by omega), hl, hkj]
  unfold driveF
  rcases bit_nth hb j with e1 | e1 <;> rcases bit_nth hb ((j + 1) % n) with e2 | e2 <;> rcases bit_nth hb ((j + n - 1) % n) with e3 | e3 <;> rw [e1, e2, e3] <;> simp [hj]

set_option maxRecDepth 100000 in
set_option maxHeartbeats 3200000 in
theorem going_any (l : List Int) (n : Nat) (w : World) (hl : l.length = n) (h1 : 1 ≤ n) (hn : n ≤ 16) (hb : ∀ x ∈ l, x = 0 ∨ x = 1) :
    Calls Try.prog 61 #[vot (pb l n) n] w fun e w' => e = .returned (vot (pb (flowL l) n) n) ∧ Below w.heap.size w w' := by
  have HG := going_pb hl hn hb
  have hx := pb_lt l n
  have hp := pow40 (show n ≤ 40 by omega)
  obtain ⟨m, hm⟩ : ∃ m, n - 1 = m := ⟨_, rfl⟩
  rw [hm] at HG
  obtain ⟨x, hxe⟩ : ∃ x, pb l n = x := ⟨_, rfl⟩
  rw [hxe] at hx HG ⊢
  have ht := trn_lt x n m
  have CT := hid (fun W : World => turned_any x n m W hn hx (by omega))
  obtain ⟨t, hte⟩ : ∃ t, trn x n m = t := ⟨_, rfl⟩
  rw [hte] at ht CT HG
  obtain ⟨g, hg⟩ : ∃ g, pb (flowL l) n = g := ⟨_, rfl⟩
  rw [hg] at HG ⊢
  have HW := bits_andNot_u64_nat x t (by omega) (by omega)
  rw [HG] at HW
  have CW := hid (fun W : World => show Calls Try.prog 65 #[vot x n, .int .u64 (bits .andNot .u64 (x : Int) (t : Int))] W fun e w' => e = .returned (vot g n) ∧ Below W.heap.size W w' from by
    rw [HW]; exact withOnes_any x n g W)
  have hmi : (n : Int) - 1 = (m : Int) := by omega
  have hwm : IntKind.i64.wrap (m : Int) = (m : Int) := IntWalk.i64_in _ (by omega)
  clear HW HG hg ht hte hx hxe hb hl hm hp
  have hz : (w.alloc (.cells #[.int .u64 x, .int .i64 n] 45)).heap.size = w.heap.size + 1 := by simp
  have X := (Vr.new w x n).on (row := none) (grown_alloc _ (.cells #[.int .u64 0, .int .i64 0] 45) none) (by simp)
  have c0 := X.c0
  have c1 := X.c1
  have X1 : Vr ((w.alloc (.cells #[.int .u64 x, .int .i64 n] 45)).alloc (.cells #[.int .u64 0, .int .i64 0] 45)) (w.heap.size + 1) 0 0 := by rw [← hz]; exact Vr.new _ 0 0
  have B0 := hid (((Below.refl w.heap.size w).alloc (Nat.le_refl _) (.cells #[.int .u64 x, .int .i64 n] 45)).alloc (by simp) (.cells #[.int .u64 0, .int .i64 0] 45))
  have hzW : ((w.alloc (.cells #[.int .u64 x, .int .i64 n] 45)).alloc (.cells #[.int .u64 0, .int .i64 0] 45)).heap.size = w.heap.size + 2 := by simp
  have HX := hid X
  have HX1 := hid X1
  have HZ := hid hzW
  clear X X1 hz hzW
  go_enter Try.func61, Try.ntmps61
  go_wp2_with fail
  with_reducible refine Calls.mono (CT.out _) ?_
  rintro e w3 ⟨rfl, b3⟩
  rw [HZ.out] at b3
  have hz3 : w.heap.size + 2 ≤ w3.heap.size := by have h := b3.size; rw [HZ.out] at h; exact h
  have N3 := Vr.new w3 t n
  have g3 := grown_alloc w3 (.cells #[.int .u64 t, .int .i64 n] 45) none
  have Y := (HX.out.below b3 (by omega)).on g3 (by simp)
  have Y1 := (HX1.out.below b3 (by omega)).on g3 (by simp)
  have B3 := hid ((B0.out.trans (b3.mono (by omega))).alloc (by omega) (.cells #[.int .u64 t, .int .i64 n] 45))
  have d0 := Y.c0
  have d1 := Y.c1
  have k0 := N3.c0
  have k1 := N3.c1
  have HY1 := hid Y1
  have hz4 : (w3.alloc (.cells #[.int .u64 t, .int .i64 n] 45)).heap.size = w3.heap.size + 1 := by simp
  have HZ4 := hid hz4
  clear b3 N3 g3 Y Y1 HX HX1 HZ B0 c0 c1 hz4
  go_wp2_with fail
  with_reducible refine Calls.mono (CW.out _) ?_
  rintro e w5 ⟨rfl, b5⟩
  rw [HZ4.out] at b5
  have Y := HY1.out.below b5 (by omega)
  have f0 := Y.fz 0
  have f1 := Y.fz 1
  have j0 := Y.c0
  have j1 := Y.c1
  have BB := hid (((B3.out.trans (b5.mono (by omega))).setCell (p := ⟨w.heap.size + 1, 0, none⟩) (by simp) (.int .u64 g)).setCell (p := ⟨w.heap.size + 1, 1, none⟩) (by simp) (.int .i64 n))
  have HY := hid (Y.set g n)
  clear b5 Y HY1 HZ4 B3 d0 d1 k0 k1
  go_wp2
  (try simp only [Exit.inBlock, Exit.then])
  refine bodyPost_ret (results_cell_row rfl _ _ (w.heap.size + 1) 45 _ (0, 0) _ (by simp [Act.put]) HY.out Try.underlying45 rfl size_vr) rfl ?_
  exact ⟨rfl, BB.out⟩

set_option maxRecDepth 100000 in
set_option maxHeartbeats 3200000 in
theorem driven_any (l : List Int) (n : Nat) (w : World) (hl : l.length = n) (h1 : 1 ≤ n) (hn : n ≤ 16) (hb : ∀ x ∈ l, x = 0 ∨ x = 1) :
    Calls Try.prog 52 #[vot (pb l n) n] w fun e w' => e = .returned (vot (pb (driveL l) n) n) ∧ Below w.heap.size w w' := by
  have HD := driven_pb hl hn hb
  have CG := hid (fun W : World => going_any l n W hl h1 hn hb)
  have hx := pb_lt l n
  have hg := pb_lt (flowL l) n
  obtain ⟨x, hxe⟩ : ∃ x, pb l n = x := ⟨_, rfl⟩
  obtain ⟨g, hge⟩ : ∃ g, pb (flowL l) n = g := ⟨_, rfl⟩
  rw [hxe, hge] at HD CG
  rw [hxe] at hx ⊢
  rw [hge] at hg
  have ht := trn_lt g n 1
  have CT := hid (fun W : World => show Calls Try.prog 63 #[vot g n, .int .i64 1] W fun e w' => e = .returned (vot (trn g n 1) n) ∧ Below W.heap.size W w' from turned_any g n 1 W hn hg h1)
  have CA := hid (fun W : World => added_any x g n W hn hx hg)
  have hy : x ^^^ g < 2 ^ n := Nat.xor_lt_two_pow hx hg
  obtain ⟨t, hte⟩ : ∃ t, trn g n 1 = t := ⟨_, rfl⟩
  obtain ⟨y, hye⟩ : ∃ y, x ^^^ g = y := ⟨_, rfl⟩
  rw [hte] at ht CT HD
  rw [hye] at hy CA HD
  have CB := hid (fun W : World => added_any y t n W hn hy ht)
  rw [HD] at CB
  obtain ⟨q, hq⟩ : ∃ q, pb (driveL l) n = q := ⟨_, rfl⟩
  rw [hq] at CB ⊢
  clear HD hq hye hte hge hxe hx hg ht hy hb hl h1
  have hz : (w.alloc (.cells #[.int .u64 x, .int .i64 n] 45)).heap.size = w.heap.size + 1 := by simp
  have X := (Vr.new w x n).on (row := none) (grown_alloc _ (.cells #[.int .u64 0, .int .i64 0] 45) none) (by simp)
  have c0 := X.c0
  have c1 := X.c1
  have X1 : Vr ((w.alloc (.cells #[.int .u64 x, .int .i64 n] 45)).alloc (.cells #[.int .u64 0, .int .i64 0] 45)) (w.heap.size + 1) 0 0 := by rw [← hz]; exact Vr.new _ 0 0
  have B0 := hid (((Below.refl w.heap.size w).alloc (Nat.le_refl _) (.cells #[.int .u64 x, .int .i64 n] 45)).alloc (by simp) (.cells #[.int .u64 0, .int .i64 0] 45))
  have hzW : ((w.alloc (.cells #[.int .u64 x, .int .i64 n] 45)).alloc (.cells #[.int .u64 0, .int .i64 0] 45)).heap.size = w.heap.size + 2 := by simp
  have HX := hid X
  have HX1 := hid X1
  have HZ := hid hzW
  clear X X1 hz hzW
  go_enter Try.func52, Try.ntmps52
  go_wp2_with fail
  with_reducible refine Calls.mono (CG.out _) ?_
  rintro e w2 ⟨rfl, b2⟩
  rw [HZ.out] at b2
  have hz3 : w.heap.size + 2 ≤ w2.heap.size := by have h := b2.size; rw [HZ.out] at h; exact h
  have N3 := Vr.new w2 g n
  have g3 := grown_alloc w2 (.cells #[.int .u64 g, .int .i64 n] 45) none
  have Y := (HX.out.below b2 (by omega)).on g3 (by simp)
  have Y1 := (HX1.out.below b2 (by omega)).on g3 (by simp)
  have B3 := hid ((B0.out.trans (b2.mono (by omega))).alloc (by omega) (.cells #[.int .u64 g, .int .i64 n] 45))
  have hz4 : (w2.alloc (.cells #[.int .u64 g, .int .i64 n] 45)).heap.size = w2.heap.size + 1 := by simp
  clear b2 g3 HX HX1 HZ B0 c0 c1
  go_wp2_with fail
  obtain ⟨b, hbe⟩ : ∃ b, w2.heap.size = b := ⟨_, rfl⟩
  obtain ⟨W, hW⟩ : ∃ W, w2.alloc (.cells #[.int .u64 g, .int .i64 n] 45) = W := ⟨_, rfl⟩
  rw [hW, hbe] at hz4 N3
  rw [hbe] at hz3 ⊢
  rw [hW] at Y Y1 B3 ⊢
  clear hW hbe
  have hbn1 : b ≠ w.heap.size + 1 := by omega
  have hbn2 : w.heap.size + 1 ≠ b := by omega
  have d0 := Y.c0
  have d1 := Y.c1
  have k0 := N3.c0
  have k1 := N3.c1
  have HY1 := hid Y1
  clear Y1 Y N3
  go_region_held3 (fun w' => (w'.cell? ⟨w.heap.size, 0, none⟩ = some (.int .u64 x) ∧ w'.cell? ⟨w.heap.size, 1, none⟩ = some (.int .i64 n)) ∧ (w'.cell? ⟨b, 0, none⟩ = some (.int .u64 g) ∧ w'.cell? ⟨b, 1, none⟩ = some (.int .i64 n)))
    (first
      | go_keep
      | (go_split_ands
         refine ⟨⟨?_, ?_⟩, ?_, ?_⟩ <;> exact (b5.cell (by simp only []; omega)).trans (by assumption))
      | (go_split_ands
         refine ⟨⟨?_, ?_⟩, ?_, ?_⟩ <;> exact (b4.cell (by simp only []; omega)).trans (by assumption))
      | (go_split_ands
         refine ⟨⟨?_, ?_⟩, ?_, ?_⟩ <;> exact (b3.cell (by simp; omega)).trans (by assumption)))
    (first
      | (go_at_call 62; with_reducible refine Calls.mono (CA.out _) ?_; rintro r w3 ⟨rfl, b3⟩; have hz5 : b + 1 ≤ w3.heap.size := (by have h := b3.size; simp at h; omega))
      | (go_at_call 63; with_reducible refine Calls.mono (CT.out _) ?_; rintro r w4 ⟨rfl, b4⟩; have hz6 : b + 1 ≤ w4.heap.size := (by have h := b4.size; omega))
      | (go_at_call 62; with_reducible refine Calls.mono (CB.out _) ?_; rintro r w5 ⟨rfl, b5⟩; have hz7 : b + 1 ≤ w5.heap.size := (by have h := b5.size; omega); have Y := (((HY1.out.on (row := none) (drew_grown _) (by simp)).below b3 (by simp; omega)).below b4 (by omega)).below b5 (by omega); have f0 := Y.fz 0; have f1 := Y.fz 1; have k0 := Y.c0; have k1 := Y.c1))
  have B4 := (B3.out.grown (drew_grown _) (by omega) (by simp)).trans (b3.mono (by simp; omega))
  have BB := hid ((((B4.trans (b4.mono (by omega))).trans (b5.mono (by omega))).setCell (p := ⟨w.heap.size + 1, 0, none⟩) (by simp) (.int .u64 q)).setCell (p := ⟨w.heap.size + 1, 1, none⟩) (by simp) (.int .i64 n))
  have HY := hid (Y.set q n)
  clear b3 b4 b5 Y B4
  go_wp2
  (try simp only [Exit.inBlock, Exit.then])
  refine bodyPost_ret (results_cell_row rfl _ _ (w.heap.size + 1) 45 _ (0, 0) _ (by simp [Act.put]) HY.out Try.underlying45 rfl size_vr) rfl ?_
  exact ⟨rfl, BB.out⟩

set_option maxHeartbeats 800000 in
theorem flow_any (l : List Int) (n : Nat) (w : World) (hl : l.length = n) (h1 : 1 ≤ n) (hn : n ≤ 16) (hb : ∀ x ∈ l, x = 0 ∨ x = 1) :
    Calls Try.prog 49 #[vot (pb l n) n] w fun e w' => e = .returned (.int .i64 (flowN l)) ∧ Below w.heap.size w w' := by
  have CG := hid (fun W : World => going_any l n W hl h1 hn hb)
  have hfl : (flowL l).length = n := by rw [show (flowL l).length = l.length from ringL_len _ l, hl]
  have HP : pop 16 (pb (flowL l) n) = flowN l := pop_pb hfl hn
  have h16 : pb (flowL l) n < 2 ^ 16 := Nat.lt_of_lt_of_le (pb_lt _ n) (Nat.pow_le_pow_right (by omega) hn)
  have CC := hid (fun W : World => onesCount_any (pb (flowL l) n) W h16)
  rw [HP] at CC
  obtain ⟨x, hxe⟩ : ∃ x, pb l n = x := ⟨_, rfl⟩
  obtain ⟨g, hge⟩ : ∃ g, pb (flowL l) n = g := ⟨_, rfl⟩
  rw [hxe, hge] at CG
  rw [hxe]
  rw [hge] at CC
  have hf1 := fld_vr g n
  have hf2 := fld_vo g n
  have c0 := (Vr.new w x n).c0
  have c1 := (Vr.new w x n).c1
  have B0 := hid ((Below.refl w.heap.size w).alloc (Nat.le_refl _) (.cells #[.int .u64 x, .int .i64 n] 45))
  clear HP h16 hge hxe hfl hl h1 hb
  go_enter Try.func49, Try.ntmps49
  go_wp2_with fail
  with_reducible refine Calls.mono (CG.out _) ?_
  rintro e w1 ⟨rfl, b1⟩
  have B1 := hid (below_tr B0.out (b1.mono (by simp)))
  clear b1
  go_wp2_with fail
  with_reducible refine Calls.mono (CC.out _) ?_
  rintro e w2 ⟨rfl, rfl⟩
  go_wp2
  go_ret
  exact ⟨rfl, B1.out⟩
end Go.Proofs.Ytmjcefidhigppaa
