/-
  Texts put together: S4p S4t S4v S4w S7f C4w C7j. No statement is proved here.
-/
import Derived.Test.YtkejcajboneniabGreatDoorQMh
import Derived.Lib.TrailingZeros
import Derived.Test.YtkejcajboneniabGreatDoorQMa
import Derived.Test.YtkejcajboneniabGreatDoorQMg
import Derived.Test.YtkejcajboneniabGreatDoorQMs
import Derived.Shelf.Spec.TrailingZeros
import Derived.Laws.Bits64b
import Derived.OwnWalk
import Derived.Test.YtkejcajboneniabGreatDoorQMp
import Derived.Deep.RegionHeld3
set_option linter.unusedVariables false
set_option linter.unusedSimpArgs false
namespace Go.Proofs.YtkejcajboneniabGreatDoor
open Go.RowKit

end Go.Proofs.YtkejcajboneniabGreatDoor
namespace Go.Proofs.YtkejcajboneniabGreatDoor
open Go.RowKit

end Go.Proofs.YtkejcajboneniabGreatDoor
namespace Go.Proofs.YtkejcajboneniabGreatDoor
open Go.RowKit

end Go.Proofs.YtkejcajboneniabGreatDoor
namespace Go.Proofs.YtkejcajboneniabGreatDoor
open Go.RowKit

/-- The bits of a number in ascending order, if there are at most so many. -/
def ascO : Nat → Nat → Option (List Int)
  | 0, x => if x = 0 then some [] else none
  | f + 1, x => if x = 0 then some [] else (ascO f (x &&& (x - 1))).map (((Lib.ctz 64 x : Nat) : Int) :: ·)
theorem ascO_zero {f : Nat} {r : List Int} (h : ascO f 0 = some r) : r = [] := by cases f <;> simp [ascO] at h <;> exact h
theorem ascO_step {f x : Nat} {r : List Int} (h : ascO f x = some r) (hx : x ≠ 0) : ∃ f' r', r = ((Lib.ctz 64 x : Nat) : Int) :: r' ∧ ascO f' (x &&& (x - 1)) = some r' := by
  cases f with
  | zero => simp [ascO, hx] at h
  | succ f =>
    simp only [ascO, if_neg hx, Option.map_eq_some_iff] at h
    obtain ⟨r', h1, h2⟩ := h
    exact ⟨f, r', h2.symm, h1⟩
end Go.Proofs.YtkejcajboneniabGreatDoor
namespace Go.Proofs.YtkejcajboneniabGreatDoor
open Go.RowKit

theorem ctz_shape {x : Nat} (h0 : x ≠ 0) (h : x < 2 ^ 64) : ∃ m, x = 2 ^ (Lib.ctz 64 x + 1) * m + 2 ^ Lib.ctz 64 x := by
  obtain ⟨m, hm, hk⟩ := Lib.ctzFrom_spec 64 x (by omega) h
  have e : Lib.ctz 64 x = Lib.ctzFrom 64 x := by simp [Lib.ctz, h0]
  rw [e]
  refine ⟨m, ?_⟩
  rw [Nat.pow_succ]
  generalize 2 ^ Lib.ctzFrom 64 x = p at hm ⊢
  rw [hm, Nat.mul_add, Nat.mul_one, Nat.mul_assoc]
theorem low_bits {x m q : Nat} (h : x = 2 ^ (q + 1) * m + 2 ^ q) (j : Nat) : x.testBit j = (if j < q + 1 then decide (q = j) else m.testBit (j - (q + 1))) := by
  rw [h, Nat.testBit_two_pow_mul_add _ (Nat.pow_lt_pow_right (by omega) (by omega)), Nat.testBit_two_pow]
theorem left_bits {x m q : Nat} (h : x = 2 ^ (q + 1) * m + 2 ^ q) (j : Nat) : (x &&& (x - 1)).testBit j = (if j < q + 1 then false else m.testBit (j - (q + 1))) := by
  have hp := Nat.two_pow_pos q
  have e : x - 1 = 2 ^ (q + 1) * m + (2 ^ q - 1) := by omega
  rw [Nat.testBit_and, low_bits h, e, Nat.testBit_two_pow_mul_add _ (by have := Nat.pow_succ 2 q; rw [Nat.pow_succ]; omega), Nat.testBit_two_pow_sub_one]
  by_cases hj : j < q + 1
  · simp only [hj, if_true]
    by_cases h1 : q = j
    · subst h1; simp
    · simp [h1]
  · simp [hj]
theorem asc_list : ∀ (f k t : Nat), t < 2 ^ 40 → (∀ j, j < k → t.testBit j = false) → k ≤ 40 → 40 < f + k → ascO f t = some (((List.range' k (40 - k)).filter t.testBit).map Int.ofNat)
  | 0, k, t, ht, hz, hk, hf => by omega
  | f + 1, k, t, ht, hz, hk, hf => by
    by_cases h0 : t = 0
    · subst h0
      rw [List.filter_eq_nil_iff.2 (fun a _ => by simp)]
      simp [ascO]
    · obtain ⟨m, hm⟩ := ctz_shape h0 (by omega)
      have hb := low_bits hm
      have hl := left_bits hm
      simp only [ascO, if_neg h0]
      have hq40 : Lib.ctz 64 t < 40 := by
        have h1 : t.testBit (Lib.ctz 64 t) = true := by rw [hb]; simp
        rcases Nat.lt_or_ge (Lib.ctz 64 t) 40 with h | h
        · exact h
        · rw [Nat.testBit_lt_two_pow (Nat.lt_of_lt_of_le ht (Nat.pow_le_pow_right (by omega) h))] at h1; cases h1
      obtain ⟨q, hq⟩ : ∃ q, Lib.ctz 64 t = q := ⟨_, rfl⟩
      rw [hq] at hb hl hm hq40 ⊢
      have hkq : k ≤ q := by
        rcases Nat.lt_or_ge q k with h | h
        · have := hz q h; rw [hb] at this; simp at this
        · exact h
      rw [asc_list f (q + 1) (t &&& (t - 1)) (Nat.lt_of_le_of_lt Nat.and_le_left ht) (fun j hj => by rw [hl, if_pos hj]) (by omega) (by omega)]
      have e1 : List.range' k (40 - k) = List.range' k (q - k) ++ (q :: List.range' (q + 1) (40 - (q + 1))) := by
        rw [show 40 - k = (q - k) + ((40 - (q + 1)) + 1) by omega, List.range'_append_1.symm, show k + (q - k) = q by omega, List.range'_succ]
      have e2 : (List.range' k (q - k)).filter t.testBit = [] := List.filter_eq_nil_iff.2 fun a ha => by
        rw [List.mem_range'_1] at ha
        rw [hb, if_pos (by omega)]; simp; omega
      have e3 : (List.range' (q + 1) (40 - (q + 1))).filter (t &&& (t - 1)).testBit = (List.range' (q + 1) (40 - (q + 1))).filter t.testBit := List.filter_congr fun a ha => by
        rw [List.mem_range'_1] at ha
        rw [hb, hl, if_neg (by omega), if_neg (by omega)]
      rw [e1, List.filter_append, e2, e3, List.nil_append, List.filter_cons_of_pos (by rw [hb]; simp)]
      rfl
theorem firm_list {l : List Int} {n : Nat} (hl : l.length = n) (hn : 1 ≤ n) (h40 : n ≤ 40) (hb : bitsL l) (ht : firmB (pk l n) n < 2 ^ 40) : ascO 41 (firmB (pk l n) n) = some (firmTo l n) := by
  rw [asc_list 41 0 _ ht (fun j hj => by omega) (by omega) (by omega)]
  have e1 : List.range' 0 (40 - 0) = List.range n ++ List.range' n (40 - n) := by
    rw [List.range_eq_range', show 40 - 0 = n + (40 - n) by omega, List.range'_append_1.symm, Nat.zero_add]
  have e2 : (List.range' n (40 - n)).filter (firmB (pk l n) n).testBit = [] := List.filter_eq_nil_iff.2 fun a ha => by
    rw [List.mem_range'_1] at ha
    rw [firm_bit hl hn h40 hb]; simp; omega
  have e3 : (List.range n).filter (firmB (pk l n) n).testBit = (List.range n).filter (firmAt l) := List.filter_congr fun a ha => by
    rw [List.mem_range] at ha
    rw [firm_bit hl hn h40 hb]; simp [ha]
  rw [e1, List.filter_append, e2, e3, List.append_nil]
  rfl
end Go.Proofs.YtkejcajboneniabGreatDoor
namespace Go.Proofs.YtkejcajboneniabGreatDoor
open Go.RowKit

theorem and127 (a : Int) : ∃ c : Nat, c ≤ 127 ∧ bits .and .i64 a 127 = (c : Int) := by
  have h1 : (BitVec.ofInt 64 (127 : Int)).toNat = 127 := by decide
  have hb : (BitVec.ofInt 64 a).toNat &&& 127 ≤ 127 := Nat.and_le_right
  refine ⟨(BitVec.ofInt 64 a).toNat &&& 127, hb, ?_⟩
  show IntKind.i64.wrap ((BitVec.ofInt 64 a &&& BitVec.ofInt 64 (127 : Int)).toNat : Int) = _
  rw [BitVec.toNat_and, h1]
  exact IntWalk.i64_in _ (by omega)

theorem ones_any (x : Int) (w : World) :
    Calls Tryz.prog 202 #[.int .u64 x] w fun e w' => (∃ c : Nat, c ≤ 127 ∧ e = .returned (.int .i64 c)) ∧ w = w' := by
  go_enter Tryz.func202, Tryz.ntmps202
  go_wp2
  go_ret
  refine ⟨?_, rfl⟩
  obtain ⟨c, hc, he⟩ := and127 _
  exact ⟨c, hc, by rw [← he]; rfl⟩

theorem tz_any (x : Nat) (w : World) (hx0 : x ≠ 0) (hx : x < 2 ^ 40) (hT : TabsZ w) :
    Calls Tryz.prog 211 #[.int .u64 x] w fun e w' => e = .returned (.int .i64 (Lib.ctz 64 x : Nat)) ∧ w = w' := by
  obtain ⟨hlow, hk⟩ := Lib.lowest_bit 64 x hx0 (by omega)
  obtain ⟨hi, htab⟩ := Lib.deBruijn64_at _ hk
  have key := tz64_key x _ (by omega) hx0 hlow
  have hcell := hT.z _ hi
  rw [htab] at hcell
  have hx0' : ((x : Int) == 0) = false := by simp; exact hx0
  obtain ⟨idx, hidx⟩ : ∃ idx, 2 ^ Lib.ctz 64 x * 285870213051353865 % 18446744073709551616 / 288230376151711744 = idx := ⟨_, rfl⟩
  rw [hidx] at hi hcell key
  obtain ⟨k, hkk⟩ : ∃ k, Lib.ctz 64 x = k := ⟨_, rfl⟩
  rw [hkk] at hk hcell ⊢
  clear hlow htab hidx hkk
  go_enter Tryz.func211, Tryz.ntmps211
  go_wp2_with (simp only [key])
  go_ret
  exact ⟨rfl, rfl⟩
theorem left_key (x : Nat) (hx0 : x ≠ 0) (hx : x < 2 ^ 40) : bits .and .u64 (x : Int) ((x : Int) - 1) = ((x &&& (x - 1) : Nat) : Int) := by
  have e : ((x : Int) - 1) = ((x - 1 : Nat) : Int) := by omega
  rw [e]
  exact bits_and_u64_nat x (x - 1) (by omega) (by omega)
theorem left_lt (x : Nat) (hx0 : x ≠ 0) : x &&& (x - 1) < x := by
  have : x &&& (x - 1) ≤ x - 1 := Nat.and_le_right
  omega

set_option maxHeartbeats 1600000 in
theorem ascending_any (t : Nat) (L : List Int) (w : World) (ht : t < 2 ^ 40) (hL : ascO 41 t = some L) (hlen : L.length ≤ 40) (hT : TabsZ w) :
    Calls Tryz.prog 206 #[.int .u64 t] w fun e w' => ∃ A m c, e = .returned (.slice A m c) ∧ w'.ownsRow w.heap.size 3 1 (.slice A m c) m (ints L) ∧ m ≤ 40 ∧ Below w.heap.size w w' := by
  obtain ⟨i0, hi, hz0, hz1, hz2⟩ := info_parts info_int
  have HT := hid hT; clear hT
  have HL := hid (show ∃ f r, ascO f t = some r ∧ ([] : List Int) ++ r = L from ⟨41, L, hL, rfl⟩)
  clear hL
  go_enter Tryz.func206, Tryz.ntmps206
  go_wp2_with (first | (go_at_call 202; refine (ones_any _ _).mono ?_; rintro e w' ⟨⟨c, hc, rfl⟩, rfl⟩) | (refine wpList_make_own _ rfl (.const (.int .i64 0)) (.tmp 6) 28 rfl w.heap.size 3 i0 _ 1 Tryz.underlying28 hi hz0 hz1 .i64 .i64 c c rfl rfl rfl (by rw [hz2]; omega) (by simp only [maxLen]; omega) (by simp) ?_; intro w1 o1 g1))
  have b1 := hid (below_grown g1)
  clear g1
  go_loopw [3, 4] (fun v y wr => ∃ (A : Option Addr) (i c x : Nat) (pre : List Int), v = .slice A i c ∧ y = .int .u64 x ∧ x < 2 ^ 40 ∧ Hid (∃ f r, ascO f x = some r ∧ pre ++ r = L) ∧ wr.ownsRow w.heap.size 3 1 (.slice A i c) i (ints pre) ∧ Hid (Below w.heap.size w wr)) (fun _ y _ => (intOf y).toNat)
  case atStart => exact ⟨_, 0, _, t, [], rfl, rfl, ht, HL, o1, b1⟩
  case round =>
    clear o1 b1 HL ht
    obtain ⟨A, i, c, x, pre, rfl, rfl, hx, HL, hown, BB⟩ := hrel
    have hbw := BB.out.size
    by_cases hx0 : x = 0
    · subst hx0
      have hl : pre = L := by
        obtain ⟨f, r, h1, h2⟩ := HL.out
        rw [ascO_zero h1, List.append_nil] at h2
        exact h2
      subst hl
      have hi40 : i ≤ 40 := by have := hown.1; simp at this; omega
      have HN := hid hown
      clear hown
      go_wp2
      go_ret
      exact ⟨_, _, _, rfl, HN.out, hi40, BB.out⟩
    · have hi40 : i + 1 ≤ 40 := by
        obtain ⟨f, r, h1, h2⟩ := HL.out
        obtain ⟨f', r', h3, h4⟩ := ascO_step h1 hx0
        rw [h3] at h2
        have h5 := hown.1
        rw [← h2] at hlen
        simp at hlen h5
        omega
      have HS := hid (show ∃ f r, ascO f (x &&& (x - 1)) = some r ∧ (pre ++ [((Lib.ctz 64 x : Nat) : Int)]) ++ r = L from by
        obtain ⟨f, r, h1, h2⟩ := HL.out
        obtain ⟨f', r', h3, h4⟩ := ascO_step h1 hx0
        exact ⟨f', r', h4, by rw [← h2, h3]; simp⟩)
      have HZ := hid (tz_any x wr hx0 hx (HT.out.below BB.out))
      have HK := hid (left_key x hx0 hx)
      have hlt := left_lt x hx0
      have hx0i : ((x : Int) != 0) = true := by simp; exact hx0
      obtain ⟨q, hq⟩ : ∃ q : Nat, Lib.ctz 64 x = q := ⟨_, rfl⟩
      obtain ⟨y, hy⟩ : ∃ y : Nat, x &&& (x - 1) = y := ⟨_, rfl⟩
      rw [hq] at HZ HS
      rw [hy] at HS HK hlt
      clear hq hy HL
      go_wp2_with (first | (go_at_call 211; refine HZ.out.mono ?_; rintro e w' ⟨rfl, rfl⟩) | (at_builtin; refine wpList_append_own _ rfl (.tmp 15) (.tmp 18) 28 rfl w.heap.size 3 i0 (.int .i64 0) 1 8 Tryz.underlying28 hi hz0 hz1 hz2 rfl (by decide) (.slice A i c) _ _ rfl (hown.alloc _) ⟨wr.heap.size, 0, none⟩ 1 1 [.int .i64 q] rfl rfl (cell_one_new _ _ _) (by simp [Value.oneCell']) (by simp only [maxLen]; omega) (by omega) (by simp; omega) ?_; intro v2 w4 hown4 hgrow4 _))
      obtain ⟨g2, c2, rfl, _, _⟩ := own_shape hown4
      have ga := grown_alloc wr (.cells #[.int .i64 q] 3) none
      have BB4 := hid ((BB.out.trans ((below_grown ga).mono hbw)).grown hgrow4 (by simp; omega) (own_lo hown))
      have HN := hid hown4
      clear hown4 hgrow4 hown ga BB
      go_wp2
      rw [HK.out]
      go_roundw
      case rel => exact ⟨_, i + 1, c2, y, pre ++ [(q : Int)], rfl, rfl, by omega, HS, by rw [show ints (pre ++ [(q : Int)]) = ints pre ++ [.int .i64 q] from by simp [ints]]; exact HN.out, BB4⟩
      case measure => simp [intOf]; omega
end Go.Proofs.YtkejcajboneniabGreatDoor
namespace Go.Proofs.YtkejcajboneniabGreatDoor
open Go.RowKit

theorem bits_andNot7 (a b : Nat) (ha : a < 18446744073709551616) (hb : b < 18446744073709551616) :
    bits .andNot .u64 (a : Int) (b : Int) = ((a &&& ((2 ^ 64 - 1) ^^^ b) : Nat) : Int) := by
  have hx : a &&& ((2 ^ 64 - 1) ^^^ b) < 2 ^ 64 := Nat.lt_of_le_of_lt Nat.and_le_left (by omega)
  have h1 : (BitVec.ofInt 64 (a : Int)).toNat = a := by
    rw [BitVec.ofInt_natCast, BitVec.toNat_ofNat]; exact Nat.mod_eq_of_lt (by omega)
  have h2 : (BitVec.ofInt 64 (b : Int)).toNat = b := by
    rw [BitVec.ofInt_natCast, BitVec.toNat_ofNat]; exact Nat.mod_eq_of_lt (by omega)
  show IntKind.u64.wrap ((BitVec.ofInt 64 (a : Int) &&& ~~~ BitVec.ofInt 64 (b : Int)).toNat : Int) = _
  have h3 : (~~~ BitVec.ofInt 64 (b : Int)).toNat = (2 ^ 64 - 1) ^^^ b := by
    rw [BitVec.not_def, BitVec.toNat_xor, BitVec.toNat_allOnes, h2]
  rw [BitVec.toNat_and, h1, h3, IntKind.wrap_u64]
  omega

set_option maxRecDepth 100000 in
set_option maxHeartbeats 3200000 in
theorem firm_any (x n : Nat) (w : World) (h1 : 1 ≤ n) (hn : n ≤ 40) (hx : x < 2 ^ n) :
    Calls Tryz.prog 205 #[vot x n] w fun e w' => e = .returned (.int .u64 (firmB x n : Nat)) ∧ w.grownBy w' none := by
  have X := Vb.new w x n
  have B0 := hid (grown_alloc w (.cells #[.int .u64 x, .int .i64 n] 149) none)
  have c0 := X.c0
  have c1 := X.c1
  have CL := hid (fun W : World => fromLeft_any x n W hn hx)
  have CR := hid (fun W : World => fromRight_any x n W h1 hn hx)
  have CA := hid (fun W : World => all_any x n W hn)
  have hp := pow40 hn
  have hl := fromL_lt (x := x) (n := n) hx
  have hr := fromR_lt (x := x) (n := n) hx
  obtain ⟨L, hL⟩ : ∃ L, fromL x n = L := ⟨_, rfl⟩
  obtain ⟨R, hR⟩ : ∃ R, fromR x n = R := ⟨_, rfl⟩
  have HW := hid (show bits .andNot .u64 ((2 ^ n - 1 : Nat) : Int) (bits .and .u64 (bits .xor .u64 (x : Int) (L : Int)) (bits .xor .u64 (x : Int) (R : Int))) = (firmB x n : Nat) from by
    unfold firmB
    rw [hL] at hl ⊢; rw [hR] at hr ⊢
    have q1 : x ^^^ L < 2 ^ n := Nat.xor_lt_two_pow hx hl
    have q2 : x ^^^ R < 2 ^ n := Nat.xor_lt_two_pow hx hr
    have q3 : (x ^^^ L) &&& (x ^^^ R) ≤ x ^^^ L := Nat.and_le_left
    rw [bits_xor_u64_nat _ _ (by omega) (by omega), bits_xor_u64_nat _ _ (by omega) (by omega), bits_and_u64_nat _ _ (by omega) (by omega), bits_andNot7 _ _ (by omega) (by omega)])
  rw [hL] at CL; rw [hR] at CR
  clear hp hl hr hL hR X hx
  go_enter Tryz.func205, Tryz.ntmps205
  go_wp2_with fail
  go_region_held3 (fun w' => w'.cell? ⟨w.heap.size, 0, none⟩ = some (.int .u64 x) ∧ w'.cell? ⟨w.heap.size, 1, none⟩ = some (.int .i64 n))
    (first
      | go_keep
      | (go_split_ands
         refine ⟨?_, ?_⟩ <;> exact hg4.cell (by assumption) (by simp))
      | (go_split_ands
         refine ⟨?_, ?_⟩ <;> exact hg3.cell (by assumption) (by simp)))
    (first
      | (go_at_call 216; with_reducible refine Calls.mono (CL.out _) ?_; rintro r w3 ⟨rfl, hg3⟩)
      | (go_at_call 217; with_reducible refine Calls.mono (CR.out _) ?_; rintro r w4 ⟨rfl, hg4⟩))
  have HG := hid (((B0.out.trans (drew_grown _)).trans hg3).trans hg4)
  clear hg3 hg4
  go_wp2_with fail
  with_reducible refine Calls.mono (CA.out _) ?_
  rintro r w5 ⟨rfl, hg5⟩
  have HG5 := hid (HG.out.trans hg5)
  clear hg5
  go_wp2
  go_ret
  exact ⟨by rw [← HW.out]; rfl, HG5.out⟩

set_option maxRecDepth 100000 in
set_option maxHeartbeats 3200000 in
theorem implFirmOf_any (A : Option Addr) (n c : Nat) (l : List Int) (w : World) (hs : Sl w w.heap.size A n l) (hT : TabsZ w) :
    Calls Tryz.prog 177 #[.slice A n c] w fun e w' => ∃ A2 m c2, e = .returned (.slice A2 m c2) ∧ w'.ownsRow w.heap.size 3 1 (.slice A2 m c2) m (ints (firmOut l)) ∧ m ≤ 40 ∧ Below w.heap.size w w' := by
  have HL := hid hs.len
  have CK := hid (votesI_any A n c l w w.heap.size hs)
  cases hok : votesOk l with
  | false =>
    have HV := hid (show firmOut l = [] from by unfold firmOut; rw [hok]; rfl)
    rw [hok] at CK
    clear hok
    go_enter Tryz.func177, Tryz.ntmps177
    go_wp2_with fail
    with_reducible refine Calls.mono CK.out ?_
    rintro e w' ⟨rfl, rfl⟩
    go_wp2
    go_ret
    exact ⟨_, 0, _, rfl, by rw [HV.out]; exact World.ownsRow_nil _ _ _ _, by omega, Below.refl _ _⟩
  | true =>
    have HV := hid (show firmOut l = firmTo l n from by unfold firmOut; rw [if_pos hok, HL.out])
    obtain ⟨⟨h1, h2⟩, hb⟩ := votesOk_iff.1 hok
    rw [HL.out] at h1 h2
    rw [hok] at CK
    have CV := hid (votesOf_any A n c l w hs h2 hb)
    have CF := hid (fun W : World => firm_any (pk l n) n W h1 h2 (pk_lt _ _))
    have hlt : firmB (pk l n) n < 2 ^ 40 := Nat.lt_of_le_of_lt Nat.and_le_left (by have := pow40 h2; omega)
    have CR := hid (fun (W : World) (hW : TabsZ W) => ascending_any (firmB (pk l n) n) (firmTo l n) W hlt (firm_list HL.out h1 h2 hb hlt) (by have := firm_len l n; omega) hW)
    have HT := hid hT
    clear hok hb hs hlt hT
    go_enter Tryz.func177, Tryz.ntmps177
    go_wp2_with fail
    with_reducible refine Calls.mono CK.out ?_
    rintro e w' ⟨rfl, rfl⟩
    go_wp2_with fail
    with_reducible refine Calls.mono CV.out ?_
    rintro e w1 ⟨rfl, b1⟩
    go_wp2_with fail
    with_reducible refine Calls.mono (CF.out w1) ?_
    rintro e w2 ⟨rfl, g2⟩
    have T2 := (HT.out.below b1).on g2
    go_wp2_with fail
    with_reducible refine Calls.mono (CR.out w2 T2) ?_
    rintro e w3 ⟨A3, m, c3, rfl, o3, hm, b3⟩
    have HB2 := hid (b1.trans ((below_grown g2).mono b1.size))
    have O3 := hid (own_mono o3 HB2.out.size)
    have HB3 := hid (HB2.out.trans (b3.mono HB2.out.size))
    clear b1 b3 o3 g2 T2
    go_wp2
    go_ret
    exact ⟨_, m, _, rfl, by rw [HV.out]; exact O3.out, hm, HB3.out⟩
end Go.Proofs.YtkejcajboneniabGreatDoor
