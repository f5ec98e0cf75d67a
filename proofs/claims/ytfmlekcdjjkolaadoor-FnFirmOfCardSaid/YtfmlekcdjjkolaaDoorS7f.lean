/-
  The bits of a number in ascending order as a list, and what it is for the firm machines of votes. No walk, and no statement is proved here.
-/
import Derived.Test.YtfmlekcdjjkolaaDoorS7v
import Derived.Test.YtfmlekcdjjkolaaDoorS4w
import Derived.Test.YtfmlekcdjjkolaaDoorC7f
import Derived.Lib.TrailingZeros
namespace Go.Proofs.YtfmlekcdjjkolaaDoor
open Go.RowKit
set_option linter.unusedVariables false
set_option linter.unusedSimpArgs false

theorem ctz_shape {x : Nat} (h0 : x ≠ 0) (h : x < 2 ^ 64) : ∃ m, x = 2 ^ (Lib.ctz 64 x + 1) * m + 2 ^ Lib.ctz 64 x := by
  obtain ⟨m, hm, hk⟩ := Lib.ctzFrom_spec 64 x (by omega) h
  have e : Lib.ctz 64 x = Lib.ctzFrom 64 x := by simp [Lib.ctz, h0]
  rw [e]
  refine ⟨m, ?_⟩
  rw [Nat.pow_succ]
  generalize 2 ^ Lib.ctzFrom 64 x = p at hm ⊢
  rw [hm, Nat.mul_add, Nat.mul_one, Nat.mul_assoc]
theorem low_bits {x m q : Nat} (h : x = 2 ^ (q + 1) * m + 2 ^ q) (j : Nat) : x.testBit j = (if j < q + 1 then decide (q = j) else m.testBit (j - (q + 1))) := by
  rw [h, Nat.testBit_two_pow_mul_add _ (Nat.pow_lt_pow_right (by omega) (by omega)), Nat.testBit_two_pow]
theorem left_bits {x m q : Nat} (h : x = 2 ^ (q + 1) * m + 2 ^ q) (j : Nat) : (x &&& (x - 1)).testBit j = (if j < q + 1 then false else m.testBit (j - (q + 1))) := by
  have hp := Nat.two_pow_pos q
  have e : x - 1 = 2 ^ (q + 1) * m + (2 ^ q - 1) := by omega
  rw [Nat.testBit_and, low_bits h, e, Nat.testBit_two_pow_mul_add _ (by have := Nat.pow_succ 2 q; rw [Nat.pow_succ]; omega), Nat.testBit_two_pow_sub_one]
  by_cases hj : j < q + 1
  · simp only [hj, if_true]
    by_cases h1 : q = j
    · subst h1; simp
    · simp [h1]
  · simp [hj]
theorem asc_list : ∀ (f k t : Nat), t < 2 ^ 40 → (∀ j, j < k → t.testBit j = false) → k ≤ 40 → 40 < f + k → ascO f t = some (((List.range' k (40 - k)).filter t.testBit).map Int.ofNat)
  | 0, k, t, ht, hz, hk, hf => by omega
  | f + 1, k, t, ht, hz, hk, hf => by
    by_cases h0 : t = 0
    · subst h0
      rw [List.filter_eq_nil_iff.2 (fun a _ => by simp)]
      simp [ascO]
    · obtain ⟨m, hm⟩ := ctz_shape h0 (by omega)
      have hb := low_bits hm
      have hl := left_bits hm
      simp only [ascO, if_neg h0]
      have hq40 : Lib.ctz 64 t < 40 := by
        have h1 : t.testBit (Lib.ctz 64 t) = true := by rw [hb]; simp
        rcases Nat.lt_or_ge (Lib.ctz 64 t) 40 with h | h
        · exact h
        · rw [Nat.testBit_lt_two_pow (Nat.lt_of_lt_of_le ht (Nat.pow_le_pow_right (by omega) h))] at h1; cases h1
      obtain ⟨q, hq⟩ : ∃ q, Lib.ctz 64 t = q := ⟨_, rfl⟩
      rw [hq] at hb hl hm hq40 ⊢
      have hkq : k ≤ q := by
        rcases Nat.lt_or_ge q k with h | h
        · have := hz q h; rw [hb] at this; simp at this
        · exact h
      rw [asc_list f (q + 1) (t &&& (t - 1)) (Nat.lt_of_le_of_lt Nat.and_le_left ht) (fun j hj => by rw [hl, if_pos hj]) (by omega) (by omega)]
      have e1 : List.range' k (40 - k) = List.range' k (q - k) ++ (q :: List.range' (q + 1) (40 - (q + 1))) := by
        rw [show 40 - k = (q - k) + ((40 - (q + 1)) + 1) by omega, List.range'_append_1.symm, show k + (q - k) = q by omega, List.range'_succ]
      have e2 : (List.range' k (q - k)).filter t.testBit = [] := List.filter_eq_nil_iff.2 fun a ha => by
        rw [List.mem_range'_1] at ha
        rw [hb, if_pos (by omega)]; simp; omega
      have e3 : (List.range' (q + 1) (40 - (q + 1))).filter (t &&& (t - 1)).testBit = (List.range' (q + 1) (40 - (q + 1))).filter t.testBit := List.filter_congr fun a ha => by
        rw [List.mem_range'_1] at ha
        rw [hb, hl, if_neg (by omega), if_neg (by omega)]
      rw [e1, List.filter_append, e2, e3, List.nil_append, List.filter_cons_of_pos (by rw [hb]; simp)]
      rfl
theorem firm_list {l : List Int} {n : Nat} (hl : l.length = n) (hn : 1 ≤ n) (h40 : n ≤ 40) (hb : bitsL l) (ht : firmB (pk l n) n < 2 ^ 40) : ascO 41 (firmB (pk l n) n) = some (firmTo l n) := by
  rw [asc_list 41 0 _ ht (fun j hj => by omega) (by omega) (by omega)]
  have e1 : List.range' 0 (40 - 0) = List.range n ++ List.range' n (40 - n) := by
    rw [List.range_eq_range', show 40 - 0 = n + (40 - n) by omega, List.range'_append_1.symm, Nat.zero_add]
  have e2 : (List.range' n (40 - n)).filter (firmB (pk l n) n).testBit = [] := List.filter_eq_nil_iff.2 fun a ha => by
    rw [List.mem_range'_1] at ha
    rw [firm_bit hl hn h40 hb]; simp; omega
  have e3 : (List.range n).filter (firmB (pk l n) n).testBit = (List.range n).filter (firmAt l) := List.filter_congr fun a ha => by
    rw [List.mem_range] at ha
    rw [firm_bit hl hn h40 hb]; simp [ha]
  rw [e1, List.filter_append, e2, e3, List.append_nil]
  rfl
end Go.Proofs.YtfmlekcdjjkolaaDoor
