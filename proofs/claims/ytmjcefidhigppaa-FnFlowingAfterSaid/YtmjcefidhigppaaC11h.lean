/-
  Walks of the program's free places: math/bits.Reverse64, the ring as the free places see it. No statement is proved here.
-/
import Derived.Test.YtmjcefidhigppaaC11f
namespace Go.Proofs.Ytmjcefidhigppaa
open Go.RowKit
set_option linter.unusedVariables false
set_option linter.unusedSimpArgs false

/-- Bits of one half and those of the other exchanged, k at a time. -/
def stp (x k m : Nat) : Nat := (x / 2 ^ k &&& m) ||| (x &&& m) * 2 ^ k
def swp (k i : Nat) : Nat := if i / k % 2 = 0 then i + k else i - k
theorem stp_bit (x k m i : Nat) : (stp x k m).testBit i = ((x.testBit (i + k) && m.testBit i) || (decide (k ≤ i) && (x.testBit (i - k) && m.testBit (i - k)))) := by
  unfold stp
  rw [Nat.testBit_or, Nat.testBit_and, Nat.testBit_div_two_pow, Nat.mul_comm _ (2 ^ k), Nat.testBit_two_pow_mul, Nat.testBit_and]
theorem stp_at {x k m i : Nat} (hk : 0 < k) (hm : ∀ i, i < 64 → m.testBit i = decide (i / k % 2 = 0)) (hi : i < 64) : (stp x k m).testBit i = x.testBit (swp k i) := by
  rw [stp_bit, hm i hi, hm (i - k) (by omega)]
  unfold swp
  by_cases h : k ≤ i
  · have e : (i - k) / k = i / k - 1 := by
      have h2 := Nat.add_div_right (i - k) hk
      rw [show i - k + k = i by omega] at h2
      rw [h2]
      exact (Nat.add_sub_cancel ..).symm
    have h1 : 1 ≤ i / k := (Nat.le_div_iff_mul_le hk).2 (by omega)
    rw [e]
    generalize i / k = u at h1
    rcases Nat.mod_two_eq_zero_or_one u with h0 | h0
    · rw [if_pos h0, h0]
      rw [show (u - 1) % 2 = 1 by omega]
      simp
    · rw [if_neg (by omega), h0]
      rw [show (u - 1) % 2 = 0 by omega]
      simp [h]
  · rw [show i / k = 0 from Nat.div_eq_of_lt (by omega)]
    simp [h]
theorem msk0 : ∀ i, i < 64 → (6148914691236517205 : Nat).testBit i = decide (i / 1 % 2 = 0) := by decide +kernel
theorem msk1 : ∀ i, i < 64 → (3689348814741910323 : Nat).testBit i = decide (i / 2 % 2 = 0) := by decide +kernel
theorem msk2 : ∀ i, i < 64 → (1085102592571150095 : Nat).testBit i = decide (i / 4 % 2 = 0) := by decide +kernel
theorem msk3 : ∀ i, i < 64 → (71777214294589695 : Nat).testBit i = decide (i / 8 % 2 = 0) := by decide +kernel
theorem msk4 : ∀ i, i < 64 → (281470681808895 : Nat).testBit i = decide (i / 16 % 2 = 0) := by decide +kernel

theorem stp_lt {x k m a : Nat} (hx : x < 2 ^ a) : stp x k m < 2 ^ (a + k) := by
  have hp : 2 ^ (a + k) = 2 ^ a * 2 ^ k := Nat.pow_add ..
  have h1 : 0 < 2 ^ k := Nat.two_pow_pos k
  refine Nat.or_lt_two_pow ?_ ?_
  · have h2 : x / 2 ^ k &&& m ≤ x := Nat.le_trans Nat.and_le_left (Nat.div_le_self _ _)
    have h3 : 2 ^ a * 1 ≤ 2 ^ a * 2 ^ k := Nat.mul_le_mul_left _ h1
    omega
  · rw [hp]
    exact Nat.mul_lt_mul_of_pos_right (Nat.lt_of_le_of_lt Nat.and_le_left hx) h1

def rvA (x : Nat) : Nat := stp (stp (stp x 1 6148914691236517205) 2 3689348814741910323) 4 1085102592571150095
def rvB (x : Nat) : Nat := stp (stp x 8 71777214294589695) 16 281470681808895
def rvC (x : Nat) : Nat := x / 4294967296 ||| x * 4294967296 % 18446744073709551616
theorem rv_idx : ∀ i, i < 16 → 16 + i < 64 ∧ swp 16 (16 + i) < 64 ∧ swp 8 (swp 16 (16 + i)) < 64 ∧ swp 4 (swp 8 (swp 16 (16 + i))) < 64 ∧ swp 2 (swp 4 (swp 8 (swp 16 (16 + i)))) < 64 ∧ swp 1 (swp 2 (swp 4 (swp 8 (swp 16 (16 + i))))) = 15 - i := by decide +kernel
theorem rv_bit {x i : Nat} (hx : x < 2 ^ 16) (hi : i < 16) : (rvC (rvB (rvA x))).testBit (48 + i) = x.testBit (15 - i) := by
  have hA : rvA x < 2 ^ 23 := stp_lt (a := 19) (k := 4) (stp_lt (a := 17) (k := 2) (stp_lt (a := 16) (k := 1) hx))
  have hB : rvB (rvA x) < 2 ^ 47 := stp_lt (a := 31) (k := 16) (stp_lt (a := 23) (k := 8) hA)
  obtain ⟨g1, g2, g3, g4, g5, g6⟩ := rv_idx i hi
  unfold rvC
  rw [Nat.testBit_or, show (4294967296 : Nat) = 2 ^ 32 from rfl, Nat.testBit_div_two_pow, Nat.testBit_lt_two_pow (Nat.lt_of_lt_of_le hB (Nat.pow_le_pow_right (by omega) (by omega))),
    show (18446744073709551616 : Nat) = 2 ^ 64 from rfl, Nat.testBit_mod_two_pow, Nat.mul_comm _ (2 ^ 32), Nat.testBit_two_pow_mul, show 48 + i - 32 = 16 + i by omega]
  unfold rvB rvA
  rw [stp_at (by omega) msk4 g1, stp_at (by omega) msk3 g2, stp_at (by omega) msk2 g3, stp_at (by omega) msk1 g4, stp_at (by omega) msk0 g5, g6]
  simp [show 48 + i < 64 by omega, show 32 ≤ 48 + i by omega]
theorem rvC_lt {x : Nat} (hx : x < 2 ^ 64) : rvC x < 2 ^ 64 := Nat.or_lt_two_pow (Nat.lt_of_le_of_lt (Nat.div_le_self _ _) hx) (Nat.mod_lt _ (by decide))

theorem wrap_shl {x : Nat} : IntKind.u64.wrap ((x : Int) * 4294967296) = ((x * 4294967296 % 18446744073709551616 : Nat) : Int) := by
  rw [IntKind.wrap_u64]
  omega

set_option maxHeartbeats 800000 in
theorem revBytes_any (x : Nat) (w : World) (hx : x < 2 ^ 23) :
    Calls Try.prog 69 #[.int .u64 x] w fun e w' => e = .returned (.int .u64 (rvC (rvB x) : Nat)) ∧ w = w' := by
  have lA1 : x / 256 &&& 71777214294589695 ≤ x / 256 := Nat.and_le_left
  have lA2 : x &&& 71777214294589695 ≤ x := Nat.and_le_left
  obtain ⟨a1, eA1⟩ : ∃ y, x / 256 &&& 71777214294589695 = y := ⟨_, rfl⟩
  obtain ⟨a2, eA2⟩ : ∃ y, x &&& 71777214294589695 = y := ⟨_, rfl⟩
  rw [eA1] at lA1
  rw [eA2] at lA2
  have hA1 : bits .and .u64 ((x : Int) / 256) 71777214294589695 = (a1 : Int) := by have h := bits_and_u64_nat (x / 256) 71777214294589695 (by omega) (by omega); rw [eA1] at h; rw [show ((x / 256 : Nat) : Int) = (x : Int) / 256 from by omega] at h; exact h
  have hA2 : bits .and .u64 (x : Int) 71777214294589695 = (a2 : Int) := by have h := bits_and_u64_nat x 71777214294589695 (by omega) (by omega); rw [eA2] at h; exact h
  have hA3 : IntKind.u64.wrap ((a2 : Int) * 256) = ((a2 * 256 : Nat) : Int) := by rw [show (a2 : Int) * 256 = ((a2 * 256 : Nat) : Int) from by omega]; exact u64_in _ (by omega)
  have lb : a1 ||| a2 * 256 < 2 ^ 31 := by have h := stp_lt (k := 8) (m := 71777214294589695) hx; unfold stp at h; rw [show (2 : Nat) ^ 8 = 256 from rfl, eA1, eA2] at h; exact h
  obtain ⟨b, eb⟩ : ∃ y, a1 ||| a2 * 256 = y := ⟨_, rfl⟩
  rw [eb] at lb
  have hA : bits .or .u64 (a1 : Int) ((a2 * 256 : Nat) : Int) = (b : Int) := by have h := bits_or_u64_nat a1 (a2 * 256) (by omega) (by omega); rw [eb] at h; exact h
  rw [← hA3] at hA
  have lB1 : b / 65536 &&& 281470681808895 ≤ b / 65536 := Nat.and_le_left
  have lB2 : b &&& 281470681808895 ≤ b := Nat.and_le_left
  obtain ⟨b1, eB1⟩ : ∃ y, b / 65536 &&& 281470681808895 = y := ⟨_, rfl⟩
  obtain ⟨b2, eB2⟩ : ∃ y, b &&& 281470681808895 = y := ⟨_, rfl⟩
  rw [eB1] at lB1
  rw [eB2] at lB2
  have hB1 : bits .and .u64 ((b : Int) / 65536) 281470681808895 = (b1 : Int) := by have h := bits_and_u64_nat (b / 65536) 281470681808895 (by omega) (by omega); rw [eB1] at h; rw [show ((b / 65536 : Nat) : Int) = (b : Int) / 65536 from by omega] at h; exact h
  have hB2 : bits .and .u64 (b : Int) 281470681808895 = (b2 : Int) := by have h := bits_and_u64_nat b 281470681808895 (by omega) (by omega); rw [eB2] at h; exact h
  have hB3 : IntKind.u64.wrap ((b2 : Int) * 65536) = ((b2 * 65536 : Nat) : Int) := by rw [show (b2 : Int) * 65536 = ((b2 * 65536 : Nat) : Int) from by omega]; exact u64_in _ (by omega)
  have lc : b1 ||| b2 * 65536 < 2 ^ 47 := by have h := stp_lt (k := 16) (m := 281470681808895) lb; unfold stp at h; rw [show (2 : Nat) ^ 16 = 65536 from rfl, eB1, eB2] at h; exact h
  obtain ⟨c, ec⟩ : ∃ y, b1 ||| b2 * 65536 = y := ⟨_, rfl⟩
  rw [ec] at lc
  have hB : bits .or .u64 (b1 : Int) ((b2 * 65536 : Nat) : Int) = (c : Int) := by have h := bits_or_u64_nat b1 (b2 * 65536) (by omega) (by omega); rw [ec] at h; exact h
  rw [← hB3] at hB
  have hC : bits .or .u64 ((c : Int) / 4294967296) (IntKind.u64.wrap ((c : Int) * 4294967296)) = ((rvC c : Nat) : Int) := by
    rw [wrap_shl, show (c : Int) / 4294967296 = ((c / 4294967296 : Nat) : Int) from by omega, bits_or_u64_nat _ _ (by omega) (by omega)]
    rfl
  have HR : rvC (rvB x) = rvC c := by
    subst ec eB1 eB2 eb eA1 eA2
    rfl
  rw [HR]
  obtain ⟨r, er⟩ : ∃ r, rvC c = r := ⟨_, rfl⟩
  rw [er] at hC ⊢
  clear HR er lA1 lA2 lB1 lB2 lb lc eA1 eA2 eb eB1 eB2 ec hx hA3 hB3
  go_enter Try.func69, Try.ntmps69
  go_wp2
  go_ret
  exact ⟨rfl, rfl⟩

set_option maxHeartbeats 800000 in
theorem rev_any (x : Nat) (w : World) (hx : x < 2 ^ 16) :
    Calls Try.prog 66 #[.int .u64 x] w fun e w' => e = .returned (.int .u64 (rvC (rvB (rvA x)) : Nat)) ∧ w = w' := by
  have lA1 : x / 2 &&& 6148914691236517205 ≤ x / 2 := Nat.and_le_left
  have lA2 : x &&& 6148914691236517205 ≤ x := Nat.and_le_left
  obtain ⟨a1, eA1⟩ : ∃ y, x / 2 &&& 6148914691236517205 = y := ⟨_, rfl⟩
  obtain ⟨a2, eA2⟩ : ∃ y, x &&& 6148914691236517205 = y := ⟨_, rfl⟩
  rw [eA1] at lA1
  rw [eA2] at lA2
  have hA1 : bits .and .u64 ((x : Int) / 2) 6148914691236517205 = (a1 : Int) := by have h := bits_and_u64_nat (x / 2) 6148914691236517205 (by omega) (by omega); rw [eA1] at h; rw [show ((x / 2 : Nat) : Int) = (x : Int) / 2 from by omega] at h; exact h
  have hA2 : bits .and .u64 (x : Int) 6148914691236517205 = (a2 : Int) := by have h := bits_and_u64_nat x 6148914691236517205 (by omega) (by omega); rw [eA2] at h; exact h
  have hA3 : IntKind.u64.wrap ((a2 : Int) * 2) = ((a2 * 2 : Nat) : Int) := by rw [show (a2 : Int) * 2 = ((a2 * 2 : Nat) : Int) from by omega]; exact u64_in _ (by omega)
  have lxA : a1 ||| a2 * 2 < 2 ^ 17 := by have h := stp_lt (k := 1) (m := 6148914691236517205) hx; unfold stp at h; rw [show (2 : Nat) ^ 1 = 2 from rfl, eA1, eA2] at h; exact h
  obtain ⟨a, ea⟩ : ∃ y, a1 ||| a2 * 2 = y := ⟨_, rfl⟩
  rw [ea] at lxA
  have hA : bits .or .u64 (a1 : Int) ((a2 * 2 : Nat) : Int) = (a : Int) := by have h := bits_or_u64_nat a1 (a2 * 2) (by omega) (by omega); rw [ea] at h; exact h
  rw [← hA3] at hA
  have lB1 : a / 4 &&& 3689348814741910323 ≤ a / 4 := Nat.and_le_left
  have lB2 : a &&& 3689348814741910323 ≤ a := Nat.and_le_left
  obtain ⟨b1, eB1⟩ : ∃ y, a / 4 &&& 3689348814741910323 = y := ⟨_, rfl⟩
  obtain ⟨b2, eB2⟩ : ∃ y, a &&& 3689348814741910323 = y := ⟨_, rfl⟩
  rw [eB1] at lB1
  rw [eB2] at lB2
  have hB1 : bits .and .u64 ((a : Int) / 4) 3689348814741910323 = (b1 : Int) := by have h := bits_and_u64_nat (a / 4) 3689348814741910323 (by omega) (by omega); rw [eB1] at h; rw [show ((a / 4 : Nat) : Int) = (a : Int) / 4 from by omega] at h; exact h
  have hB2 : bits .and .u64 (a : Int) 3689348814741910323 = (b2 : Int) := by have h := bits_and_u64_nat a 3689348814741910323 (by omega) (by omega); rw [eB2] at h; exact h
  have hB3 : IntKind.u64.wrap ((b2 : Int) * 4) = ((b2 * 4 : Nat) : Int) := by rw [show (b2 : Int) * 4 = ((b2 * 4 : Nat) : Int) from by omega]; exact u64_in _ (by omega)
  have lxB : b1 ||| b2 * 4 < 2 ^ 19 := by have h := stp_lt (k := 2) (m := 3689348814741910323) lxA; unfold stp at h; rw [show (2 : Nat) ^ 2 = 4 from rfl, eB1, eB2] at h; exact h
  obtain ⟨b, eb⟩ : ∃ y, b1 ||| b2 * 4 = y := ⟨_, rfl⟩
  rw [eb] at lxB
  have hB : bits .or .u64 (b1 : Int) ((b2 * 4 : Nat) : Int) = (b : Int) := by have h := bits_or_u64_nat b1 (b2 * 4) (by omega) (by omega); rw [eb] at h; exact h
  rw [← hB3] at hB
  have lC1 : b / 16 &&& 1085102592571150095 ≤ b / 16 := Nat.and_le_left
  have lC2 : b &&& 1085102592571150095 ≤ b := Nat.and_le_left
  obtain ⟨c1, eC1⟩ : ∃ y, b / 16 &&& 1085102592571150095 = y := ⟨_, rfl⟩
  obtain ⟨c2, eC2⟩ : ∃ y, b &&& 1085102592571150095 = y := ⟨_, rfl⟩
  rw [eC1] at lC1
  rw [eC2] at lC2
  have hC1 : bits .and .u64 ((b : Int) / 16) 1085102592571150095 = (c1 : Int) := by have h := bits_and_u64_nat (b / 16) 1085102592571150095 (by omega) (by omega); rw [eC1] at h; rw [show ((b / 16 : Nat) : Int) = (b : Int) / 16 from by omega] at h; exact h
  have hC2 : bits .and .u64 (b : Int) 1085102592571150095 = (c2 : Int) := by have h := bits_and_u64_nat b 1085102592571150095 (by omega) (by omega); rw [eC2] at h; exact h
  have hC3 : IntKind.u64.wrap ((c2 : Int) * 16) = ((c2 * 16 : Nat) : Int) := by rw [show (c2 : Int) * 16 = ((c2 * 16 : Nat) : Int) from by omega]; exact u64_in _ (by omega)
  have lxC : c1 ||| c2 * 16 < 2 ^ 23 := by have h := stp_lt (k := 4) (m := 1085102592571150095) lxB; unfold stp at h; rw [show (2 : Nat) ^ 4 = 16 from rfl, eC1, eC2] at h; exact h
  obtain ⟨c, ec⟩ : ∃ y, c1 ||| c2 * 16 = y := ⟨_, rfl⟩
  rw [ec] at lxC
  have hC : bits .or .u64 (c1 : Int) ((c2 * 16 : Nat) : Int) = (c : Int) := by have h := bits_or_u64_nat c1 (c2 * 16) (by omega) (by omega); rw [ec] at h; exact h
  rw [← hC3] at hC
  have HR : rvA x = c := by
    subst ec eC1 eC2 eb eB1 eB2 ea eA1 eA2
    rfl
  have CR := hid (revBytes_any c w lxC)
  rw [← HR] at CR
  obtain ⟨r, er⟩ : ∃ r, rvC (rvB (rvA x)) = r := ⟨_, rfl⟩
  rw [er] at CR ⊢
  rw [HR] at CR
  clear er HR lA1 lA2 lB1 lB2 lC1 lC2 lxA lxB lxC ea eA1 eA2 eb eB1 eB2 ec eC1 eC2 hx hA3 hB3 hC3
  go_enter Try.func66, Try.ntmps66
  go_wp2_with fail
  with_reducible refine Calls.mono CR.out ?_
  rintro e w2 ⟨rfl, rfl⟩
  go_wp2
  go_ret
  exact ⟨rfl, rfl⟩

theorem opp_nth {l : List Int} {k : Nat} (h : k < l.length) : nth (oppL l) k = 1 - nth l k := by
  simp [nth, oppL, List.getD, h]
theorem free_pb {l : List Int} {n : Nat} (hl : l.length = n) (h1 : 1 ≤ n) (hn : n ≤ 16) : rvC (rvB (rvA (pb (oppL l) n))) / 2 ^ (64 - n) = pb (freeL l) n := by
  have h16 : pb (oppL l) n < 2 ^ 16 := Nat.lt_of_lt_of_le (pb_lt _ n) (Nat.pow_le_pow_right (by omega) hn)
  have hA : rvA (pb (oppL l) n) < 2 ^ 23 := stp_lt (a := 19) (k := 4) (stp_lt (a := 17) (k := 2) (stp_lt (a := 16) (k := 1) h16))
  have hB : rvB (rvA (pb (oppL l) n)) < 2 ^ 47 := stp_lt (a := 31) (k := 16) (stp_lt (a := 23) (k := 8) hA)
  refine pb_eq ?_ fun j hj => ?_
  · refine Nat.div_lt_of_lt_mul ?_
    rw [← Nat.pow_add, show 64 - n + n = 64 by omega]
    exact rvC_lt (Nat.lt_of_lt_of_le hB (Nat.pow_le_pow_right (by omega) (by omega)))
  · rw [Nat.testBit_div_two_pow, show j + (64 - n) = 48 + (16 - n + j) by omega, rv_bit h16 (by omega), pb_bit, show 15 - (16 - n + j) = n - 1 - j by omega, opp_nth (by omega), nth_free (by omega), hl]
    simp; omega

set_option maxRecDepth 100000 in
set_option maxHeartbeats 3200000 in
theorem freeAs_any (l : List Int) (n : Nat) (w : World) (hl : l.length = n) (h1 : 1 ≤ n) (hn : n ≤ 16) (hb : ∀ x ∈ l, x = 0 ∨ x = 1) :
    Calls Try.prog 56 #[vot (pb l n) n] w fun e w' => e = .returned (vot (pb (freeL l) n) n) ∧ Below w.heap.size w w' := by
  have HF := free_pb hl h1 hn
  have CO := hid (fun W : World => opposed_any l n W hl (by omega) hb)
  rw [pk_pb, pk_pb] at CO
  have h16 : pb (oppL l) n < 2 ^ 16 := Nat.lt_of_lt_of_le (pb_lt _ n) (Nat.pow_le_pow_right (by omega) hn)
  obtain ⟨x, hxe⟩ : ∃ x, pb l n = x := ⟨_, rfl⟩
  obtain ⟨o, hoe⟩ : ∃ o, pb (oppL l) n = o := ⟨_, rfl⟩
  rw [hxe, hoe] at CO
  rw [hxe]
  rw [hoe] at HF h16
  have CR := hid (fun W : World => show Calls Try.prog 66 #[.int .u64 o] W fun e w' => e = .returned (.int .u64 (rvC (rvB (rvA o)) : Nat)) ∧ Below W.heap.size W w' from (rev_any o W h16).mono (by rintro e w' ⟨he, rfl⟩; exact ⟨he, Below.refl _ _⟩))
  obtain ⟨m, hm⟩ : ∃ m, 64 - n = m := ⟨_, rfl⟩
  obtain ⟨r, hr⟩ : ∃ r, rvC (rvB (rvA o)) = r := ⟨_, rfl⟩
  obtain ⟨q, hq⟩ : ∃ q, pb (freeL l) n = q := ⟨_, rfl⟩
  rw [hr] at CR
  rw [hr, hm, hq] at HF
  rw [hq]
  have CW := hid (fun W : World => show Calls Try.prog 65 #[vot x n, .int .u64 ((r : Int) / 2 ^ m)] W fun e w' => e = .returned (vot q n) ∧ Below W.heap.size W w' from by
    rw [show (r : Int) / 2 ^ m = ((r / 2 ^ m : Nat) : Int) from by push_cast; rfl, HF]; exact withOnes_any x n q W)
  have hf2 := fld_vo o n
  have hmi : (64 : Int) - (n : Int) = (m : Int) := by omega
  have hwm : IntKind.i64.wrap (m : Int) = (m : Int) := IntWalk.i64_in _ (by omega)
  have hm0 : (0 : Int) ≤ (m : Int) := by omega
  have hm64 : (m : Int) < 64 := by omega
  have hm64' : m < 64 := by omega
  clear HF hq hr hoe hxe h16 hb hl h1
  have hmn := hid hm
  clear hm
  have hz : (w.alloc (.cells #[.int .u64 x, .int .i64 n] 45)).heap.size = w.heap.size + 1 := by simp
  have X := (Vr.new w x n).on (row := none) (grown_alloc _ (.cells #[.int .u64 0, .int .i64 0] 45) none) (by simp)
  have c0 := X.c0
  have c1 := X.c1
  have X1 : Vr ((w.alloc (.cells #[.int .u64 x, .int .i64 n] 45)).alloc (.cells #[.int .u64 0, .int .i64 0] 45)) (w.heap.size + 1) 0 0 := by rw [← hz]; exact Vr.new _ 0 0
  have B0 := hid (((Below.refl w.heap.size w).alloc (Nat.le_refl _) (.cells #[.int .u64 x, .int .i64 n] 45)).alloc (by simp) (.cells #[.int .u64 0, .int .i64 0] 45))
  have hzW : ((w.alloc (.cells #[.int .u64 x, .int .i64 n] 45)).alloc (.cells #[.int .u64 0, .int .i64 0] 45)).heap.size = w.heap.size + 2 := by simp
  have HX := hid X
  have HX1 := hid X1
  have HZ := hid hzW
  clear X X1 hz hzW
  go_enter Try.func56, Try.ntmps56
  go_wp2_with fail
  with_reducible refine Calls.mono (CO.out _) ?_
  rintro e w2 ⟨rfl, b2⟩
  rw [HZ.out] at b2
  have hz3 : w.heap.size + 2 ≤ w2.heap.size := by have h := b2.size; rw [HZ.out] at h; exact h
  have Y := HX.out.below b2 (by omega)
  have HY1 := hid (HX1.out.below b2 (by omega))
  have B2 := hid (B0.out.trans (b2.mono (by omega)))
  have d0 := Y.c0
  have d1 := Y.c1
  clear b2 HX HX1 HZ B0 c0 c1 Y
  go_wp2_with fail
  go_region_held3 (fun w' => w'.cell? ⟨w.heap.size, 0, none⟩ = some (.int .u64 x) ∧ w'.cell? ⟨w.heap.size, 1, none⟩ = some (.int .i64 n))
    (first
      | go_keep
      | (go_split_ands
         refine ⟨?_, ?_⟩ <;> exact (b4.cell (by simp only []; omega)).trans (by assumption))
      | (go_split_ands
         refine ⟨?_, ?_⟩ <;> exact (b3.cell (by simp; omega)).trans (by assumption)))
    (first
      | (go_at_call 66; with_reducible refine Calls.mono (CR.out _) ?_; rintro r w3 ⟨rfl, b3⟩; have hz5 : w.heap.size + 2 ≤ w3.heap.size := (by have h := b3.size; simp at h; omega))
      | (go_at_call 65; with_reducible refine Calls.mono (CW.out _) ?_; rintro r w4 ⟨rfl, b4⟩; have hz6 : w.heap.size + 2 ≤ w4.heap.size := (by have h := b4.size; omega); have Y := ((HY1.out.on (row := none) (drew_grown _) (by simp)).below b3 (by simp; omega)).below b4 (by omega); have f0 := Y.fz 0; have f1 := Y.fz 1; have k0 := Y.c0; have k1 := Y.c1))
  have B4 := (B2.out.grown (drew_grown _) (by omega) (by simp)).trans (b3.mono (by simp; omega))
  have BB := hid (((B4.trans (b4.mono (by omega))).setCell (p := ⟨w.heap.size + 1, 0, none⟩) (by simp) (.int .u64 q)).setCell (p := ⟨w.heap.size + 1, 1, none⟩) (by simp) (.int .i64 n))
  have HY := hid (Y.set q n)
  clear b3 b4 Y B4
  go_wp2
  (try simp only [Exit.inBlock, Exit.then])
  refine bodyPost_ret (results_cell_row rfl _ _ (w.heap.size + 1) 45 _ (0, 0) _ (by simp [Act.put]) HY.out Try.underlying45 rfl size_vr) rfl ?_
  exact ⟨rfl, BB.out⟩
end Go.Proofs.Ytmjcefidhigppaa
