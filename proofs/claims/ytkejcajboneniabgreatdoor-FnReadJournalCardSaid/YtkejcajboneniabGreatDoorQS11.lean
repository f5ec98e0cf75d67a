/-
  Texts put together: S11. No statement is proved here.
-/
import Derived.Test.YtkejcajboneniabGreatDoorQMa
set_option linter.unusedVariables false
set_option linter.unusedSimpArgs false
namespace Go.Proofs.YtkejcajboneniabGreatDoor
open Go.RowKit

def driveF (a x b : Int) : Int := if x = 1 then b else a
def driveL (l : List Int) : List Int := ringL driveF l
def flowF (_a x b : Int) : Int := if x = 1 ∧ b = 0 then 1 else 0
def flowL (l : List Int) : List Int := ringL flowF l
/-- How many cars go. -/
def flowN (l : List Int) : Nat := ones (flowL l)
def endN (l : List Int) : Nat := min (ones l) (l.length - ones l)
def freeL (l : List Int) : List Int := (l.map fun x => 1 - x).reverse
def driveI : Nat → List Int → List Int
  | 0, l => l
  | k + 1, l => driveI k (driveL l)

theorem driveL_len (l : List Int) : (driveL l).length = l.length := ringL_len _ l
theorem driveI_len : ∀ (k : Nat) (l : List Int), (driveI k l).length = l.length
  | 0, _ => rfl
  | k + 1, l => by rw [driveI, driveI_len k, driveL_len]
theorem driveI_last : ∀ (k : Nat) (l : List Int), driveI (k + 1) l = driveL (driveI k l)
  | 0, _ => rfl
  | k + 1, l => by rw [driveI, driveI_last k]; rfl
theorem ringL_bits {f : Int → Int → Int → Int} {l : List Int} (h : ∀ a x b : Int, (a = 0 ∨ a = 1) → (x = 0 ∨ x = 1) → (b = 0 ∨ b = 1) → f a x b = 0 ∨ f a x b = 1) (hl : ∀ x ∈ l, x = 0 ∨ x = 1) : ∀ x ∈ ringL f l, x = 0 ∨ x = 1 := by
  intro x hx
  simp only [ringL, List.mem_map] at hx
  obtain ⟨k, _, rfl⟩ := hx
  exact h _ _ _ (bit_nth hl _) (bit_nth hl _) (bit_nth hl _)
theorem driveL_bits {l : List Int} (hl : ∀ x ∈ l, x = 0 ∨ x = 1) : ∀ x ∈ driveL l, x = 0 ∨ x = 1 := ringL_bits (by intro a x b h1 h2 h3; unfold driveF; split <;> assumption) hl
theorem driveL_ok {l : List Int} (h : bitsOk l = true) : bitsOk (driveL l) = true := by
  rw [bitsOk_iff] at h ⊢
  exact ⟨driveL_bits h.1, by rw [driveL_len]; exact h.2⟩
theorem driveI_ok {l : List Int} (h : bitsOk l = true) : ∀ k, bitsOk (driveI k l) = true
  | 0 => h
  | k + 1 => by rw [driveI_last]; exact driveL_ok (driveI_ok h k)

/-- The same over numbers. -/
def drv (n x : Nat) : Nat := Nat.lor (Nat.land x (rotR n x)) (Nat.land (Nat.xor x (msk n)) (rotL n x))
def flw (n x : Nat) : Nat := pop n (Nat.land x (Nat.xor (rotR n x) (msk n)))
def drvI (n : Nat) : Nat → Nat → Nat
  | 0, x => x
  | k + 1, x => drvI n k (drv n x)

theorem code_ring {l : List Int} {f : Int → Int → Int → Int} {F : Nat} (hn : 1 ≤ l.length)
    (hF : ∀ k, F.testBit k = (decide (k < l.length) && decide (f (nth l ((k + l.length - 1) % l.length)) (nth l k) (nth l ((k + 1) % l.length)) = 1))) : code (ringL f l) = F := by
  apply Nat.eq_of_testBit_eq
  intro k
  rw [code_bit, hF]
  by_cases hk : k < l.length
  · rw [nth_ringL hk]; simp [hk]
  · rw [nth_ge (by rw [ringL_len]; omega)]; simp [hk]
theorem code_drive {l : List Int} (hl : ∀ x ∈ l, x = 0 ∨ x = 1) (hn : 1 ≤ l.length) : code (driveL l) = drv l.length (code l) := by
  refine code_ring hn fun k => ?_
  show ((code l &&& rotR _ _) ||| ((code l ^^^ msk _) &&& rotL _ _)).testBit k = _
  rw [Nat.testBit_or, Nat.testBit_and, Nat.testBit_and, Nat.testBit_xor, msk_bit, rotR_bit hn (code_lt l), rotL_bit hn (code_lt l), code_bit, code_bit, code_bit]
  by_cases hk : k < l.length
  · rcases bit_nth hl k with h | h <;> simp [hk, h, driveF]
  · simp [hk]
theorem code_flow {l : List Int} (hl : ∀ x ∈ l, x = 0 ∨ x = 1) (hn : 1 ≤ l.length) : code (flowL l) = Nat.land (code l) (Nat.xor (rotR l.length (code l)) (msk l.length)) := by
  refine code_ring hn fun k => ?_
  show (code l &&& (rotR _ _ ^^^ msk _)).testBit k = _
  rw [Nat.testBit_and, Nat.testBit_xor, msk_bit, rotR_bit hn (code_lt l), code_bit, code_bit]
  by_cases hk : k < l.length
  · rcases bit_nth hl k with h | h <;> rcases bit_nth hl ((k + 1) % l.length) with h' | h' <;> simp [hk, h, h', flowF]
  · simp [hk]
theorem flow_code {l : List Int} (hl : ∀ x ∈ l, x = 0 ∨ x = 1) (hn : 1 ≤ l.length) : flw l.length (code l) = flowN l := by
  unfold flw flowN
  rw [← code_flow hl hn]
  have := code_pop (flowL l)
  rwa [show (flowL l).length = l.length from ringL_len _ l] at this
theorem code_driveI {n : Nat} : ∀ (k : Nat) {l : List Int}, (∀ x ∈ l, x = 0 ∨ x = 1) → 1 ≤ l.length → l.length = n → code (driveI k l) = drvI n k (code l)
  | 0, _, _, _, _ => rfl
  | k + 1, l, hl, hn, he => by
    rw [driveI, code_driveI k (driveL_bits hl) (by have := driveL_len l; omega) ((driveL_len l).trans he), code_drive hl hn, he]; rfl

theorem freeL_len (l : List Int) : (freeL l).length = l.length := by simp [freeL]
def flw16 (n x : Nat) : Nat := pop16 (Nat.land x (Nat.xor (rotR n x) (msk n)))
def fine11 (n x : Nat) : Bool := Nat.ble (flw16 n x) (flw16 n (drv n x)) && (fun p => Nat.beq (flw16 n (drvI n (n / 2) x)) (Nat.min p (n - p))) (pop16 x)
theorem all11_a : ((List.range 15).all fun n => Nat.beq n 0 || all2 n (fine11 n) 0) = true := by decide +kernel
theorem all11_b : all2 15 (fine11 15) 0 = true := by decide +kernel
theorem all11_c : all2 16 (fine11 16) 0 = true := by decide +kernel
theorem drv_lt {n x : Nat} (hn : 1 ≤ n) (hx : x < 2 ^ n) : drv n x < 2 ^ n := by
  apply Nat.lt_pow_two_of_testBit
  intro k hk
  show ((x &&& rotR _ _) ||| ((x ^^^ msk _) &&& rotL _ _)).testBit k = _
  rw [Nat.testBit_or, Nat.testBit_and, Nat.testBit_and, bit_out hx hk, rotL_bit hn hx]
  simp [show ¬ k < n by omega]
theorem drvI_lt {n : Nat} (hn : 1 ≤ n) : ∀ (k x : Nat), x < 2 ^ n → drvI n k x < 2 ^ n
  | 0, _, h => h
  | k + 1, x, h => drvI_lt hn k _ (drv_lt hn h)
theorem flw16_flw {n x : Nat} (h16 : n ≤ 16) (hx : x < 2 ^ n) : flw16 n x = flw n x :=
  pop16_pop h16 (Nat.lt_of_le_of_lt (Nat.and_le_left (n := x)) hx)
theorem all11 {n x : Nat} (h1 : 1 ≤ n) (h2 : n ≤ 16) (hx : x < 2 ^ n) : flw n x ≤ flw n (drv n x) ∧ flw n (drvI n (n / 2) x) = min (pop n x) (n - pop n x) := by
  have h : fine11 n x = true := by
    by_cases e1 : n = 16
    · subst e1; exact all2_lt all11_c hx
    · by_cases e2 : n = 15
      · subst e2; exact all2_lt all11_b hx
      · have := List.all_eq_true.1 all11_a n (by simp; omega)
        rw [Bool.or_eq_true] at this
        rcases this with h | h
        · have := Nat.eq_of_beq_eq_true h; omega
        · exact all2_lt h hx
  simp only [fine11, Bool.and_eq_true] at h
  rw [flw16_flw h2 hx, flw16_flw h2 (drv_lt h1 hx), flw16_flw h2 (drvI_lt h1 _ _ hx), pop16_pop h2 hx] at h
  exact ⟨Nat.le_of_ble_eq_true h.1, Nat.eq_of_beq_eq_true h.2⟩

theorem flowL_bits {l : List Int} (hl : ∀ x ∈ l, x = 0 ∨ x = 1) : ∀ x ∈ flowL l, x = 0 ∨ x = 1 := ringL_bits (by intro a x b _ _ _; unfold flowF; split <;> simp) hl
theorem freeL_bits {l : List Int} (hl : ∀ x ∈ l, x = 0 ∨ x = 1) : ∀ x ∈ freeL l, x = 0 ∨ x = 1 := by
  intro x hx
  simp only [freeL, List.mem_reverse, List.mem_map] at hx
  obtain ⟨y, hy, rfl⟩ := hx
  rcases hl y hy with h | h <;> simp [h]
theorem flowN_sum {l : List Int} (hl : ∀ x ∈ l, x = 0 ∨ x = 1) : (flowN l : Int) = sumR (fun k => nth (flowL l) k) l.length := by
  have := ones_sum (flowL_bits hl)
  rwa [show (flowL l).length = l.length from ringL_len _ l] at this
/-- No car is lost. -/
theorem ones_drive {l : List Int} (hl : ∀ x ∈ l, x = 0 ∨ x = 1) : ones (driveL l) = ones l := by
  have h1 := ones_sum (driveL_bits hl)
  have h2 := ones_sum hl
  rw [driveL_len] at h1
  have h3 : sumR (fun k => nth l k + nth (flowL l) ((k + l.length - 1) % l.length) - nth (flowL l) k) l.length = sumR (nth l) l.length := by
    rw [sumR_sub, sumR_add, sumR_prev]; omega
  have h4 : sumR (nth (driveL l)) l.length = sumR (fun k => nth l k + nth (flowL l) ((k + l.length - 1) % l.length) - nth (flowL l) k) l.length := by
    refine sumR_congr fun k hk => ?_
    have hm : (k + l.length - 1) % l.length < l.length := Nat.mod_lt _ (by omega)
    have hn : ((k + l.length - 1) % l.length + 1) % l.length = k := by
      by_cases h0 : k = 0
      · subst h0; rw [Nat.mod_eq_of_lt (show 0 + l.length - 1 < l.length by omega), show 0 + l.length - 1 + 1 = l.length by omega, Nat.mod_self]
      · rw [show k + l.length - 1 = k - 1 + l.length by omega, Nat.add_mod_right, Nat.mod_eq_of_lt (show k - 1 < l.length by omega), show k - 1 + 1 = k by omega, Nat.mod_eq_of_lt hk]
    rw [show nth (driveL l) k = _ from nth_ringL hk, show nth (flowL l) k = _ from nth_ringL hk, show nth (flowL l) ((k + l.length - 1) % l.length) = _ from nth_ringL hm, hn]
    rcases bit_nth hl k with h | h <;> rcases bit_nth hl ((k + 1) % l.length) with h' | h' <;> rcases bit_nth hl ((k + l.length - 1) % l.length) with h'' | h'' <;> simp [h, h', h'', driveF, flowF]
  omega
theorem flow_le {l : List Int} (hl : ∀ x ∈ l, x = 0 ∨ x = 1) : flowN l ≤ endN l := by
  have h1 := flowN_sum hl
  have h2 := ones_sum hl
  have h3 : sumR (fun k => nth (flowL l) k) l.length ≤ sumR (nth l) l.length := by
    refine sumR_le fun k hk => ?_
    rw [show nth (flowL l) k = _ from nth_ringL hk]
    rcases bit_nth hl k with h | h <;> simp [h, flowF]; split <;> omega
  have h4 : sumR (fun k => nth (flowL l) k) l.length ≤ sumR (fun k => 1 - nth l ((k + 1) % l.length)) l.length := by
    refine sumR_le fun k hk => ?_
    rw [show nth (flowL l) k = _ from nth_ringL hk]
    rcases bit_nth hl ((k + 1) % l.length) with h | h <;> simp [h, flowF]; split <;> omega
  rw [sumR_sub, sumR_one, sumR_next] at h4
  have := ones_le l
  unfold endN
  omega
theorem end_drive {l : List Int} (hl : ∀ x ∈ l, x = 0 ∨ x = 1) : endN (driveL l) = endN l := by unfold endN; rw [ones_drive hl, driveL_len]
theorem end_driveI {l : List Int} (hl : ∀ x ∈ l, x = 0 ∨ x = 1) : ∀ k, endN (driveI k l) = endN l ∧ ∀ x ∈ driveI k l, x = 0 ∨ x = 1
  | 0 => ⟨rfl, hl⟩
  | k + 1 => by
    obtain ⟨h1, h2⟩ := end_driveI hl k
    rw [driveI_last]
    exact ⟨by rw [end_drive h2, h1], driveL_bits h2⟩
theorem flow_half {l : List Int} (h : bitsOk l = true) : flowN (driveI (l.length / 2) l) = endN l := by
  obtain ⟨hl, h1, h2⟩ := bitsOk_iff.1 h
  have := (all11 h1 h2 (code_lt l)).2
  rw [← code_driveI _ hl h1 rfl, code_pop] at this
  have h3 := flow_code (end_driveI hl (l.length / 2)).2 (by rw [driveI_len]; exact h1)
  rw [driveI_len] at h3
  rw [← h3, this]; rfl
theorem nth_free {l : List Int} {k : Nat} (h : k < l.length) : nth (freeL l) k = 1 - nth l (l.length - 1 - k) := by
  rw [nth_lt (by rw [freeL_len]; exact h), nth_lt (by omega)]
  simp [freeL]
end Go.Proofs.YtkejcajboneniabGreatDoor
