/-
  Chapter 10's sums of two as plain lists. No walk, and no statement is proved here.
-/
import Derived.Test.YtkejcajboneniabDoorSr
namespace Go.Proofs.YtkejcajboneniabDoor
open Go.RowKit
set_option linter.unusedVariables false
set_option linter.unusedSimpArgs false

def sumF (a _x b : Int) : Int := (a + b) % 2
/-- A ring after a step. -/
def sumL (l : List Int) : List Int := ringL sumF l
/-- Each machine the sum of those so many places away. -/
def farL (a : Nat) (l : List Int) : List Int := (List.range l.length).map fun k => (nth l ((k + a) % l.length) + nth l ((k + l.length - a % l.length) % l.length)) % 2
def sumI : Nat → List Int → List Int
  | 0, l => l
  | k + 1, l => sumL (sumI k l)
theorem sumL_len (l : List Int) : (sumL l).length = l.length := ringL_len _ l
theorem farL_len (a : Nat) (l : List Int) : (farL a l).length = l.length := by simp [farL]
theorem sumI_len : ∀ (k : Nat) (l : List Int), (sumI k l).length = l.length
  | 0, _ => rfl
  | k + 1, l => by rw [sumI, sumL_len, sumI_len k l]
theorem sumI_add (a : Nat) : ∀ (b : Nat) (l : List Int), sumI (b + a) l = sumI b (sumI a l)
  | 0, l => by rw [Nat.zero_add, sumI]
  | b + 1, l => by rw [show b + 1 + a = (b + a) + 1 from by omega, sumI, sumI_add a b l, sumI]
theorem nmod {u v n : Nat} (c : Int) (h : (u : Int) - v = n * c) : u % n = v % n := by
  have : (u : Int) % n = (v : Int) % n := by
    rw [Int.emod_eq_emod_iff_emod_sub_eq_zero, h, Int.mul_emod_right]
  exact_mod_cast this
theorem idx_back {k n a : Nat} (h : k < n) : (k + n - a % n) % n = (k + a * (n - 1)) % n := by
  obtain ⟨m, rfl⟩ : ∃ m, n = m + 1 := ⟨n - 1, by omega⟩
  have h1 := Nat.div_add_mod a (m + 1)
  have h2 := Nat.mod_lt a (show m + 1 > 0 by omega)
  obtain ⟨q, hq⟩ : ∃ q, a / (m + 1) = q := ⟨_, rfl⟩
  obtain ⟨r, hr⟩ : ∃ r, a % (m + 1) = r := ⟨_, rfl⟩
  rw [hr] at h2 ⊢
  rw [hq, hr] at h1
  refine nmod (1 + q - a) ?_
  have e : ((k + (m + 1) - r : Nat) : Int) = k + m + 1 - r := by omega
  rw [e]
  simp only [Nat.add_sub_cancel]
  push_cast
  grind
/-- A ring's machine at any number. -/
def rg (l : List Int) (i : Nat) : Int := nth l (i % l.length)
theorem rg_lt {l : List Int} {k : Nat} (h : k < l.length) : rg l k = nth l k := by unfold rg; rw [Nat.mod_eq_of_lt h]
theorem rg_eq {l : List Int} {i j : Nat} (c : Int) (h : (i : Int) - j = l.length * c) : rg l i = rg l j := by unfold rg; rw [nmod c h]
theorem rg_mod (l : List Int) (i : Nat) : rg l (i % l.length) = rg l i := by unfold rg; rw [Nat.mod_mod]
theorem rg_mod_add (l : List Int) (i j : Nat) : rg l (i % l.length + j) = rg l (i + j) := by unfold rg; rw [Nat.mod_add_mod]
theorem nth_far {l : List Int} {a k : Nat} (h : k < l.length) : nth (farL a l) k = (rg l (k + a) + rg l (k + a * (l.length - 1))) % 2 := by
  have e : nth (farL a l) k = (nth l ((k + a) % l.length) + nth l ((k + l.length - a % l.length) % l.length)) % 2 := by simp [nth, farL, List.getD, h]
  rw [e, idx_back h]
  rfl
theorem rg_far {l : List Int} (h0 : 0 < l.length) (a i : Nat) : rg (farL a l) i = (rg l (i + a) + rg l (i + a * (l.length - 1))) % 2 := by
  rw [show rg (farL a l) i = nth (farL a l) (i % l.length) from by unfold rg; rw [farL_len], nth_far (Nat.mod_lt _ h0), rg_mod_add, rg_mod_add]
theorem rg_ext {a b : List Int} (hl : a.length = b.length) (h : ∀ i, i < a.length → rg a i = rg b i) : a = b :=
  list_ext hl fun k hk => by rw [← rg_lt hk, ← rg_lt (by rw [← hl]; exact hk)]; exact h k hk
theorem far_twice {l : List Int} (h0 : 0 < l.length) (a : Nat) : farL a (farL a l) = farL (2 * a) l := by
  refine rg_ext (by simp only [farL_len]) fun i hi => ?_
  rw [rg_far (by rw [farL_len]; exact h0), farL_len, rg_far h0, rg_far h0, rg_far h0]
  obtain ⟨m, hm⟩ : ∃ m, l.length = m + 1 := ⟨l.length - 1, by omega⟩
  have e1 : rg l (i + a + a * (l.length - 1)) = rg l i := rg_eq a (by rw [hm]; simp only [Nat.add_sub_cancel]; push_cast; grind)
  have e2 : rg l (i + a * (l.length - 1) + a) = rg l i := rg_eq a (by rw [hm]; simp only [Nat.add_sub_cancel]; push_cast; grind)
  rw [e1, e2, show i + a + a = i + 2 * a from by omega, show i + a * (l.length - 1) + a * (l.length - 1) = i + 2 * a * (l.length - 1) from by rw [Nat.mul_assoc, Nat.two_mul]; omega]
  omega
theorem far_one {l : List Int} (h0 : 0 < l.length) : farL 1 l = sumL l := by
  refine list_ext (by rw [farL_len, sumL_len]) fun k hk => ?_
  rw [farL_len] at hk
  rw [nth_far hk, show nth (sumL l) k = sumF (nth l ((k + l.length - 1) % l.length)) (nth l k) (nth l ((k + 1) % l.length)) from nth_ringL hk]
  unfold sumF
  have e : rg l (k + 1 * (l.length - 1)) = nth l ((k + l.length - 1) % l.length) := by
    unfold rg
    rw [show k + 1 * (l.length - 1) = k + l.length - 1 from by omega]
  rw [e, Int.add_comm]
  rfl
theorem far_pow : ∀ (j : Nat) {l : List Int}, 0 < l.length → farL (2 ^ j) l = sumI (2 ^ j) l
  | 0, l, h0 => by rw [Nat.pow_zero, far_one h0]; rfl
  | j + 1, l, h0 => by
    rw [show 2 ^ (j + 1) = 2 * 2 ^ j from by rw [Nat.pow_succ]; omega, ← far_twice h0, far_pow j (by rw [farL_len]; exact h0), far_pow j h0, ← sumI_add]
    congr 1
    omega
theorem sumL_bits {l : List Int} : ∀ x ∈ sumL l, x = 0 ∨ x = 1 := by
  intro x hx
  simp only [sumL, ringL, List.mem_map] at hx
  obtain ⟨k, _, rfl⟩ := hx
  unfold sumF
  omega
theorem sumL_ok {l : List Int} (h : bitsOk l = true) : bitsOk (sumL l) = true := by
  rw [bitsOk_iff] at h ⊢
  exact ⟨sumL_bits, by rw [sumL_len]; exact h.2⟩
theorem sumI_ok {l : List Int} (h : bitsOk l = true) : ∀ k, bitsOk (sumI k l) = true
  | 0 => h
  | k + 1 => sumL_ok (sumI_ok h k)

/-- The model's walk by halves: after so many of them. -/
theorem half_step {S j : Nat} (h : S / 2 ^ j % 2 = 1) {l : List Int} (h0 : 0 < l.length) : farL (2 ^ j) (sumI (S % 2 ^ j) l) = sumI (S % 2 ^ (j + 1)) l := by
  rw [far_pow j (by rw [sumI_len]; exact h0), ← sumI_add]
  congr 1
  rw [Nat.pow_succ, Nat.mod_mul, h]
  omega
theorem half_keep {S j : Nat} (h : S / 2 ^ j % 2 = 0) : S % 2 ^ (j + 1) = S % 2 ^ j := by
  rw [Nat.pow_succ, Nat.mod_mul, h]
  omega

theorem sumR_mod2 (f : Nat → Int) : ∀ n, sumR (fun k => f k % 2) n % 2 = sumR f n % 2
  | 0 => rfl
  | n + 1 => by
    have h := sumR_mod2 f n
    simp only [sumR]
    omega
theorem nth_sumL {l : List Int} {k : Nat} (h : k < l.length) : nth (sumL l) k = (nth l ((k + l.length - 1) % l.length) + nth l ((k + 1) % l.length)) % 2 := nth_ringL h
theorem ones_even {l : List Int} (hl : ∀ x ∈ l, x = 0 ∨ x = 1) : ones (sumL l) % 2 = 0 := by
  have h1 := ones_sum (l := sumL l) sumL_bits
  have h2 : sumR (nth (sumL l)) (sumL l).length = sumR (fun k => (nth l ((k + l.length - 1) % l.length) + nth l ((k + 1) % l.length)) % 2) l.length := by
    rw [sumL_len]
    exact sumR_congr fun k hk => nth_ringL hk
  have h3 := sumR_mod2 (fun k => nth l ((k + l.length - 1) % l.length) + nth l ((k + 1) % l.length)) l.length
  rw [sumR_add (fun k => nth l ((k + l.length - 1) % l.length)), sumR_prev, sumR_next (nth l)] at h3
  rw [h2] at h1
  omega

theorem mod_nextS {n k : Nat} (h : k < n) : n - 1 - (k + 1) % n = (n - 1 - k + n - 1) % n := by
  rcases Nat.lt_or_ge (k + 1) n with h1 | h1
  · rw [Nat.mod_eq_of_lt h1, show n - 1 - k + n - 1 = (n - 1 - (k + 1)) + n from by omega, Nat.add_mod_right, Nat.mod_eq_of_lt (by omega)]
  · rw [show k + 1 = n from by omega, Nat.mod_self, show n - 1 - k + n - 1 = n - 1 from by omega, Nat.mod_eq_of_lt (by omega)]; omega
theorem mod_prevS {n k : Nat} (h : k < n) : n - 1 - (k + n - 1) % n = (n - 1 - k + 1) % n := by
  rcases Nat.eq_zero_or_pos k with rfl | h1
  · rw [show 0 + n - 1 = n - 1 from by omega, Nat.mod_eq_of_lt (show n - 1 < n by omega), show n - 1 - 0 + 1 = n from by omega, Nat.mod_self]; omega
  · rw [show k + n - 1 = (k - 1) + n from by omega, Nat.add_mod_right, Nat.mod_eq_of_lt (show k - 1 < n by omega), Nat.mod_eq_of_lt (show n - 1 - k + 1 < n by omega)]; omega
theorem nth_revS {l : List Int} {k : Nat} (h : k < l.length) : nth l.reverse k = nth l (l.length - 1 - k) := by
  rw [nth_lt (by simpa using h), nth_lt (by omega), List.getElem_reverse]
theorem sum_rev (l : List Int) : sumL l.reverse = (sumL l).reverse := by
  refine list_ext (by simp [sumL_len]) fun k hk => ?_
  rw [sumL_len, List.length_reverse] at hk
  have h0 : 0 < l.length := by omega
  rw [nth_sumL (by rw [List.length_reverse]; exact hk), List.length_reverse, nth_revS (Nat.mod_lt _ h0), nth_revS (Nat.mod_lt _ h0), nth_revS (l := sumL l) (by rw [sumL_len]; exact hk), sumL_len,
    nth_sumL (by omega), mod_nextS hk, mod_prevS hk, Int.add_comm]

/-- Two rows added. -/
def addL (a b : List Int) : List Int := (List.range a.length).map fun k => (nth a k + nth b k) % 2
theorem addL_len (a b : List Int) : (addL a b).length = a.length := by simp [addL]
theorem nth_addL {a b : List Int} {k : Nat} (h : k < a.length) : nth (addL a b) k = (nth a k + nth b k) % 2 := by simp [nth, addL, List.getD, h]
theorem addL_bits {a b : List Int} : ∀ x ∈ addL a b, x = 0 ∨ x = 1 := by
  intro x hx
  simp only [addL, List.mem_map] at hx
  obtain ⟨k, _, rfl⟩ := hx
  omega
theorem add_comm' {a b : List Int} (h : a.length = b.length) : addL a b = addL b a := by
  refine list_ext (by rw [addL_len, addL_len, h]) fun k hk => ?_
  rw [addL_len] at hk
  rw [nth_addL hk, nth_addL (by rw [← h]; exact hk), Int.add_comm]
theorem add_self {a : List Int} : ones (addL a a) = 0 := by
  unfold ones
  rw [List.countP_eq_zero]
  intro x hx
  simp only [addL, List.mem_map] at hx
  obtain ⟨k, _, rfl⟩ := hx
  simp
  omega
theorem add_sum {a b : List Int} (h : a.length = b.length) : sumL (addL a b) = addL (sumL a) (sumL b) := by
  refine list_ext (by simp only [sumL_len, addL_len]) fun k hk => ?_
  rw [sumL_len, addL_len] at hk
  have h0 : 0 < a.length := by omega
  rw [nth_sumL (by rw [addL_len]; exact hk), addL_len, nth_addL (Nat.mod_lt _ h0), nth_addL (Nat.mod_lt _ h0), nth_addL (a := sumL a) (by rw [sumL_len]; exact hk), nth_sumL hk, nth_sumL (by rw [← h]; exact hk), ← h]
  omega
theorem ones_add {a b : List Int} (ha : ∀ x ∈ a, x = 0 ∨ x = 1) (hb : ∀ x ∈ b, x = 0 ∨ x = 1) (h : a.length = b.length) : ones (addL a b) ≤ ones a + ones b := by
  have h1 := ones_sum (l := addL a b) addL_bits
  have h2 := ones_sum ha
  have h3 := ones_sum hb
  rw [addL_len, sumR_congr (fun k hk => nth_addL hk)] at h1
  rw [← h] at h3
  have h4 : sumR (fun k => (nth a k + nth b k) % 2) a.length ≤ sumR (fun k => nth a k + nth b k) a.length := sumR_le fun k hk => by
    have := bit_nth ha k
    have := bit_nth hb k
    omega
  rw [sumR_add] at h4
  omega

/-- After n steps first as after a lesser number m. -/
def againAt (l : List Int) (n m : Nat) : Prop := m < n ∧ sumI n l = sumI m l ∧ ∀ i j, i < j → j < n → sumI i l ≠ sumI j l
theorem again_one {l : List Int} {n m n' m' : Nat} (h : againAt l n m) (h' : againAt l n' m') : n = n' ∧ m = m' := by
  obtain ⟨a1, a2, a3⟩ := h
  obtain ⟨b1, b2, b3⟩ := h'
  have e : n = n' := by
    rcases Nat.lt_trichotomy n n' with h | h | h
    · exact absurd a2.symm (b3 m n a1 h)
    · exact h
    · exact absurd b2.symm (a3 m' n' b1 h)
  subst e
  refine ⟨rfl, ?_⟩
  rcases Nat.lt_trichotomy m m' with h | h | h
  · exact absurd (a2.symm.trans b2) (a3 m m' h b1)
  · exact h
  · exact absurd (b2.symm.trans a2) (a3 m' m h a1)
theorem holes : ∀ (N : Nat) (f : Nat → Nat), (∀ i, i ≤ N → f i < N) → ∃ i j, i < j ∧ j ≤ N ∧ f i = f j
  | 0, f, h => absurd (h 0 (Nat.le_refl 0)) (by omega)
  | N + 1, f, h => by
    by_cases hd : ∃ i, i ≤ N ∧ f i = f (N + 1)
    · obtain ⟨i, hi, he⟩ := hd
      exact ⟨i, N + 1, by omega, Nat.le_refl _, he⟩
    · have hn : ∀ i, i ≤ N → f i ≠ f (N + 1) := fun i hi he => hd ⟨i, hi, he⟩
      have hl := h (N + 1) (Nat.le_refl _)
      obtain ⟨i, j, hij, hj, he⟩ := holes N (fun i => if f i = N then f (N + 1) else f i) (fun i hi => by
        have h1 := h i (by omega)
        have h2 := hn i hi
        show (if f i = N then f (N + 1) else f i) < N
        split <;> omega)
      refine ⟨i, j, hij, by omega, ?_⟩
      have h1 := hn i (by omega)
      have h2 := hn j hj
      split at he <;> split at he <;> omega
theorem codes_eq {a b : List Int} (ha : bitsOk a = true) (hb : bitsOk b = true) (hl : a.length = b.length) (h : code a = code b) : a = b := code_inj (bitsOk_iff.1 ha).1 (bitsOk_iff.1 hb).1 hl h
/-- Some number of steps leads to what has been. -/
theorem again_there {l : List Int} (h : bitsOk l = true) : ∃ i j, i < j ∧ j ≤ 2 ^ l.length ∧ sumI i l = sumI j l := by
  obtain ⟨i, j, h1, h2, h3⟩ := holes (2 ^ l.length) (fun k => code (sumI k l)) (fun k _ => by
    have := code_lt (sumI k l)
    rwa [sumI_len] at this)
  exact ⟨i, j, h1, h2, codes_eq (sumI_ok h i) (sumI_ok h j) (by rw [sumI_len, sumI_len]) h3⟩
/-- As long as all are apart, there are not too many. -/
theorem apart_few {l : List Int} (h : bitsOk l = true) {n : Nat} (ha : ∀ i j, i < j → j < n → sumI i l ≠ sumI j l) : n ≤ 2 ^ l.length := by
  rcases Nat.lt_or_ge (2 ^ l.length) n with hlt | hge
  · obtain ⟨i, j, h1, h2, h3⟩ := again_there h
    exact absurd h3 (ha i j h1 (by omega))
  · exact hge
theorem again_ex {l : List Int} (h : bitsOk l = true) : ∃ n m, againAt l n m ∧ n ≤ 2 ^ l.length := by
  have H : ∀ k, k ≤ 2 ^ l.length → (∃ n m, againAt l n m ∧ n ≤ 2 ^ l.length) ∨ ∀ i j, i < j → j < k + 1 → sumI i l ≠ sumI j l := by
    intro k
    induction k with
    | zero => exact fun _ => .inr fun i j h1 h2 => by omega
    | succ k ih =>
      intro hk
      rcases ih (by omega) with h1 | h1
      · exact .inl h1
      · by_cases hd : ∃ i, i < k + 1 ∧ sumI i l = sumI (k + 1) l
        · obtain ⟨i, hi, he⟩ := hd
          exact .inl ⟨k + 1, i, ⟨hi, he.symm, h1⟩, hk⟩
        · refine .inr fun i j hij hj => ?_
          rcases Nat.lt_or_ge j (k + 1) with h2 | h2
          · exact h1 i j hij h2
          · obtain rfl : j = k + 1 := by omega
            exact fun he => hd ⟨i, hij, he⟩
  rcases H _ (Nat.le_refl _) with h1 | h1
  · exact h1
  · have := apart_few h h1
    omega

/-- Twice any number of places goes all round a ring of an odd number of machines. -/
theorem odd_round {n : Nat} (ho : n % 2 = 1) {g : Nat → Int} (hg : ∀ k, g (k + n) = g k) (h2 : ∀ k, g (k + 2) = g k) (k : Nat) : g k = g 0 := by
  have ev : ∀ j, g (2 * j) = g 0 := by
    intro j
    induction j with
    | zero => rfl
    | succ j ih => rw [show 2 * (j + 1) = 2 * j + 2 from by omega, h2, ih]
  rcases Nat.mod_two_eq_zero_or_one k with h | h
  · rw [show k = 2 * (k / 2) from by omega]; exact ev _
  · rw [← hg k, show k + n = 2 * ((k + n) / 2) from by omega]; exact ev _
theorem sum_one_to_one {a b : List Int} (hl : a.length = b.length) (ho : a.length % 2 = 1) (ha : ∀ x ∈ a, x = 0 ∨ x = 1) (hb : ∀ x ∈ b, x = 0 ∨ x = 1) (hea : ones a % 2 = 0) (heb : ones b % 2 = 0) (h : sumL a = sumL b) : a = b := by
  have h0 : 0 < a.length := by omega
  have hz : ∀ i, (rg a (i + 1) + rg a (i + 1 * (a.length - 1))) % 2 = (rg b (i + 1) + rg b (i + 1 * (a.length - 1))) % 2 := fun i => by
    rw [← rg_far h0, far_one h0, h, ← far_one (by omega), rg_far (by omega), ← hl]
  have hba := fun i => bit_nth ha (i % a.length)
  have hbb := fun i => bit_nth hb (i % b.length)
  have pa : ∀ k, rg a (k + a.length) = rg a k := fun k => by unfold rg; rw [Nat.add_mod_right]
  have pb : ∀ k, rg b (k + a.length) = rg b k := fun k => by unfold rg; rw [hl, Nat.add_mod_right]
  have h2 : ∀ k, (rg a (k + 2) + rg b (k + 2)) % 2 = (rg a k + rg b k) % 2 := fun k => by
    have h3 := hz (k + 1)
    rw [show k + 1 + 1 = k + 2 from rfl, show k + 1 + 1 * (a.length - 1) = k + a.length from by omega, pa, pb] at h3
    have := hba (k + 2); have := hba k; have := hbb (k + 2); have := hbb k
    unfold rg at *
    omega
  have hc := odd_round ho (g := fun k => (rg a k + rg b k) % 2) (fun k => by rw [pa, pb]) h2
  have s1 := ones_sum ha
  have s2 := ones_sum hb
  rw [← hl] at s2
  have s3 := sumR_mod2 (fun k => nth a k + nth b k) a.length
  rw [sumR_add (nth a) (nth b)] at s3
  by_cases hd : (rg a 0 + rg b 0) % 2 = 0
  · refine rg_ext hl fun i hi => ?_
    have h4 := hc i
    simp only [hd] at h4
    have := hba i; have := hbb i
    unfold rg at *
    omega
  · have h5 : sumR (fun k => (nth a k + nth b k) % 2) a.length = sumR (fun _ => 1) a.length := sumR_congr fun k hk => by
      have h4 := hc k
      rw [rg_lt hk, rg_lt (by rw [← hl]; exact hk)] at h4
      omega
    rw [h5, sumR_one] at s3
    omega
theorem again_odd {l : List Int} (h : bitsOk l = true) (ho : l.length % 2 = 1) {n m : Nat} (ha : againAt l n m) : m ≤ 1 := by
  rcases Nat.lt_or_ge 1 m with hm | hm
  · obtain ⟨a1, a2, a3⟩ := ha
    obtain ⟨p, rfl⟩ : ∃ p, m = p + 2 := ⟨m - 2, by omega⟩
    obtain ⟨q, rfl⟩ : ∃ q, n = q + 2 := ⟨n - 2, by omega⟩
    have e : sumI (q + 1) l = sumI (p + 1) l :=
      sum_one_to_one (by rw [sumI_len, sumI_len]) (by rw [sumI_len]; exact ho) (bitsOk_iff.1 (sumI_ok h _)).1 (bitsOk_iff.1 (sumI_ok h _)).1 (ones_even (bitsOk_iff.1 (sumI_ok h _)).1) (ones_even (bitsOk_iff.1 (sumI_ok h _)).1) a2
    exact absurd e.symm (a3 (p + 1) (q + 1) (by omega) (by omega))
  · exact hm
theorem ones_none {l : List Int} (h : ∀ k, k < l.length → nth l k = 0) : ones l = 0 := by
  unfold ones
  rw [List.countP_eq_zero]
  intro x hx
  obtain ⟨k, hk, rfl⟩ := List.getElem_of_mem hx
  have := h k hk
  rw [nth_lt hk] at this
  simp [this]
theorem pow_rest {l : List Int} {j : Nat} (h0 : 0 < l.length) (hj : l.length ∣ 2 * 2 ^ j) : ones (sumI (2 ^ j) l) = 0 := by
  refine ones_none fun k hk => ?_
  rw [sumI_len] at hk
  rw [← far_pow j h0, nth_far hk]
  obtain ⟨c, hc⟩ := hj
  obtain ⟨m, hm⟩ : ∃ m, l.length = m + 1 := ⟨l.length - 1, by omega⟩
  have e : rg l (k + 2 ^ j) = rg l (k + 2 ^ j * (l.length - 1)) := rg_eq ((c : Int) - 2 ^ j) (by
    rw [hm] at hc ⊢
    simp only [Nat.add_sub_cancel]
    have hc2 : (2 : Int) * 2 ^ j = ((m : Int) + 1) * c := by exact_mod_cast hc
    push_cast
    grind)
  rw [e]
  omega
theorem rest_1248 {l : List Int} (h : l.length = 1 ∨ l.length = 2 ∨ l.length = 4 ∨ l.length = 8) : ones (sumI ((l.length + 1) / 2) l) = 0 := by
  rcases h with h | h | h | h
  · rw [h]; exact pow_rest (j := 0) (by omega) (by rw [h]; exact ⟨2, rfl⟩)
  · rw [h]; exact pow_rest (j := 0) (by omega) (by rw [h]; exact ⟨1, rfl⟩)
  · rw [h]; exact pow_rest (j := 1) (by omega) (by rw [h]; exact ⟨1, rfl⟩)
  · rw [h]; exact pow_rest (j := 2) (by omega) (by rw [h]; exact ⟨1, rfl⟩)

/-- The first number of steps less than n after which the row was as after n. -/
def seekM (l : List Int) (n : Nat) : Option Nat := (List.range n).find? fun m => decide (sumI n l = sumI m l)
def seekN (l : List Int) : Nat → Nat → Nat × Nat
  | 0, n => (n, 0)
  | f + 1, n => match seekM l n with
    | some m => (n, m)
    | none => seekN l f (n + 1)
/-- What ComesAgain gives. -/
def comesN (l : List Int) : Int := if bitsOk l = true then ((seekN l 70000 1).1 : Int) else -1
def comesM (l : List Int) : Int := if bitsOk l = true then ((seekN l 70000 1).2 : Int) else -1
theorem seekM_at {l : List Int} {n m : Nat} (h : againAt l n m) : seekM l n = some m := by
  obtain ⟨h1, h2, h3⟩ := h
  unfold seekM
  rw [List.find?_eq_some_iff_getElem]
  refine ⟨by simpa using h2, m, by simpa using h1, by simp, fun j hj => ?_⟩
  simp only [List.getElem_range, Bool.not_eq_true', decide_eq_false_iff_not]
  intro e
  exact h3 j m hj h1 (e.symm.trans h2)
theorem seekM_none {l : List Int} {n : Nat} (h : ∀ i, i < n → sumI i l ≠ sumI n l) : seekM l n = none := by
  unfold seekM
  rw [List.find?_eq_none]
  intro x hx e
  exact h x (by simpa using hx) (by simpa using (of_decide_eq_true e).symm)
theorem seekN_at {l : List Int} {n m : Nat} (h : againAt l n m) : ∀ (f k : Nat), k ≤ n → n < k + f → seekN l f k = (n, m)
  | 0, k, h1, h2 => by omega
  | f + 1, k, h1, h2 => by
    rcases Nat.lt_or_ge k n with h3 | h3
    · rw [seekN, seekM_none (fun i hi => h.2.2 i k hi h3)]
      exact seekN_at h f (k + 1) (by omega) (by omega)
    · obtain rfl : k = n := by omega
      rw [seekN, seekM_at h]
theorem pow16 {n : Nat} (h : n ≤ 16) : 2 ^ n ≤ 65536 := by
  have := Nat.pow_le_pow_right (show 0 < 2 by omega) h
  simpa using this
theorem comes_at {l : List Int} (h : bitsOk l = true) {n m : Nat} (ha : againAt l n m) : comesN l = n ∧ comesM l = m := by
  have h2 := pow16 (bitsOk_iff.1 h).2.2
  have h3 := apart_few h ha.2.2
  have e := seekN_at ha 70000 1 (by have := ha.1; omega) (by omega)
  unfold comesN comesM
  rw [if_pos h, if_pos h, e]
  exact ⟨rfl, rfl⟩
theorem comes_ex {l : List Int} (h : bitsOk l = true) : ∃ n m : Nat, comesN l = n ∧ comesM l = m ∧ againAt l n m ∧ n ≤ 65536 := by
  obtain ⟨n, m, ha, hn⟩ := again_ex h
  have h2 := pow16 (bitsOk_iff.1 h).2.2
  exact ⟨n, m, (comes_at h ha).1, (comes_at h ha).2, ha, by omega⟩
theorem comes_no {l : List Int} (h : bitsOk l = false) : comesN l = -1 ∧ comesM l = -1 := by unfold comesN comesM; rw [h]; exact ⟨rfl, rfl⟩
/-- Two rows are the same at the first k places. -/
def sameTo (a b : List Int) (k : Nat) : Bool := (List.range k).all fun q => nth a q == nth b q
theorem sameTo_succ (a b : List Int) (k : Nat) : sameTo a b (k + 1) = (sameTo a b k && (nth a k == nth b k)) := by
  unfold sameTo
  rw [List.range_succ, List.all_append]
  simp
theorem sameTo_all {a b : List Int} {n : Nat} (ha : a.length = n) (hb : b.length = n) : sameTo a b n = true ↔ a = b := by
  unfold sameTo
  rw [List.all_eq_true]
  constructor
  · intro h
    refine list_ext (by rw [ha, hb]) fun k hk => ?_
    have := h k (by rw [List.mem_range, ← ha]; exact hk)
    simpa using this
  · rintro rfl k _
    simp
end Go.Proofs.YtkejcajboneniabDoor
