/-
  Chapter 9's rings as plain lists: what is sent, how far it goes, and how much is sent in all. No walk, and no statement is proved here.
-/
import Derived.Test.YtegmkacapldnoaaC1a
namespace Go.Proofs.Ytegmkacapldnoaa
open Go.RowKit
set_option linter.unusedVariables false
set_option linter.unusedSimpArgs false

/-- Sums of naturals. -/
def sumN (f : Nat → Nat) : Nat → Nat
  | 0 => 0
  | k + 1 => sumN f k + f k
theorem sumN_congr {f g : Nat → Nat} : ∀ {n : Nat}, (∀ k, k < n → f k = g k) → sumN f n = sumN g n
  | 0, _ => rfl
  | n + 1, h => by simp only [sumN]; rw [sumN_congr (n := n) fun k hk => h k (by omega), h n (by omega)]
theorem sumN_le {f g : Nat → Nat} : ∀ {n : Nat}, (∀ k, k < n → f k ≤ g k) → sumN f n ≤ sumN g n
  | 0, _ => Nat.le_refl _
  | n + 1, h => by
    simp only [sumN]
    have h1 := sumN_le (n := n) fun k hk => h k (by omega)
    have h2 := h n (by omega)
    omega
theorem sumN_add (f g : Nat → Nat) : ∀ n, sumN (fun k => f k + g k) n = sumN f n + sumN g n
  | 0 => rfl
  | n + 1 => by simp only [sumN]; rw [sumN_add f g n]; omega
theorem sumN_const (c : Nat) : ∀ n, sumN (fun _ => c) n = n * c
  | 0 => by simp [sumN]
  | n + 1 => by simp only [sumN]; rw [sumN_const c n, Nat.add_mul]; omega
theorem sumN_zero (n : Nat) : sumN (fun _ => 0) n = 0 := by rw [sumN_const]; simp
theorem sumN_comm (g : Nat → Nat → Nat) (m : Nat) : ∀ n, sumN (fun i => sumN (fun j => g i j) m) n = sumN (fun j => sumN (fun i => g i j) n) m
  | 0 => by simp only [sumN]; rw [sumN_zero]
  | n + 1 => by simp only [sumN]; rw [sumN_comm g m n, sumN_add]
/-- The same sum, its first one taken off and put behind. -/
theorem sumN_shift (g : Nat → Nat) : ∀ n, sumN (fun k => g (k + 1)) n + g 0 = sumN g n + g n
  | 0 => by simp [sumN]
  | n + 1 => by simp only [sumN]; have := sumN_shift g n; omega
theorem sumN_rot {g : Nat → Nat} {n : Nat} (hp : ∀ k, g (k + n) = g k) : ∀ a, sumN (fun k => g (k + a)) n = sumN g n
  | 0 => rfl
  | a + 1 => by
    rw [← sumN_rot hp a]
    have h := sumN_shift (fun k => g (k + a)) n
    have h2 : g (n + a) = g (0 + a) := by rw [Nat.add_comm n a, hp, Nat.zero_add]
    have h3 : sumN (fun k => g (k + (a + 1))) n = sumN (fun k => g (k + 1 + a)) n := sumN_congr fun k _ => by rw [Nat.add_right_comm, Nat.add_assoc]
    rw [h3]
    omega
theorem sumN_one {p n : Nat} (h : p < n) : sumN (fun i => if i = p then 1 else 0) n = 1 := by
  induction n with
  | zero => omega
  | succ n ih =>
    simp only [sumN]
    by_cases he : n = p
    · subst he
      rw [if_pos rfl, sumN_congr (g := fun _ => 0) (fun k hk => if_neg (by omega)), sumN_zero]
    · rw [if_neg he, ih (by omega)]
/-- Sums of truths that hold up to a bound. -/
theorem sumN_upto {f : Nat → Bool} {m : Nat} (h1 : ∀ s, s < m → f s = true) (h2 : ∀ s, m ≤ s → f s = false) : ∀ n, sumN (fun s => if f s = true then 1 else 0) n = min m n
  | 0 => by simp [sumN]
  | n + 1 => by
    simp only [sumN]
    rw [sumN_upto h1 h2 n]
    by_cases h : n < m
    · rw [if_pos (h1 n h)]; omega
    · rw [h2 n (by omega)]; simp; omega

/-- A ring's number, counted on round and round. -/
def rf (l : List Int) (i : Nat) : Int := nth l (i % l.length)
/-- The number of a machine is still sent after s steps. -/
def surv (l : List Int) (j s : Nat) : Bool := (List.range s).all (fun t => decide (rf l (j + t + 1) < rf l j))
def stepL (l m : List Int) : List Int := (List.range l.length).map (fun k => if nth l k < nth m ((k + l.length - 1) % l.length) then nth m ((k + l.length - 1) % l.length) else 0)
def sentL (l : List Int) : Nat → List Int
  | 0 => l
  | s + 1 => stepL l (sentL l s)
def posL (l : List Int) : Prop := ∀ k, k < l.length → 0 < nth l k
def apart (l : List Int) : Prop := ∀ i j, i < l.length → j < l.length → nth l i = nth l j → i = j
theorem stepL_len (l m : List Int) : (stepL l m).length = l.length := by simp [stepL]
theorem sentL_len (l : List Int) : ∀ s, (sentL l s).length = l.length
  | 0 => rfl
  | s + 1 => stepL_len _ _
theorem nth_step {l m : List Int} {k : Nat} (h : k < l.length) : nth (stepL l m) k = if nth l k < nth m ((k + l.length - 1) % l.length) then nth m ((k + l.length - 1) % l.length) else 0 := by
  simp [nth, stepL, List.getD, h]
theorem surv_succ (l : List Int) (j s : Nat) : surv l j (s + 1) = (surv l j s && decide (rf l (j + s + 1) < rf l j)) := by
  simp [surv, List.range_succ]
theorem surv_iff {l : List Int} {j s : Nat} : surv l j s = true ↔ ∀ t, t < s → rf l (j + t + 1) < rf l j := by
  simp [surv]
theorem rf_per (l : List Int) (k : Nat) : rf l (k + l.length) = rf l k := by simp [rf]
theorem rf_pos {l : List Int} (hp : posL l) (h0 : 0 < l.length) (k : Nat) : 0 < rf l k := hp _ (Nat.mod_lt _ h0)
theorem rf_lt {l : List Int} {k : Nat} (h : k < l.length) : rf l k = nth l k := by unfold rf; rw [Nat.mod_eq_of_lt h]
theorem before_mod {n i : Nat} (h0 : 0 < n) : ((i + 1) % n + n - 1) % n = i % n := by
  have h1 := Nat.mod_lt (i + 1) h0
  have h2 := Nat.mod_lt i h0
  have h3 : (i + 1) % n = if i % n + 1 = n then 0 else i % n + 1 := by
    rw [Nat.add_mod]
    by_cases h1n : n = 1
    · subst h1n; simp [Nat.mod_one]
    · rw [Nat.mod_eq_of_lt (show 1 < n by omega)]
      split
      · rename_i h; rw [h, Nat.mod_self]
      · rw [Nat.mod_eq_of_lt (by omega)]
  rw [h3]
  split
  · rename_i h
    rw [Nat.zero_add, Nat.mod_eq_of_lt (by omega)]
    omega
  · rw [show i % n + 1 + n - 1 = i % n + n by omega, Nat.add_mod_right, Nat.mod_mod]
/-- What is sent: the number of the machine so many places to the left, if none between is greater. -/
theorem sent_form {l : List Int} (hp : posL l) (h0 : 0 < l.length) : ∀ s j, nth (sentL l s) ((j + s) % l.length) = if surv l j s = true then rf l j else 0
  | 0, j => by simp [surv, sentL, rf]
  | s + 1, j => by
    have hm : (j + (s + 1)) % l.length < l.length := Nat.mod_lt _ h0
    simp only [sentL]
    rw [nth_step hm, show j + (s + 1) = j + s + 1 from rfl, before_mod h0, sent_form hp h0 s j, surv_succ]
    have hx : nth l ((j + s + 1) % l.length) = rf l (j + s + 1) := rfl
    rw [hx]
    have h1 := rf_pos hp h0 (j + s + 1)
    cases hs : surv l j s with
    | false => simp
    | true => by_cases hl : rf l (j + s + 1) < rf l j <;> simp [hl]
/-- How many times a number is sent. -/
def reachN (l : List Int) (j : Nat) : Nat := sumN (fun s => if surv l j s = true then 1 else 0) l.length
theorem surv_mono {l : List Int} {j s t : Nat} (h : surv l j s = true) (hts : t ≤ s) : surv l j t = true := by
  rw [surv_iff] at h ⊢
  exact fun u hu => h u (by omega)
theorem surv_full {l : List Int} {j s : Nat} (h0 : 0 < l.length) (h : l.length ≤ s) : surv l j s = false := by
  cases hs : surv l j s with
  | false => rfl
  | true =>
    rw [surv_iff] at hs
    have := hs (l.length - 1) (by omega)
    rw [show j + (l.length - 1) + 1 = j + l.length by omega, rf_per] at this
    omega
theorem reach_is {l : List Int} {j m : Nat} (h0 : 0 < l.length) (h1 : 1 ≤ m) (hm : m ≤ l.length) (hs : surv l j (m - 1) = true) (he : m = l.length ∨ surv l j m = false) : reachN l j = m := by
  unfold reachN
  have he' : surv l j m = false := by
    rcases he with rfl | he
    · exact surv_full h0 (Nat.le_refl _)
    · exact he
  rw [sumN_upto (m := m) (fun s h => surv_mono hs (by omega)) (fun s h => by
    cases hc : surv l j s with
    | false => rfl
    | true => rw [surv_mono hc h] at he'; exact absurd he' (by simp))]
  omega
/-- How many numbers are sent in a step. -/
def countP (m : List Int) : Nat := sumN (fun k => if 0 < nth m k then 1 else 0) m.length
theorem count_sent {l : List Int} (hp : posL l) (h0 : 0 < l.length) (s : Nat) : countP (sentL l s) = sumN (fun j => if surv l j s = true then 1 else 0) l.length := by
  unfold countP
  rw [sentL_len]
  have h := sumN_rot (g := fun k => if 0 < nth (sentL l s) (k % l.length) then 1 else 0) (n := l.length) (fun k => by simp only [Nat.add_mod_right]) s
  rw [sumN_congr (g := fun k => if 0 < nth (sentL l s) (k % l.length) then 1 else 0) (fun k hk => by rw [Nat.mod_eq_of_lt hk]), ← h]
  refine sumN_congr fun j _ => ?_
  rw [sent_form hp h0]
  have := rf_pos hp h0 j
  cases surv l j s <;> simp [this]
def messN (l : List Int) : Nat := sumN (fun s => countP (sentL l s)) l.length
theorem mess_reach {l : List Int} (hp : posL l) (h0 : 0 < l.length) : messN l = sumN (reachN l) l.length := by
  unfold messN
  rw [sumN_congr fun s _ => count_sent hp h0 s, sumN_comm]
  rfl
theorem reach_ge {l : List Int} (h0 : 0 < l.length) (j : Nat) : 1 ≤ reachN l j := by
  have h : sumN (fun s => if s = 0 then 1 else 0) l.length ≤ reachN l j := sumN_le fun s _ => by
    by_cases hs : s = 0
    · subst hs; simp [surv]
    · rw [if_neg hs]; omega
  rwa [sumN_one h0] at h
theorem reach_le (l : List Int) (j : Nat) : reachN l j ≤ l.length := by
  have h : reachN l j ≤ sumN (fun _ => 1) l.length := sumN_le fun s _ => by split <;> omega
  rwa [sumN_const, Nat.mul_one] at h
def isMax (l : List Int) (p : Nat) : Prop := p < l.length ∧ ∀ i, i < l.length → nth l i ≤ nth l p
theorem max_there {l : List Int} (h0 : 0 < l.length) : ∃ p, isMax l p := by
  suffices ∀ m, m ≤ l.length → 0 < m → ∃ p, p < m ∧ ∀ i, i < m → nth l i ≤ nth l p from this l.length (Nat.le_refl _) h0
  intro m
  induction m with
  | zero => omega
  | succ m ih =>
    intro hm _
    by_cases h : m = 0
    · subst h; exact ⟨0, by omega, fun i hi => by rw [show i = 0 by omega]; exact Int.le_refl _⟩
    · obtain ⟨p, hp, hq⟩ := ih (by omega) (by omega)
      by_cases hlt : nth l p < nth l m
      · exact ⟨m, by omega, fun i hi => by by_cases h2 : i = m; (subst h2; exact Int.le_refl _); (have := hq i (by omega); omega)⟩
      · exact ⟨p, by omega, fun i hi => by by_cases h2 : i = m; (subst h2; omega); (exact hq i (by omega))⟩
theorem mod_ne {n j t : Nat} (hj : j < n) (ht : 0 < t) (htn : t < n) : (j + t) % n ≠ j := by
  by_cases h : j + t < n
  · rw [Nat.mod_eq_of_lt h]; omega
  · rw [Nat.mod_eq_sub_mod (by omega), Nat.mod_eq_of_lt (by omega)]; omega
theorem surv_max {l : List Int} (ha : apart l) {j : Nat} (hj : j < l.length) : surv l j (l.length - 1) = true ↔ isMax l j := by
  rw [surv_iff]
  constructor
  · intro h
    refine ⟨hj, fun i hi => ?_⟩
    by_cases he : i = j
    · subst he; exact Int.le_refl _
    · have ht : ∃ t, t < l.length - 1 ∧ (j + t + 1) % l.length = i := by
        by_cases hij : j < i
        · exact ⟨i - j - 1, by omega, by rw [show j + (i - j - 1) + 1 = i by omega, Nat.mod_eq_of_lt hi]⟩
        · exact ⟨i + l.length - j - 1, by omega, by rw [show j + (i + l.length - j - 1) + 1 = i + l.length by omega, Nat.add_mod_right, Nat.mod_eq_of_lt hi]⟩
      obtain ⟨t, ht, hm⟩ := ht
      have := h t ht
      rw [rf_lt hj] at this
      unfold rf at this
      rw [hm] at this
      omega
  · rintro ⟨_, h⟩ t ht
    rw [rf_lt hj]
    have hm : (j + t + 1) % l.length < l.length := Nat.mod_lt _ (by omega)
    have h1 := h _ hm
    have h2 := mod_ne hj (show 0 < t + 1 by omega) (show t + 1 < l.length by omega)
    have h3 : nth l ((j + t + 1) % l.length) ≠ nth l j := fun e => h2 (ha _ _ hm hj e)
    show nth l ((j + t + 1) % l.length) < nth l j
    omega
theorem max_one {l : List Int} (ha : apart l) {p q : Nat} (hp : isMax l p) (hq : isMax l q) : p = q := ha p q hp.1 hq.1 (by have h1 := hp.2 q hq.1; have h2 := hq.2 p hp.1; omega)
/-- Who hears its own number, and when. -/
theorem hear_iff {l : List Int} (hp : posL l) (ha : apart l) {s k : Nat} (hs : s < l.length) (hk : k < l.length) : nth (sentL l s) ((k + l.length - 1) % l.length) = nth l k ↔ s = l.length - 1 ∧ isMax l k := by
  have h0 : 0 < l.length := by omega
  have hf := sent_form hp h0 s (k + l.length - 1 - s)
  rw [show k + l.length - 1 - s + s = k + l.length - 1 by omega] at hf
  rw [hf]
  have hkp := hp k hk
  constructor
  · intro h
    cases hsv : surv l (k + l.length - 1 - s) s with
    | false => rw [hsv] at h; simp at h; omega
    | true =>
      rw [hsv, if_pos rfl] at h
      have hm : (k + l.length - 1 - s) % l.length < l.length := Nat.mod_lt _ h0
      have he := ha _ _ hm hk h
      have hs1 : s = l.length - 1 := by
        by_cases h2 : s = l.length - 1
        · exact h2
        · have := mod_ne hk (show 0 < l.length - 1 - s by omega) (show l.length - 1 - s < l.length by omega)
          rw [show k + (l.length - 1 - s) = k + l.length - 1 - s by omega] at this
          exact absurd he this
      subst hs1
      rw [show k + l.length - 1 - (l.length - 1) = k by omega] at hsv
      exact ⟨rfl, (surv_max ha hk).1 hsv⟩
  · rintro ⟨rfl, hmx⟩
    rw [show k + l.length - 1 - (l.length - 1) = k by omega, (surv_max ha hk).2 hmx, if_pos rfl, rf_lt hk]
theorem reach_full {l : List Int} (ha : apart l) {j : Nat} (hj : j < l.length) : reachN l j = l.length ↔ isMax l j := by
  have h0 : 0 < l.length := by omega
  constructor
  · intro h
    rw [← surv_max ha hj]
    cases hs : surv l j (l.length - 1) with
    | true => rfl
    | false =>
      have hle : reachN l j ≤ sumN (fun s => if s = l.length - 1 then 0 else 1) l.length := sumN_le fun s _ => by
        by_cases he : s = l.length - 1
        · subst he; rw [hs]; simp
        · rw [if_neg he]; split <;> omega
      have h1 := sumN_add (fun s => if s = l.length - 1 then 0 else 1) (fun s => if s = l.length - 1 then 1 else 0) l.length
      rw [sumN_congr (g := fun _ => 1) (fun k _ => by split <;> rfl), sumN_const, sumN_one (by omega)] at h1
      omega
  · intro h
    exact reach_is h0 h0 (Nat.le_refl _) ((surv_max ha hj).2 h) (.inl rfl)
/-- At least twice the machines, less one. -/
theorem mess_low {l : List Int} (ha : apart l) (h0 : 0 < l.length) : 2 * l.length - 1 ≤ sumN (reachN l) l.length := by
  obtain ⟨p, hp⟩ := max_there h0
  have h : sumN (fun j => 1 + (if j = p then l.length - 1 else 0)) l.length ≤ sumN (reachN l) l.length := sumN_le fun j hj => by
    by_cases he : j = p
    · subst he; rw [if_pos rfl, (reach_full ha hj).2 hp]; omega
    · rw [if_neg he]; exact reach_ge h0 j
  rw [sumN_add, sumN_const] at h
  have h2 : sumN (fun j => if j = p then l.length - 1 else 0) l.length = l.length - 1 := by
    have : ∀ n, sumN (fun j => if j = p then l.length - 1 else 0) n = (l.length - 1) * sumN (fun j => if j = p then 1 else 0) n := by
      intro n
      induction n with
      | zero => rfl
      | succ n ih => simp only [sumN]; rw [ih, Nat.mul_add]; congr 1; split <;> simp
    rw [this, sumN_one hp.1, Nat.mul_one]
  omega
def rank (l : List Int) (j : Nat) : Nat := sumN (fun i => if rf l i ≤ rf l j then 1 else 0) l.length
theorem reach_rank (l : List Int) (j : Nat) : reachN l j ≤ rank l j := by
  unfold rank
  rw [← sumN_rot (g := fun i => if rf l i ≤ rf l j then 1 else 0) (fun k => by rw [rf_per]) j]
  refine sumN_le fun s _ => ?_
  by_cases h : surv l j s = true
  · rw [if_pos h, if_pos]
    · exact Nat.le_refl _
    · by_cases hs : s = 0
      · subst hs; rw [Nat.zero_add]; exact Int.le_refl _
      · have := surv_iff.1 h (s - 1) (by omega)
        rw [show j + (s - 1) + 1 = s + j by omega] at this
        omega
  · rw [if_neg h]; omega
theorem rank_sum {l : List Int} (ha : apart l) : 2 * sumN (rank l) l.length = l.length * (l.length + 1) := by
  have h1 : sumN (rank l) l.length = sumN (fun j => sumN (fun i => if rf l j ≤ rf l i then 1 else 0) l.length) l.length := by
    unfold rank; rw [sumN_comm]
  have h2 : sumN (rank l) l.length + sumN (rank l) l.length = sumN (fun j => sumN (fun i => 1 + (if i = j then 1 else 0)) l.length) l.length := by
    conv => lhs; rhs; rw [h1]
    rw [← sumN_add]
    refine sumN_congr fun j hj => ?_
    unfold rank
    rw [← sumN_add]
    refine sumN_congr fun i hi => ?_
    rw [rf_lt hi, rf_lt hj]
    by_cases he : i = j
    · subst he; simp
    · have hn : nth l i ≠ nth l j := fun e => he (ha i j hi hj e)
      rw [if_neg he]
      by_cases hl : nth l i ≤ nth l j
      · rw [if_pos hl, if_neg (by omega)]
      · rw [if_neg hl, if_pos (by omega)]
  have h3 : sumN (fun j => sumN (fun i => 1 + (if i = j then 1 else 0)) l.length) l.length = sumN (fun _ => l.length + 1) l.length := sumN_congr fun j hj => by rw [sumN_add, sumN_const, sumN_one hj, Nat.mul_one]
  rw [h3, sumN_const] at h2
  omega
/-- At most half of the machines times one more. -/
theorem mess_high {l : List Int} (ha : apart l) : sumN (reachN l) l.length ≤ l.length * (l.length + 1) / 2 := by
  have h1 : sumN (reachN l) l.length ≤ sumN (rank l) l.length := sumN_le fun j _ => reach_rank l j
  have h2 := rank_sum ha
  omega
/-- Just behind its reach stands a greater one. -/
theorem reach_next {l : List Int} (ha : apart l) {j : Nat} (hj : j < l.length) (h : ¬ isMax l j) : nth l j < nth l ((j + reachN l j) % l.length) := by
  have h0 : 0 < l.length := by omega
  have hlt : reachN l j < l.length := by
    have h1 := reach_le l j
    have h2 : reachN l j ≠ l.length := fun e => h ((reach_full ha hj).1 e)
    omega
  have hge := reach_ge h0 j
  -- the first step at which it is not sent
  obtain ⟨m, hm1, hm2, hm3, hm4⟩ : ∃ m, 1 ≤ m ∧ m ≤ l.length ∧ surv l j (m - 1) = true ∧ surv l j m = false := by
    have : ∀ n, surv l j n = false → ∃ m, 1 ≤ m ∧ m ≤ n ∧ surv l j (m - 1) = true ∧ surv l j m = false := by
      intro n
      induction n with
      | zero => intro hn; simp [surv] at hn
      | succ n ih =>
        intro hn
        cases hs : surv l j n with
        | true => exact ⟨n + 1, by omega, Nat.le_refl _, hs, hn⟩
        | false => obtain ⟨m, a, b, c, d⟩ := ih hs; exact ⟨m, a, by omega, c, d⟩
    obtain ⟨m, a, b, c, d⟩ := this l.length (surv_full h0 (Nat.le_refl _))
    exact ⟨m, a, b, c, d⟩
  have hr := reach_is h0 hm1 hm2 hm3 (.inr hm4)
  rw [hr] at hlt ⊢
  obtain ⟨q, rfl⟩ : ∃ q, m = q + 1 := ⟨m - 1, by omega⟩
  rw [surv_succ] at hm4
  rw [show q + 1 - 1 = q by omega] at hm3
  rw [hm3, rf_lt hj] at hm4
  simp at hm4
  have hm : (j + (q + 1)) % l.length < l.length := Nat.mod_lt _ h0
  have hne : nth l ((j + (q + 1)) % l.length) ≠ nth l j := fun e => mod_ne hj (by omega) hlt (ha _ _ hm hj e)
  have : rf l (j + q + 1) = nth l ((j + (q + 1)) % l.length) := rfl
  omega
/-- A ring begun elsewhere. -/
def rotL (l : List Int) (a : Nat) : List Int := l.drop a ++ l.take a
theorem rot_len {l : List Int} {a : Nat} (h : a ≤ l.length) : (rotL l a).length = l.length := by simp [rotL]; omega
theorem nth_rot {l : List Int} {a k : Nat} (h : a < l.length) (hk : k < l.length) : nth (rotL l a) k = rf l (k + a) := by
  unfold rf nth rotL
  by_cases h1 : k < l.length - a
  · rw [Nat.mod_eq_of_lt (by omega)]
    simp [List.getD, List.getElem?_append, List.getElem?_drop, h1, Nat.add_comm]
    rw [List.getElem?_eq_getElem (by omega)]; rfl
  · rw [Nat.mod_eq_sub_mod (by omega), Nat.mod_eq_of_lt (by omega)]
    simp [List.getD, List.getElem?_append, List.getElem?_take, h1]
    rw [if_pos (by omega), show k - (l.length - a) = k + a - l.length by omega]
theorem rf_rot {l : List Int} {a : Nat} (h : a < l.length) (k : Nat) : rf (rotL l a) k = rf l (k + a) := by
  unfold rf
  rw [rot_len (by omega), nth_rot h (Nat.mod_lt _ (by omega))]
  unfold rf
  rw [Nat.mod_add_mod]
theorem surv_rot {l : List Int} {a : Nat} (h : a < l.length) (j s : Nat) : surv (rotL l a) j s = surv l (j + a) s := by
  rw [Bool.eq_iff_iff, surv_iff, surv_iff]
  constructor
  · intro g t ht
    have := g t ht
    rw [rf_rot h, rf_rot h] at this
    rwa [show j + a + t + 1 = j + t + 1 + a by omega]
  · intro g t ht
    have := g t ht
    rw [rf_rot h, rf_rot h]
    rwa [show j + t + 1 + a = j + a + t + 1 by omega]
theorem surv_per (l : List Int) (j s : Nat) : surv l (j + l.length) s = surv l j s := by
  rw [Bool.eq_iff_iff, surv_iff, surv_iff]
  constructor
  · intro g t ht
    have := g t ht
    rwa [rf_per, show j + l.length + t + 1 = j + t + 1 + l.length by omega, rf_per] at this
  · intro g t ht
    rw [rf_per, show j + l.length + t + 1 = j + t + 1 + l.length by omega, rf_per]
    exact g t ht
theorem reach_rot {l : List Int} {a : Nat} (h : a < l.length) (j : Nat) : reachN (rotL l a) j = reachN l (j + a) := by
  unfold reachN
  rw [rot_len (by omega)]
  exact sumN_congr fun s _ => by rw [surv_rot h]
/-- Where a ring begins does not matter for how much is sent. -/
theorem reach_rot_sum {l : List Int} {a : Nat} (h : a < l.length) : sumN (reachN (rotL l a)) (rotL l a).length = sumN (reachN l) l.length := by
  rw [rot_len (by omega), sumN_congr fun j _ => reach_rot h j]
  exact sumN_rot (fun k => by unfold reachN; exact sumN_congr fun s _ => by rw [surv_per]) a
theorem rot_pos {l : List Int} {a : Nat} (h : a < l.length) (hp : posL l) : posL (rotL l a) := by
  intro k hk
  rw [rot_len (by omega)] at hk
  rw [nth_rot h hk]
  exact rf_pos hp (by omega) _
theorem rot_apart {l : List Int} {a : Nat} (h : a < l.length) (ha : apart l) : apart (rotL l a) := by
  intro i j hi hj e
  rw [rot_len (by omega)] at hi hj
  rw [nth_rot h hi, nth_rot h hj] at e
  have h0 : 0 < l.length := by omega
  have := ha _ _ (Nat.mod_lt _ h0) (Nat.mod_lt _ h0) e
  have h1 : (i + a) % l.length = if i + a < l.length then i + a else i + a - l.length := by
    split
    · exact Nat.mod_eq_of_lt ‹_›
    · rw [Nat.mod_eq_sub_mod (by omega), Nat.mod_eq_of_lt (by omega)]
  have h2 : (j + a) % l.length = if j + a < l.length then j + a else j + a - l.length := by
    split
    · exact Nat.mod_eq_of_lt ‹_›
    · rw [Nat.mod_eq_sub_mod (by omega), Nat.mod_eq_of_lt (by omega)]
  rw [h1, h2] at this
  split at this <;> split at this <;> omega
/-- The greatest number of a ring begun elsewhere is the same. -/
theorem rot_max {l : List Int} {a p q : Nat} (h : a < l.length) (hp : isMax l p) (hq : isMax (rotL l a) q) : nth (rotL l a) q = nth l p := by
  have hq1 := hq.1
  rw [rot_len (by omega)] at hq1
  have h0 : 0 < l.length := by omega
  have h1 : nth (rotL l a) q ≤ nth l p := by rw [nth_rot h hq1]; exact hp.2 _ (Nat.mod_lt _ h0)
  have h2 : nth l p ≤ nth (rotL l a) q := by
    have hk : ∃ k, k < l.length ∧ (k + a) % l.length = p := by
      have := hp.1
      by_cases hpa : a ≤ p
      · exact ⟨p - a, by omega, by rw [show p - a + a = p by omega, Nat.mod_eq_of_lt hp.1]⟩
      · exact ⟨p + l.length - a, by omega, by rw [show p + l.length - a + a = p + l.length by omega, Nat.add_mod_right, Nat.mod_eq_of_lt hp.1]⟩
    obtain ⟨k, hk, hke⟩ := hk
    have := hq.2 k (by rw [rot_len (by omega)]; exact hk)
    rw [nth_rot h hk] at this
    unfold rf at this
    rwa [hke] at this
  omega
end Go.Proofs.Ytegmkacapldnoaa
