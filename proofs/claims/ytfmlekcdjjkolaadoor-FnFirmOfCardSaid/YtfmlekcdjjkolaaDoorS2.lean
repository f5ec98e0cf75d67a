/-
  Chapter 2's signals as plain arithmetic: no walk, and no statement is proved here.
-/
import Derived.Test.YtfmlekcdjjkolaaDoorMem
namespace Go.Proofs.YtfmlekcdjjkolaaDoor
open Go.RowKit
set_option linter.unusedVariables false
set_option linter.unusedSimpArgs false

/-- A way between two walls, folded. -/
def fold (last y : Int) : Int := if last < y % (2 * last) then 2 * last - y % (2 * last) else y % (2 * last)
theorem fold_bd {last : Int} (h : 1 ≤ last) (y : Int) : 0 ≤ fold last y ∧ fold last y ≤ last := by
  have h1 := Int.emod_nonneg y (show 2 * last ≠ 0 by omega)
  have h2 := Int.emod_lt_of_pos y (show 0 < 2 * last by omega)
  unfold fold
  split <;> omega
theorem fold_small {last y : Int} (h : 1 ≤ last) (h0 : 0 ≤ y) (h1 : y ≤ last) : fold last y = y := by
  have e : y % (2 * last) = y := Int.emod_eq_of_lt h0 (by omega)
  unfold fold
  rw [e, if_neg (by omega)]
theorem fold_back {last f : Int} (h : 1 ≤ last) (h0 : 0 ≤ f) (h1 : f ≤ last) : fold last (2 * last - f) = f := by
  unfold fold
  by_cases hf : f = 0
  · subst hf
    simp
    omega
  · have e : (2 * last - f) % (2 * last) = 2 * last - f := Int.emod_eq_of_lt (by omega) (by omega)
    rw [e]
    split <;> omega
theorem fold_period (last y : Int) : fold last (y + 2 * last) = fold last y := by
  unfold fold
  rw [Int.add_emod_right]
theorem fold_succ {last : Int} (h : 1 ≤ last) (y : Int) : fold last (y + 1) = fold last y + 1 ∨ fold last (y + 1) = fold last y - 1 := by
  have h1 := Int.emod_nonneg y (show 2 * last ≠ 0 by omega)
  have h2 := Int.emod_lt_of_pos y (show 0 < 2 * last by omega)
  have e : (y + 1) % (2 * last) = if y % (2 * last) + 1 = 2 * last then 0 else y % (2 * last) + 1 := by
    rw [← Int.emod_add_emod]
    split
    · rename_i h3
      rw [h3, Int.emod_self]
    · exact Int.emod_eq_of_lt (by omega) (by omega)
  unfold fold
  rw [e]
  generalize y % (2 * last) = r at *
  split <;> split <;> split <;> omega
theorem fold_other {last : Int} (h : 1 ≤ last) (y : Int) : fold last (y + last) = last - fold last y := by
  have h1 := Int.emod_nonneg y (show 2 * last ≠ 0 by omega)
  have h2 := Int.emod_lt_of_pos y (show 0 < 2 * last by omega)
  have e : (y + last) % (2 * last) = if y % (2 * last) < last then y % (2 * last) + last else y % (2 * last) - last := by
    rw [← Int.emod_add_emod]
    split
    · exact Int.emod_eq_of_lt (by omega) (by omega)
    · rw [show y % (2 * last) + last = (y % (2 * last) - last) + 2 * last from by omega, Int.add_emod_right]
      exact Int.emod_eq_of_lt (by omega) (by omega)
  unfold fold
  rw [e]
  generalize y % (2 * last) = r at *
  split <;> split <;> split <;> omega

/-- A signal that begins between the walls, and takes 1..9 steps for a place, with either sign. -/
def sigOk (f e last : Int) : Bool := decide (1 ≤ last ∧ last ≤ 40) && (decide (0 ≤ f ∧ f ≤ last) && (decide (1 ≤ e ∧ e ≤ 9) || decide (-9 ≤ e ∧ e ≤ -1)))
theorem sigOk_iff {f e last : Int} : sigOk f e last = true ↔ (1 ≤ last ∧ last ≤ 40) ∧ (0 ≤ f ∧ f ≤ last) ∧ ((1 ≤ e ∧ e ≤ 9) ∨ (-9 ≤ e ∧ e ≤ -1)) := by simp [sigOk]
theorem sigOk_neg (f e last : Int) : sigOk f (-e) last = sigOk f e last := by
  rw [Bool.eq_iff_iff, sigOk_iff, sigOk_iff]; omega
theorem sigOk_side (f e last : Int) : sigOk (last - f) e last = sigOk f e last := by
  rw [Bool.eq_iff_iff, sigOk_iff, sigOk_iff]; omega

/-- How many steps for a place. -/
def slow (e : Int) : Int := if 0 ≤ e then e else -e
theorem slow_pos {e : Int} (h : 0 ≤ e) : slow e = e := by simp [slow, h]
theorem slow_neg {e : Int} (h : e < 0) : slow e = -e := by unfold slow; rw [if_neg (by omega)]
theorem slow_bd {f e last : Int} (h : sigOk f e last = true) : 1 ≤ slow e ∧ slow e ≤ 9 := by
  rw [sigOk_iff] at h
  unfold slow
  split <;> omega
theorem slow_of_neg (e : Int) : slow (-e) = slow e := by unfold slow; split <;> split <;> omega
/-- Where the folded way begins. -/
def starts (f e last : Int) : Int := if e < 0 then 2 * last - f else f
/-- Where a signal is after t steps. -/
def at2 (f e last t : Int) : Int := fold last (starts f e last + t / slow e)
def placeOut (f e last t : Int) : Int := if (sigOk f e last && decide (0 ≤ t ∧ t ≤ 2000)) = true then at2 f e last t else -1
def roundOut (f e last : Int) : Int := if sigOk f e last = true then 2 * last * slow e else -1

theorem at2_bd {f e last : Int} (h : sigOk f e last = true) (t : Int) : 0 ≤ at2 f e last t ∧ at2 f e last t ≤ last := fold_bd (sigOk_iff.1 h).1.1 _
theorem at2_zero {f e last : Int} (h : sigOk f e last = true) : at2 f e last 0 = f := by
  have h' := sigOk_iff.1 h
  unfold at2 starts
  rw [Int.zero_ediv, Int.add_zero]
  split
  · exact fold_back h'.1.1 h'.2.1.1 h'.2.1.2
  · exact fold_small h'.1.1 h'.2.1.1 h'.2.1.2
theorem div_succ {a t : Int} (ha : 1 ≤ a) : (t + 1) / a = t / a ∨ (t + 1) / a = t / a + 1 := by
  have h1 := Int.emod_nonneg t (show a ≠ 0 by omega)
  have h2 := Int.emod_lt_of_pos t (show 0 < a by omega)
  have h3 := Int.emod_nonneg (t + 1) (show a ≠ 0 by omega)
  have h4 := Int.emod_lt_of_pos (t + 1) (show 0 < a by omega)
  have e1 := Int.mul_ediv_add_emod t a
  have e2 := Int.mul_ediv_add_emod (t + 1) a
  have e3 : a * ((t + 1) / a - t / a) = 1 + t % a - (t + 1) % a := by rw [Int.mul_sub]; omega
  have lo : -1 < (t + 1) / a - t / a := by
    apply Int.lt_of_mul_lt_mul_left (a := a) _ (by omega)
    rw [e3]; omega
  have hi : (t + 1) / a - t / a < 2 := by
    apply Int.lt_of_mul_lt_mul_left (a := a) _ (by omega)
    rw [e3]; omega
  omega
theorem at2_next {f e last : Int} (h : sigOk f e last = true) (t : Int) : at2 f e last (t + 1) - at2 f e last t ≤ 1 ∧ at2 f e last t - at2 f e last (t + 1) ≤ 1 ∧ (slow e = 1 → at2 f e last (t + 1) ≠ at2 f e last t) := by
  have h' := sigOk_iff.1 h
  have hs := slow_bd h
  have hd : (t + 1) / slow e = t / slow e ∨ (t + 1) / slow e = t / slow e + 1 := div_succ hs.1
  unfold at2
  have hf := fold_succ h'.1.1 (starts f e last + t / slow e)
  rw [Int.add_assoc] at hf
  refine ⟨?_, ?_, ?_⟩
  · rcases hd with e | e <;> rw [e] <;> omega
  · rcases hd with e | e <;> rw [e] <;> omega
  · intro h1
    rw [h1, Int.ediv_one, Int.ediv_one]
    rw [h1, Int.ediv_one] at hf
    omega
theorem at2_other {f e last : Int} (h : sigOk f e last = true) (t : Int) : at2 (last - f) (-e) last t = last - at2 f e last t := by
  have h' := sigOk_iff.1 h
  unfold at2
  rw [slow_of_neg, ← fold_other h'.1.1]
  unfold starts
  by_cases he : e < 0
  · rw [if_neg (by omega), if_pos he, show 2 * last - f + t / slow e + last = (last - f + t / slow e) + 2 * last from by omega, fold_period]
  · rw [if_pos (by omega), if_neg he, show f + t / slow e + last = 2 * last - (last - f) + t / slow e from by omega]
theorem at2_round {f e last : Int} (h : sigOk f e last = true) (t : Int) : at2 f e last (2 * last * slow e + t) = at2 f e last t := by
  have hs := slow_bd h
  unfold at2
  rw [Int.add_comm (2 * last * slow e) t, Int.add_mul_ediv_right _ _ (by omega), ← Int.add_assoc, fold_period]
theorem round_bd {f e last : Int} (h : sigOk f e last = true) : 2 ≤ 2 * last * slow e ∧ 2 * last * slow e ≤ 720 := by
  have h' := sigOk_iff.1 h
  have hs := slow_bd h
  obtain ⟨k, hk⟩ : ∃ k, slow e = k := ⟨_, rfl⟩
  rw [hk] at hs ⊢
  have : k = 1 ∨ k = 2 ∨ k = 3 ∨ k = 4 ∨ k = 5 ∨ k = 6 ∨ k = 7 ∨ k = 8 ∨ k = 9 := by omega
  rcases this with rfl | rfl | rfl | rfl | rfl | rfl | rfl | rfl | rfl <;> omega

/-! ### The first number at which something holds -/
def firstAt (P : Nat → Bool) : Nat → Nat → Option Nat
  | 0, _ => none
  | f + 1, k => if P k = true then some k else firstAt P f (k + 1)
theorem firstAt_some {P : Nat → Bool} {f k m : Nat} (hk : k ≤ m) (hm : m < k + f) (h1 : ∀ j, k ≤ j → j < m → P j = false) (h2 : P m = true) : firstAt P f k = some m := by
  induction f generalizing k with
  | zero => omega
  | succ f ih =>
    unfold firstAt
    by_cases e : k = m
    · subst e
      rw [if_pos h2]
    · rw [if_neg (by rw [h1 k (Nat.le_refl _) (by omega)]; simp)]
      exact ih (by omega) (by omega) fun j hj => h1 j (by omega)
theorem firstAt_none {P : Nat → Bool} {f k : Nat} (h1 : ∀ j, k ≤ j → j < k + f → P j = false) : firstAt P f k = none := by
  induction f generalizing k with
  | zero => rfl
  | succ f ih =>
    unfold firstAt
    rw [if_neg (by rw [h1 k (Nat.le_refl _) (by omega)]; simp)]
    exact ih fun j hj hj2 => h1 j (by omega) (by omega)
theorem firstAt_inv {P : Nat → Bool} {f k m : Nat} (h : firstAt P f k = some m) : k ≤ m ∧ m < k + f ∧ (∀ j, k ≤ j → j < m → P j = false) ∧ P m = true := by
  induction f generalizing k with
  | zero => cases h
  | succ f ih =>
    unfold firstAt at h
    by_cases e : P k = true
    · rw [if_pos e] at h
      cases h
      exact ⟨Nat.le_refl _, by omega, fun j h1 h2 => by omega, e⟩
    · rw [if_neg e] at h
      obtain ⟨a, b, c, d⟩ := ih h
      refine ⟨by omega, by omega, fun j h1 h2 => ?_, d⟩
      by_cases hj : j = k
      · subst hj; simpa using e
      · exact c j (by omega) h2
theorem firstAt_congr {P Q : Nat → Bool} (h : ∀ k, P k = Q k) (f k : Nat) : firstAt P f k = firstAt Q f k := by
  rw [show P = Q from funext h]

/-- When two signals are at one place first. -/
def meetOut (f e g d last : Int) : Option Nat := if (sigOk f e last && sigOk g d last) = true then firstAt (fun t => decide (at2 f e last t = at2 g d last t)) 2001 0 else none
theorem meetOut_swap (f e g d last : Int) : meetOut f e g d last = meetOut g d f e last := by
  unfold meetOut
  rw [Bool.and_comm, firstAt_congr (fun k => decide_eq_decide.2 eq_comm)]
theorem meetOut_self {f e last : Int} (h : sigOk f e last = true) : meetOut f e f e last = some 0 := by
  unfold meetOut
  rw [h]
  exact firstAt_some (Nat.le_refl _) (by omega) (fun j h1 h2 => by omega) (by simp)
theorem meetOut_inv {f e g d last : Int} {m : Nat} (h : meetOut f e g d last = some m) : sigOk f e last = true ∧ sigOk g d last = true ∧ m ≤ 2000 ∧ at2 f e last m = at2 g d last m ∧ ∀ j, j < m → at2 f e last j ≠ at2 g d last j := by
  unfold meetOut at h
  split at h
  · rename_i hok
    rw [Bool.and_eq_true] at hok
    obtain ⟨_, h2, h3, h4⟩ := firstAt_inv h
    exact ⟨hok.1, hok.2, by omega, by simpa using h4, fun j hj => by have := h3 j (Nat.zero_le _) hj; simpa using this⟩
  · cases h

/-! ### All numbers below a bound at which something holds -/
def allAt (P : Nat → Bool) (n : Nat) : List Int := ((List.range n).filter P).map Int.ofNat
theorem allAt_zero (P : Nat → Bool) : allAt P 0 = [] := rfl
theorem allAt_yes {P : Nat → Bool} {n : Nat} (h : P n = true) : allAt P (n + 1) = allAt P n ++ [(n : Int)] := by simp [allAt, List.range_succ, List.filter_append, h]
theorem allAt_no {P : Nat → Bool} {n : Nat} (h : P n = false) : allAt P (n + 1) = allAt P n := by simp [allAt, List.range_succ, List.filter_append, h]
theorem allAt_len (P : Nat → Bool) (n : Nat) : (allAt P n).length ≤ n := by
  have := List.length_filter_le P (List.range n)
  simpa [allAt] using this
theorem allAt_mem {P : Nat → Bool} {n : Nat} {x : Int} (h : x ∈ allAt P n) : ∃ k : Nat, x = k ∧ k < n ∧ P k = true := by
  simp only [allAt, List.mem_map, List.mem_filter, List.mem_range] at h
  obtain ⟨k, ⟨h1, h2⟩, rfl⟩ := h
  exact ⟨k, rfl, h1, h2⟩
theorem allAt_lt (P : Nat → Bool) (n : Nat) : (allAt P n).Pairwise (· < ·) := by
  unfold allAt
  refine List.Pairwise.map _ (fun a b h => ?_) ((List.pairwise_lt_range (n := n)).sublist List.filter_sublist)
  exact Int.ofNat_lt.2 h
theorem allAt_count (P : Nat → Bool) (n : Nat) : (allAt P n).length = (List.range n).countP P := by
  simp [allAt, List.countP_eq_length_filter]

theorem count_succ (P : Nat → Bool) (n : Nat) : (List.range (n + 1)).countP P = (List.range n).countP P + if P n = true then 1 else 0 := by
  rw [List.range_succ, List.countP_append]
  simp [List.countP_cons]
theorem count_shift (P : Nat → Bool) (n : Nat) : (List.range (n + 1)).countP P = (if P 0 = true then 1 else 0) + (List.range n).countP (fun u => P (u + 1)) := by
  induction n with
  | zero => simp [List.countP_cons]
  | succ n ih =>
    rw [count_succ, ih, count_succ]
    omega
/-- Over a whole period it does not matter where one begins. -/
theorem count_period {P : Nat → Bool} {n : Nat} (hp : ∀ u, P (u + n) = P u) (s : Nat) : (List.range n).countP (fun u => P (u + s)) = (List.range n).countP P := by
  induction s with
  | zero => rfl
  | succ s ih =>
    rw [← ih]
    have h1 := count_succ (fun u => P (u + s)) n
    have h2 := count_shift (fun u => P (u + s)) n
    have h3 : P (n + s) = P (0 + s) := by rw [Nat.add_comm n s, hp, Nat.zero_add]
    have h4 : (fun u => P (u + 1 + s)) = fun u => P (u + (s + 1)) := by funext u; congr 1; omega
    rw [h4] at h2
    simp only [h3] at h1
    omega
theorem count_one (p n : Nat) : (List.range n).countP (fun u => decide (u = p)) = if p < n then 1 else 0 := by
  induction n with
  | zero => simp
  | succ n ih =>
    rw [count_succ, ih]
    by_cases h : n = p
    · subst h; simp
    · by_cases h2 : p < n
      · simp [h, h2, show p < n + 1 from by omega]
      · simp [h, h2, show ¬ p < n + 1 from by omega]
theorem count_block (P : Nat → Bool) (a m : Nat) (ha : 1 ≤ a) : (List.range (m * a)).countP (fun t => P (t / a)) = a * (List.range m).countP P := by
  induction m with
  | zero => simp
  | succ m ih =>
    have e : List.range ((m + 1) * a) = List.range (m * a) ++ (List.range a).map (m * a + ·) := by
      rw [Nat.add_mul, Nat.one_mul, List.range_add]
    rw [e, List.countP_append, ih, count_succ, List.countP_map]
    have f : ∀ j ∈ List.range a, ((fun t => P (t / a)) ∘ fun x => m * a + x) j = P m := by
      intro j hj
      have hj' : j < a := List.mem_range.1 hj
      have : (m * a + j) / a = m := by
        rw [Nat.mul_comm, Nat.mul_add_div (by omega), Nat.div_eq_of_lt hj', Nat.add_zero]
      simp [this]
    have g : (List.range a).countP ((fun t => P (t / a)) ∘ fun x => m * a + x) = (List.range a).countP (fun _ => P m) := List.countP_congr (fun j hj => by rw [f j hj])
    rw [g, Nat.mul_add]
    congr 1
    by_cases h : P m = true
    · simp [h]
    · simp [h]

/-- Each place but the walls is come to twice in a round of the folded way. -/
theorem count_fold {L p : Nat} (hL : 1 ≤ L) (hp : p ≤ L) : (List.range (2 * L)).countP (fun u : Nat => decide (fold L (u : Int) = (p : Int))) = if p = 0 ∨ p = L then 1 else 2 := by
  have e : List.range (2 * L) = List.range (L + 1) ++ (List.range (L - 1)).map (L + 1 + ·) := by
    rw [← List.range_add]
    congr 1
    omega
  have f1 : (List.range (L + 1)).countP (fun u : Nat => decide (fold L (u : Int) = (p : Int))) = (List.range (L + 1)).countP (fun u : Nat => decide (u = p)) := by
    refine List.countP_congr fun u hu => ?_
    have hu' := List.mem_range.1 hu
    rw [fold_small (by omega) (by omega) (by omega)]
    simp only [decide_eq_true_eq]
    omega
  have f2 : (List.range (L - 1)).countP ((fun u : Nat => decide (fold L (u : Int) = (p : Int))) ∘ fun x => L + 1 + x) = (List.range (L - 1)).countP (fun u : Nat => decide (u = L - 1 - p) && decide (1 ≤ p ∧ p < L)) := by
    refine List.countP_congr fun u hu => ?_
    have hu' := List.mem_range.1 hu
    have : fold (L : Int) ((L + 1 + u : Nat) : Int) = ((L - 1 - u : Nat) : Int) := by
      rw [show ((L + 1 + u : Nat) : Int) = 2 * (L : Int) - ((L - 1 - u : Nat) : Int) from by omega]
      exact fold_back (by omega) (by omega) (by omega)
    simp only [Function.comp, this, Bool.and_eq_true, decide_eq_true_eq]
    omega
  rw [e, List.countP_append, List.countP_map, f1, f2, count_one, if_pos (by omega)]
  by_cases h1 : 1 ≤ p ∧ p < L
  · have g : (fun u : Nat => decide (u = L - 1 - p) && decide (1 ≤ p ∧ p < L)) = fun u : Nat => decide (u = L - 1 - p) := by
      funext u; rw [decide_eq_true h1, Bool.and_true]
    rw [g, count_one, if_pos (by omega), if_neg (by omega)]
  · have g : (fun u : Nat => decide (u = L - 1 - p) && decide (1 ≤ p ∧ p < L)) = fun _ : Nat => false := by
      funext u; rw [decide_eq_false h1, Bool.and_false]
    rw [g, if_pos (by omega)]
    simp

/-- All numbers of steps, less than a round's, after which a signal is at a place. -/
def timesOut (f e last p : Int) : List Int := if (sigOk f e last && decide (0 ≤ p ∧ p ≤ last)) = true then allAt (fun t => decide (at2 f e last t = p)) (2 * last * slow e).toNat else []
theorem timesOut_yes {f e last p : Int} (h : sigOk f e last = true) (h1 : 0 ≤ p) (h2 : p ≤ last) : timesOut f e last p = allAt (fun t => decide (at2 f e last t = p)) (2 * last * slow e).toNat := by
  rw [timesOut, h, show decide (0 ≤ p ∧ p ≤ last) = true from by simp; omega]; rfl
theorem timesOut_mem {f e last p x : Int} (h : x ∈ timesOut f e last p) : sigOk f e last = true ∧ 0 ≤ p ∧ p ≤ last ∧ 0 ≤ x ∧ x ≤ 2000 ∧ at2 f e last x = p := by
  by_cases hok : (sigOk f e last && decide (0 ≤ p ∧ p ≤ last)) = true
  · rw [timesOut, if_pos hok] at h
    rw [Bool.and_eq_true, decide_eq_true_eq] at hok
    obtain ⟨k, rfl, h1, h2⟩ := allAt_mem h
    have hb := round_bd hok.1
    exact ⟨hok.1, hok.2.1, hok.2.2, by omega, by omega, by simpa using h2⟩
  · rw [timesOut, if_neg hok] at h
    simp at h
theorem timesOut_len {f e last p : Int} (h : sigOk f e last = true) (h1 : 0 ≤ p) (h2 : p ≤ last) : ((timesOut f e last p).length : Int) = if p = 0 ∨ p = last then slow e else 2 * slow e := by
  have h' := sigOk_iff.1 h
  have hs := slow_bd h
  obtain ⟨L, rfl⟩ := Int.eq_ofNat_of_zero_le (show 0 ≤ last by omega)
  obtain ⟨q, rfl⟩ := Int.eq_ofNat_of_zero_le h1
  obtain ⟨a, ha⟩ := Int.eq_ofNat_of_zero_le (show 0 ≤ slow e by omega)
  rw [timesOut_yes h (by omega) h2, allAt_count, ha]
  have e0 : (2 * (L : Int) * (a : Int)).toNat = 2 * L * a := by
    rw [show 2 * (L : Int) * (a : Int) = ((2 * L * a : Nat) : Int) from by simp]
    rfl
  obtain ⟨s0, hs0⟩ := Int.eq_ofNat_of_zero_le (show 0 ≤ starts f e L by unfold starts; split <;> omega)
  have e1 : (fun t : Nat => decide (at2 f e L (t : Int) = (q : Int))) = fun t : Nat => decide (fold L ((t / a + s0 : Nat) : Int) = (q : Int)) := by
    funext t
    unfold at2
    rw [ha, hs0, show (s0 : Int) + (t : Int) / (a : Int) = ((t / a + s0 : Nat) : Int) from by simp; omega]
  have e2 := count_block (fun u : Nat => decide (fold L ((u + s0 : Nat) : Int) = (q : Int))) a (2 * L) (by omega)
  rw [e0, e1, e2]
  rw [count_period (P := fun u : Nat => decide (fold L (u : Int) = (q : Int))) (n := 2 * L) (fun u => by
    rw [show ((u + 2 * L : Nat) : Int) = (u : Int) + 2 * (L : Int) from by omega, fold_period]) s0, count_fold (by omega) (by omega)]
  by_cases hq : q = 0 ∨ q = L
  · rw [if_pos hq, if_pos (by omega)]; omega
  · rw [if_neg hq, if_neg (by omega)]; omega
end Go.Proofs.YtfmlekcdjjkolaaDoor
