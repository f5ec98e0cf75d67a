/-
  Chapter 5's rows that sort as plain lists: odd-even transposition, noughts and ones, pairs astray. No walk, and no statement is proved here.
-/
import Derived.Test.YtpobcfmldimgiaaMem
namespace Go.Proofs.Ytpobcfmldimgiaa
open Go.RowKit
set_option linter.unusedVariables false
set_option linter.unusedSimpArgs false

section
variable {α : Type} (lt : α → α → Bool)
/-- Each two neighbours from the first one on are put in order. -/
def evenS : List α → List α
  | a :: b :: t => if lt b a = true then b :: a :: evenS t else a :: b :: evenS t
  | l => l
def oddS : List α → List α
  | a :: t => a :: evenS lt t
  | [] => []
def stepS (k : Nat) (l : List α) : List α := if k % 2 = 0 then evenS lt l else oddS lt l
def afterS (l : List α) : Nat → List α
  | 0 => l
  | k + 1 => stepS lt k (afterS l k)
/-- No one is less than the one on its left. -/
def ordS : List α → Bool
  | a :: b :: t => !lt b a && ordS (b :: t)
  | _ => true
end

section
variable {α β : Type} {lt : α → α → Bool} {lt2 : β → β → Bool}
theorem evenS_len : ∀ l : List α, (evenS lt l).length = l.length
  | [] => rfl
  | [_] => rfl
  | a :: b :: t => by
    unfold evenS
    split <;> simp [evenS_len t]
theorem oddS_len (l : List α) : (oddS lt l).length = l.length := by cases l <;> simp [oddS, evenS_len]
theorem stepS_len (k : Nat) (l : List α) : (stepS lt k l).length = l.length := by unfold stepS; split <;> simp [evenS_len, oddS_len]
theorem afterS_len (l : List α) (k : Nat) : (afterS lt l k).length = l.length := by
  induction k with
  | zero => rfl
  | succ k ih => simp only [afterS]; rw [stepS_len, ih]
/-- A map that keeps the order commutes with the steps, if what it makes equal may be exchanged. -/
theorem evenS_map (f : α → β) (h1 : ∀ a b, lt2 (f b) (f a) = true → lt b a = true) (h2 : ∀ a b, lt b a = true → lt2 (f b) (f a) = false → f a = f b) : ∀ l : List α, (evenS lt l).map f = evenS lt2 (l.map f)
  | [] => rfl
  | [_] => rfl
  | a :: b :: t => by
    have ih := evenS_map f h1 h2 t
    simp only [List.map_cons]
    unfold evenS
    by_cases h : lt b a = true
    · rw [if_pos h]
      by_cases h' : lt2 (f b) (f a) = true
      · rw [if_pos h']; simp [ih]
      · have e := h2 a b h (by simpa using h')
        rw [if_neg h']; simp [ih, e]
    · have h' : ¬ lt2 (f b) (f a) = true := fun hh => h (h1 a b hh)
      rw [if_neg h, if_neg h']; simp [ih]
theorem stepS_map (f : α → β) (h1 : ∀ a b, lt2 (f b) (f a) = true → lt b a = true) (h2 : ∀ a b, lt b a = true → lt2 (f b) (f a) = false → f a = f b) (k : Nat) (l : List α) : (stepS lt k l).map f = stepS lt2 k (l.map f) := by
  unfold stepS
  split
  · exact evenS_map f h1 h2 l
  · cases l with
    | nil => rfl
    | cons a t => simp [oddS, evenS_map f h1 h2 t]
theorem afterS_map (f : α → β) (h1 : ∀ a b, lt2 (f b) (f a) = true → lt b a = true) (h2 : ∀ a b, lt b a = true → lt2 (f b) (f a) = false → f a = f b) (l : List α) (k : Nat) : (afterS lt l k).map f = afterS lt2 (l.map f) k := by
  induction k with
  | zero => rfl
  | succ k ih => simp only [afterS]; rw [stepS_map f h1 h2, ih]
theorem ordS_even : ∀ {l : List α}, ordS lt l = true → evenS lt l = l
  | [], _ => rfl
  | [_], _ => rfl
  | a :: b :: t, h => by
    have hb : lt b a = false := by simp [ordS] at h; exact h.1
    have ht : ordS lt t = true := by
      cases t with
      | nil => rfl
      | cons c t => simp [ordS] at h ⊢; exact h.2.2
    unfold evenS
    rw [if_neg (by rw [hb]; simp), ordS_even ht]
theorem ordS_step {l : List α} (k : Nat) (h : ordS lt l = true) : stepS lt k l = l := by
  unfold stepS
  split
  · exact ordS_even h
  · cases l with
    | nil => rfl
    | cons a t =>
      have ht : ordS lt t = true := by
        cases t with
        | nil => rfl
        | cons c t => simp [ordS] at h ⊢; exact h.2
      simp [oddS, ordS_even ht]
theorem ordS_after {l : List α} {k m : Nat} (h : ordS lt (afterS lt l k) = true) (hk : k ≤ m) : afterS lt l m = afterS lt l k := by
  induction m with
  | zero => rw [show k = 0 by omega]
  | succ m ih =>
    by_cases e : k = m + 1
    · rw [e]
    · simp only [afterS]
      rw [ih (by omega), ordS_step m h]
end

/-! ### Noughts and ones -/
def ltB (a b : Bool) : Bool := !a && b
/-- All rows of noughts and ones that an even step leaves. -/
def allP : Nat → (List Bool → Bool) → Bool
  | 0, p => p []
  | 1, p => p [false] && p [true]
  | n + 2, p => allP n (fun l => p (false :: false :: l)) && (allP n (fun l => p (false :: true :: l)) && allP n (fun l => p (true :: true :: l)))
theorem allP_even : ∀ (n : Nat) (p : List Bool → Bool), allP n p = true → ∀ l : List Bool, l.length = n → p (evenS ltB l) = true
  | 0, p, h, l, hl => by
    rw [List.eq_nil_of_length_eq_zero hl]
    exact h
  | 1, p, h, l, hl => by
    match l, hl with
    | [a], _ =>
      simp only [allP, Bool.and_eq_true] at h
      cases a
      · exact h.1
      · exact h.2
  | n + 2, p, h, l, hl => by
    match l, hl with
    | a :: b :: t, hl =>
      simp only [allP, Bool.and_eq_true] at h
      have ht : t.length = n := by simpa using hl
      have h1 := allP_even n _ h.1 t ht
      have h2 := allP_even n _ h.2.1 t ht
      have h3 := allP_even n _ h.2.2 t ht
      cases a <;> cases b <;> simp [evenS, ltB] <;> assumption
/-- From the first step's outcome on. -/
def fromS (l : List Bool) : Nat → List Bool
  | 0 => l
  | k + 1 => stepS ltB (k + 1) (fromS l k)
theorem fromS_after (l : List Bool) (k : Nat) : fromS (evenS ltB l) k = afterS ltB l (k + 1) := by
  induction k with
  | zero => rfl
  | succ k ih => simp only [fromS, afterS] at *; rw [ih]
set_option maxRecDepth 100000 in
theorem ones_chk : ∀ n < 15, allP n (fun l => ordS ltB (fromS l (n - 1))) = true := by decide +kernel
theorem ones_sorted {l : List Bool} (h1 : 1 ≤ l.length) (h : l.length ≤ 14) : ordS ltB (afterS ltB l l.length) = true := by
  have hp := allP_even _ _ (ones_chk l.length (by omega)) l rfl
  simp only [fromS_after] at hp
  rw [show l.length - 1 + 1 = l.length by omega] at hp
  exact hp

/-! ### Numbers -/
def ltZ (a b : Int) : Bool := decide (a < b)
theorem ord_of_bounds : ∀ {l : List Int}, (∀ t : Int, ordS ltB (l.map fun x => decide (t ≤ x)) = true) → ordS ltZ l = true
  | [], _ => rfl
  | [_], _ => rfl
  | a :: b :: t, h => by
    have hh := h a
    simp [ordS, ltB] at hh
    have ht : ordS ltZ (b :: t) = true := ord_of_bounds (fun s => by have := h s; simp [ordS] at this ⊢; exact this.2)
    have hab : ltZ b a = false := by simp [ltZ]; exact hh.1
    simp [ordS, hab, ht]
theorem bounds_after (l : List Int) (t : Int) (k : Nat) : (afterS ltZ l k).map (fun x => decide (t ≤ x)) = afterS ltB (l.map fun x => decide (t ≤ x)) k :=
  afterS_map _ (fun a b h => by simp [ltB, ltZ] at *; omega) (fun a b h h' => by simp [ltB, ltZ] at *; omega) l k
/-- After as many steps as machines all is in order. -/
theorem sorted_after {l : List Int} (h1 : 1 ≤ l.length) (h : l.length ≤ 14) {k : Nat} (hk : l.length ≤ k) : ordS ltZ (afterS ltZ l k) = true := by
  have hs : ordS ltZ (afterS ltZ l l.length) = true := ord_of_bounds fun t => by
    rw [bounds_after]
    have := ones_sorted (l := l.map fun x => decide (t ≤ x)) (by simpa using h1) (by simpa using h)
    simpa using this
  rw [ordS_after hs hk]
  exact hs
end Go.Proofs.Ytpobcfmldimgiaa
