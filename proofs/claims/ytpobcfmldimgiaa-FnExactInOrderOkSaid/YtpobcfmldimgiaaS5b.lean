/-
  Chapter 5: numbers are kept, pairs astray grow less. No walk, and no statement is proved here.
-/
import Derived.Test.YtpobcfmldimgiaaS5
namespace Go.Proofs.Ytpobcfmldimgiaa
open Go.RowKit
set_option linter.unusedVariables false
set_option linter.unusedSimpArgs false

section
variable {α : Type} {lt : α → α → Bool}
theorem evenS_perm : ∀ l : List α, (evenS lt l).Perm l
  | [] => List.Perm.refl _
  | [_] => List.Perm.refl _
  | a :: b :: t => by
    unfold evenS
    split
    · exact (List.Perm.swap a b _).trans (((evenS_perm t).cons b).cons a)
    · exact ((evenS_perm t).cons b).cons a
theorem stepS_perm (k : Nat) (l : List α) : (stepS lt k l).Perm l := by
  unfold stepS
  split
  · exact evenS_perm l
  · cases l with
    | nil => exact List.Perm.refl _
    | cons a t => exact (evenS_perm t).cons a
theorem afterS_perm (l : List α) (k : Nat) : (afterS lt l k).Perm l := by
  induction k with
  | zero => exact List.Perm.refl _
  | succ k ih => exact (stepS_perm k _).trans ih
theorem evenS_twice (h : ∀ a b, lt b a = true → lt a b = false) : ∀ l : List α, evenS lt (evenS lt l) = evenS lt l
  | [] => rfl
  | [_] => rfl
  | a :: b :: t => by
    by_cases e : lt b a = true
    · have e1 : evenS lt (a :: b :: t) = b :: a :: evenS lt t := by rw [evenS, if_pos e]
      rw [e1, evenS, if_neg (by rw [h a b e]; simp), evenS_twice h t]
    · have e1 : evenS lt (a :: b :: t) = a :: b :: evenS lt t := by rw [evenS, if_neg e]
      rw [e1, evenS, if_neg e, evenS_twice h t]
theorem stepS_twice (h : ∀ a b, lt b a = true → lt a b = false) (k : Nat) (l : List α) : stepS lt k (stepS lt k l) = stepS lt k l := by
  unfold stepS
  split
  · exact evenS_twice h l
  · cases l with
    | nil => rfl
    | cons a t => simp [oddS, evenS_twice h t]
theorem ord_of_both (h : ∀ a b, lt b a = true → lt a b = false) : ∀ {l : List α}, evenS lt l = l → oddS lt l = l → ordS lt l = true
  | [], _, _ => rfl
  | [_], _, _ => rfl
  | a :: b :: t, he, ho => by
    have h1 : evenS lt (b :: t) = b :: t := by simpa [oddS] using ho
    by_cases e : lt b a = true
    · rw [evenS, if_pos e] at he
      injection he with e1 e2
      injection e2 with e2 e3
      subst e1
      rw [h _ _ e] at e
      cases e
    · rw [evenS, if_neg e] at he
      injection he with e1 e2
      injection e2 with e2 e3
      have := ord_of_both h (l := b :: t) h1 (by simp [oddS, e3])
      simp [ordS, this, e]
theorem ord_of_steps (h : ∀ a b, lt b a = true → lt a b = false) {l : List α} (k : Nat) (h1 : stepS lt k l = l) (h2 : stepS lt (k + 1) l = l) : ordS lt l = true := by
  unfold stepS at h1 h2
  by_cases hk : k % 2 = 0
  · rw [if_pos hk] at h1
    rw [if_neg (by omega)] at h2
    exact ord_of_both h h1 h2
  · rw [if_neg hk] at h1
    rw [if_pos (by omega)] at h2
    exact ord_of_both h h2 h1
end

/-- Pairs of which the left one is greater. -/
def astray : List Int → Nat
  | [] => 0
  | a :: t => t.countP (fun b => decide (b < a)) + astray t
theorem astray_even : ∀ l : List Int, astray (evenS ltZ l) ≤ astray l ∧ (evenS ltZ l ≠ l → astray (evenS ltZ l) < astray l)
  | [] => ⟨Nat.le_refl _, fun h => absurd rfl h⟩
  | [_] => ⟨Nat.le_refl _, fun h => absurd rfl h⟩
  | a :: b :: t => by
    have ih := astray_even t
    have hp : ∀ x : Int, (evenS ltZ t).countP (fun y => decide (y < x)) = t.countP (fun y => decide (y < x)) := fun x => (evenS_perm t).countP_eq _
    by_cases e : ltZ b a = true
    · have e1 : evenS ltZ (a :: b :: t) = b :: a :: evenS ltZ t := by rw [evenS, if_pos e]
      have hba : b < a := by simpa [ltZ] using e
      have hab : ¬ a < b := by omega
      rw [e1]
      simp only [astray, List.countP_cons, hp, hba, hab, decide_true, decide_false, if_true]
      simp
      omega
    · have e1 : evenS ltZ (a :: b :: t) = a :: b :: evenS ltZ t := by rw [evenS, if_neg e]
      have hba : ¬ b < a := by simpa [ltZ] using e
      rw [e1]
      simp only [astray, List.countP_cons, hp, hba, decide_false]
      refine ⟨by simp; omega, fun hne => ?_⟩
      have : evenS ltZ t ≠ t := fun h => hne (by rw [h])
      have := ih.2 this
      simp
      omega
theorem astray_step (k : Nat) (l : List Int) : astray (stepS ltZ k l) ≤ astray l ∧ (stepS ltZ k l ≠ l → astray (stepS ltZ k l) < astray l) := by
  unfold stepS
  split
  · exact astray_even l
  · cases l with
    | nil => exact ⟨Nat.le_refl _, fun h => absurd rfl h⟩
    | cons a t =>
      have h := astray_even t
      have hp : (evenS ltZ t).countP (fun y => decide (y < a)) = t.countP (fun y => decide (y < a)) := (evenS_perm t).countP_eq _
      simp only [oddS, astray, hp]
      refine ⟨by omega, fun hne => ?_⟩
      have : evenS ltZ t ≠ t := fun h => hne (by rw [h])
      have := h.2 this
      omega
/-- After j steps and one more not in order, a further step puts a pair in order. -/
theorem astray_after (l : List Int) (j : Nat) (h : ordS ltZ (afterS ltZ l (j + 1)) = false) : astray (afterS ltZ l (j + 2)) < astray (afterS ltZ l (j + 1)) := by
  have h2 := (astray_step (j + 1) (afterS ltZ l (j + 1))).2
  simp only [afterS] at *
  refine h2 fun he => ?_
  have h1 := stepS_twice (lt := ltZ) (fun a b h => by simp [ltZ] at *; omega) j (afterS ltZ l j)
  rw [ord_of_steps (lt := ltZ) (fun a b h => by simp [ltZ] at *; omega) j h1 he] at h
  cases h
theorem astray_bound (l : List Int) (s : Nat) (h : ∀ j, j < s → ordS ltZ (afterS ltZ l j) = false) : s ≤ astray l + 1 := by
  have key : ∀ j, j + 1 ≤ s → astray (afterS ltZ l (j + 1)) + j ≤ astray l := by
    intro j
    induction j with
    | zero =>
      intro _
      have := (astray_step 0 l).1
      simpa [afterS] using this
    | succ j ih =>
      intro hj
      have h1 := ih (by omega)
      have h2 : astray (afterS ltZ l (j + 1 + 1)) < astray (afterS ltZ l (j + 1)) := astray_after l j (h (j + 1) (by omega))
      omega
  cases s with
  | zero => omega
  | succ s => have := key s (Nat.le_refl _); omega
theorem astray_zero : ∀ l : List Int, astray l = 0 ↔ ordS ltZ l = true
  | [] => by simp [astray, ordS]
  | [a] => by simp [astray, ordS]
  | a :: b :: t => by
    have ih := astray_zero (b :: t)
    have e : astray (a :: b :: t) = (b :: t).countP (fun x => decide (x < a)) + astray (b :: t) := rfl
    have e2 : ordS ltZ (a :: b :: t) = (!ltZ b a && ordS ltZ (b :: t)) := rfl
    rw [e, e2, Nat.add_eq_zero_iff, ih, Bool.and_eq_true]
    constructor
    · rintro ⟨h1, h2⟩
      refine ⟨?_, h2⟩
      rw [List.countP_eq_zero] at h1
      have := h1 b (by simp)
      simp [ltZ] at *
      omega
    · rintro ⟨h1, h2⟩
      refine ⟨?_, h2⟩
      rw [List.countP_eq_zero]
      have hab : a ≤ b := by simpa [ltZ] using h1
      -- in order, the first one is the least
      have least : ∀ (l : List Int) (x : Int), ordS ltZ (x :: l) = true → ∀ y ∈ l, x ≤ y := by
        intro l
        induction l with
        | nil => intro x _ y hy; simp at hy
        | cons c l ihl =>
          intro x hx y hy
          have hx2 : ltZ c x = false ∧ ordS ltZ (c :: l) = true := by simpa [ordS] using hx
          have hxc : x ≤ c := by simpa [ltZ] using hx2.1
          rcases List.mem_cons.1 hy with rfl | hy
          · exact hxc
          · have := ihl c hx2.2 y hy; omega
      intro y hy
      rcases List.mem_cons.1 hy with rfl | hy
      · simp; omega
      · have := least t b h2 y hy; simp; omega
theorem astray_snoc (l : List Int) (x : Int) : astray (l ++ [x]) = astray l + l.countP (fun y => decide (x < y)) := by
  induction l with
  | nil => simp [astray]
  | cons a t ih =>
    simp only [List.cons_append, astray, ih, List.countP_append, List.countP_cons, List.countP_nil]
    omega
theorem count_two (t : List Int) (a : Int) : t.countP (fun b => decide (b < a)) + t.countP (fun b => decide (a < b)) ≤ t.length := by
  induction t with
  | nil => simp
  | cons b t ih =>
    simp only [List.countP_cons, List.length_cons]
    by_cases h1 : b < a
    · have h2 : ¬ a < b := by omega
      simp [h1, h2]
      omega
    · by_cases h2 : a < b
      · simp [h1, h2]; omega
      · simp [h1, h2]; omega
/-- Of each two machines, at most one way round is astray. -/
theorem astray_both (l : List Int) : 2 * (astray l + astray l.reverse) ≤ l.length * (l.length - 1) := by
  induction l with
  | nil => simp [astray]
  | cons a t ih =>
    have h := count_two t a
    have hr : t.reverse.countP (fun y => decide (a < y)) = t.countP (fun y => decide (a < y)) := (List.reverse_perm t).countP_eq _
    rw [List.reverse_cons, astray_snoc, hr]
    simp only [astray, List.length_cons, Nat.add_sub_cancel]
    have e : (t.length + 1) * t.length = t.length * (t.length - 1) + 2 * t.length := by
      cases t.length with
      | zero => rfl
      | succ n => simp [Nat.mul_add, Nat.add_mul]; omega
    rw [e]
    omega
end Go.Proofs.Ytpobcfmldimgiaa
