/-
  A step of a row that sorts, pair by pair, as a walk meets it: plain lists. No walk, and no statement is proved here.
-/
import Derived.Test.YtpobcfmldimgiaaS5
import Derived.Test.YtpobcfmldimgiaaC1a
namespace Go.Proofs.Ytpobcfmldimgiaa
open Go.RowKit
set_option linter.unusedVariables false
set_option linter.unusedSimpArgs false

theorem evenS_drop {α : Type} (lt : α → α → Bool) : ∀ (j : Nat) (l : List α), (evenS lt l).drop (2 * j) = evenS lt (l.drop (2 * j))
  | 0, l => by simp
  | j + 1, [] => by simp [evenS]
  | j + 1, [a] => by
    have : ([a] : List α).drop (2 * (j + 1)) = [] := List.drop_of_length_le (by simp; omega)
    rw [evenS, this]; rfl
    all_goals simp
  | j + 1, a :: b :: t => by
    have h := evenS_drop lt j t
    have e : 2 * (j + 1) = 2 * j + 1 + 1 := by omega
    have e2 : (evenS lt (a :: b :: t)).drop (2 * j + 1 + 1) = (evenS lt t).drop (2 * j) := by
      rw [evenS]
      split <;> simp
    rw [e, e2, h]
    simp
theorem stepS_drop {α : Type} (lt : α → α → Bool) {K k : Nat} (h : k % 2 = K % 2) (l : List α) : (stepS lt K l).drop k = evenS lt (l.drop k) := by
  unfold stepS
  split
  · rename_i h0
    obtain ⟨j, rfl⟩ : ∃ j, k = 2 * j := ⟨k / 2, by omega⟩
    exact evenS_drop lt j l
  · rename_i h0
    obtain ⟨j, rfl⟩ : ∃ j, k = 2 * j + 1 := ⟨k / 2, by omega⟩
    cases l with
    | nil => simp [oddS, evenS]
    | cons a t =>
      simp only [oddS, List.drop_succ_cons]
      exact evenS_drop lt j t
/-- The row when the pairs before place k have been put in order. -/
def curS (l : List Int) (K k : Nat) : List Int := (stepS ltZ K l).take k ++ l.drop k
theorem curS_start (l : List Int) (K : Nat) : curS l K (K % 2) = l := by
  unfold curS stepS
  split
  · rename_i h; simp [h]
  · rename_i h
    have : K % 2 = 1 := by omega
    rw [this]
    cases l <;> simp [oddS]
theorem curS_len {l : List Int} {K k : Nat} (h : k ≤ l.length) : (curS l K k).length = l.length := by
  simp [curS, stepS_len]
  omega
theorem drop_two {l : List Int} {k : Nat} (h : k + 1 < l.length) : l.drop k = nth l k :: nth l (k + 1) :: l.drop (k + 2) := by
  rw [List.drop_eq_getElem_cons (by omega), List.drop_eq_getElem_cons (by omega), nth_lt (by omega), nth_lt h]
theorem nth_right (a b : List Int) (j : Nat) : nth (a ++ b) (a.length + j) = nth b j := by
  simp [nth, List.getD, List.getElem?_append_right]
theorem curS_at {l : List Int} {K k : Nat} (h : k + 1 < l.length) : nth (curS l K k) k = nth l k ∧ nth (curS l K k) (k + 1) = nth l (k + 1) := by
  have e : ((stepS ltZ K l).take k).length = k := by simp [stepS_len]; omega
  have h0 := nth_right ((stepS ltZ K l).take k) (l.drop k) 0
  have h1 := nth_right ((stepS ltZ K l).take k) (l.drop k) 1
  rw [e, drop_two h] at h0 h1
  unfold curS
  rw [drop_two h]
  exact ⟨h0, h1⟩
theorem curS_two {l : List Int} {K k : Nat} (hp : k % 2 = K % 2) (h : k + 1 < l.length) :
    curS l K (k + 2) = (stepS ltZ K l).take k ++ (if nth l (k + 1) < nth l k then nth l (k + 1) :: nth l k :: l.drop (k + 2) else nth l k :: nth l (k + 1) :: l.drop (k + 2)) := by
  have hd := stepS_drop ltZ hp l
  have hs : (stepS ltZ K l).take (k + 2) = (stepS ltZ K l).take k ++ ((stepS ltZ K l).drop k).take 2 := List.take_add ..
  unfold curS
  rw [hs, hd, drop_two h, evenS]
  by_cases hlt : nth l (k + 1) < nth l k
  · simp [ltZ, hlt]
  · simp [ltZ, hlt]
theorem curS_swap {l : List Int} {K k : Nat} (hp : k % 2 = K % 2) (h : k + 1 < l.length) (hlt : nth l (k + 1) < nth l k) : ((curS l K k).set k (nth l (k + 1))).set (k + 1) (nth l k) = curS l K (k + 2) := by
  have e : ((stepS ltZ K l).take k).length = k := by simp [stepS_len]; omega
  rw [curS_two hp h, if_pos hlt]
  unfold curS
  rw [drop_two h, List.set_append_right _ _ (by omega), List.set_append_right _ _ (by omega), e]
  simp
theorem curS_keep {l : List Int} {K k : Nat} (hp : k % 2 = K % 2) (h : k + 1 < l.length) (hlt : ¬ nth l (k + 1) < nth l k) : curS l K k = curS l K (k + 2) := by
  rw [curS_two hp h, if_neg hlt]
  unfold curS
  rw [drop_two h]
theorem curS_end {l : List Int} {K k : Nat} (hp : k % 2 = K % 2) (h : l.length ≤ k + 1) : curS l K k = stepS ltZ K l := by
  have hd := stepS_drop ltZ hp l
  have : evenS ltZ (l.drop k) = l.drop k := by
    match hq : l.drop k with
    | [] => rfl
    | [a] => rfl
    | a :: b :: t =>
      have := congrArg List.length hq
      simp at this
      omega
  rw [this] at hd
  unfold curS
  rw [← hd]
  exact List.take_append_drop _ _
/-- What sorts: 1 to 14 numbers in 0..99. -/
def keptOk (l : List Int) : Bool := allIn l 0 99 && within l.length 1 14
theorem keptOk_iff {l : List Int} : keptOk l = true ↔ (∀ x ∈ l, 0 ≤ x ∧ x ≤ 99) ∧ 1 ≤ l.length ∧ l.length ≤ 14 := by
  simp [keptOk, allIn, within]
  omega
theorem keptOk_perm {l m : List Int} (h : l.Perm m) (hl : keptOk l = true) : keptOk m = true := by
  rw [keptOk_iff] at hl ⊢
  exact ⟨fun x hx => hl.1 x (h.mem_iff.2 hx), by rw [← h.length_eq]; exact hl.2⟩
end Go.Proofs.Ytpobcfmldimgiaa
