/-
  What chapter 5's functions answer, as plain lists and numbers. No walk, and no statement is proved here.
-/
import Derived.Test.YtpobcfmldimgiaaS5c
import Derived.Test.YtpobcfmldimgiaaS5b
import Derived.Test.YtpobcfmldimgiaaS2
namespace Go.Proofs.Ytpobcfmldimgiaa
open Go.RowKit
set_option linter.unusedVariables false
set_option linter.unusedSimpArgs false

def swapOut (l : List Int) (s : Int) : List Int := if (keptOk l && within s 0 60) = true then stepS ltZ s.toNat l else []
theorem swapOut_yes {l : List Int} {s : Int} (h1 : keptOk l = true) (h2 : within s 0 60 = true) : swapOut l s = stepS ltZ s.toNat l := by unfold swapOut; rw [h1, h2]; rfl
theorem swapOut_no {l : List Int} {s : Int} (h : ¬ (keptOk l = true ∧ within s 0 60 = true)) : swapOut l s = [] := by unfold swapOut; rw [if_neg (by simpa using h)]
def afterOut (l : List Int) (s : Int) : List Int := if (keptOk l && within s 0 60) = true then afterS ltZ l s.toNat else []
theorem afterOut_yes {l : List Int} {s : Int} (h1 : keptOk l = true) (h2 : within s 0 60 = true) : afterOut l s = afterS ltZ l s.toNat := by unfold afterOut; rw [h1, h2]; rfl
theorem afterOut_no {l : List Int} {s : Int} (h : ¬ (keptOk l = true ∧ within s 0 60 = true)) : afterOut l s = [] := by unfold afterOut; rw [if_neg (by simpa using h)]
theorem kept_step {l : List Int} (h : keptOk l = true) (k : Nat) : keptOk (stepS ltZ k l) = true := keptOk_perm (stepS_perm k l).symm h
theorem kept_after {l : List Int} (h : keptOk l = true) (k : Nat) : keptOk (afterS ltZ l k) = true := keptOk_perm (afterS_perm l k).symm h
def orderOk (l : List Int) : Bool := ordS ltZ l && keptOk l
theorem ordS_snoc2 : ∀ (l : List Int) (a b : Int), ordS ltZ (l ++ [a, b]) = (ordS ltZ (l ++ [a]) && !ltZ b a)
  | [], a, b => by simp [ordS]
  | [x], a, b => by simp [ordS]
  | x :: y :: t, a, b => by
    have h := ordS_snoc2 (y :: t) a b
    simp only [List.cons_append] at h ⊢
    rw [ordS, h, ordS, Bool.and_assoc]
theorem ordS_next {l : List Int} {k : Nat} (h1 : 1 ≤ k) (hk : k < l.length) : ordS ltZ (l.take (k + 1)) = (ordS ltZ (l.take k) && !decide (nth l k < nth l (k - 1))) := by
  obtain ⟨j, rfl⟩ : ∃ j, k = j + 1 := ⟨k - 1, by omega⟩
  rw [take_nth hk, take_nth (show j < l.length by omega), List.append_assoc]
  exact ordS_snoc2 _ _ _
theorem ordS_take : ∀ {l : List Int} (k : Nat), ordS ltZ l = true → ordS ltZ (l.take k) = true
  | [], k, _ => by simp [ordS]
  | [a], 0, _ => rfl
  | [a], k + 1, _ => by simp [ordS]
  | a :: b :: t, 0, _ => rfl
  | a :: b :: t, 1, _ => rfl
  | a :: b :: t, k + 2, h => by
    rw [ordS, Bool.and_eq_true] at h
    have h2 := ordS_take (k + 1) h.2
    simp only [List.take_succ_cons] at h2 ⊢
    rw [ordS, Bool.and_eq_true]
    exact ⟨h.1, h2⟩
theorem ordS_take_false {l : List Int} {k : Nat} (h : ordS ltZ (l.take k) = false) : ordS ltZ l = false := by
  cases hq : ordS ltZ l with
  | false => rfl
  | true => rw [ordS_take k hq] at h; cases h
/-- After how many steps the row is in order first. -/
def stepsN (l : List Int) : Option Nat := firstAt (fun k => ordS ltZ (afterS ltZ l k)) 15 0
def stepsOut (l : List Int) : Int := if keptOk l = true then (match stepsN l with | some k => (k : Int) | none => -1) else -1
theorem stepsN_at {l : List Int} {k : Nat} (hk : k ≤ 14) (h1 : ∀ j, j < k → ordS ltZ (afterS ltZ l j) = false) (h2 : ordS ltZ (afterS ltZ l k) = true) : stepsN l = some k :=
  firstAt_some (Nat.zero_le _) (by omega) (fun j _ h => h1 j h) h2
theorem stepsOut_at {l : List Int} {k : Nat} (h : keptOk l = true) (hk : k ≤ 14) (h1 : ∀ j, j < k → ordS ltZ (afterS ltZ l j) = false) (h2 : ordS ltZ (afterS ltZ l k) = true) : stepsOut l = k := by
  unfold stepsOut; rw [if_pos h, stepsN_at hk h1 h2]
theorem stepsOut_no {l : List Int} (h : keptOk l = false) : stepsOut l = -1 := by unfold stepsOut; rw [h]; rfl
theorem steps_have {l : List Int} (h : keptOk l = true) : ∃ k, stepsN l = some k ∧ k ≤ l.length ∧ (∀ j, j < k → ordS ltZ (afterS ltZ l j) = false) ∧ ordS ltZ (afterS ltZ l k) = true := by
  have hk := (keptOk_iff.1 h).2
  have hs := sorted_after hk.1 hk.2 (Nat.le_refl l.length)
  cases hq : stepsN l with
  | none =>
    exfalso
    have : ∀ (f k m : Nat), k ≤ m → m < k + f → ordS ltZ (afterS ltZ l m) = true → firstAt (fun k => ordS ltZ (afterS ltZ l k)) f k ≠ none := by
      intro f
      induction f with
      | zero => intro k m h1 h2; omega
      | succ f ih =>
        intro k m h1 h2 h3
        unfold firstAt
        split
        · simp
        · rename_i hn
          refine ih (k + 1) m ?_ (by omega) h3
          rcases Nat.lt_or_ge k m with h | h
          · omega
          · have : k = m := by omega
            subst this
            exact absurd h3 hn
    exact this 15 0 l.length (Nat.zero_le _) (by omega) hs hq
  | some k =>
    obtain ⟨_, h2, h3, h4⟩ := firstAt_inv hq
    refine ⟨k, rfl, ?_, fun j hj => h3 j (Nat.zero_le _) hj, h4⟩
    rcases Nat.lt_or_ge l.length k with h | h
    · have := h3 l.length (Nat.zero_le _) h
      rw [hs] at this
      cases this
    · exact h
def boundsL (l : List Int) (b : Int) : List Int := l.map fun x => if b ≤ x then 1 else 0
theorem boundsL_len (l : List Int) (b : Int) : (boundsL l b).length = l.length := by simp [boundsL]
theorem nth_boundsL {l : List Int} {b : Int} {k : Nat} (h : k < l.length) : nth (boundsL l b) k = if b ≤ nth l k then 1 else 0 := by
  rw [nth_lt (by rw [boundsL_len]; exact h), nth_lt h]; simp [boundsL]
def boundsOut (l : List Int) (b : Int) : List Int := if keptOk l = true then boundsL l b else []
def astrayOut (l : List Int) : Int := if keptOk l = true then (astray l : Int) else -1
theorem astray_le {l : List Int} (h : l.length ≤ 14) : astray l ≤ 200 := by
  have h1 := astray_both l
  have h2 : l.length * (l.length - 1) ≤ 14 * 13 := Nat.mul_le_mul h (by omega)
  omega
end Go.Proofs.Ytpobcfmldimgiaa
