/-
  Chapter 8's products as sums: no walk, and no statement is proved here.
-/
import Derived.Test.YtmkbbkpgdfpcoaaC1a
namespace Go.Proofs.Ytmkbbkpgdfpcoaa
open Go.RowKit
set_option linter.unusedVariables false
set_option linter.unusedSimpArgs false

/-- One place later. -/
def shF (g : Nat → Int) : Nat → Int
  | 0 => 0
  | k + 1 => g k
/-- What goes out of the row a when f comes in. -/
def cF : List Int → (Nat → Int) → Nat → Int
  | [], _ => fun _ => 0
  | x :: a, f => fun k => x * f k + shF (cF a f) k
def dF : Nat → Int
  | 0 => 1
  | _ + 1 => 0

theorem cF_ext (a : List Int) {f g : Nat → Int} : ∀ {k : Nat}, (∀ j, j ≤ k → f j = g j) → cF a f k = cF a g k := by
  induction a with
  | nil => intro k h; rfl
  | cons x a ih =>
    intro k h
    simp only [cF]
    rw [h k (Nat.le_refl _)]
    cases k with
    | zero => rfl
    | succ k => simp only [shF]; rw [ih (fun j hj => h j (by omega))]
theorem shF_add (f g : Nat → Int) : shF (fun k => f k + g k) = fun k => shF f k + shF g k := by
  funext k; cases k <;> simp [shF]
theorem shF_mul (x : Int) (f : Nat → Int) : shF (fun k => x * f k) = fun k => x * shF f k := by
  funext k; cases k <;> simp [shF]
theorem cF_add (a : List Int) (f g : Nat → Int) : cF a (fun k => f k + g k) = fun k => cF a f k + cF a g k := by
  induction a with
  | nil => funext k; simp [cF]
  | cons x a ih =>
    funext k
    simp only [cF]
    have hs := congrFun (shF_add (cF a f) (cF a g)) k
    rw [ih, hs, Int.mul_add]
    omega
theorem cF_mul (a : List Int) (y : Int) (f : Nat → Int) : cF a (fun k => y * f k) = fun k => y * cF a f k := by
  induction a with
  | nil => funext k; simp [cF]
  | cons x a ih =>
    funext k
    simp only [cF]
    rw [ih, shF_mul, Int.mul_add, ← Int.mul_assoc, ← Int.mul_assoc, Int.mul_comm x y]
theorem cF_sh (a : List Int) (f : Nat → Int) : cF a (shF f) = shF (cF a f) := by
  induction a with
  | nil => funext k; cases k <;> rfl
  | cons x a ih =>
    funext k
    simp only [cF]
    rw [ih]
    cases k with
    | zero => simp [shF]
    | succ k => simp [shF, cF]
theorem cF_comm (a b : List Int) (f : Nat → Int) : cF a (cF b f) = cF b (cF a f) := by
  induction a with
  | nil =>
    have h : (fun k => (0 : Int) * f k) = fun _ => 0 := by funext k; omega
    have h2 := cF_mul b 0 f
    rw [h] at h2
    show (fun _ => (0 : Int)) = cF b (fun _ => 0)
    rw [h2]
    funext k
    omega
  | cons x a ih =>
    show (fun k => x * cF b f k + shF (cF a (cF b f)) k) = cF b (fun k => x * f k + shF (cF a f) k)
    rw [cF_add, cF_mul, cF_sh, ih]
theorem cF_d (a : List Int) : cF a dF = nth a := by
  induction a with
  | nil => funext k; simp [cF, nth]
  | cons x a ih =>
    funext k
    simp only [cF]
    rw [ih]
    cases k with
    | zero => simp [shF, dF, nth]
    | succ k => simp [shF, dF, nth]
theorem cF_nth (a b : List Int) : cF a (nth b) = cF b (nth a) := by rw [← cF_d b, cF_comm, cF_d]
theorem cF_prod {a b l : List Int} (h : nth l = cF a (nth b)) (xs : List Int) : cF l (nth xs) = cF a (cF b (nth xs)) := by
  rw [cF_nth l xs, h, ← cF_d b, cF_comm xs a, cF_comm xs b, cF_d]
theorem cF_zero_ge (a : List Int) {f : Nat → Int} {n : Nat} (hf : ∀ j, n ≤ j → f j = 0) : ∀ {k : Nat}, n + a.length ≤ k + 1 → cF a f k = 0 := by
  induction a with
  | nil => intro k h; rfl
  | cons x a ih =>
    intro k h
    simp only [List.length_cons] at h
    simp only [cF]
    rw [hf k (by omega)]
    cases k with
    | zero => simp [shF]
    | succ k => simp only [shF]; rw [ih (by omega)]; simp
theorem cF_bd (a : List Int) {f : Nat → Int} {M : Int} (hM : 0 ≤ M) (ha : ∀ x ∈ a, -9 ≤ x ∧ x ≤ 9) (hf : ∀ j, -M ≤ f j ∧ f j ≤ M) : ∀ k, -(9 * M * a.length) ≤ cF a f k ∧ cF a f k ≤ 9 * M * a.length := by
  induction a with
  | nil => intro k; simp [cF]
  | cons x a ih =>
    intro k
    have hx := ha x (by simp)
    have hk := hf k
    have hp : -(9 * M) ≤ x * f k ∧ x * f k ≤ 9 * M := by
      have h1 : x = -9 ∨ x = -8 ∨ x = -7 ∨ x = -6 ∨ x = -5 ∨ x = -4 ∨ x = -3 ∨ x = -2 ∨ x = -1 ∨ x = 0 ∨ x = 1 ∨ x = 2 ∨ x = 3 ∨ x = 4 ∨ x = 5 ∨ x = 6 ∨ x = 7 ∨ x = 8 ∨ x = 9 := by omega
      rcases h1 with rfl | rfl | rfl | rfl | rfl | rfl | rfl | rfl | rfl | rfl | rfl | rfl | rfl | rfl | rfl | rfl | rfl | rfl | rfl <;> omega
    have hs : -(9 * M * a.length) ≤ shF (cF a f) k ∧ shF (cF a f) k ≤ 9 * M * a.length := by
      cases k with
      | zero =>
        have : 0 ≤ 9 * M * (a.length : Int) := Int.mul_nonneg (by omega) (by omega)
        simp only [shF]; omega
      | succ k => exact ih (fun y hy => ha y (by simp [hy])) k
    simp only [cF, List.length_cons, Int.natCast_add, Int.mul_add]
    omega

/-- The row is one that multiplies; these numbers may come in. -/
def tapsOk (l : List Int) : Bool := allIn l (-9) 9 && within (l.length : Int) 1 8
def inOk (l : List Int) : Bool := allIn l (-99) 99 && decide ((l.length : Int) ≤ 16)
theorem tapsOk_iff {l : List Int} : tapsOk l = true ↔ (∀ x ∈ l, -9 ≤ x ∧ x ≤ 9) ∧ 1 ≤ l.length ∧ l.length ≤ 8 := by
  unfold tapsOk allIn within
  simp
  omega
theorem inOk_iff {l : List Int} : inOk l = true ↔ (∀ x ∈ l, -99 ≤ x ∧ x ≤ 99) ∧ l.length ≤ 16 := by
  unfold inOk allIn
  simp
  intro _
  omega
def fedL (a xs : List Int) : List Int := (List.range xs.length).map (cF a (nth xs))
def fedOut (a xs : List Int) : List Int := if tapsOk a && inOk xs then fedL a xs else []
def prodL (a b : List Int) : List Int := (List.range (a.length + b.length - 1)).map (cF a (nth b))
def prodOut (a b : List Int) : List Int := if tapsOk a && tapsOk b then prodL a b else []
def behindOut (a b xs : List Int) : List Int := fedOut b (fedOut a xs)
def valL (l : List Int) (x : Int) : Int := l.foldr (fun t s => s * x + t) 0
theorem fedL_len (a xs : List Int) : (fedL a xs).length = xs.length := by simp [fedL]
theorem prodL_len (a b : List Int) : (prodL a b).length = a.length + b.length - 1 := by simp [prodL]
theorem nth_map_range {f : Nat → Int} {n k : Nat} (h : k < n) : nth ((List.range n).map f) k = f k := by simp [nth, List.getD, h]
theorem nth_fedL {a xs : List Int} {k : Nat} (h : k < xs.length) : nth (fedL a xs) k = cF a (nth xs) k := nth_map_range h
theorem nth_bd {l : List Int} {M : Int} (hM : 0 ≤ M) (h : ∀ x ∈ l, -M ≤ x ∧ x ≤ M) (k : Nat) : -M ≤ nth l k ∧ nth l k ≤ M := by
  by_cases hk : k < l.length
  · rw [nth_lt hk]; exact h _ (List.getElem_mem _)
  · rw [nth_ge (by omega)]; omega
theorem nth_prodL {a b : List Int} (ha : 1 ≤ a.length) : nth (prodL a b) = cF a (nth b) := by
  funext k
  by_cases h : k < a.length + b.length - 1
  · exact nth_map_range h
  · rw [nth_ge (by rw [prodL_len]; omega), cF_zero_ge a (n := b.length) (fun j hj => nth_ge hj) (by omega)]
theorem nth_padded (b : List Int) (n : Nat) : nth (b ++ List.replicate n 0) = nth b := by
  funext k
  by_cases h : k < b.length
  · exact nth_append h
  · rw [nth_ge (l := b) (by omega)]
    unfold nth
    rw [List.getD, List.getElem?_append_right (by omega)]
    by_cases h2 : k - b.length < n
    · simp [h2]
    · simp [show n ≤ k - b.length from by omega]
theorem prodL_fed (a b : List Int) (ha : 1 ≤ a.length) : fedL a (b ++ List.replicate (a.length - 1) 0) = prodL a b := by
  unfold fedL prodL
  rw [nth_padded]
  congr 1
  simp
  congr 1
  omega
theorem prodL_comm {a b : List Int} : prodL a b = prodL b a := by
  unfold prodL
  rw [cF_nth, Nat.add_comm]
theorem take_fed (a xs : List Int) (h : Nat) (hh : h ≤ xs.length) : fedL a (xs.take h) = (fedL a xs).take h := by
  apply List.ext_getElem?
  intro k
  unfold fedL
  by_cases hk : k < h
  · rw [List.getElem?_take, if_pos hk]
    simp only [List.length_take, List.getElem?_map, List.getElem?_range (show k < min h xs.length by omega), List.getElem?_range (show k < xs.length by omega), Option.map_some]
    rw [cF_ext a (fun j hj => ?_)]
    simp [nth, List.getD, List.getElem?_take, show j < h from by omega]
  · rw [List.getElem?_take, if_neg hk, List.getElem?_eq_none (by simp; omega)]
theorem fed_fed (a b xs : List Int) : fedL b (fedL a xs) = (List.range xs.length).map (cF b (cF a (nth xs))) := by
  unfold fedL
  rw [List.length_map, List.length_range]
  apply List.map_congr_left
  intro k hk
  have hk' := List.mem_range.1 hk
  exact cF_ext b fun j hj => nth_map_range (by omega)
theorem fed_swap (a b xs : List Int) : fedL b (fedL a xs) = fedL a (fedL b xs) := by rw [fed_fed, fed_fed, cF_comm]
theorem fed_both {a b : List Int} (ha : 1 ≤ a.length) (xs : List Int) : fedL (prodL a b) xs = fedL b (fedL a xs) := by
  rw [fed_fed]
  unfold fedL
  rw [cF_prod (nth_prodL ha), cF_comm]

/-- The sum over the first j machines, at the place k. -/
def cSum (a : List Int) (f : Nat → Int) (k j : Nat) : Int := ((List.range j).map fun i => nth a i * f (k - i)).sum
theorem cSum_succ (a : List Int) (f : Nat → Int) (k j : Nat) : cSum a f k (j + 1) = cSum a f k j + nth a j * f (k - j) := by simp [cSum, List.range_succ]
theorem cSum_rest (a : List Int) (f : Nat → Int) (k : Nat) : ∀ j, j ≤ a.length → j ≤ k + 1 → cSum a f k j + (if j ≤ k then cF (a.drop j) f (k - j) else 0) = cF a f k := by
  intro j
  induction j with
  | zero => intro _ _; simp [cSum]
  | succ j ih =>
    intro h1 h2
    rw [← ih (by omega) (by omega), cSum_succ, if_pos (show j ≤ k by omega), List.drop_eq_getElem_cons (show j < a.length by omega)]
    simp only [cF]
    rw [← nth_lt (show j < a.length by omega)]
    by_cases hk : j + 1 ≤ k
    · rw [if_pos hk]
      obtain ⟨d, hd⟩ : ∃ d, k - j = d + 1 := ⟨k - j - 1, by omega⟩
      rw [hd, show k - (j + 1) = d from by omega]
      simp only [shF]
      omega
    · rw [if_neg hk, show k - j = 0 from by omega]
      simp only [shF]
      omega
theorem cSum_all (a : List Int) (f : Nat → Int) (k j : Nat) (h1 : j ≤ a.length) (h2 : j ≤ k + 1) (h : ¬ (j < a.length ∧ j ≤ k)) : cSum a f k j = cF a f k := by
  have hr := cSum_rest a f k j h1 h2
  by_cases hk : j ≤ k
  · rw [if_pos hk, List.drop_of_length_le (by omega)] at hr
    simp only [cF] at hr
    omega
  · rw [if_neg hk] at hr
    omega

/-- What the machines hold after t numbers. -/
def heldL (a : List Int) (f : Nat → Int) : Nat → List Int
  | 0 => List.replicate a.length 0
  | t + 1 => (List.range a.length).map fun k => cF (a.drop k) f t
theorem heldL_len (a : List Int) (f : Nat → Int) (t : Nat) : (heldL a f t).length = a.length := by cases t <;> simp [heldL]
theorem heldL_at {a : List Int} {f : Nat → Int} {t k : Nat} (h : k < a.length) : nth (heldL a f (t + 1)) k = nth a k * f t + nth (heldL a f t) (k + 1) := by
  have e1 : nth (heldL a f (t + 1)) k = cF (a.drop k) f t := nth_map_range h
  rw [e1, List.drop_eq_getElem_cons h, nth_lt h]
  simp only [cF]
  congr 1
  cases t with
  | zero => simp only [shF, heldL, nth, List.getD]; by_cases h2 : k + 1 < a.length <;> simp [h2]
  | succ t =>
    simp only [shF]
    by_cases h2 : k + 1 < a.length
    · exact (nth_map_range (f := fun k => cF (a.drop k) f t) h2).symm
    · rw [nth_ge (by rw [heldL_len]; omega), List.drop_of_length_le (by omega)]; rfl
theorem heldL_out {a : List Int} {f : Nat → Int} {t : Nat} (h : 1 ≤ a.length) : nth (heldL a f (t + 1)) 0 = cF a f t := by
  have : nth (heldL a f (t + 1)) 0 = cF (a.drop 0) f t := nth_map_range (by omega)
  rw [this]; rfl
theorem heldL_bd {a : List Int} {f : Nat → Int} {M : Int} (hM : 0 ≤ M) (ha : ∀ x ∈ a, -9 ≤ x ∧ x ≤ 9) (hl : a.length ≤ 8) (hf : ∀ j, -M ≤ f j ∧ f j ≤ M) (t k : Nat) : -(72 * M) ≤ nth (heldL a f t) k ∧ nth (heldL a f t) k ≤ 72 * M := by
  by_cases hk : k < a.length
  · cases t with
    | zero => rw [show nth (heldL a f 0) k = 0 from by simp [heldL, nth, List.getD, hk]]; omega
    | succ t =>
      rw [show nth (heldL a f (t + 1)) k = cF (a.drop k) f t from nth_map_range hk]
      have h := cF_bd (a.drop k) hM (fun x hx => ha x (List.mem_of_mem_drop hx)) hf t
      have h2 : 9 * M * ((a.drop k).length : Int) ≤ 9 * M * 8 := Int.mul_le_mul_of_nonneg_left (by simp; omega) (by omega)
      omega
  · rw [nth_ge (by rw [heldL_len]; omega)]; omega

theorem valL_cons (t : Int) (l : List Int) (x : Int) : valL (t :: l) x = valL l x * x + t := rfl
theorem valL_sum (l : List Int) (x : Int) : valL l x = ((List.range l.length).map fun i => nth l i * x ^ i).sum := by
  induction l with
  | nil => rfl
  | cons t l ih =>
    rw [valL_cons, ih, List.length_cons, List.range_succ_eq_map]
    simp only [List.map_cons, List.map_map, List.sum_cons]
    have e : ((fun i => nth (t :: l) i * x ^ i) ∘ Nat.succ) = fun i => nth l i * x ^ i * x := by
      funext i
      simp [nth, Int.pow_succ, Int.mul_assoc]
    rw [e]
    have e2 : ∀ m : List Nat, (m.map fun i => nth l i * x ^ i * x).sum = (m.map fun i => nth l i * x ^ i).sum * x := by
      intro m
      induction m with
      | nil => simp
      | cons i m ihm => simp only [List.map_cons, List.sum_cons]; rw [ihm, Int.add_mul]
    rw [e2]
    simp [nth]
    omega
theorem valL_ext {l m : List Int} (x : Int) (h : nth l = nth m) : valL l x = valL m x := by
  induction l generalizing m with
  | nil =>
    have : ∀ m : List Int, nth m = nth [] → valL m x = 0 := by
      intro m
      induction m with
      | nil => intro _; rfl
      | cons t m ih =>
        intro hm
        have h0 : t = 0 := by have := congrFun hm 0; simpa [nth] using this
        have h1 : nth m = nth [] := by funext k; have := congrFun hm (k + 1); simpa [nth] using this
        rw [valL_cons, ih h1, h0]; omega
    exact (this m h.symm).symm
  | cons t l ih =>
    cases m with
    | nil =>
      have h0 : t = 0 := by have := congrFun h 0; simpa [nth] using this
      have h1 : nth l = nth [] := by funext k; have := congrFun h (k + 1); simpa [nth] using this
      rw [valL_cons, ih h1, h0]
      show (0 : Int) * x + 0 = 0
      omega
    | cons u m =>
      have h0 : t = u := by have := congrFun h 0; simpa [nth] using this
      have h1 : nth l = nth m := by funext k; have := congrFun h (k + 1); simpa [nth] using this
      rw [valL_cons, valL_cons, ih h1, h0]
def addL : List Int → List Int → List Int
  | [], b => b
  | a, [] => a
  | x :: a, y :: b => (x + y) :: addL a b
theorem nth_addL (a b : List Int) (k : Nat) : nth (addL a b) k = nth a k + nth b k := by
  induction a generalizing b k with
  | nil => cases b <;> simp [addL, nth]
  | cons x a ih =>
    cases b with
    | nil => simp [addL, nth]
    | cons y b =>
      cases k with
      | zero => simp [addL, nth]
      | succ k => have := ih b k; simpa [addL, nth] using this
theorem valL_addL (a b : List Int) (x : Int) : valL (addL a b) x = valL a x + valL b x := by
  induction a generalizing b with
  | nil => simp [addL, valL]
  | cons t a ih =>
    cases b with
    | nil => simp [addL, valL]
    | cons u b =>
      simp only [addL, valL_cons]
      rw [ih, Int.add_mul]
      omega
theorem valL_smul (y : Int) (b : List Int) (x : Int) : valL (b.map (y * ·)) x = y * valL b x := by
  induction b with
  | nil => simp [valL]
  | cons t b ih => simp only [List.map_cons, valL_cons]; rw [ih, Int.mul_add, Int.mul_assoc]
def mulL : List Int → List Int → List Int
  | [], _ => []
  | x :: a, b => addL (b.map (x * ·)) (0 :: mulL a b)
theorem nth_mulL (a b : List Int) : nth (mulL a b) = cF a (nth b) := by
  induction a with
  | nil => funext k; simp [mulL, nth, cF]
  | cons x a ih =>
    funext k
    simp only [mulL, cF]
    rw [nth_addL, ← ih]
    congr 1
    · unfold nth; simp only [List.getD, List.getElem?_map]; cases b[k]? <;> simp
    · cases k <;> simp [nth, shF]
theorem valL_mulL (a b : List Int) (x : Int) : valL (mulL a b) x = valL a x * valL b x := by
  induction a with
  | nil => simp [mulL, valL]
  | cons t a ih =>
    simp only [mulL]
    rw [valL_addL, valL_smul, valL_cons, valL_cons, ih, Int.add_mul]
    rw [Int.mul_assoc, Int.mul_comm (valL b x) x, ← Int.mul_assoc]
    omega
theorem valL_prod {a b : List Int} (ha : 1 ≤ a.length) (x : Int) : valL (prodL a b) x = valL a x * valL b x := by
  rw [← valL_mulL]
  exact valL_ext x (by rw [nth_prodL ha, nth_mulL])
theorem valL_bd (l : List Int) {x M : Int} (hx : -3 ≤ x ∧ x ≤ 3) (hM : 0 ≤ M) (h : ∀ t ∈ l, -M ≤ t ∧ t ≤ M) : -(M * 4 ^ l.length) ≤ valL l x ∧ valL l x ≤ M * 4 ^ l.length := by
  induction l with
  | nil => simp [valL]; omega
  | cons t l ih =>
    have ht := h t (by simp)
    have hi := ih (fun u hu => h u (by simp [hu]))
    have h4 : 1 ≤ (4 : Int) ^ l.length := Int.pow_pos (by decide)
    have hm : M ≤ M * 4 ^ l.length := by
      have := Int.mul_le_mul_of_nonneg_left h4 hM
      omega
    rw [valL_cons, List.length_cons, Int.pow_succ, ← Int.mul_assoc]
    obtain ⟨P, hP⟩ : ∃ P, M * 4 ^ l.length = P := ⟨_, rfl⟩
    rw [hP] at hi hm ⊢
    obtain ⟨s, hs⟩ : ∃ s, valL l x = s := ⟨_, rfl⟩
    rw [hs] at hi ⊢
    have h1 : x = -3 ∨ x = -2 ∨ x = -1 ∨ x = 0 ∨ x = 1 ∨ x = 2 ∨ x = 3 := by omega
    rcases h1 with rfl | rfl | rfl | rfl | rfl | rfl | rfl <;> omega
theorem valL_one (l : List Int) : valL l 1 = l.sum := by
  induction l with
  | nil => rfl
  | cons t l ih => rw [valL_cons, ih, List.sum_cons]; omega
theorem valL_zero (l : List Int) : valL l 0 = nth l 0 := by
  cases l with
  | nil => rfl
  | cons t l => rw [valL_cons]; simp [nth]
/-- The sum with signs by turns. -/
def sgnS (l : List Int) (k : Nat) : Int := ((List.range k).map fun (i : Nat) => nth l i * (1 - ((i : Int) % 2) * 2)).sum
theorem sgnS_succ (l : List Int) (k : Nat) : sgnS l (k + 1) = sgnS l k + nth l k * (1 - ((k : Int) % 2) * 2) := by simp [sgnS, List.range_succ]
theorem neg_pow (i : Nat) : ((-1 : Int)) ^ i = 1 - ((i : Int) % 2) * 2 := by
  induction i with
  | zero => rfl
  | succ i ih => rw [Int.pow_succ, ih]; omega
theorem valL_neg (l : List Int) : valL l (-1) = sgnS l l.length := by
  rw [valL_sum]
  unfold sgnS
  congr 1
  apply List.map_congr_left
  intro i _
  rw [neg_pow]
end Go.Proofs.Ytmkbbkpgdfpcoaa
