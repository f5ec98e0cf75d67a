/-
  Chapter 4's told places as a number whose bits are the places: no walk, and no statement is proved here.
-/
import Derived.Test.YtfmlekcdjjkolaaDoorS4v
import Derived.Lib.TrailingZeros
namespace Go.Proofs.YtfmlekcdjjkolaaDoor
open Go.RowKit
set_option linter.unusedVariables false
set_option linter.unusedSimpArgs false

/-- What a part tells: its middles, each a bit. -/
def tellN (t : Nat) (p : Int × Int) : Nat := (t ||| 2 ^ (p.1 + (p.2 - p.1) / 2).toNat) ||| 2 ^ (p.2 - (p.2 - p.1) / 2).toNat
def told64 (n : Nat) : Nat → Nat
  | 0 => 1
  | k + 1 => (partsP (n : Int) k).foldl tellN (told64 n k)
/-- The bits of a number in ascending order, if there are at most so many. -/
def ascO : Nat → Nat → Option (List Int)
  | 0, x => if x = 0 then some [] else none
  | f + 1, x => if x = 0 then some [] else (ascO f (x &&& (x - 1))).map (((Lib.ctz 64 x : Nat) : Int) :: ·)
theorem ascO_zero {f : Nat} {r : List Int} (h : ascO f 0 = some r) : r = [] := by cases f <;> simp [ascO] at h <;> exact h
theorem ascO_step {f x : Nat} {r : List Int} (h : ascO f x = some r) (hx : x ≠ 0) : ∃ f' r', r = ((Lib.ctz 64 x : Nat) : Int) :: r' ∧ ascO f' (x &&& (x - 1)) = some r' := by
  cases f with
  | zero => simp [ascO, hx] at h
  | succ f =>
    simp only [ascO, if_neg hx, Option.map_eq_some_iff] at h
    obtain ⟨r', h1, h2⟩ := h
    exact ⟨f, r', h2.symm, h1⟩
theorem or_lt40 {t p : Nat} (ht : t < 2 ^ 40) (hp : p < 40) : t ||| 2 ^ p < 2 ^ 40 := Nat.or_lt_two_pow ht (Nat.pow_lt_pow_right (by omega) hp)
theorem tellN_lt {t : Nat} {p : Int × Int} (ht : t < 2 ^ 40) (h0 : 0 ≤ p.1) (h1 : p.1 ≤ p.2) (h2 : p.2 ≤ 39) : tellN t p < 2 ^ 40 := or_lt40 (or_lt40 ht (by omega)) (by omega)
theorem tellsN_lt (l : List (Int × Int)) : ∀ {t : Nat}, t < 2 ^ 40 → (∀ p ∈ l, 0 ≤ p.1 ∧ p.1 ≤ p.2 ∧ p.2 ≤ 39) → l.foldl tellN t < 2 ^ 40 := by
  induction l with
  | nil => intro t ht _; exact ht
  | cons a l ih =>
    intro t ht h
    have ha := h a (by simp)
    exact ih (tellN_lt ht ha.1 ha.2.1 ha.2.2) (fun p hp => h p (by simp [hp]))
theorem told64_lt {n : Nat} (h1 : 1 ≤ n) (h40 : n ≤ 40) (k : Nat) : told64 n k < 2 ^ 40 := by
  induction k with
  | zero => exact (by decide : (1 : Nat) < 2 ^ 40)
  | succ k ih => exact tellsN_lt _ ih fun p hp => by have := partsP_bd (n := (n : Int)) (by omega) k p hp; omega
def bitsChk (n k : Nat) : Bool := match ascO 41 (told64 n k) with
  | some r => decide (r = toldN n k)
  | none => false
theorem bits_chk : ∀ n < 41, ∀ k < 7, 1 ≤ n → k ≤ (roundsN n).length → bitsChk n k = true := by decide +kernel
theorem told_bits {n k : Nat} (h1 : 1 ≤ n) (h40 : n ≤ 40) (hk : k ≤ (roundsN n).length) : ascO 41 (told64 n k) = some (toldN n k) := by
  have hl := roundsN_len n h40
  have h := bits_chk n (by omega) k (by omega) h1 hk
  unfold bitsChk at h
  split at h
  · rename_i r hr; rw [hr, of_decide_eq_true h]
  · cases h
theorem parts_wide : ∀ n < 41, ∀ k < 6, 1 ≤ n → k < (roundsN n).length → (partsP (n : Int) k).all (fun p => decide (p.1 < p.2)) = true := by decide +kernel
theorem parts_wide_at {n k : Nat} (h1 : 1 ≤ n) (h40 : n ≤ 40) (hk : k < (roundsN n).length) : ∀ p ∈ partsP (n : Int) k, p.1 < p.2 := fun p hp => by
  have hl := roundsN_len n h40
  have := List.all_eq_true.1 (parts_wide n (by omega) k (by omega) h1 hk) p hp
  simpa using this
theorem foldl_takeN {l : List (Int × Int)} {j : Nat} (h : j < l.length) (t : Nat) : (l.take (j + 1)).foldl tellN t = tellN ((l.take j).foldl tellN t) (l[j]) := by
  rw [List.take_succ_eq_append_getElem h, List.foldl_append]
  rfl
theorem toldN_len40 {n k : Nat} (h40 : n ≤ 40) : (toldN n k).length ≤ 40 := by
  have := allAt_len (fun j => (toldB n k).getD j false) n
  unfold toldN
  omega
end Go.Proofs.YtfmlekcdjjkolaaDoor
