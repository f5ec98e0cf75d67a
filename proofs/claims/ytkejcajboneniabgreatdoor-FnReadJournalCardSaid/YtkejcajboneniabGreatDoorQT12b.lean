/-
  Texts put together: T12b. No statement is proved here.
-/
import Derived.Test.YtkejcajboneniabGreatDoorQMd
set_option linter.unusedVariables false
set_option linter.unusedSimpArgs false
namespace Go.Proofs.YtkejcajboneniabGreatDoor
open Go.RowKit

def flipB : List UInt8 := [102, 108, 105, 112, 32]
def roundB : List UInt8 := [114, 111, 117, 110, 100, 32]
def sumsB : List UInt8 := [115, 117, 109, 115]
def carsB : List UInt8 := [99, 97, 114, 115]
def votesB : List UInt8 := [118, 111, 116, 101, 115]
def freeB : List UInt8 := [102, 114, 101, 101]
def backB : List UInt8 := [98, 97, 99, 107]
/-- What DeedText gives. -/
def deedB (k n : Int) : List UInt8 :=
  if k = 3 ∧ within n 0 99 = true then flipB ++ numB n.toNat
  else if k = 4 ∧ within n 0 99 = true then roundB ++ numB n.toNat
  else if k = 0 ∧ n = 0 then sumsB
  else if k = 1 ∧ n = 0 then carsB
  else if k = 2 ∧ n = 0 then votesB
  else if k = 5 ∧ n = 0 then freeB
  else if k = 6 ∧ n = 0 then backB
  else []
abbrev deed (k n : Int) : Value := .agg #[.int .i64 k, .int .i64 n]

set_option maxRecDepth 100000 in
set_option maxHeartbeats 1600000 in
theorem specDeedText_any (k n : Int) (w : World) :
    Calls Tryz.prog 91 #[deed k n] w fun e w' => e = .returned (encStr (deedB k n)) ∧ Below w.heap.size w w' := by
  have b0 := (Below.refl w.heap.size w).alloc (Nat.le_refl _) (.cells #[.int .i64 k, .int .i64 n] 39)
  have c0 : (w.alloc (.cells #[.int .i64 k, .int .i64 n] 39)).cell? ⟨w.heap.size, 0, none⟩ = some (.int .i64 k) := by simp
  have c1 : (w.alloc (.cells #[.int .i64 k, .int .i64 n] 39)).cell? ⟨w.heap.size, 1, none⟩ = some (.int .i64 n) := by simp
  by_cases h3 : k = 3
  · subst h3
    cases hw : within n 0 99 with
    | true =>
      have hb := within_iff.1 hw
      obtain ⟨q, rfl⟩ : ∃ q : Nat, n = q := Int.eq_ofNat_of_zero_le hb.1
      have HV := hid (show deedB 3 (q : Int) = flipB ++ numB q from by unfold deedB; rw [if_pos ⟨rfl, hw⟩, Int.toNat_natCast])
      have CN := hid (number_any q (by omega) (w.alloc (.cells #[.int .i64 3, .int .i64 q] 39)))
      have hct := fun W => cat_any [102, 108, 105, 112, 32] (numB q) (by have := numB_len q; simp; omega) W
      go_enter Tryz.func91, Tryz.ntmps91
      go_wp2_with (first | (go_at_call 97; refine (l1In_any _ _ _ _).mono ?_; rintro e w' ⟨rfl, rfl⟩) | (go_at_call 65; with_reducible refine Calls.mono CN.out ?_; rintro e w5 ⟨rfl, b5⟩))
      go_ret
      exact ⟨by rw [HV.out]; rfl, b0.trans (b5.mono b0.size)⟩
    | false =>
      have HV := hid (show deedB 3 n = [] from by unfold deedB; rw [hw]; simp)
      go_enter Tryz.func91, Tryz.ntmps91
      go_wp2_with (go_at_call 97; refine (l1In_any _ _ _ _).mono ?_; rintro e w' ⟨rfl, rfl⟩)
      go_ret
      exact ⟨by rw [HV.out]; rfl, b0⟩
  by_cases h4 : k = 4
  · subst h4
    cases hw : within n 0 99 with
    | true =>
      have hb := within_iff.1 hw
      obtain ⟨q, rfl⟩ : ∃ q : Nat, n = q := Int.eq_ofNat_of_zero_le hb.1
      have HV := hid (show deedB 4 (q : Int) = roundB ++ numB q from by unfold deedB; rw [if_neg (by omega), if_pos ⟨rfl, hw⟩, Int.toNat_natCast])
      have CN := hid (number_any q (by omega) (w.alloc (.cells #[.int .i64 4, .int .i64 q] 39)))
      have hct := fun W => cat_any [114, 111, 117, 110, 100, 32] (numB q) (by have := numB_len q; simp; omega) W
      go_enter Tryz.func91, Tryz.ntmps91
      go_wp2_with (first | (go_at_call 97; refine (l1In_any _ _ _ _).mono ?_; rintro e w' ⟨rfl, rfl⟩) | (go_at_call 65; with_reducible refine Calls.mono CN.out ?_; rintro e w5 ⟨rfl, b5⟩))
      go_ret
      exact ⟨by rw [HV.out]; rfl, b0.trans (b5.mono b0.size)⟩
    | false =>
      have HV := hid (show deedB 4 n = [] from by unfold deedB; rw [hw]; simp)
      go_enter Tryz.func91, Tryz.ntmps91
      go_wp2_with (go_at_call 97; refine (l1In_any _ _ _ _).mono ?_; rintro e w' ⟨rfl, rfl⟩)
      go_ret
      exact ⟨by rw [HV.out]; rfl, b0⟩
  by_cases h0 : k = 0
  · subst h0
    by_cases hn : n = 0
    · subst hn
      have HV := hid (show deedB 0 0 = sumsB from by decide)
      go_enter Tryz.func91, Tryz.ntmps91
      go_wp2_with (go_at_call 97; refine (l1In_any _ _ _ _).mono ?_; rintro e w' ⟨rfl, rfl⟩)
      go_ret
      exact ⟨by rw [HV.out]; rfl, b0⟩
    · have HV := hid (show deedB 0 n = [] from by unfold deedB; simp [hn])
      go_enter Tryz.func91, Tryz.ntmps91
      go_wp2_with (go_at_call 97; refine (l1In_any _ _ _ _).mono ?_; rintro e w' ⟨rfl, rfl⟩)
      go_ret
      exact ⟨by rw [HV.out]; rfl, b0⟩
  by_cases h1 : k = 1
  · subst h1
    by_cases hn : n = 0
    · subst hn
      have HV := hid (show deedB 1 0 = carsB from by decide)
      go_enter Tryz.func91, Tryz.ntmps91
      go_wp2_with (go_at_call 97; refine (l1In_any _ _ _ _).mono ?_; rintro e w' ⟨rfl, rfl⟩)
      go_ret
      exact ⟨by rw [HV.out]; rfl, b0⟩
    · have HV := hid (show deedB 1 n = [] from by unfold deedB; simp [hn])
      go_enter Tryz.func91, Tryz.ntmps91
      go_wp2_with (go_at_call 97; refine (l1In_any _ _ _ _).mono ?_; rintro e w' ⟨rfl, rfl⟩)
      go_ret
      exact ⟨by rw [HV.out]; rfl, b0⟩
  by_cases h2 : k = 2
  · subst h2
    by_cases hn : n = 0
    · subst hn
      have HV := hid (show deedB 2 0 = votesB from by decide)
      go_enter Tryz.func91, Tryz.ntmps91
      go_wp2_with (go_at_call 97; refine (l1In_any _ _ _ _).mono ?_; rintro e w' ⟨rfl, rfl⟩)
      go_ret
      exact ⟨by rw [HV.out]; rfl, b0⟩
    · have HV := hid (show deedB 2 n = [] from by unfold deedB; simp [hn])
      go_enter Tryz.func91, Tryz.ntmps91
      go_wp2_with (go_at_call 97; refine (l1In_any _ _ _ _).mono ?_; rintro e w' ⟨rfl, rfl⟩)
      go_ret
      exact ⟨by rw [HV.out]; rfl, b0⟩
  by_cases h5 : k = 5
  · subst h5
    by_cases hn : n = 0
    · subst hn
      have HV := hid (show deedB 5 0 = freeB from by decide)
      go_enter Tryz.func91, Tryz.ntmps91
      go_wp2_with (go_at_call 97; refine (l1In_any _ _ _ _).mono ?_; rintro e w' ⟨rfl, rfl⟩)
      go_ret
      exact ⟨by rw [HV.out]; rfl, b0⟩
    · have HV := hid (show deedB 5 n = [] from by unfold deedB; simp [hn])
      go_enter Tryz.func91, Tryz.ntmps91
      go_wp2_with (go_at_call 97; refine (l1In_any _ _ _ _).mono ?_; rintro e w' ⟨rfl, rfl⟩)
      go_ret
      exact ⟨by rw [HV.out]; rfl, b0⟩
  by_cases h6 : k = 6
  · subst h6
    by_cases hn : n = 0
    · subst hn
      have HV := hid (show deedB 6 0 = backB from by decide)
      go_enter Tryz.func91, Tryz.ntmps91
      go_wp2_with (go_at_call 97; refine (l1In_any _ _ _ _).mono ?_; rintro e w' ⟨rfl, rfl⟩)
      go_ret
      exact ⟨by rw [HV.out]; rfl, b0⟩
    · have HV := hid (show deedB 6 n = [] from by unfold deedB; simp [hn])
      go_enter Tryz.func91, Tryz.ntmps91
      go_wp2_with (go_at_call 97; refine (l1In_any _ _ _ _).mono ?_; rintro e w' ⟨rfl, rfl⟩)
      go_ret
      exact ⟨by rw [HV.out]; rfl, b0⟩
  have HV := hid (show deedB k n = [] from by unfold deedB; simp [h0, h1, h2, h3, h4, h5, h6])
  go_enter Tryz.func91, Tryz.ntmps91
  go_wp2_with (go_at_call 97; refine (l1In_any _ _ _ _).mono ?_; rintro e w' ⟨rfl, rfl⟩)
  go_ret
  exact ⟨by rw [HV.out]; rfl, b0⟩
end Go.Proofs.YtkejcajboneniabGreatDoor
