/-
  Walks of chapter 1's RuleOk, of the program and of the model. No statement is proved here.
-/
import Derived.Test.YtnegbebfofcakaaC1
namespace Go.Proofs.Ytnegbebfofcakaa
open Go.RowKit
set_option linter.unusedVariables false
set_option linter.unusedSimpArgs false

/-- A rule for states in 1..4: a state for each three, and 0 for three times 0. -/
def ruleOk (l : List Int) (s : Int) : Bool := within s 1 4 && (decide ((l.length : Int) = s * s * s) && (allIn l 0 (s - 1) && decide (nth l 0 = 0)))

theorem small_states {s : Int} (h1 : 1 ≤ s) (h2 : s ≤ 4) : 1 ≤ s * s ∧ s * s ≤ 16 ∧ 1 ≤ s * s * s ∧ s * s * s ≤ 64 := by
  have : s = 1 ∨ s = 2 ∨ s = 3 ∨ s = 4 := by omega
  rcases this with rfl | rfl | rfl | rfl <;> decide

set_option maxHeartbeats 1600000 in
theorem ruleOk_any (A : Option Addr) (n c : Nat) (l : List Int) (s : Int) (w : World) (B : Nat) (hs : Sl w B A n l) :
    Calls Try.prog 22 #[.slice A n c, .int .i64 s] w fun e w' => e = .returned (.bool (ruleOk l s)) ∧ w = w' := by
  have hm := hs.max
  have hl := hs.len
  have HL := hid hl; clear hl
  by_cases h1 : within s 1 4 = true
  · have hb := within_iff.1 h1
    obtain ⟨hb1, hb2⟩ := hb
    obtain ⟨m1, m2, m3, m4⟩ := small_states hb1 hb2
    by_cases h2 : (n : Int) = s * s * s
    · have h2b : ((n : Int) == s * s * s) = true := by simp [h2]
      have h2c : (s * s * s == s * s * s) = true := by simp
      obtain ⟨b, off, rfl, _, hc⟩ := hs.2.2 (by omega)
      have hc0 := hc 0 (by omega)
      have hc1 : w.cell? ⟨b, off, none⟩ = some (.int .i64 (nth l 0)) := by simpa using hc0
      have hn0 : 0 < n := by omega
      have H2 := hid h2; clear h2 hc
      by_cases h3 : allIn l 0 (s - 1) = true
      · by_cases h4 : nth l 0 = 0
        · have h4b : (nth l 0 == 0) = true := by simp [h4]
          have H4 := hid h4; clear h4
          go_enter Try.func22, Try.ntmps22
          go_wp2_with (first | (go_at_call 42; refine (statesOk_any _ _).mono ?_; rintro e w' ⟨rfl, rfl⟩) | (go_at_call 43; refine (allWithin_any _ _ _ l _ _ _ _ hs).mono ?_; rintro e w' ⟨rfl, rfl⟩))
          go_ret
          exact ⟨ret_bool (by unfold ruleOk; rw [h1, HL.out, h3, H4.out, H2.out]; simp), rfl⟩
        · have h4b : (nth l 0 == 0) = false := by simp [h4]
          have H4 := hid h4; clear h4
          go_enter Try.func22, Try.ntmps22
          go_wp2_with (first | (go_at_call 42; refine (statesOk_any _ _).mono ?_; rintro e w' ⟨rfl, rfl⟩) | (go_at_call 43; refine (allWithin_any _ _ _ l _ _ _ _ hs).mono ?_; rintro e w' ⟨rfl, rfl⟩))
          go_ret
          exact ⟨ret_bool (by unfold ruleOk; simp [H4.out]), rfl⟩
      · have h3b : allIn l 0 (s - 1) = false := by simpa using h3
        go_enter Try.func22, Try.ntmps22
        go_wp2_with (first | (go_at_call 42; refine (statesOk_any _ _).mono ?_; rintro e w' ⟨rfl, rfl⟩) | (go_at_call 43; refine (allWithin_any _ _ _ l _ _ _ _ hs).mono ?_; rintro e w' ⟨rfl, rfl⟩))
        go_ret
        exact ⟨ret_bool (by unfold ruleOk; simp [h3b]), rfl⟩
    · have h2b : ((n : Int) == s * s * s) = false := by simp [h2]
      have H2 := hid h2; clear h2
      go_enter Try.func22, Try.ntmps22
      go_wp2_with (first | (go_at_call 42; refine (statesOk_any _ _).mono ?_; rintro e w' ⟨rfl, rfl⟩) | (go_at_call 43; refine (allWithin_any _ _ _ l _ _ _ _ hs).mono ?_; rintro e w' ⟨rfl, rfl⟩))
      go_ret
      exact ⟨ret_bool (by unfold ruleOk; rw [HL.out]; simp [H2.out]), rfl⟩
  · have h1' : within s 1 4 = false := by simpa using h1
    go_enter Try.func22, Try.ntmps22
    go_wp2_with (first | (go_at_call 42; refine (statesOk_any _ _).mono ?_; rintro e w' ⟨rfl, rfl⟩) | (go_at_call 43; refine (allWithin_any _ _ _ l _ _ _ _ hs).mono ?_; rintro e w' ⟨rfl, rfl⟩))
    go_ret
    exact ⟨ret_bool (by unfold ruleOk; rw [h1']; rfl), rfl⟩

set_option maxHeartbeats 1600000 in
theorem specRuleOk_any (A : Option Addr) (n c : Nat) (l : List Int) (s : Int) (w : World) (B : Nat) (hs : Sl w B A n l) :
    Calls Try.prog 23 #[.slice A n c, .int .i64 s] w fun e w' => e = .returned (.bool (ruleOk l s)) ∧ w = w' := by
  have hm := hs.max
  have hl := hs.len
  have HL := hid hl; clear hl
  by_cases h1 : within s 1 4 = true
  · have hb := within_iff.1 h1
    obtain ⟨hb1, hb2⟩ := hb
    obtain ⟨m1, m2, m3, m4⟩ := small_states hb1 hb2
    by_cases h2 : (n : Int) = s * s * s
    · have h2b : ((n : Int) != s * s * s) = false := by simp [h2]
      have h2c : ((n : Int) == s * s * s) = true := by simp [h2]
      obtain ⟨b, off, rfl, _, hc⟩ := hs.2.2 (by omega)
      have hc0 := hc 0 (by omega)
      have hc1 : w.cell? ⟨b, off, none⟩ = some (.int .i64 (nth l 0)) := by simpa using hc0
      have hn0 : 0 < n := by omega
      have H2 := hid h2; clear h2
      go_enter Try.func23, Try.ntmps23
      go_wp2_with (go_at_call 44; refine (l1In_any _ _ _ _).mono ?_; rintro e w' ⟨rfl, rfl⟩)
      go_loop [5] (fun i => ∃ k : Nat, k ≤ n ∧ i = .int .i64 k ∧ allIn (l.take k) 0 (s - 1) = true) (fun i => n - (intOf i).toNat)
      case atStart => exact ⟨0, Nat.zero_le _, rfl, rfl⟩
      case round =>
        obtain ⟨k, hk, rfl, hall⟩ := hrel
        have HA := hid hall; clear hall
        by_cases hlt : k < n
        · have hck := hc k hlt
          clear hc
          by_cases h1 : within (nth l k) 0 (s - 1) = true
          · go_wp2_with (go_at_call 44; refine (l1In_any _ _ _ _).mono ?_; rintro e w' ⟨rfl, rfl⟩)
            go_round
            case rel => exact ⟨k + 1, by omega, by go_num, by rw [take_nth (by rw [HL.out]; exact hlt), allIn_snoc, HA.out]; exact h1⟩
            case measure => simp [intOf]; omega
          · have h1' : within (nth l k) 0 (s - 1) = false := by simpa using h1
            go_wp2_with (go_at_call 44; refine (l1In_any _ _ _ _).mono ?_; rintro e w' ⟨rfl, rfl⟩)
            go_ret
            refine ⟨ret_bool ?_, rfl⟩
            have : allIn l 0 (s - 1) = false := by
              apply allIn_take_false (k := k + 1)
              rw [take_nth (by rw [HL.out]; exact hlt), allIn_snoc, HA.out]; exact h1'
            simp [ruleOk, this]
        · have hA : allIn l 0 (s - 1) = true := by have := HA.out; rwa [List.take_of_length_le (by rw [HL.out]; omega)] at this
          have HA2 := hid hA; clear hA
          clear hc
          go_wp2
          go_ret
          refine ⟨ret_bool ?_, rfl⟩
          unfold ruleOk
          rw [h1, HA2.out, HL.out, H2.out, Bool.eq_iff_iff]
          simp
    · have h2b : ((n : Int) != s * s * s) = true := by simp [h2]
      have h2c : ((n : Int) == s * s * s) = false := by simp [h2]
      have H2 := hid h2; clear h2
      go_enter Try.func23, Try.ntmps23
      go_wp2_with (go_at_call 44; refine (l1In_any _ _ _ _).mono ?_; rintro e w' ⟨rfl, rfl⟩)
      go_ret
      exact ⟨ret_bool (by unfold ruleOk; rw [HL.out]; simp [H2.out]), rfl⟩
  · have h1' : within s 1 4 = false := by simpa using h1
    go_enter Try.func23, Try.ntmps23
    go_wp2_with (go_at_call 44; refine (l1In_any _ _ _ _).mono ?_; rintro e w' ⟨rfl, rfl⟩)
    go_ret
    exact ⟨ret_bool (by unfold ruleOk; rw [h1']; rfl), rfl⟩
end Go.Proofs.Ytnegbebfofcakaa
