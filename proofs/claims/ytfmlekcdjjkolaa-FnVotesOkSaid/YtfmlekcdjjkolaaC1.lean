/-
  The walk of the model's CellsOk. No statement is proved here.
-/
import Derived.Test.YtfmlekcdjjkolaaC1a
namespace Go.Proofs.Ytfmlekcdjjkolaa
open Go.RowKit
set_option linter.unusedVariables false
set_option linter.unusedSimpArgs false

set_option maxHeartbeats 800000 in
/-- The model's CellsOk: its states may be any number, for 'states less 1' wraps at the least one alone, where no cell fits. -/
theorem specCellsOk_in (A : Option Addr) (n c : Nat) (l : List Int) (s : Int) (w : World) (B : Nat) (hs : Sl w B A n l) (hlo : -9223372036854775807 ≤ s) (hhi : s ≤ 9223372036854775807) :
    Calls Try.prog 35 #[.slice A n c, .int .i64 s] w fun e w' => e = .returned (.bool (cellsOk l s)) ∧ w = w' := by
  have hm := hs.max
  have hl := hs.len
  have HL := hid hl; clear hl
  go_enter Try.func35, Try.ntmps35
  go_wp2
  go_loop [5] (fun i => ∃ k : Nat, k ≤ n ∧ i = .int .i64 k ∧ allIn (l.take k) 0 (s - 1) = true) (fun i => n - (intOf i).toNat)
  case atStart => exact ⟨0, Nat.zero_le _, rfl, rfl⟩
  case round =>
    obtain ⟨k, hk, rfl, hall⟩ := hrel
    have HA := hid hall; clear hall
    by_cases hlt : k < n
    · obtain ⟨b, off, rfl, _, hc⟩ := hs.2.2 (by omega)
      have hck := hc k hlt
      clear hc
      by_cases h1 : within (nth l k) 0 (s - 1) = true
      · go_wp2_with (go_at_call 41; refine (l1In_any _ _ _ _).mono ?_; rintro e w' ⟨rfl, rfl⟩)
        go_round
        case rel => exact ⟨k + 1, by omega, by go_num, by rw [take_nth (by rw [HL.out]; exact hlt), allIn_snoc, HA.out]; exact h1⟩
        case measure => simp [intOf]; omega
      · have h1' : within (nth l k) 0 (s - 1) = false := by simpa using h1
        go_wp2_with (go_at_call 41; refine (l1In_any _ _ _ _).mono ?_; rintro e w' ⟨rfl, rfl⟩)
        go_ret
        refine ⟨ret_bool ?_, rfl⟩
        have : allIn l 0 (s - 1) = false := by
          apply allIn_take_false (k := k + 1)
          rw [take_nth (by rw [HL.out]; exact hlt), allIn_snoc, HA.out]; exact h1'
        simp [cellsOk, this]
    · have hA : allIn l 0 (s - 1) = true := by have := HA.out; rwa [List.take_of_length_le (by rw [HL.out]; omega)] at this
      have HA2 := hid hA; clear hA
      by_cases h1 : within (n : Int) 1 40 = true
      · go_wp2_with (go_at_call 41; refine (l1In_any _ _ _ _).mono ?_; rintro e w' ⟨rfl, rfl⟩)
        go_ret
        refine ⟨ret_bool ?_, rfl⟩
        have := within_iff.1 h1
        simp [cellsOk, HA2.out, HL.out, show 1 ≤ n from by omega, show n ≤ 40 from by omega]
      · have h1' : within (n : Int) 1 40 = false := by simpa using h1
        go_wp2_with (go_at_call 41; refine (l1In_any _ _ _ _).mono ?_; rintro e w' ⟨rfl, rfl⟩)
        go_ret
        refine ⟨ret_bool ?_, rfl⟩
        simp [within] at h1'
        simp [cellsOk, HA2.out, HL.out]; intro _ h; omega

set_option maxHeartbeats 800000 in
theorem specCellsOk_least (A : Option Addr) (n c : Nat) (l : List Int) (s : Int) (w : World) (B : Nat) (hs : Sl w B A n l) (hlo : s < 1) :
    Calls Try.prog 35 #[.slice A n c, .int .i64 s] w fun e w' => e = .returned (.bool (cellsOk l s)) ∧ w = w' := by
  have hm := hs.max
  have hfin : cellsOk l s = false := by simp [cellsOk, within]; intro h; omega
  have h0 : within s 1 4 = false := by simp [within]; intro h; omega
  have HF := hid hfin; clear hfin
  go_enter Try.func35, Try.ntmps35
  go_wp2
  go_loop [5] (fun i => ∃ k : Nat, k ≤ n ∧ i = .int .i64 k) (fun i => n - (intOf i).toNat)
  case atStart => exact ⟨0, Nat.zero_le _, rfl⟩
  case round =>
    obtain ⟨k, hk, rfl⟩ := hrel
    by_cases hlt : k < n
    · obtain ⟨b, off, rfl, _, hc⟩ := hs.2.2 (by omega)
      have hck := hc k hlt
      clear hc
      by_cases h1 : within (nth l k) 0 (wrap64 (s - 1)) = true
      · have h2 : ∀ e, Calls Try.prog 41 #[.int .i64 (nth l k), .int .i64 0, .int .i64 e] w fun e' w' => e' = .returned (.bool (within (nth l k) 0 e)) ∧ w = w' := fun e => l1In_any _ _ _ _
        have H2 := hid h2; clear h2
        go_wp2_with (go_at_call 41; refine (H2.out _).mono ?_; rintro e w' ⟨rfl, rfl⟩)
        all_goals first
          | (go_round
             case rel => exact ⟨k + 1, by omega, by go_num⟩
             case measure => simp [intOf]; omega)
          | (go_ret
             exact ⟨ret_bool (by rw [HF.out]), rfl⟩)
      · have h1' : within (nth l k) 0 (wrap64 (s - 1)) = false := by simpa using h1
        go_wp2_with (go_at_call 41; refine (l1In_any _ _ _ _).mono ?_; rintro e w' ⟨rfl, rfl⟩)
        all_goals first
          | (go_ret
             exact ⟨ret_bool (by rw [HF.out]), rfl⟩)
          | (go_round
             case rel => exact ⟨k + 1, by omega, by go_num⟩
             case measure => simp [intOf]; omega)
    · by_cases h1 : within (n : Int) 1 40 = true
      · go_wp2_with (go_at_call 41; refine (l1In_any _ _ _ _).mono ?_; rintro e w' ⟨rfl, rfl⟩)
        go_ret
        exact ⟨ret_bool (by rw [HF.out]), rfl⟩
      · have h1' : within (n : Int) 1 40 = false := by simpa using h1
        go_wp2_with (go_at_call 41; refine (l1In_any _ _ _ _).mono ?_; rintro e w' ⟨rfl, rfl⟩)
        go_ret
        exact ⟨ret_bool (by rw [HF.out]), rfl⟩

theorem specCellsOk_any (A : Option Addr) (n c : Nat) (l : List Int) (s : Int) (w : World) (B : Nat) (hs : Sl w B A n l) (hhi : s ≤ 9223372036854775807) :
    Calls Try.prog 35 #[.slice A n c, .int .i64 s] w fun e w' => e = .returned (.bool (cellsOk l s)) ∧ w = w' := by
  by_cases h : s < 1
  · exact specCellsOk_least A n c l s w B hs h
  · exact specCellsOk_in A n c l s w B hs (by omega) hhi

end Go.Proofs.Ytfmlekcdjjkolaa
