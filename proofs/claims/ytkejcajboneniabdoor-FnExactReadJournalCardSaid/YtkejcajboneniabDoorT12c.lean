/-
  The walk of the model's l1Digits. No statement is proved here.
-/
import Derived.Test.YtkejcajboneniabDoorT12
import Derived.BigQuiet
import Derived.Deep.QuietTactic
namespace Go.Proofs.YtkejcajboneniabDoor
open Go.RowKit
set_option linter.unusedVariables false
set_option linter.unusedSimpArgs false

def isDig (b : UInt8) : Bool := decide (48 ≤ b.toNat ∧ b.toNat ≤ 57)
def stepD (n : Nat) (b : UInt8) : Nat := 10 * n + (b.toNat - 48)
def valB (s : List UInt8) : Nat := s.foldl stepD 0
theorem valB_snoc (s : List UInt8) (b : UInt8) : valB (s ++ [b]) = 10 * valB s + (b.toNat - 48) := by simp [valB, stepD]
theorem fold_lt : ∀ (s : List UInt8) (n : Nat), s.all isDig = true → s.foldl stepD n < (n + 1) * 10 ^ s.length
  | [], n, _ => by simp
  | b :: l, n, h => by
    rw [List.all_cons, Bool.and_eq_true] at h
    have h1 := fold_lt l (stepD n b) h.2
    have h2 := h.1
    simp only [isDig, decide_eq_true_eq] at h2
    rw [List.foldl_cons, List.length_cons, Nat.pow_succ]
    refine Nat.lt_of_lt_of_le h1 ?_
    rw [show (n + 1) * (10 ^ l.length * 10) = ((n + 1) * 10) * 10 ^ l.length by rw [Nat.mul_assoc, Nat.mul_comm 10 _]]
    exact Nat.mul_le_mul_right _ (by unfold stepD; omega)
theorem valB_lt (s : List UInt8) (h : s.all isDig = true) : valB s < 10 ^ s.length := by
  have := fold_lt s 0 h
  simpa [valB] using this
theorem valB_lt6 (s : List UInt8) (h : s.all isDig = true) (hl : s.length ≤ 6) : valB s < 1000000 :=
  Nat.lt_of_lt_of_le (valB_lt s h) (Nat.le_trans (Nat.pow_le_pow_right (by decide) hl) (by decide))
/-- What l1Digits tells. -/
def digitsOut (s : List UInt8) : Int :=
  if within (s.length : Int) 1 6 = true ∧ (s.length = 1 ∨ s.head? ≠ some 48) ∧ s.all isDig = true then (valB s : Int) else -1
theorem digitsOut_le (s : List UInt8) : -1 ≤ digitsOut s ∧ digitsOut s < 1000000 := by
  unfold digitsOut
  split
  · rename_i h
    have := valB_lt6 s h.2.2 (by have := within_iff.1 h.1; omega)
    omega
  · omega

set_option maxRecDepth 100000 in
set_option maxHeartbeats 1600000 in
theorem digits_any (s : List UInt8) (hs : s.length ≤ maxLen) (w : World) :
    Calls Tryd.prog 44 #[encStr s] w fun e w' => e = .returned (.int .i64 (digitsOut s)) ∧ w = w' := by
  have hm : s.length ≤ 9223372036854775807 := by simpa [maxLen] using hs
  have hsz : (⟨s.toArray⟩ : ByteArray).size = s.length := by show s.toArray.size = _; simp
  cases hw : within (s.length : Int) 1 6 with
  | false =>
    have HV := hid (show digitsOut s = -1 from by unfold digitsOut; rw [hw]; simp)
    go_enter Tryd.func44, Tryd.ntmps44
    go_wp2_with (go_at_call 37; refine (l1In_any _ _ _ _).mono ?_; rintro e w' ⟨rfl, rfl⟩)
    go_ret
    exact ⟨by rw [HV.out]; rfl, rfl⟩
  | true =>
    have hb := within_iff.1 hw
    have hl0 : 0 < s.length := by omega
    obtain ⟨b0, hb0⟩ : ∃ b, s[0] = b := ⟨_, rfl⟩
    have hh : s.head? = some b0 := by rw [← hb0, List.head?_eq_getElem?, List.getElem?_eq_getElem hl0]
    have hx0 : ∀ h : 0 < (⟨s.toArray⟩ : ByteArray).size, (⟨s.toArray⟩ : ByteArray)[0]'h = b0 := fun _ => hb0
    by_cases hz : 1 < s.length ∧ b0.toNat = 48
    · have h1 : (1 : Int) < (s.length : Int) := by omega
      have h2 : ((b0.toNat : Int) == 48) = true := by simp; omega
      have HV := hid (show digitsOut s = -1 from by
        unfold digitsOut
        rw [if_neg]
        rintro ⟨-, h | h, -⟩
        · omega
        · exact h (by rw [hh]; exact congrArg some (UInt8.toNat_inj.1 hz.2)))
      go_enter Tryd.func44, Tryd.ntmps44
      go_wp2_with (go_at_call 37; refine (l1In_any _ _ _ _).mono ?_; rintro e w' ⟨rfl, rfl⟩)
      go_ret
      exact ⟨by rw [HV.out]; rfl, rfl⟩
    · have HZ := hid (show s.length = 1 ∨ s.head? ≠ some 48 from by
        by_cases h1 : s.length = 1
        · exact .inl h1
        · refine .inr ?_
          rw [hh]
          intro h
          exact hz ⟨by omega, by rw [Option.some.inj h]; rfl⟩)
      by_cases h1 : 1 < (s.length : Int)
      · have h2 : ((b0.toNat : Int) == 48) = false := by simp; omega
        go_enter Tryd.func44, Tryd.ntmps44
        go_wp2_with (go_at_call 37; refine (l1In_any _ _ _ _).mono ?_; rintro e w' ⟨rfl, rfl⟩)
        go_loop [3, 4] (fun v i => ∃ k : Nat, k ≤ s.length ∧ i = .int .i64 k ∧ v = .int .i64 (valB (s.take k)) ∧ (s.take k).all isDig = true) (fun _ i => s.length - (intOf i).toNat)
        case atStart => exact ⟨0, Nat.zero_le _, rfl, rfl, rfl⟩
        case round =>
          obtain ⟨k, hk, rfl, rfl, hall⟩ := hrel
          have hv := valB_lt6 _ hall (by rw [List.length_take]; omega)
          have HA := hid hall; clear hall
          by_cases hlt : k < s.length
          · obtain ⟨b, hbk⟩ : ∃ b, s[k] = b := ⟨_, rfl⟩
            have hxk : ∀ h : k < (⟨s.toArray⟩ : ByteArray).size, (⟨s.toArray⟩ : ByteArray)[k]'h = b := fun _ => hbk
            have HT := hid (show s.take (k + 1) = s.take k ++ [b] from by rw [List.take_succ_eq_append_getElem hlt, hbk])
            have hlti : (k : Int) < (s.length : Int) := by omega
            have hk0 : (0 : Int) ≤ (k : Int) := by omega
            by_cases hd : 48 ≤ b.toNat ∧ b.toNat ≤ 57
            · obtain ⟨d, hd2⟩ : ∃ d : Nat, b.toNat = 48 + d := ⟨b.toNat - 48, by omega⟩
              obtain ⟨u, hu⟩ : ∃ u : Nat, valB (s.take k) = u := ⟨_, rfl⟩
              have HU := hid (show valB (s.take (k + 1)) = 10 * u + d from by rw [HT.out, valB_snoc, hu]; omega)
              have HA2 := hid (show (s.take (k + 1)).all isDig = true from by rw [HT.out, List.all_append, HA.out]; simp [isDig]; omega)
              have hdi : (b.toNat : Int) = 48 + (d : Int) := by omega
              have h1 : ¬ (48 + (d : Int) < 48) := by omega
              have h2 : ¬ (57 < 48 + (d : Int)) := by omega
              have w1 : IntKind.u8.wrap (48 + (d : Int) - 48) = (d : Int) := by rw [show 48 + (d : Int) - 48 = d by omega]; exact IntWalk.u8_in _ (by omega)
              have w2 : IntKind.i64.wrap (d : Int) = d := IntWalk.i64_in _ (by omega)
              have w3 : IntKind.i64.wrap (10 * (u : Int)) = 10 * (u : Int) := IntWalk.i64_in _ (by omega)
              have w4 : IntKind.i64.wrap (10 * (u : Int) + (d : Int)) = 10 * (u : Int) + (d : Int) := IntWalk.i64_in _ (by omega)
              rw [hu] at *
              go_wp2
              go_round
              case rel => exact ⟨k + 1, by omega, by go_num, by rw [HU.out]; push_cast; rfl, HA2.out⟩
              case measure => simp [intOf]; omega
            · have HF := hid (show digitsOut s = -1 from by
                unfold digitsOut
                rw [if_neg]
                rintro ⟨-, -, h⟩
                rw [List.all_eq_true] at h
                have := h b (by rw [← hbk]; exact List.getElem_mem _)
                simp only [isDig, decide_eq_true_eq] at this
                exact hd this)
              have hbi : ((b.toNat : Int) < 48) ∨ (¬ ((b.toNat : Int) < 48) ∧ (57 : Int) < b.toNat) := by omega
              rcases hbi with h1 | ⟨h1, h2⟩
              · go_wp2
                go_ret
                exact ⟨by rw [HF.out]; rfl, rfl⟩
              · go_wp2
                go_ret
                exact ⟨by rw [HF.out]; rfl, rfl⟩
          · obtain rfl : k = s.length := by omega
            have HF := hid (show digitsOut s = valB s from by
              unfold digitsOut
              rw [if_pos ⟨hw, HZ.out, by simpa using HA.out⟩])
            rw [List.take_length] at *
            go_wp2
            go_ret
            exact ⟨by rw [HF.out]; rfl, rfl⟩
      · go_enter Tryd.func44, Tryd.ntmps44
        go_wp2_with (go_at_call 37; refine (l1In_any _ _ _ _).mono ?_; rintro e w' ⟨rfl, rfl⟩)
        go_loop [3, 4] (fun v i => ∃ k : Nat, k ≤ s.length ∧ i = .int .i64 k ∧ v = .int .i64 (valB (s.take k)) ∧ (s.take k).all isDig = true) (fun _ i => s.length - (intOf i).toNat)
        case atStart => exact ⟨0, Nat.zero_le _, rfl, rfl, rfl⟩
        case round =>
          obtain ⟨k, hk, rfl, rfl, hall⟩ := hrel
          have hv := valB_lt6 _ hall (by rw [List.length_take]; omega)
          have HA := hid hall; clear hall
          by_cases hlt : k < s.length
          · obtain ⟨b, hbk⟩ : ∃ b, s[k] = b := ⟨_, rfl⟩
            have hxk : ∀ h : k < (⟨s.toArray⟩ : ByteArray).size, (⟨s.toArray⟩ : ByteArray)[k]'h = b := fun _ => hbk
            have HT := hid (show s.take (k + 1) = s.take k ++ [b] from by rw [List.take_succ_eq_append_getElem hlt, hbk])
            have hlti : (k : Int) < (s.length : Int) := by omega
            have hk0 : (0 : Int) ≤ (k : Int) := by omega
            by_cases hd : 48 ≤ b.toNat ∧ b.toNat ≤ 57
            · obtain ⟨d, hd2⟩ : ∃ d : Nat, b.toNat = 48 + d := ⟨b.toNat - 48, by omega⟩
              obtain ⟨u, hu⟩ : ∃ u : Nat, valB (s.take k) = u := ⟨_, rfl⟩
              have HU := hid (show valB (s.take (k + 1)) = 10 * u + d from by rw [HT.out, valB_snoc, hu]; omega)
              have HA2 := hid (show (s.take (k + 1)).all isDig = true from by rw [HT.out, List.all_append, HA.out]; simp [isDig]; omega)
              have hdi : (b.toNat : Int) = 48 + (d : Int) := by omega
              have h1 : ¬ (48 + (d : Int) < 48) := by omega
              have h2 : ¬ (57 < 48 + (d : Int)) := by omega
              have w1 : IntKind.u8.wrap (48 + (d : Int) - 48) = (d : Int) := by rw [show 48 + (d : Int) - 48 = d by omega]; exact IntWalk.u8_in _ (by omega)
              have w2 : IntKind.i64.wrap (d : Int) = d := IntWalk.i64_in _ (by omega)
              have w3 : IntKind.i64.wrap (10 * (u : Int)) = 10 * (u : Int) := IntWalk.i64_in _ (by omega)
              have w4 : IntKind.i64.wrap (10 * (u : Int) + (d : Int)) = 10 * (u : Int) + (d : Int) := IntWalk.i64_in _ (by omega)
              rw [hu] at *
              go_wp2
              go_round
              case rel => exact ⟨k + 1, by omega, by go_num, by rw [HU.out]; push_cast; rfl, HA2.out⟩
              case measure => simp [intOf]; omega
            · have HF := hid (show digitsOut s = -1 from by
                unfold digitsOut
                rw [if_neg]
                rintro ⟨-, -, h⟩
                rw [List.all_eq_true] at h
                have := h b (by rw [← hbk]; exact List.getElem_mem _)
                simp only [isDig, decide_eq_true_eq] at this
                exact hd this)
              have hbi : ((b.toNat : Int) < 48) ∨ (¬ ((b.toNat : Int) < 48) ∧ (57 : Int) < b.toNat) := by omega
              rcases hbi with h1 | ⟨h1, h2⟩
              · go_wp2
                go_ret
                exact ⟨by rw [HF.out]; rfl, rfl⟩
              · go_wp2
                go_ret
                exact ⟨by rw [HF.out]; rfl, rfl⟩
          · obtain rfl : k = s.length := by omega
            have HF := hid (show digitsOut s = valB s from by
              unfold digitsOut
              rw [if_pos ⟨hw, HZ.out, by simpa using HA.out⟩])
            rw [List.take_length] at *
            go_wp2
            go_ret
            exact ⟨by rw [HF.out]; rfl, rfl⟩
end Go.Proofs.YtkejcajboneniabDoor
