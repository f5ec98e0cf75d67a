/-
  Texts put together: T12 T12c T12e T12a. No statement is proved here.
-/
import Derived.Test.YtkejcajboneniabGreatDoorQMa
import Derived.IntWalk
import Derived.Lib.MinMax
import Derived.Deep.RegionWith
import Derived.Sort.EncStr
import Derived.Laws.IdiomStrings
import Derived.Laws.DeepStrings4
import Derived.Laws.Concat
import Derived.BigQuiet
import Derived.Deep.QuietTactic
import Derived.Test.YtkejcajboneniabGreatDoorQMb
set_option linter.unusedVariables false
set_option linter.unusedSimpArgs false
namespace Go.Proofs.YtkejcajboneniabGreatDoor
open Go.RowKit

/-- A digit, as a byte. -/
def digB (n : Nat) : UInt8 := UInt8.ofNat (48 + n)
/-- A number's digits, as bytes. -/
def numB (n : Nat) : List UInt8 := if h : n < 10 then [digB n] else numB (n / 10) ++ [digB (n % 10)]
termination_by n
decreasing_by omega
theorem numB_lt {n : Nat} (h : n < 10) : numB n = [digB n] := by rw [numB, dif_pos h]
theorem numB_ge {n : Nat} (h : ¬ n < 10) : numB n = numB (n / 10) ++ [digB (n % 10)] := by rw [numB, dif_neg h]
theorem digit_nat {n : Nat} (h : n < 10) : (digB n).toNat = 48 + n := by
  unfold digB
  rw [UInt8.toNat_ofNat']
  omega
theorem numB_len : ∀ n : Nat, (numB n).length ≤ n + 1 := by
  intro n
  induction n using Nat.strongRecOn with
  | _ n ih =>
    by_cases h : n < 10
    · rw [numB_lt h]; simp
    · rw [numB_ge h, List.length_append]
      have := ih (n / 10) (by omega)
      simp
      omega
/-- '+' of two texts. -/
theorem cat_any (a b : List UInt8) (h : a.length + b.length ≤ 4000000000000000000) (W : World) : (Op.stringOp .add ⟨a.toArray⟩ ⟨b.toArray⟩).run Tryz.prog W = .ok (.string ⟨(a ++ b).toArray⟩) W := by
  have h1 := run_string_add_sum (P := Tryz.prog) (w := W) ⟨a.toArray⟩ ⟨b.toArray⟩ (by show a.toArray.size + b.toArray.size ≤ _; simp; omega)
  rw [show (⟨(a ++ b).toArray⟩ : ByteArray) = ⟨a.toArray⟩ ++ ⟨b.toArray⟩ from ByteArray.ext (by simp)]
  exact h1
/-- A slice of one byte that has just been made, as a string. -/
theorem conv_cell (W : World) (g n : Nat) (h : n < 10) (hc : W.cell? ⟨g, 0, none⟩ = some (.int .u8 (48 + (n : Int)))) :
    (convert 22 9 (.slice (some ⟨g, 0, none⟩) 1 1)).run Tryz.prog W = .ok (.string ⟨#[digB n]⟩) W := by
  have := run_convert_bytes_back (P := Tryz.prog) W 22 9 5 ⟨g, 0, none⟩ 1 [digB n] Tryz.underlying22 Tryz.underlying5 Tryz.underlying9
    (fun j hj => by
      obtain rfl : j = 0 := by simpa using hj
      rw [show (⟨g, 0, none⟩ : Addr).add 0 = ⟨g, 0, none⟩ from rfl, hc]
      have e := digit_nat h
      simp only [List.getElem_cons_zero, e]
      simp)
  simpa using this
theorem conv_digit (W : World) (n : Nat) (h : n < 10) :
    (convert 22 9 (.slice (some ⟨W.heap.size, 0, none⟩) 1 1)).run Tryz.prog (W.alloc (.cells #[.int .u8 (48 + (n : Int))] 5)) = .ok (.string ⟨#[digB n]⟩) (W.alloc (.cells #[.int .u8 (48 + (n : Int))] 5)) :=
  conv_cell _ _ n h (cell_of_row _ _ 0 _ _ _ (heap_alloc_new W _))

set_option maxRecDepth 100000 in
set_option maxHeartbeats 1600000 in
theorem number_small (n : Nat) (w : World) (h : n < 10) :
    Calls Tryz.prog 65 #[.int .i64 n] w fun e w' => e = .returned (encStr (numB n)) ∧ Below w.heap.size w w' := by
  have h1 : (n : Int) < 10 := by omega
  have h2 : max (n : Int) 0 = (n : Int) := by omega
  have hcv := fun W => conv_digit W n h
  rw [numB_lt h]
  go_enter Tryz.func65, Tryz.ntmps65
  go_wp2
  go_ret
  exact ⟨rfl, (Below.refl _ _).alloc (Nat.le_refl _) _⟩

set_option maxRecDepth 100000 in
set_option maxHeartbeats 1600000 in
theorem number_any (n : Nat) (hn : n ≤ 1000000000) (w : World) :
    Calls Tryz.prog 65 #[.int .i64 n] w fun e w' => e = .returned (encStr (numB n)) ∧ Below w.heap.size w w' := by
  by_cases h : n < 10
  · exact number_small n w h
  · have IH := hid (fun W : World => number_any (n / 10) (by omega) W)
    rw [numB_ge h]
    have hcv := fun W => conv_digit W (n % 10) (Nat.mod_lt _ (by omega))
    obtain ⟨q, hq⟩ : ∃ q, n / 10 = q := ⟨_, rfl⟩
    obtain ⟨r, hr⟩ : ∃ r, n % 10 = r := ⟨_, rfl⟩
    have m1 : (n : Int).tdiv 10 = (q : Int) := by rw [Int.tdiv_eq_ediv_of_nonneg (by omega), ← hq]; omega
    have m2 : (n : Int).tmod 10 = (r : Int) := by rw [Int.tmod_eq_emod_of_nonneg (by omega), ← hr]; omega
    have w1 : IntKind.i64.wrap (q : Int) = (q : Int) := IntWalk.i64_in _ (by omega)
    have w2 : IntKind.i64.wrap (r : Int) = (r : Int) := IntWalk.i64_in _ (by omega)
    have w3 : IntKind.i64.wrap (48 + (r : Int)) = 48 + (r : Int) := IntWalk.i64_in _ (by omega)
    have w8 : IntKind.u8.wrap (48 + (r : Int)) = 48 + (r : Int) := IntWalk.u8_in _ (by omega)
    have h1 : decide ((n : Int) < 10) = false := by simp; omega
    have h1' : ¬ (n : Int) < 10 := by omega
    have hct := fun W => cat_any (numB q) [digB r] (by have := numB_len q; simp; omega) W
    rw [hq] at IH
    rw [hr] at hcv
    rw [hq, hr]
    go_enter Tryz.func65, Tryz.ntmps65
    go_wp2
    have hr10 : r < 10 := by omega
    have HC5 := hid (fun (W : World) (hb : Below (w.alloc (.cells #[.int .u8 (48 + (r : Int))] 5)).drew.heap.size (w.alloc (.cells #[.int .u8 (48 + (r : Int))] 5)).drew W) => conv_cell W w.heap.size r hr10 (by
      have h5 : (w.alloc (.cells #[.int .u8 (48 + (r : Int))] 5)).drew.cell? ⟨w.heap.size, 0, none⟩ = some (.int .u8 (48 + (r : Int))) := cell_of_row _ _ 0 _ _ _ (heap_alloc_new w (.cells #[.int .u8 (48 + (r : Int))] 5))
      exact (hb.cell (p := ⟨w.heap.size, 0, none⟩) (by show w.heap.size < (w.alloc _).heap.size; simp)).trans h5))
    have hcv2 := HC5.out _ (Below.refl _ _)
    go_region_with (first
      | (go_at_call 65; with_reducible refine Calls.mono (IH.out (w.alloc (.cells #[.int .u8 (48 + (r : Int))] 5)).drew) ?_; rintro e w5 ⟨rfl, b5⟩; have hc5 := HC5.out _ b5)
      | (go_at_call 65; with_reducible refine Calls.mono (IH.out w.drew) ?_; rintro e w5 ⟨rfl, b5⟩))
    all_goals
      go_wp2
      go_ret
      first
        | exact ⟨rfl, ((Below.refl _ _).drew.trans (b5.mono (Nat.le_refl _))).alloc b5.size _⟩
        | exact ⟨rfl, ((Below.refl _ _).alloc (Nat.le_refl _) _).drew.trans (b5.mono (by show w.heap.size ≤ (w.alloc _).heap.size; simp))⟩
termination_by n
decreasing_by omega
end Go.Proofs.YtkejcajboneniabGreatDoor
namespace Go.Proofs.YtkejcajboneniabGreatDoor
open Go.RowKit

def isDig (b : UInt8) : Bool := decide (48 ≤ b.toNat ∧ b.toNat ≤ 57)
def stepD (n : Nat) (b : UInt8) : Nat := 10 * n + (b.toNat - 48)
def valB (s : List UInt8) : Nat := s.foldl stepD 0
theorem valB_snoc (s : List UInt8) (b : UInt8) : valB (s ++ [b]) = 10 * valB s + (b.toNat - 48) := by simp [valB, stepD]
theorem fold_lt : ∀ (s : List UInt8) (n : Nat), s.all isDig = true → s.foldl stepD n < (n + 1) * 10 ^ s.length
  | [], n, _ => by simp
  | b :: l, n, h => by
    rw [List.all_cons, Bool.and_eq_true] at h
    have h1 := fold_lt l (stepD n b) h.2
    have h2 := h.1
    simp only [isDig, decide_eq_true_eq] at h2
    rw [List.foldl_cons, List.length_cons, Nat.pow_succ]
    refine Nat.lt_of_lt_of_le h1 ?_
    rw [show (n + 1) * (10 ^ l.length * 10) = ((n + 1) * 10) * 10 ^ l.length by rw [Nat.mul_assoc, Nat.mul_comm 10 _]]
    exact Nat.mul_le_mul_right _ (by unfold stepD; omega)
theorem valB_lt (s : List UInt8) (h : s.all isDig = true) : valB s < 10 ^ s.length := by
  have := fold_lt s 0 h
  simpa [valB] using this
theorem valB_lt6 (s : List UInt8) (h : s.all isDig = true) (hl : s.length ≤ 6) : valB s < 1000000 :=
  Nat.lt_of_lt_of_le (valB_lt s h) (Nat.le_trans (Nat.pow_le_pow_right (by decide) hl) (by decide))
/-- What l1Digits tells. -/
def digitsOut (s : List UInt8) : Int :=
  if within (s.length : Int) 1 6 = true ∧ (s.length = 1 ∨ s.head? ≠ some 48) ∧ s.all isDig = true then (valB s : Int) else -1
theorem digitsOut_le (s : List UInt8) : -1 ≤ digitsOut s ∧ digitsOut s < 1000000 := by
  unfold digitsOut
  split
  · rename_i h
    have := valB_lt6 s h.2.2 (by have := within_iff.1 h.1; omega)
    omega
  · omega

set_option maxRecDepth 100000 in
set_option maxHeartbeats 1600000 in
theorem digits_any (s : List UInt8) (hs : s.length ≤ maxLen) (w : World) :
    Calls Tryz.prog 74 #[encStr s] w fun e w' => e = .returned (.int .i64 (digitsOut s)) ∧ w = w' := by
  have hm : s.length ≤ 9223372036854775807 := by simpa [maxLen] using hs
  have hsz : (⟨s.toArray⟩ : ByteArray).size = s.length := by show s.toArray.size = _; simp
  cases hw : within (s.length : Int) 1 6 with
  | false =>
    have HV := hid (show digitsOut s = -1 from by unfold digitsOut; rw [hw]; simp)
    go_enter Tryz.func74, Tryz.ntmps74
    go_wp2_with (go_at_call 97; refine (l1In_any _ _ _ _).mono ?_; rintro e w' ⟨rfl, rfl⟩)
    go_ret
    exact ⟨by rw [HV.out]; rfl, rfl⟩
  | true =>
    have hb := within_iff.1 hw
    have hl0 : 0 < s.length := by omega
    obtain ⟨b0, hb0⟩ : ∃ b, s[0] = b := ⟨_, rfl⟩
    have hh : s.head? = some b0 := by rw [← hb0, List.head?_eq_getElem?, List.getElem?_eq_getElem hl0]
    have hx0 : ∀ h : 0 < (⟨s.toArray⟩ : ByteArray).size, (⟨s.toArray⟩ : ByteArray)[0]'h = b0 := fun _ => hb0
    by_cases hz : 1 < s.length ∧ b0.toNat = 48
    · have h1 : (1 : Int) < (s.length : Int) := by omega
      have h2 : ((b0.toNat : Int) == 48) = true := by simp; omega
      have HV := hid (show digitsOut s = -1 from by
        unfold digitsOut
        rw [if_neg]
        rintro ⟨-, h | h, -⟩
        · omega
        · exact h (by rw [hh]; exact congrArg some (UInt8.toNat_inj.1 hz.2)))
      go_enter Tryz.func74, Tryz.ntmps74
      go_wp2_with (go_at_call 97; refine (l1In_any _ _ _ _).mono ?_; rintro e w' ⟨rfl, rfl⟩)
      go_ret
      exact ⟨by rw [HV.out]; rfl, rfl⟩
    · have HZ := hid (show s.length = 1 ∨ s.head? ≠ some 48 from by
        by_cases h1 : s.length = 1
        · exact .inl h1
        · refine .inr ?_
          rw [hh]
          intro h
          exact hz ⟨by omega, by rw [Option.some.inj h]; rfl⟩)
      by_cases h1 : 1 < (s.length : Int)
      · have h2 : ((b0.toNat : Int) == 48) = false := by simp; omega
        go_enter Tryz.func74, Tryz.ntmps74
        go_wp2_with (go_at_call 97; refine (l1In_any _ _ _ _).mono ?_; rintro e w' ⟨rfl, rfl⟩)
        go_loop [3, 4] (fun v i => ∃ k : Nat, k ≤ s.length ∧ i = .int .i64 k ∧ v = .int .i64 (valB (s.take k)) ∧ (s.take k).all isDig = true) (fun _ i => s.length - (intOf i).toNat)
        case atStart => exact ⟨0, Nat.zero_le _, rfl, rfl, rfl⟩
        case round =>
          obtain ⟨k, hk, rfl, rfl, hall⟩ := hrel
          have hv := valB_lt6 _ hall (by rw [List.length_take]; omega)
          have HA := hid hall; clear hall
          by_cases hlt : k < s.length
          · obtain ⟨b, hbk⟩ : ∃ b, s[k] = b := ⟨_, rfl⟩
            have hxk : ∀ h : k < (⟨s.toArray⟩ : ByteArray).size, (⟨s.toArray⟩ : ByteArray)[k]'h = b := fun _ => hbk
            have HT := hid (show s.take (k + 1) = s.take k ++ [b] from by rw [List.take_succ_eq_append_getElem hlt, hbk])
            have hlti : (k : Int) < (s.length : Int) := by omega
            have hk0 : (0 : Int) ≤ (k : Int) := by omega
            by_cases hd : 48 ≤ b.toNat ∧ b.toNat ≤ 57
            · obtain ⟨d, hd2⟩ : ∃ d : Nat, b.toNat = 48 + d := ⟨b.toNat - 48, by omega⟩
              obtain ⟨u, hu⟩ : ∃ u : Nat, valB (s.take k) = u := ⟨_, rfl⟩
              have HU := hid (show valB (s.take (k + 1)) = 10 * u + d from by rw [HT.out, valB_snoc, hu]; omega)
              have HA2 := hid (show (s.take (k + 1)).all isDig = true from by rw [HT.out, List.all_append, HA.out]; simp [isDig]; omega)
              have hdi : (b.toNat : Int) = 48 + (d : Int) := by omega
              have h1 : ¬ (48 + (d : Int) < 48) := by omega
              have h2 : ¬ (57 < 48 + (d : Int)) := by omega
              have w1 : IntKind.u8.wrap (48 + (d : Int) - 48) = (d : Int) := by rw [show 48 + (d : Int) - 48 = d by omega]; exact IntWalk.u8_in _ (by omega)
              have w2 : IntKind.i64.wrap (d : Int) = d := IntWalk.i64_in _ (by omega)
              have w3 : IntKind.i64.wrap (10 * (u : Int)) = 10 * (u : Int) := IntWalk.i64_in _ (by omega)
              have w4 : IntKind.i64.wrap (10 * (u : Int) + (d : Int)) = 10 * (u : Int) + (d : Int) := IntWalk.i64_in _ (by omega)
              rw [hu] at *
              go_wp2
              go_round
              case rel => exact ⟨k + 1, by omega, by go_num, by rw [HU.out]; push_cast; rfl, HA2.out⟩
              case measure => simp [intOf]; omega
            · have HF := hid (show digitsOut s = -1 from by
                unfold digitsOut
                rw [if_neg]
                rintro ⟨-, -, h⟩
                rw [List.all_eq_true] at h
                have := h b (by rw [← hbk]; exact List.getElem_mem _)
                simp only [isDig, decide_eq_true_eq] at this
                exact hd this)
              have hbi : ((b.toNat : Int) < 48) ∨ (¬ ((b.toNat : Int) < 48) ∧ (57 : Int) < b.toNat) := by omega
              rcases hbi with h1 | ⟨h1, h2⟩
              · go_wp2
                go_ret
                exact ⟨by rw [HF.out]; rfl, rfl⟩
              · go_wp2
                go_ret
                exact ⟨by rw [HF.out]; rfl, rfl⟩
          · obtain rfl : k = s.length := by omega
            have HF := hid (show digitsOut s = valB s from by
              unfold digitsOut
              rw [if_pos ⟨hw, HZ.out, by simpa using HA.out⟩])
            rw [List.take_length] at *
            go_wp2
            go_ret
            exact ⟨by rw [HF.out]; rfl, rfl⟩
      · go_enter Tryz.func74, Tryz.ntmps74
        go_wp2_with (go_at_call 97; refine (l1In_any _ _ _ _).mono ?_; rintro e w' ⟨rfl, rfl⟩)
        go_loop [3, 4] (fun v i => ∃ k : Nat, k ≤ s.length ∧ i = .int .i64 k ∧ v = .int .i64 (valB (s.take k)) ∧ (s.take k).all isDig = true) (fun _ i => s.length - (intOf i).toNat)
        case atStart => exact ⟨0, Nat.zero_le _, rfl, rfl, rfl⟩
        case round =>
          obtain ⟨k, hk, rfl, rfl, hall⟩ := hrel
          have hv := valB_lt6 _ hall (by rw [List.length_take]; omega)
          have HA := hid hall; clear hall
          by_cases hlt : k < s.length
          · obtain ⟨b, hbk⟩ : ∃ b, s[k] = b := ⟨_, rfl⟩
            have hxk : ∀ h : k < (⟨s.toArray⟩ : ByteArray).size, (⟨s.toArray⟩ : ByteArray)[k]'h = b := fun _ => hbk
            have HT := hid (show s.take (k + 1) = s.take k ++ [b] from by rw [List.take_succ_eq_append_getElem hlt, hbk])
            have hlti : (k : Int) < (s.length : Int) := by omega
            have hk0 : (0 : Int) ≤ (k : Int) := by omega
            by_cases hd : 48 ≤ b.toNat ∧ b.toNat ≤ 57
            · obtain ⟨d, hd2⟩ : ∃ d : Nat, b.toNat = 48 + d := ⟨b.toNat - 48, by omega⟩
              obtain ⟨u, hu⟩ : ∃ u : Nat, valB (s.take k) = u := ⟨_, rfl⟩
              have HU := hid (show valB (s.take (k + 1)) = 10 * u + d from by rw [HT.out, valB_snoc, hu]; omega)
              have HA2 := hid (show (s.take (k + 1)).all isDig = true from by rw [HT.out, List.all_append, HA.out]; simp [isDig]; omega)
              have hdi : (b.toNat : Int) = 48 + (d : Int) := by omega
              have h1 : ¬ (48 + (d : Int) < 48) := by omega
              have h2 : ¬ (57 < 48 + (d : Int)) := by omega
              have w1 : IntKind.u8.wrap (48 + (d : Int) - 48) = (d : Int) := by rw [show 48 + (d : Int) - 48 = d by omega]; exact IntWalk.u8_in _ (by omega)
              have w2 : IntKind.i64.wrap (d : Int) = d := IntWalk.i64_in _ (by omega)
              have w3 : IntKind.i64.wrap (10 * (u : Int)) = 10 * (u : Int) := IntWalk.i64_in _ (by omega)
              have w4 : IntKind.i64.wrap (10 * (u : Int) + (d : Int)) = 10 * (u : Int) + (d : Int) := IntWalk.i64_in _ (by omega)
              rw [hu] at *
              go_wp2
              go_round
              case rel => exact ⟨k + 1, by omega, by go_num, by rw [HU.out]; push_cast; rfl, HA2.out⟩
              case measure => simp [intOf]; omega
            · have HF := hid (show digitsOut s = -1 from by
                unfold digitsOut
                rw [if_neg]
                rintro ⟨-, -, h⟩
                rw [List.all_eq_true] at h
                have := h b (by rw [← hbk]; exact List.getElem_mem _)
                simp only [isDig, decide_eq_true_eq] at this
                exact hd this)
              have hbi : ((b.toNat : Int) < 48) ∨ (¬ ((b.toNat : Int) < 48) ∧ (57 : Int) < b.toNat) := by omega
              rcases hbi with h1 | ⟨h1, h2⟩
              · go_wp2
                go_ret
                exact ⟨by rw [HF.out]; rfl, rfl⟩
              · go_wp2
                go_ret
                exact ⟨by rw [HF.out]; rfl, rfl⟩
          · obtain rfl : k = s.length := by omega
            have HF := hid (show digitsOut s = valB s from by
              unfold digitsOut
              rw [if_pos ⟨hw, HZ.out, by simpa using HA.out⟩])
            rw [List.take_length] at *
            go_wp2
            go_ret
            exact ⟨by rw [HF.out]; rfl, rfl⟩
end Go.Proofs.YtkejcajboneniabGreatDoor
namespace Go.Proofs.YtkejcajboneniabGreatDoor
open Go.RowKit

/-- Byte k of a text. -/
def bat (s : List UInt8) (k : Nat) : UInt8 := s.getD k 0
theorem bat_lt {s : List UInt8} {k : Nat} (h : k < s.length) : s[k] = bat s k := by simp [bat, List.getD, h]
/-- The bytes i up to j. -/
def sub (s : List UInt8) (i j : Nat) : List UInt8 := (s.take j).drop i
/-- Where the last piece of the first k bytes begins, and the pieces before. -/
def cutF (s : List UInt8) (p : UInt8) : Nat → Nat
  | 0 => 0
  | k + 1 => if bat s k = p then k + 1 else cutF s p k
def cutD (s : List UInt8) (p : UInt8) : Nat → List (List UInt8)
  | 0 => []
  | k + 1 => if bat s k = p then cutD s p k ++ [sub s (cutF s p k) k] else cutD s p k
/-- What l1Cut gives. -/
def cutB (s : List UInt8) (p : UInt8) : List (List UInt8) := cutD s p s.length ++ [sub s (cutF s p s.length) s.length]
theorem cutF_le (s : List UInt8) (p : UInt8) : ∀ k, cutF s p k ≤ k
  | 0 => Nat.le_refl _
  | k + 1 => by
    have := cutF_le s p k
    unfold cutF
    split <;> omega
theorem cutD_len (s : List UInt8) (p : UInt8) : ∀ k, (cutD s p k).length ≤ k
  | 0 => Nat.le_refl _
  | k + 1 => by
    have := cutD_len s p k
    unfold cutD
    split <;> simp <;> omega
theorem sub_len (s : List UInt8) (i j : Nat) : (sub s i j).length ≤ s.length := by simp only [sub, List.length_drop, List.length_take]; omega
/-- Texts as values. -/
def strs (l : List (List UInt8)) : List Value := l.map encStr
theorem extract_sub (s : List UInt8) (i j : Nat) : (⟨s.toArray⟩ : ByteArray).extract i j = ⟨(sub s i j).toArray⟩ := by
  apply ByteArray.ext
  rw [ByteArray.data_extract]
  simp [sub, List.drop_take]
theorem sub_str (s : List UInt8) (i j : Nat) : Value.string ((⟨s.toArray⟩ : ByteArray).extract i j) = encStr (sub s i j) := by rw [extract_sub]
theorem info_str : (Tryz.prog.info? 9).map (fun i => (i.zero, i.size, i.bytes)) = some (some (encStr []), 1, 16) := by kernel_rfl
theorem grew {w w1 w2 : World} {B : Nat} {v : Value} {o : Obj} (hg : Below w.heap.size w w1) (hB : w.heap.size ≤ B) (hv : v.ownBlock = none ∨ ∃ k, v.ownBlock = some k ∧ B ≤ k) (hg2 : (w1.alloc o).grownBy w2 v.ownBlock) :
    Below w.heap.size w w2 := by
  refine (hg.alloc hg.size _).grown hg2 (by have := hg.size; simp; omega) ?_
  intro k hk
  rcases hv with hv | ⟨k', hv, hk'⟩
  · rw [hv] at hk; cases hk
  · rw [hv] at hk; cases hk; omega

set_option maxRecDepth 100000 in
set_option maxHeartbeats 1600000 in
theorem cut_any (s : List UInt8) (p : UInt8) (hn : s.length ≤ 10000000) (w : World) :
    Calls Tryz.prog 73 #[encStr s, .int .u8 p.toNat] w fun e w' => ∃ A m c, e = .returned (.slice A m c) ∧ w'.ownsRow w.heap.size 9 1 (.slice A m c) m (strs (cutB s p)) ∧ Below w.heap.size w w' := by
  obtain ⟨i0, hi, hz0, hz1, hz2⟩ := info_parts info_str
  have hsz : (⟨s.toArray⟩ : ByteArray).size = s.length := by show s.toArray.size = _; simp
  have ho0 : (w.alloc (.cells #[] 9)).ownsRow w.heap.size 9 1 (.slice (some ⟨w.heap.size, 0, none⟩) 0 0) 0 (strs (cutD s p 0)) := World.ownsRow_lit w #[] 0 (Nat.le_refl _) (by simp [maxLen]) rfl
  have hb0 : Below w.heap.size w (w.alloc (.cells #[] 9)) := (Below.refl _ _).alloc (Nat.le_refl _) _
  go_enter Tryz.func73, Tryz.ntmps73
  go_wp2
  go_loopw [5, 6, 7] (fun v f i wr => ∃ (A1 : Option Addr) (m c1 k : Nat), v = .slice A1 m c1 ∧ f = .int .i64 (cutF s p k) ∧ i = .int .i64 k ∧ k ≤ s.length ∧ m = (cutD s p k).length ∧ wr.ownsRow w.heap.size 9 1 (.slice A1 m c1) m (strs (cutD s p k)) ∧ Hid (Below w.heap.size w wr)) (fun _ _ i _ => s.length - (intOf i).toNat)
  case atStart => exact ⟨_, 0, _, 0, rfl, rfl, rfl, Nat.zero_le _, rfl, ho0, hid hb0⟩
  case round =>
    clear ho0 hb0
    obtain ⟨A1, m, c1, k, rfl, rfl, rfl, hk, hm, ho, HB⟩ := hrel
    have hf := cutF_le s p k
    have hml := cutD_len s p k
    rw [← hm] at hml
    have HM := hid hm
    clear hm
    by_cases hlt : k < s.length
    · have hlti : (k : Int) < (s.length : Int) := by omega
      have hk0 : (0 : Int) ≤ (k : Int) := by omega
      have hxk : ∀ h : k < (⟨s.toArray⟩ : ByteArray).size, (⟨s.toArray⟩ : ByteArray)[k]'h = bat s k := fun _ => bat_lt hlt
      by_cases hp : bat s k = p
      · have hq : (((bat s k).toNat : Int) == (p.toNat : Int)) = true := by rw [hp]; simp
        have HF := hid (show cutF s p (k + 1) = k + 1 from by rw [cutF, if_pos hp])
        have HD := hid (show cutD s p (k + 1) = cutD s p k ++ [sub s (cutF s p k) k] from by rw [cutD, if_pos hp])
        obtain ⟨f, hf2⟩ : ∃ f, cutF s p k = f := ⟨_, rfl⟩
        rw [hf2] at hf HD ⊢
        have hfi : (f : Int) ≤ (k : Int) := by omega
        have hf0 : (0 : Int) ≤ (f : Int) := by omega
        have hki : (k : Int) ≤ (s.length : Int) := by omega
        have hsub := sub_str s f k
        have hv := own_blk ho
        go_wp2_with (at_builtin; refine wpList_append_own _ rfl _ _ 53 rfl w.heap.size 9 i0 (encStr []) 1 16 Tryz.underlying53 hi hz0 hz1 hz2 rfl (by decide) (.slice A1 m c1) _ _ rfl (ho.alloc _) ⟨wr.heap.size, 0, none⟩ 1 1 [encStr (sub s f k)] rfl rfl (cells_new _ [encStr (sub s f k)] _) (by simp [Value.oneCell']) (by simp only [maxLen]; omega) (by omega) (by have := HB.out.size; simp; omega) ?_; intro v2 w2 o2 g2 _)
        obtain ⟨g, c2, rfl, hbg, hlt2⟩ := own_shape1 o2 (by omega)
        have B2 := hid (grew HB.out (Nat.le_refl _) hv g2)
        have O2 := hid (show w2.ownsRow w.heap.size 9 1 (.slice (some ⟨g, 0, none⟩) (m + 1) c2) (m + 1) (strs (cutD s p (k + 1))) from by rw [HD.out]; simpa [strs] using o2)
        go_roundw
        case rel => exact ⟨_, m + 1, c2, k + 1, rfl, by rw [HF.out]; go_num, by go_num, by omega, by rw [HD.out, HM.out]; simp, O2.out, B2⟩
        case measure => simp [intOf]; omega
      · have hq : (((bat s k).toNat : Int) == (p.toNat : Int)) = false := by
          have : (bat s k).toNat ≠ p.toNat := fun h => hp (UInt8.toNat_inj.1 h)
          simp; omega
        have HF := hid (show cutF s p (k + 1) = cutF s p k from by rw [cutF, if_neg hp])
        have HD := hid (show cutD s p (k + 1) = cutD s p k from by rw [cutD, if_neg hp])
        have HO := hid ho
        go_wp2
        go_roundw
        case rel => exact ⟨A1, m, c1, k + 1, rfl, by rw [HF.out], by go_num, by omega, by rw [HD.out, HM.out], by rw [HD.out]; exact HO.out, HB⟩
        case measure => simp [intOf]; omega
    · obtain rfl : k = s.length := by omega
      obtain ⟨f, hf2⟩ : ∃ f, cutF s p s.length = f := ⟨_, rfl⟩
      have HC := hid (show cutB s p = cutD s p s.length ++ [sub s f s.length] from by unfold cutB; rw [hf2])
      rw [hf2] at hf ⊢
      have hfi : (f : Int) ≤ (s.length : Int) := by omega
      have hf0 : (0 : Int) ≤ (f : Int) := by omega
      have hsub := sub_str s f s.length
      have hv := own_blk ho
      go_wp2_with (at_builtin; refine wpList_append_own _ rfl _ _ 53 rfl w.heap.size 9 i0 (encStr []) 1 16 Tryz.underlying53 hi hz0 hz1 hz2 rfl (by decide) (.slice A1 m c1) _ _ rfl (ho.alloc _) ⟨wr.heap.size, 0, none⟩ 1 1 [encStr (sub s f s.length)] rfl rfl (cells_new _ [encStr (sub s f s.length)] _) (by simp [Value.oneCell']) (by simp only [maxLen]; omega) (by omega) (by have := HB.out.size; simp; omega) ?_; intro v2 w2 o2 g2 _)
      obtain ⟨g, c2, rfl, hbg, hlt2⟩ := own_shape1 o2 (by omega)
      have B2 := hid (grew HB.out (Nat.le_refl _) hv g2)
      have O2 := hid (show w2.ownsRow w.heap.size 9 1 (.slice (some ⟨g, 0, none⟩) (m + 1) c2) (m + 1) (strs (cutB s p)) from by rw [HC.out]; simpa [strs] using o2)
      go_ret
      exact ⟨_, _, _, rfl, O2.out, B2.out⟩
end Go.Proofs.YtkejcajboneniabGreatDoor
namespace Go.Proofs.YtkejcajboneniabGreatDoor
open Go.RowKit

/-- A ring's digits. -/
def rowB (l : List Int) : List UInt8 := l.map fun x => digB x.toNat
def rowTextOut (l : List Int) : List UInt8 := if bitsOk l = true then rowB l else []
theorem rowB_len (l : List Int) : (rowB l).length = l.length := by simp [rowB]
theorem rowB_take {l : List Int} {k : Nat} (h : k < l.length) : rowB (l.take (k + 1)) = rowB (l.take k) ++ [digB (nth l k).toNat] := by rw [take_nth h]; simp [rowB]

set_option maxRecDepth 100000 in
set_option maxHeartbeats 1600000 in
theorem specRowText_any (A : Option Addr) (n c : Nat) (l : List Int) (w : World) (hs : Sl w w.heap.size A n l) :
    Calls Tryz.prog 64 #[.slice A n c] w fun e w' => e = .returned (encStr (rowTextOut l)) ∧ Below w.heap.size w w' := by
  have HL := hid hs.len
  have hm := hs.max
  have CK := hid (fun (W : World) (hW : Below w.heap.size w W) => specBitsOk_any A n c l W _ (hs.below hW))
  cases hok : bitsOk l with
  | false =>
    have HV := hid (show rowTextOut l = [] from by unfold rowTextOut; rw [hok]; rfl)
    rw [hok] at CK
    clear hok
    by_cases hn0 : 0 < n
    · have d1 : (0 : Int) < (n : Int) := by omega
      go_enter Tryz.func64, Tryz.ntmps64
      go_wp2
      go_loop [3, 4] (fun v i => v = .string ⟨#[]⟩ ∧ i = .int .i64 0) (fun _ _ => 0)
      case atStart => exact ⟨rfl, rfl⟩
      case round =>
        obtain ⟨rfl, rfl⟩ := hrel
        go_wp2_with (go_at_call 50; with_reducible refine Calls.mono (CK.out _ (Below.refl _ _)) ?_; rintro e w' ⟨rfl, rfl⟩)
        go_ret
        exact ⟨by rw [HV.out]; rfl, Below.refl _ _⟩
    · obtain rfl : n = 0 := by omega
      go_enter Tryz.func64, Tryz.ntmps64
      go_wp2
      go_loop [3, 4] (fun v i => v = .string ⟨#[]⟩ ∧ i = .int .i64 0) (fun _ _ => 0)
      case atStart => exact ⟨rfl, rfl⟩
      case round =>
        obtain ⟨rfl, rfl⟩ := hrel
        go_wp2
        go_ret
        exact ⟨by rw [HV.out]; rfl, Below.refl _ _⟩
  | true =>
    obtain ⟨hb, h1, h2⟩ := bitsOk_iff.1 hok
    have HV := hid (show rowTextOut l = rowB l from by unfold rowTextOut; rw [if_pos hok])
    have HX := hid (fun k => bit_nth hb k)
    rw [HL.out] at h1 h2
    rw [hok] at CK
    obtain ⟨b, off, rfl, hbS, hc⟩ := hs.2.2 (by omega)
    have HC := hid hc
    clear hok hb hc hs
    go_enter Tryz.func64, Tryz.ntmps64
    go_wp2
    go_loopw [3, 4] (fun v i wr => ∃ k : Nat, v = .string ⟨(rowB (l.take k)).toArray⟩ ∧ i = .int .i64 k ∧ k ≤ n ∧ Hid (Below w.heap.size w wr)) (fun _ i _ => n - (intOf i).toNat)
    case atStart => exact ⟨0, rfl, rfl, Nat.zero_le _, hid (Below.refl _ _)⟩
    case round =>
      obtain ⟨k, rfl, rfl, hk, HB⟩ := hrel
      by_cases hlt : k < n
      · have x0 := (HB.out.cell (p := ⟨b, off + k, none⟩) hbS).trans (HC.out k hlt)
        have b0 := HX.out k
        have HT := hid (rowB_take (l := l) (k := k) (by rw [HL.out]; exact hlt))
        obtain ⟨x, hx⟩ : ∃ x, nth l k = x := ⟨_, rfl⟩
        rw [hx] at x0 b0 HT
        obtain ⟨q, rfl⟩ : ∃ q : Nat, x = q := Int.eq_ofNat_of_zero_le (by omega)
        rw [Int.toNat_natCast] at HT
        have hlti : (k : Int) < (n : Int) := by omega
        have hct := fun W => cat_any (rowB (l.take k)) [digB q] (by rw [rowB_len, List.length_take]; simp; omega) W
        rw [← HT.out] at hct
        have CN := hid (number_any q (by omega) wr)
        rw [numB_lt (show q < 10 by omega)] at CN
        clear hx
        go_wp2_with (first | (go_at_call 50; with_reducible refine Calls.mono (CK.out _ HB.out) ?_; rintro e w' ⟨rfl, rfl⟩) | (go_at_call 65; with_reducible refine Calls.mono CN.out ?_; rintro e w5 ⟨rfl, b5⟩))
        have B5 := hid (HB.out.trans (b5.mono HB.out.size))
        go_roundw
        case rel => exact ⟨k + 1, rfl, by go_num, by omega, B5⟩
        case measure => simp [intOf]; omega
      · obtain rfl : k = n := by omega
        have HT := hid (show l.take k = l from List.take_of_length_le (by rw [HL.out]; omega))
        go_wp2
        go_ret
        exact ⟨by rw [HV.out, HT.out]; rfl, HB.out⟩
end Go.Proofs.YtkejcajboneniabGreatDoor
