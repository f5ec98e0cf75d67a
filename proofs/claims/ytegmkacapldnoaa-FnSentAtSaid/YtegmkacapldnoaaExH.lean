/-
  The walk of laws.hasInt. No statement is proved here.
-/
import Derived.Test.YtegmkacapldnoaaEx0
namespace Go.Proofs.Ytegmkacapldnoaa
open Go.RowKit
set_option linter.unusedVariables false
set_option linter.unusedSimpArgs false

set_option maxHeartbeats 800000 in
theorem hasInt_any (A : Option Addr) (n c : Nat) (l : List Int) (x : Int) (w : World) (B : Nat) (hs : Sl w B A n l) :
    Calls Try.prog 23 #[.slice A n c, .int .i64 x] w fun e w' => e = .returned (.bool (decide (x ∈ l))) ∧ Below w.heap.size w w' := by
  have hm := hs.max
  have HL := hid hs.len
  go_enter Try.func23, Try.ntmps23
  go_wp2
  go_loopw [5] (fun i wr => ∃ k : Nat, i = .int .i64 k ∧ k ≤ n ∧ wr = w ∧ Hid (x ∉ l.take k)) (fun i _ => n - (intOf i).toNat)
  case atStart => exact ⟨0, rfl, Nat.zero_le _, rfl, hid (by simp)⟩
  case round =>
    obtain ⟨k, rfl, hk, rfl, HX⟩ := hrel
    by_cases hlt : k < n
    · obtain ⟨b, off, rfl, _, hc⟩ := hs.2.2 (by omega)
      have hck := hc k hlt
      clear hc
      have hmem : nth l k ∈ l := by rw [nth_lt (by rw [HL.out]; exact hlt)]; exact List.getElem_mem _
      have HT := hid (take_nth (l := l) (k := k) (by rw [HL.out]; exact hlt))
      have HM := hid hmem
      clear hmem
      have hlti : (k : Int) < (n : Int) := by omega
      by_cases hx : nth l k = x
      · have HD := hid (show decide (x ∈ l) = true from decide_eq_true (hx ▸ HM.out))
        have hb : (nth l k == x) = true := by simp [hx]
        clear HM hx
        go_wp2
        go_ret
        exact ⟨ret_bool HD.out.symm, Below.refl _ _⟩
      · have hb : (nth l k == x) = false := by simp [hx]
        have HN := hid (show x ∉ l.take (k + 1) from by
          rw [HT.out]
          simp only [List.mem_append, List.mem_singleton, not_or]
          exact ⟨HX.out, fun h => hx h.symm⟩)
        clear hx HM
        go_wp2
        go_roundw
        case rel => exact ⟨k + 1, by go_num, by omega, by first | rfl | trivial, HN⟩
        case measure => simp [intOf]; omega
    · obtain rfl : k = n := by omega
      have HD := hid (show decide (x ∈ l) = false from by
        have h := HX.out
        rw [List.take_of_length_le (by rw [HL.out]; omega)] at h
        exact decide_eq_false h)
      go_wp2
      go_ret
      exact ⟨ret_bool HD.out.symm, Below.refl _ _⟩
end Go.Proofs.Ytegmkacapldnoaa
