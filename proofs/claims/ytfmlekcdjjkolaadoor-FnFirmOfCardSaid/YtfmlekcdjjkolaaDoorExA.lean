/-
  The walk of laws.ascend on lists that ascend. No statement is proved here.
-/
import Derived.Test.YtfmlekcdjjkolaaDoorEx0
import Derived.IntWalk
namespace Go.Proofs.YtfmlekcdjjkolaaDoor
open Go.RowKit
set_option linter.unusedVariables false
set_option linter.unusedSimpArgs false

theorem asc_nth {l : List Int} (h : l.Pairwise (· < ·)) {j : Nat} (hj : j + 1 < l.length) : nth l j < nth l (j + 1) := by
  rw [nth_lt (by omega), nth_lt hj]
  exact List.pairwise_iff_getElem.1 h j (j + 1) (by omega) hj (by omega)

set_option maxHeartbeats 800000 in
theorem ascend_any (A : Option Addr) (n c : Nat) (l : List Int) (w : World) (B : Nat) (hs : Sl w B A n l) (ha : l.Pairwise (· < ·)) :
    Calls Tryd.prog 16 #[.slice A n c] w fun e w' => e = .returned (.bool true) ∧ Below w.heap.size w w' := by
  have hm := hs.max
  have HL := hid hs.len
  have HA := hid ha; clear ha
  go_enter Tryd.func16, Tryd.ntmps16
  go_wp2
  go_loopw [3] (fun i wr => ∃ j m : Nat, i = .int .i64 ((j : Int) + 1) ∧ j ≤ n ∧ wr = w.drewN m) (fun i _ => n + 1 - (intOf i).toNat)
  case atStart => exact ⟨0, 0, rfl, Nat.zero_le _, rfl⟩
  case round =>
    obtain ⟨j, m, rfl, hj, rfl⟩ := hrel
    by_cases hlt : j + 1 < n
    · obtain ⟨b, off, rfl, _, hc⟩ := hs.2.2 (by omega)
      have hc1 := hc j (by omega)
      have hc2 := hc (j + 1) hlt
      clear hc
      have hlti : ((j : Int) + 1) < (n : Int) := by omega
      have ha := asc_nth HA.out (j := j) (by rw [HL.out]; exact hlt)
      have had : decide (nth l (j + 1) ≤ nth l j) = false := by simp; omega
      have HX := hid ha; clear ha
      have e0 : ((j : Int) + 1).toNat = j + 1 := by omega
      have e2 : (0 : Int) ≤ (j : Int) + 1 := by omega
      have e1 : IntKind.i64.wrap ((j : Int) + 1 - 1) = (j : Int) := by rw [IntWalk.i64_in _ (by omega)]; omega
      go_wp2
      go_quiet (fail)
      go_wp2
      go_roundw
      case rel => exact ⟨j + 1, _, by go_num, by omega, rfl⟩
      case measure => simp [intOf]; omega
    · go_wp2
      go_ret
      exact ⟨rfl, below_drewN (Below.refl _ _) _⟩
end Go.Proofs.YtfmlekcdjjkolaaDoor
