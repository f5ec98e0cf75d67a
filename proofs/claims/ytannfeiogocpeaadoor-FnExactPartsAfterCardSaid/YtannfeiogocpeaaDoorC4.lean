/-
  The walk of the model's RoundsOf. No statement is proved here.
-/
import Derived.Test.YtannfeiogocpeaaDoorC1a
import Derived.Test.YtannfeiogocpeaaDoorEx0
import Derived.Test.YtannfeiogocpeaaDoorS4
import Derived.OwnWalk
namespace Go.Proofs.YtannfeiogocpeaaDoor
open Go.RowKit
set_option linter.unusedVariables false
set_option linter.unusedSimpArgs false

set_option maxHeartbeats 1600000 in
theorem specRoundsOf_any (n : Int) (w : World) (hw : (Lit.int .i64 n).wf = true) :
    Calls Tryd.prog 31 #[.int .i64 n] w fun r w' => ∃ A2 m c2, r = .returned (.slice A2 m c2) ∧ w'.ownsRow w.heap.size 3 1 (.slice A2 m c2) m (ints (roundsOut n)) ∧ m ≤ 6 ∧ Below w.heap.size w w' := by
  obtain ⟨i0, hi, hz0, hz1, hz2⟩ := info_parts info_int
  have ho0 : (w.alloc (.cells #[] 3)).ownsRow w.heap.size 3 1 (.slice (some ⟨w.heap.size, 0, none⟩) 0 0) 0 (ints []) := World.ownsRow_lit w #[] 0 (Nat.le_refl _) (by simp [maxLen]) rfl
  have hb0 : Below w.heap.size w (w.alloc (.cells #[] 3)) := (Below.refl _ _).alloc (Nat.le_refl _) _
  have hn := bounds_i64 hw
  by_cases hok : 1 ≤ n ∧ n ≤ 40
  · obtain ⟨N, rfl⟩ : ∃ N : Nat, n = N := Int.eq_ofNat_of_zero_le (by omega)
    have HR := hid (show roundsOut (N : Int) = roundsN N from roundsOut_yes hok)
    have hN : N ≤ 40 := by omega
    have hn40 : (N : Int) ≤ 40 := by omega
    go_enter Tryd.func31, Tryd.ntmps31
    go_wp2_with fail
    go_loopw [3, 4] (fun v kk wr => ∃ (A : Option Addr) (i c m : Nat) (l : List Int), v = .slice A i c ∧ kk = .int .i64 m ∧ 1 ≤ m ∧ m ≤ N ∧ Hid (l ++ roundsN m = roundsN N) ∧ i ≤ 6 ∧ wr.ownsRow w.heap.size 3 1 (.slice A i c) i (ints l) ∧ Below w.heap.size w wr) (fun _ kk _ => (intOf kk).toNat)
    case atStart => exact ⟨_, 0, 0, N, [], rfl, rfl, by omega, Nat.le_refl _, hid rfl, by omega, ho0, hb0⟩
    case round =>
      clear ho0 hb0
      obtain ⟨A, i, c, m, l, rfl, rfl, hm1, hm2, HL, hi6, hown, hb⟩ := hrel
      have hsz := hb.size
      by_cases hlt : 2 ≤ m
      · have hst := roundsN_step m (by omega) hlt
        have HS := hid (show (l ++ [(m : Int)]) ++ roundsN ((m + 1) / 2) = roundsN N from by rw [← HL.out, hst]; simp)
        have hil : i + 1 ≤ 6 := by
          have h1 := roundsN_len N hN
          have h2 := hown.1
          rw [← HL.out, hst] at h1
          simp at h1 h2
          omega
        clear hst
        have hlt1 : (1 : Int) < (m : Int) := by omega
        have hdiv : ((m : Int) + 1) / 2 = (((m + 1) / 2 : Nat) : Int) := by omega
        have HD := hid hdiv; clear hdiv
        go_wp2_with (at_builtin; refine wpList_append_own _ rfl (.tmp 16) (.tmp 18) 29 rfl w.heap.size 3 i0 (.int .i64 0) 1 8 Tryd.underlying29 hi hz0 hz1 hz2 rfl (by decide) (.slice A i c) _ _ rfl (hown.alloc _) ⟨wr.heap.size, 0, none⟩ 1 1 [.int .i64 m] rfl rfl (cell_one_new _ _ _) (by simp [Value.oneCell']) (by simp only [maxLen]; omega) (by omega) (by simp; omega) ?_; intro v2 w4 hown4 hgrow4 _)
        obtain ⟨g2, c2, rfl, _, _⟩ := own_shape hown4
        have hb4 := (hb.trans ((Below.refl wr.heap.size wr).alloc (Nat.le_refl _) (.cells #[.int .i64 m] 3) |>.mono hsz)).grown hgrow4 (by simp; omega) (own_lo hown)
        have HN := hid hown4
        clear hown4 hgrow4 hown
        go_wp2
        go_roundw
        case rel => exact ⟨_, i + 1, c2, (m + 1) / 2, l ++ [(m : Int)], rfl, by rw [HD.out], by omega, by omega, HS, hil, by rw [show ints (l ++ [(m : Int)]) = ints l ++ [.int .i64 m] from by simp [ints]]; exact HN.out, hb4⟩
        case measure => simp [intOf]; omega
      · obtain rfl : m = 1 := by omega
        have hl : l = roundsOut (N : Int) := by
          have h := HL.out
          rw [roundsN_none (by omega), List.append_nil] at h
          rw [HR.out, h]
        rw [hl] at hown
        have HN := hid hown
        clear hown hl
        go_wp2
        go_ret
        exact ⟨_, _, _, rfl, HN.out, hi6, hb⟩
  · have HR := hid (roundsOut_no hok)
    have H0 := hid ho0
    have B0 := hid hb0
    clear ho0 hb0
    rcases (show n < 1 ∨ 40 < n by omega) with h | h
    · have h1 : decide (1 < n) = false := by simp; omega
      go_enter Tryd.func31, Tryd.ntmps31
      go_wp2
      go_loopw [3, 4] (fun v kk wr => v = .slice (some ⟨w.heap.size, 0, none⟩) 0 0 ∧ kk = .int .i64 n ∧ wr = w.alloc (.cells #[] 3)) (fun _ _ _ => 0)
      case atStart => exact ⟨rfl, rfl, rfl⟩
      case round =>
        obtain ⟨rfl, rfl, rfl⟩ := hrel
        go_wp2
        go_ret
        exact ⟨_, _, _, rfl, by rw [HR.out]; exact H0.out, by omega, B0.out⟩
    · have h1 : decide (n ≤ 40) = false := by simp; omega
      go_enter Tryd.func31, Tryd.ntmps31
      go_wp2
      go_loopw [3, 4] (fun v kk wr => v = .slice (some ⟨w.heap.size, 0, none⟩) 0 0 ∧ kk = .int .i64 n ∧ wr = w.alloc (.cells #[] 3)) (fun _ _ _ => 0)
      case atStart => exact ⟨rfl, rfl, rfl⟩
      case round =>
        obtain ⟨rfl, rfl, rfl⟩ := hrel
        go_wp2
        go_ret
        exact ⟨_, _, _, rfl, by rw [HR.out]; exact H0.out, by omega, B0.out⟩
end Go.Proofs.YtannfeiogocpeaaDoor
