/-
  The walk of laws.eqIntS. No statement is proved here.
-/
import Derived.Test.YtkejcajboneniaaDoorEx0
namespace Go.Proofs.YtkejcajboneniaaDoor
open Go.RowKit
set_option linter.unusedVariables false
set_option linter.unusedSimpArgs false

set_option maxHeartbeats 800000 in
/-- laws.eqIntS: whether two lists are equal. -/
theorem eqIntS_any (A A2 : Option Addr) (n c n2 c2 : Nat) (l l2 : List Int) (w : World) (B B2 : Nat) (hs : Sl w B A n l) (hs2 : Sl w B2 A2 n2 l2) :
    Calls Tryd.prog 16 #[.slice A n c, .slice A2 n2 c2] w fun e w' => e = .returned (.bool (decide (l = l2))) ∧ ∃ m, w' = w.drewN m := by
  have hm := hs.max
  have hm2 := hs2.max
  have hl := hs.len
  have hl2 := hs2.len
  by_cases hne : n = n2
  · subst hne
    have HL := hid hl; clear hl
    have HL2 := hid hl2; clear hl2
    have e1 : ((n : Int) != (n : Int)) = false := by simp
    go_enter Tryd.func16, Tryd.ntmps16
    go_wp2
    go_loopw [5] (fun i wr => ∃ k m : Nat, k ≤ n ∧ i = .int .i64 k ∧ wr = w.drewN m ∧ l.take k = l2.take k) (fun i _ => n - (intOf i).toNat)
    case atStart => exact ⟨0, 0, Nat.zero_le _, rfl, rfl, rfl⟩
    case round =>
      obtain ⟨k, m, hk, rfl, rfl, htk⟩ := hrel
      have HT := hid htk; clear htk
      by_cases hlt : k < n
      · obtain ⟨b, off, rfl, _, hc⟩ := hs.2.2 (by omega)
        obtain ⟨b2, off2, rfl, _, hc2⟩ := hs2.2.2 (by omega)
        have hck := hc k hlt
        have hck2 := hc2 k hlt
        clear hc hc2
        have hlti : (k : Int) < (n : Int) := by omega
        have t1 := take_nth (l := l) (k := k) (by rw [HL.out]; exact hlt)
        have t2 := take_nth (l := l2) (k := k) (by rw [HL2.out]; exact hlt)
        have T1 := hid t1; clear t1
        have T2 := hid t2; clear t2
        by_cases heq : nth l k = nth l2 k
        · have HE := hid heq
          have heb : (nth l k != nth l2 k) = false := by simp [heq]
          have heb2 : (nth l k == nth l2 k) = true := by simp [heq]
          clear heq
          go_wp2
          go_quiet (fail)
          go_wp2
          go_roundw
          case rel => exact ⟨k + 1, _, by omega, by go_num, rfl, by rw [T1.out, T2.out, HT.out, HE.out]⟩
          case measure => simp [intOf]; omega
        · have heb : (nth l k != nth l2 k) = true := by simp [heq]
          have heb2 : (nth l k == nth l2 k) = false := by simp [heq]
          have HE := hid heq; clear heq
          go_wp2
          go_quiet (fail)
          go_wp2
          go_ret
          refine ⟨ret_bool ?_, _, World.drewN_drewN _ _ _⟩
          symm
          rw [decide_eq_false_iff_not]
          rintro rfl
          exact HE.out rfl
      · go_wp2
        go_ret
        refine ⟨ret_bool ?_, _, rfl⟩
        symm
        rw [decide_eq_true_iff]
        have := HT.out
        rwa [List.take_of_length_le (by rw [HL.out]; omega), List.take_of_length_le (by rw [HL2.out]; omega)] at this
  · have e1 : ((n : Int) != (n2 : Int)) = true := by simp; omega
    have e2 : ((n : Int) == (n2 : Int)) = false := by simp; omega
    have hfin : decide (l = l2) = false := by
      rw [decide_eq_false_iff_not]
      rintro rfl
      omega
    have HF := hid hfin; clear hfin hl hl2 hne
    go_enter Tryd.func16, Tryd.ntmps16
    go_wp2
    go_ret
    exact ⟨ret_bool HF.out.symm, 0, rfl⟩

theorem eqIntS_b (A A2 : Option Addr) (n c n2 c2 : Nat) (l l2 : List Int) (w : World) (B B2 : Nat) (hs : Sl w B A n l) (hs2 : Sl w B2 A2 n2 l2) :
    Calls Tryd.prog 16 #[.slice A n c, .slice A2 n2 c2] w fun e w' => e = .returned (.bool (decide (l = l2))) ∧ Below w.heap.size w w' :=
  (eqIntS_any A A2 n c n2 c2 l l2 w B B2 hs hs2).mono fun e w' ⟨h, m, hm⟩ => ⟨h, hm ▸ below_drewN (Below.refl _ _) m⟩
end Go.Proofs.YtkejcajboneniaaDoor
