/-
  Walks of the model's PartsAfter and ToldAfter. No statement is proved here.
-/
import Derived.Test.YtannfeiogocpeaaDoorC4p
namespace Go.Proofs.YtannfeiogocpeaaDoor
open Go.RowKit
set_option linter.unusedVariables false
set_option linter.unusedSimpArgs false

set_option maxHeartbeats 1600000 in
theorem specPartsAfter_any (n r : Int) (w : World) (hw : (Lit.int .i64 n).wf = true) (hw2 : (Lit.int .i64 r).wf = true) :
    Calls Tryd.prog 11 #[.int .i64 n, .int .i64 r] w fun e w' => ∃ A m c vs, e = .returned (.slice A m c) ∧ w'.ownsRow w.heap.size 29 1 (.slice A m c) m vs ∧ Rows w' w.heap.size vs (pairs (partsOut n r)) ∧ m ≤ 64 ∧ Below w.heap.size w w' := by
  have CR := hid (fun W : World => specRoundsOf_any n W hw)
  have hL := roundsOut_len n
  by_cases h1 : within n 1 40 = true
  · by_cases h2 : within r 0 ((roundsOut n).length : Int) = true
    · have hok : partsOk n r = true := by unfold partsOk; rw [h1, h2]; rfl
      have hb := partsOk_bd hok
      obtain ⟨K, rfl⟩ : ∃ K : Nat, r = K := Int.eq_ofNat_of_zero_le (by omega)
      have CP := hid (fun W : World => l4Parts_any n K W hb.1 (by omega))
      have HO := hid (show partsOut n (K : Int) = partsP n K from by rw [partsOut_yes hok, Int.toNat_natCast])
      obtain ⟨l, hl⟩ : ∃ l, roundsOut n = l := ⟨_, rfl⟩
      rw [hl] at CR h2 hL
      clear hl hok hb
      go_enter Tryd.func11, Tryd.ntmps11
      go_wp2_with (go_at_call 30; refine (l1In_any _ _ _ _).mono ?_; rintro e w' ⟨rfl, rfl⟩)
      with_reducible refine Calls.mono (CR.out _) ?_
      rintro e w1 ⟨A1, m1, c1, rfl, o1, hm1, b1⟩
      have hlen : l.length = m1 := by have := o1.1; simpa using this
      rw [hlen] at h2
      have BB := hid b1
      clear o1 b1 hlen
      go_wp2_with (go_at_call 30; refine (l1In_any _ _ _ _).mono ?_; rintro e w' ⟨rfl, rfl⟩)
      with_reducible refine Calls.mono (CP.out _) ?_
      rintro e w2 ⟨A2, m2, c2, vs, rfl, o2, R2, hm2, b2⟩
      have BB2 := hid (BB.out.trans (b2.mono BB.out.size))
      have hs := BB.out.size
      have RR := hid (R2.mono hs)
      have oO := own_mono o2 hs
      clear o2 R2 b2
      go_wp2
      go_ret
      exact ⟨_, _, _, vs, rfl, oO, by rw [HO.out]; exact RR.out, hm2, BB2.out⟩
    · have h2' : within r 0 ((roundsOut n).length : Int) = false := by simpa using h2
      have HO := hid (partsOut_no (show partsOk n r = false by unfold partsOk; rw [h1, h2']; rfl))
      obtain ⟨l, hl⟩ : ∃ l, roundsOut n = l := ⟨_, rfl⟩
      rw [hl] at CR h2' hL
      clear hl h2
      go_enter Tryd.func11, Tryd.ntmps11
      go_wp2_with (go_at_call 30; refine (l1In_any _ _ _ _).mono ?_; rintro e w' ⟨rfl, rfl⟩)
      with_reducible refine Calls.mono (CR.out _) ?_
      rintro e w1 ⟨A1, m1, c1, rfl, o1, hm1, b1⟩
      have hlen : l.length = m1 := by have := o1.1; simpa using this
      rw [hlen] at h2'
      have BB := hid b1
      clear o1 b1 hlen
      go_wp2_with (go_at_call 30; refine (l1In_any _ _ _ _).mono ?_; rintro e w' ⟨rfl, rfl⟩)
      go_ret
      exact ⟨_, 0, 0, [], rfl, World.ownsRow_lit w1 #[] 0 BB.out.size (by simp [maxLen]) rfl, by rw [HO.out]; exact Rows.nil _ _, by omega, BB.out.trans ((Below.refl _ _).alloc BB.out.size _)⟩
  · have h1' : within n 1 40 = false := by simpa using h1
    have HO := hid (partsOut_no (show partsOk n r = false by unfold partsOk; rw [h1']; rfl))
    go_enter Tryd.func11, Tryd.ntmps11
    go_wp2_with (go_at_call 30; refine (l1In_any _ _ _ _).mono ?_; rintro e w' ⟨rfl, rfl⟩)
    go_ret
    exact ⟨_, 0, 0, [], rfl, World.ownsRow_lit w #[] 0 (Nat.le_refl _) (by simp [maxLen]) rfl, by rw [HO.out]; exact Rows.nil _ _, by omega, (Below.refl _ _).alloc (Nat.le_refl _) _⟩
end Go.Proofs.YtannfeiogocpeaaDoor
