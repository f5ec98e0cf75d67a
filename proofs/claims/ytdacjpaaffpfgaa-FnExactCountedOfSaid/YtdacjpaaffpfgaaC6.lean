/-
  Walks of the model's CounterOk and ToldBy. No statement is proved here.
-/
import Derived.Test.YtdacjpaaffpfgaaC6b
import Derived.BigQuiet
import Derived.Deep.QuietTactic
import Derived.IntWalk
namespace Go.Proofs.Ytdacjpaaffpfgaa
open Go.RowKit
set_option linter.unusedVariables false
set_option linter.unusedSimpArgs false

theorem drewN_grown (w : World) (m : Nat) : w.grownBy (w.drewN m) none := ⟨rfl, rfl, rfl, Nat.le_refl _, fun _ _ _ => rfl⟩
theorem all_take_snoc {α : Type} (p : α → Bool) (l : List α) {k : Nat} (h : k < l.length) : (l.take (k + 1)).all p = ((l.take k).all p && p l[k]) := by
  rw [List.take_succ_eq_append_getElem h, List.all_append]; simp
theorem all_take_false {α : Type} {p : α → Bool} {l : List α} {k : Nat} (h : (l.take k).all p = false) : l.all p = false := by
  rw [List.all_eq_false] at h ⊢
  obtain ⟨x, hx, hp⟩ := h
  exact ⟨x, List.mem_of_mem_take hx, hp⟩

theorem l1In_quiet (x lo hi : Int) (w : World) (m a : Nat) :
    Calls Try.prog 48 #[.int .i64 x, .int .i64 lo, .int .i64 hi] (w.drewN (m + a)) fun e w'' => e = .returned (.bool (within x lo hi)) ∧ ∃ n, w'' = w.drewN (m + n) :=
  (l1In_any x lo hi (w.drewN (m + a))).mono fun _ _ h => ⟨h.1, a, h.2.symm⟩

set_option maxRecDepth 100000 in
set_option maxHeartbeats 3200000 in
theorem specCounterOk_any (A : Option Addr) (n c : Nat) (A2 : Option Addr) (n2 c2 : Nat) (D C : List Int) (w : World) (h1 : Sl w w.heap.size A n D) (h2 : Sl w w.heap.size A2 n2 C) :
    Calls Try.prog 17 #[ctr A n c A2 n2 c2] w fun e w' => e = .returned (.bool (ctrOk D C)) ∧ w.grownBy w' none := by
  have hm1 := h1.max
  have hm2 := h2.max
  have HD := hid h1.len
  have HC := hid h2.len
  have hg0 := grown_alloc w (.cells #[.slice A n c, .slice A2 n2 c2] 25) none
  have c0 : (w.alloc (.cells #[.slice A n c, .slice A2 n2 c2] 25)).cell? ⟨w.heap.size, 0, none⟩ = some (.slice A n c) := by simp
  have c1 : (w.alloc (.cells #[.slice A n c, .slice A2 n2 c2] 25)).cell? ⟨w.heap.size, 1, none⟩ = some (.slice A2 n2 c2) := by simp
  replace h1 := h1.on (below_grown hg0)
  replace h2 := h2.on (below_grown hg0)
  by_cases hn : within (n : Int) 1 8 = true
  · by_cases hnn : n2 = n
    · subst hnn
      have hn8 := within_iff.1 hn
      have HV := hid (show ctrOk D C = (D.zip C).all okB from by unfold ctrOk; rw [HD.out, HC.out, hn]; simp)
      have hz : (D.zip C).length = n2 := by rw [List.length_zip, HD.out, HC.out]; omega
      have HZ := hid hz
      have HA := hid (fun (k : Nat) (hk : k < (D.zip C).length) => show (D.zip C)[k] = (nth D k, nth C k) from by
        rw [List.getElem_zip, nth_lt (by rw [HD.out]; omega), nth_lt (by rw [HC.out]; omega)])
      clear hz
      have e1 : ((n2 : Int) != (n2 : Int)) = false := by simp
      obtain ⟨b1, o1, rfl, _, hc1⟩ := h1.2.2 (by omega)
      obtain ⟨b2, o2, rfl, _, hc2⟩ := h2.2.2 (by omega)
      have H1 := hid hc1
      have H2 := hid hc2
      clear hc1 hc2 h1 h2
      go_enter Try.func17, Try.ntmps17
      go_wp2_with (go_at_call 48; refine (l1In_any _ _ _ _).mono ?_; rintro e w' ⟨rfl, rfl⟩)
      obtain ⟨w0, e0⟩ : ∃ W, w.alloc (.cells #[.slice (some ⟨b1, o1, none⟩) n2 c, .slice (some ⟨b2, o2, none⟩) n2 c2] 25) = W := ⟨_, rfl⟩
      rw [e0] at hg0 c0 c1 H1 H2 ⊢
      clear e0
      go_loopw [3] (fun i wr => ∃ k m : Nat, i = .int .i64 k ∧ k ≤ n2 ∧ wr = w0.drewN m ∧ Hid (((D.zip C).take k).all okB = true)) (fun i _ => n2 - (intOf i).toNat)
      case atStart => exact ⟨0, 0, rfl, Nat.zero_le _, rfl, hid rfl⟩
      case round =>
        obtain ⟨k, m, rfl, hk, rfl, HP⟩ := hrel
        by_cases hlt : k < n2
        · have hx := H1.out k hlt
          have hy := H2.out k hlt
          have hs := all_take_snoc okB (D.zip C) (k := k) (by rw [HZ.out]; exact hlt)
          rw [HA.out k (by rw [HZ.out]; exact hlt), HP.out, Bool.true_and] at hs
          obtain ⟨x, hxe⟩ : ∃ x, nth D k = x := ⟨_, rfl⟩
          obtain ⟨y, hye⟩ : ∃ y, nth C k = y := ⟨_, rfl⟩
          rw [hxe] at hx hs
          rw [hye] at hy hs
          clear hxe hye
          have q1 : (k : Int) < (n2 : Int) := by omega
          by_cases hxo : within x 0 1 = true
          · by_cases hyo : within y 0 1 = true
            · have hxb := within_iff.1 hxo
              have hyb := within_iff.1 hyo
              by_cases hxy : x + y = 2
              · have HF := hid (show ctrOk D C = false from by rw [HV.out]; exact all_take_false (k := k + 1) (by rw [hs]; simp [okB, hxy]))
                have q2 : (x + y == 2) = true := by simpa using hxy
                clear hs
                go_wp2
                go_quiet (exact l1In_quiet _ _ _ _ _ _)
                go_wp2
                go_ret
                exact ⟨ret_bool HF.out.symm, (hg0.trans (drewN_grown _ _)).trans (drewN_grown _ _)⟩
              · have HN := hid (show ((D.zip C).take (k + 1)).all okB = true from by rw [hs]; simp [okB, hxo, hyo, hxy])
                have q2 : (x + y == 2) = false := by simpa using hxy
                have q3 : decide (x + y = 2) = false := by simpa using hxy
                clear hs
                go_wp2
                go_quiet (exact l1In_quiet _ _ _ _ _ _)
                go_wp2
                go_roundw
                case rel => exact ⟨k + 1, _, by go_num, by omega, rfl, HN⟩
                case measure => simp [intOf]; omega
            · have hyo' : within y 0 1 = false := by simpa using hyo
              have HF := hid (show ctrOk D C = false from by rw [HV.out]; exact all_take_false (k := k + 1) (by rw [hs]; simp [okB, hyo']))
              clear hs
              go_wp2
              go_quiet (exact l1In_quiet _ _ _ _ _ _)
              go_wp2
              go_ret
              exact ⟨ret_bool HF.out.symm, (hg0.trans (drewN_grown _ _)).trans (drewN_grown _ _)⟩
          · have hxo' : within x 0 1 = false := by simpa using hxo
            have HF := hid (show ctrOk D C = false from by rw [HV.out]; exact all_take_false (k := k + 1) (by rw [hs]; simp [okB, hxo']))
            clear hs
            go_wp2
            go_quiet (exact l1In_quiet _ _ _ _ _ _)
            go_wp2
            go_ret
            exact ⟨ret_bool HF.out.symm, (hg0.trans (drewN_grown _ _)).trans (drewN_grown _ _)⟩
        · obtain rfl : k = n2 := by omega
          have HT := hid (show ctrOk D C = true from by rw [HV.out]; have := HP.out; rwa [List.take_of_length_le (by rw [HZ.out]; omega)] at this)
          go_wp2
          go_ret
          exact ⟨ret_bool HT.out.symm, hg0.trans (drewN_grown _ _)⟩
    · have HV := hid (show ctrOk D C = false from by unfold ctrOk; rw [HD.out, HC.out]; simp [hnn])
      have e1 : ((n2 : Int) != (n : Int)) = true := by simp; omega
      have e2 : decide ((n2 : Int) = (n : Int)) = false := by simp; omega
      go_enter Try.func17, Try.ntmps17
      go_wp2_with (go_at_call 48; refine (l1In_any _ _ _ _).mono ?_; rintro e w' ⟨rfl, rfl⟩)
      go_ret
      exact ⟨ret_bool HV.out.symm, hg0⟩
  · have hn' : within (n : Int) 1 8 = false := by simpa using hn
    have HV := hid (show ctrOk D C = false from by unfold ctrOk; rw [HD.out, hn']; rfl)
    go_enter Try.func17, Try.ntmps17
    go_wp2_with (go_at_call 48; refine (l1In_any _ _ _ _).mono ?_; rintro e w' ⟨rfl, rfl⟩)
    go_ret
    exact ⟨ret_bool HV.out.symm, hg0⟩
end Go.Proofs.Ytdacjpaaffpfgaa
