/-
  Walks of the model's PartAt and MiddleAt. No statement is proved here.
-/
import Derived.Test.YtannfeiogocpeaaDoorC2l
import Derived.Test.YtannfeiogocpeaaDoorS3
import Derived.Deep.RegionHeld3
import Derived.IntWalk
namespace Go.Proofs.YtannfeiogocpeaaDoor
open Go.RowKit
set_option linter.unusedVariables false
set_option linter.unusedSimpArgs false

set_option maxRecDepth 100000 in
set_option maxHeartbeats 3200000 in
theorem specPartAt_any (last p : Int) (w : World) :
    Calls Tryd.prog 43 #[.int .i64 last, .int .i64 p] w fun r w' => r = .returned (partVal last p) ∧ w.grownBy w' none := by
  by_cases h1 : within last 1 40 = true
  · by_cases h2 : within p 2 5 = true
    · have hok : partOk last p = true := by unfold partOk; rw [h1, h2]; rfl
      have HV := hid (partVal_yes hok)
      have hb := part_bd hok
      have hm := part_meet hok
      have HN := hid (fun (t : Int) (h0 : last ≤ t) (h1 : t < partTime last p) => part_not hok h0 h1)
      have hr := partOk_iff.1 hok
      have CF := hid (fun (t : Int) (W : World) (h0 : 0 ≤ t) (h1 : t ≤ 3000) => l2At_any 0 1 last t W (fast_ok hok) h0 h1)
      have CG := hid (fun (t : Int) (W : World) (h0 : 0 ≤ t) (h1 : t ≤ 3000) => l2At_any 0 (2 * p - 1) last t W (slow_ok hok) h0 h1)
      go_enter Tryd.func43, Tryd.ntmps43
      go_wp2_with (go_at_call 30; refine (l1In_any _ _ _ _).mono ?_; rintro e w' ⟨rfl, rfl⟩)
      have hT0 : 0 ≤ last := by omega
      obtain ⟨N, hN⟩ : ∃ N : Nat, partTime last p = last + N := ⟨(partTime last p - last).toNat, by omega⟩
      rw [hN] at hm hb
      have HN2 := hid (fun (k : Nat) (hk : k < N) => HN.out (last + k) (by omega) (by rw [hN]; omega))
      have HNN := hid hN
      clear hN HN hok h1 h2
      have hN40 : N ≤ 40 := by omega
      go_loopw [9] (fun i wr => ∃ k : Nat, i = .int .i64 (last + k) ∧ k ≤ N ∧ Hid (Two w wr 0 1 0 (2 * p - 1))) (fun i _ => (last + N).toNat - (intOf i).toNat)
      case atStart => exact ⟨0, by simp, Nat.zero_le _, hid ⟨by simp, by simp, by simp, by simp, (grown_alloc _ _ _).trans (grown_alloc _ _ _)⟩⟩
      case round =>
        obtain ⟨k, rfl, hk, K⟩ := hrel
        obtain ⟨a0, a1, b0, b1, _⟩ := K.out
        have C1 := hid (fun W : World => CF.out (last + k) W (by omega) (by omega))
        have C2 := hid (fun W : World => CG.out (last + k) W (by omega) (by omega))
        by_cases hlt : k < N
        · have hne := HN2.out k hlt
          obtain ⟨x, hx⟩ : ∃ x, at2 0 1 last (last + k) = x := ⟨_, rfl⟩
          obtain ⟨y, hy⟩ : ∃ y, at2 0 (2 * p - 1) last (last + k) = y := ⟨_, rfl⟩
          rw [hx] at C1 hne
          rw [hy] at C2 hne
          clear hx hy hm
          have hb1' : (x != y) = true := by simpa using hne
          have hb2' : decide (x = y) = false := by simpa using hne
          go_wp2_with fail
          go_region_held3 (fun w' => w'.cell? ⟨w.heap.size, 0, none⟩ = some (.int .i64 0) ∧ w'.cell? ⟨w.heap.size, 1, none⟩ = some (.int .i64 1) ∧ w'.cell? ⟨w.heap.size + 1, 0, none⟩ = some (.int .i64 0) ∧ w'.cell? ⟨w.heap.size + 1, 1, none⟩ = some (.int .i64 (2 * p - 1)))
            (first
              | go_keep
              | (go_split_ands
                 refine ⟨?_, ?_, ?_, ?_⟩ <;> exact hg5.cell (by assumption) (by simp))
              | (go_split_ands
                 refine ⟨?_, ?_, ?_, ?_⟩ <;> exact hg4.cell (by assumption) (by simp)))
            (first
              | (go_at_call 54; with_reducible refine Calls.mono (C1.out _) ?_; rintro r w4 ⟨rfl, hg4⟩)
              | (go_at_call 54; with_reducible refine Calls.mono (C2.out _) ?_; rintro r w5 ⟨rfl, hg5⟩))
          replace K := hid (K.out.on (((drew_grown _).trans hg4).trans hg5))
          clear hg4 hg5 a0 a1 b0 b1
          go_wp2
          go_roundw
          case rel => exact ⟨k + 1, by go_num, by omega, K⟩
          case measure => simp [intOf]; omega
        · obtain rfl : k = N := by omega
          rw [hm.1] at C1
          rw [hm.2] at C2
          obtain ⟨q, hq⟩ : ∃ q, last / p = q := ⟨_, rfl⟩
          rw [hq] at C1 C2 HV
          rw [HNN.out] at HV
          clear hm hb hq HN2 HNN CF CG
          have hb1' : (q != q) = false := by simp
          go_wp2_with fail
          go_region_held3 (fun w' => w'.cell? ⟨w.heap.size, 0, none⟩ = some (.int .i64 0) ∧ w'.cell? ⟨w.heap.size, 1, none⟩ = some (.int .i64 1) ∧ w'.cell? ⟨w.heap.size + 1, 0, none⟩ = some (.int .i64 0) ∧ w'.cell? ⟨w.heap.size + 1, 1, none⟩ = some (.int .i64 (2 * p - 1)))
            (first
              | go_keep
              | (go_split_ands
                 refine ⟨?_, ?_, ?_, ?_⟩ <;> exact hg5.cell (by assumption) (by simp))
              | (go_split_ands
                 refine ⟨?_, ?_, ?_, ?_⟩ <;> exact hg4.cell (by assumption) (by simp)))
            (first
              | (go_at_call 54; with_reducible refine Calls.mono (C1.out _) ?_; rintro r w4 ⟨rfl, hg4⟩)
              | (go_at_call 54; with_reducible refine Calls.mono (C2.out _) ?_; rintro r w5 ⟨rfl, hg5⟩))
          replace K := hid (K.out.on (((drew_grown _).trans hg4).trans hg5))
          clear hg4 hg5 a0 a1 b0 b1
          obtain ⟨a0, a1, b0, b1, _⟩ := K.out
          go_wp2_with fail
          with_reducible refine Calls.mono (C2.out _) ?_
          rintro r w6 ⟨rfl, hg6⟩
          have HG := hid (K.out.hg.trans hg6)
          clear hg6
          go_wp2
          go_ret3
          exact ⟨congrArg Ending.returned HV.out.symm, HG.out⟩
    · have HV := hid (partVal_no (last := last) (p := p) (by unfold partOk; rw [h1]; simpa using h2))
      have h2' : within p 2 5 = false := by simpa using h2
      go_enter Tryd.func43, Tryd.ntmps43
      go_wp2_with (go_at_call 30; refine (l1In_any _ _ _ _).mono ?_; rintro e w' ⟨rfl, rfl⟩)
      go_ret3
      exact ⟨congrArg Ending.returned HV.out.symm, ⟨rfl, rfl, rfl, Nat.le_refl _, fun _ _ _ => rfl⟩⟩
  · have HV := hid (partVal_no (last := last) (p := p) (by unfold partOk; simp [h1]))
    have h1' : within last 1 40 = false := by simpa using h1
    go_enter Tryd.func43, Tryd.ntmps43
    go_wp2_with (go_at_call 30; refine (l1In_any _ _ _ _).mono ?_; rintro e w' ⟨rfl, rfl⟩)
    go_ret3
    exact ⟨congrArg Ending.returned HV.out.symm, ⟨rfl, rfl, rfl, Nat.le_refl _, fun _ _ _ => rfl⟩⟩

set_option maxHeartbeats 800000 in
theorem specMiddleAt_any (last : Int) (w : World) :
    Calls Tryd.prog 32 #[.int .i64 last] w fun r w' => r = .returned (partVal last 2) ∧ w.grownBy w' none := by
  have CP := hid (fun W : World => specPartAt_any last 2 W)
  obtain ⟨x, y, b, hv⟩ := partVal_form last 2
  rw [hv] at CP ⊢
  clear hv
  go_enter Tryd.func32, Tryd.ntmps32
  go_wp2_with fail
  with_reducible refine Calls.mono (CP.out _) ?_
  rintro r w1 ⟨rfl, hg⟩
  have HG := hid hg
  clear hg
  go_wp2
  go_ret3
  exact ⟨rfl, HG.out⟩
end Go.Proofs.YtannfeiogocpeaaDoor
