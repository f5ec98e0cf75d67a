/-
  Walks of the program's PartAt, of the function that it asks step by step, and of MiddleAt. No statement is proved here.
-/
import Derived.Test.YtannfeiogocpeaaDoorC2h
import Derived.Test.YtannfeiogocpeaaDoorS3
import Derived.Test.YtannfeiogocpeaaDoorTab
import Derived.Deep.RegionHeld3
import Derived.Deep.RegionWith
import Derived.BigRegion
import Derived.IntWalk
namespace Go.Proofs.YtannfeiogocpeaaDoor
open Go.RowKit
set_option linter.unusedVariables false
set_option linter.unusedSimpArgs false

/-- Two boxed signals and a boxed last place. -/
structure FrP (w : World) (pa pl pb : Nat) (f e g d last : Int) : Prop where
  a0 : w.cell? ⟨pa, 0, none⟩ = some (.int .i64 f)
  a1 : w.cell? ⟨pa, 1, none⟩ = some (.int .i64 e)
  l0 : w.cell? ⟨pl, 0, none⟩ = some (.int .i64 last)
  b0 : w.cell? ⟨pb, 0, none⟩ = some (.int .i64 g)
  b1 : w.cell? ⟨pb, 1, none⟩ = some (.int .i64 d)
theorem FrP.on {w w' : World} {pa pl pb : Nat} {f e g d last : Int} (h : FrP w pa pl pb f e g d last) (hg : w.grownBy w' none) : FrP w' pa pl pb f e g d last :=
  ⟨hg.cell h.a0 (by simp), hg.cell h.a1 (by simp), hg.cell h.l0 (by simp), hg.cell h.b0 (by simp), hg.cell h.b1 (by simp)⟩

set_option maxHeartbeats 3200000 in
theorem apart_any (pa pl pb : Nat) (f e g d last t : Int) (w : World) (h1 : sigOk f e last = true) (h2 : sigOk g d last = true) (t0 : 0 ≤ t) (t1 : t ≤ 3000) (K : FrP w pa pl pb f e g d last) :
    Calls Tryd.prog 51 #[.int .i64 t, .pointer (some ⟨pa, 0, none⟩), .pointer (some ⟨pl, 0, none⟩), .pointer (some ⟨pb, 0, none⟩)] w fun r w' => r = .returned (.bool (at2 f e last t != at2 g d last t)) ∧ w.grownBy w' none := by
  have CF := hid (fun W : World => placeAfter_any f e last t W h1 t0 t1)
  have CG := hid (fun W : World => placeAfter_any g d last t W h2 t0 t1)
  clear h1 h2
  have K2 := hid K
  obtain ⟨a0, a1, l0, b0, b1⟩ := K
  go_enter Tryd.func51, Tryd.ntmps51
  go_wp2_with fail
  go_region_held3 (fun w' => w'.cell? ⟨pa, 0, none⟩ = some (.int .i64 f) ∧ w'.cell? ⟨pa, 1, none⟩ = some (.int .i64 e) ∧ w'.cell? ⟨pl, 0, none⟩ = some (.int .i64 last) ∧ w'.cell? ⟨pb, 0, none⟩ = some (.int .i64 g) ∧ w'.cell? ⟨pb, 1, none⟩ = some (.int .i64 d))
    (first
      | go_keep
      | (go_split_ands
         refine ⟨?_, ?_, ?_, ?_, ?_⟩ <;> exact hg4.cell (by assumption) (by simp))
      | (go_split_ands
         refine ⟨?_, ?_, ?_, ?_, ?_⟩ <;> exact hg3.cell (by assumption) (by simp)))
    (first
      | (go_at_call 52; with_reducible refine Calls.mono (CF.out _) ?_; rintro r w3 ⟨rfl, hg3⟩)
      | (go_at_call 52; with_reducible refine Calls.mono (CG.out _) ?_; rintro r w4 ⟨rfl, hg4⟩))
  have HG := hid (((drew_grown w).trans hg3).trans hg4)
  clear hg3 hg4
  go_wp2
  go_ret
  exact ⟨rfl, HG.out⟩

set_option maxRecDepth 100000 in
set_option maxHeartbeats 6400000 in
theorem implPartAt_yes (last : Int) (k : Nat) (w : World) (hT : Tabs w) (hok : partOk last k = true) :
    Calls Tryd.prog 41 #[.int .i64 last, .int .i64 k] w fun r w' => r = .returned (partVal last k) ∧ w.grownBy w' none := by
  have HV := hid (partVal_yes hok)
  have hb := part_bd hok
  have hm := part_meet hok
  have HN := hid (fun (t : Int) (h0 : last ≤ t) (h1 : t < partTime last k) => part_not hok h0 h1)
  have hr := partOk_iff.1 hok
  have h1 : within last 1 40 = true := by simp [within]; omega
  have CF := hid (fun (t : Int) (W : World) (h0 : 0 ≤ t) (h1 : t ≤ 3000) => placeAfter_any 0 1 last t W (fast_ok hok) h0 h1)
  have CA := hid (fun (pa pl pb : Nat) (t : Int) (W : World) (h0 : 0 ≤ t) (h1 : t ≤ 3000) (K : FrP W pa pl pb 0 1 0 (2 * k - 1) last) => apart_any pa pl pb 0 1 0 (2 * k - 1) last t W (fast_ok hok) (slow_ok hok) h0 h1 K)
  obtain ⟨hl, hp⟩ := hr
  have hTk : w.cell? ⟨0, k, none⟩ = some (.int .i64 (2 * k - 1)) := by
    obtain ⟨T2, T3, T4, T5⟩ := hT
    have : k = 2 ∨ k = 3 ∨ k = 4 ∨ k = 5 := by omega
    rcases this with rfl | rfl | rfl | rfl
    · exact T2
    · exact T3
    · exact T4
    · exact T5
  have k0 : 0 ≤ (k : Int) := by omega
  have k6 : (k : Int) < 6 := by omega
  have k2 : decide ((k : Int) < 2) = false := by simp; omega
  have k5 : decide (5 < (k : Int)) = false := by simp; omega
  obtain ⟨N, hN⟩ : ∃ N : Nat, partTime last k = last + N := ⟨(partTime last k - last).toNat, by omega⟩
  rw [hN] at hm hb
  have HN2 := hid (fun (j : Nat) (hj : j < N) => HN.out (last + j) (by omega) (by rw [hN]; omega))
  have HNN := hid hN
  clear hN HN hok
  have hN40 : N ≤ 40 := by omega
  obtain ⟨d, hd⟩ : ∃ d : Int, 2 * (k : Int) - 1 = d := ⟨_, rfl⟩
  rw [hd] at hTk CA HN2 hm
  clear hd
  go_enter Tryd.func41, Tryd.ntmps41
  go_wp2_with (go_at_call 50; refine (lastOk_any _ _).mono ?_; rintro e w' ⟨rfl, rfl⟩)
  have hw0 := grown_alloc w (.cells #[.int .i64 last] 3) none
  have l0 : (w.alloc (.cells #[.int .i64 last] 3)).cell? ⟨w.heap.size, 0, none⟩ = some (.int .i64 last) := by simp
  have hs0 : (w.alloc (.cells #[.int .i64 last] 3)).heap.size = w.heap.size + 1 := by simp
  obtain ⟨w0, e0⟩ : ∃ W, w.alloc (.cells #[.int .i64 last] 3) = W := ⟨_, rfl⟩
  rw [e0] at hw0 l0 hs0 ⊢
  have hTk0 := hw0.cell hTk (by simp)
  clear e0 hTk
  go_region
  all_goals
    first
      | (have a0 : ((w0.alloc (.cells #[.int .i64 0, .int .i64 1] 71)).alloc (.cells #[.int .i64 0, .int .i64 d] 71)).drew.cell? ⟨w.heap.size + 1, 0, none⟩ = some (.int .i64 0) := by simp [go_sem, hs0]
         have a1 : ((w0.alloc (.cells #[.int .i64 0, .int .i64 1] 71)).alloc (.cells #[.int .i64 0, .int .i64 d] 71)).drew.cell? ⟨w.heap.size + 1, 1, none⟩ = some (.int .i64 1) := by simp [go_sem, hs0]
         have b0 : ((w0.alloc (.cells #[.int .i64 0, .int .i64 1] 71)).alloc (.cells #[.int .i64 0, .int .i64 d] 71)).drew.cell? ⟨w.heap.size + 1 + 1, 0, none⟩ = some (.int .i64 0) := by simp [go_sem, hs0]
         have b1 : ((w0.alloc (.cells #[.int .i64 0, .int .i64 1] 71)).alloc (.cells #[.int .i64 0, .int .i64 d] 71)).drew.cell? ⟨w.heap.size + 1 + 1, 1, none⟩ = some (.int .i64 d) := by simp [go_sem, hs0]
         have hg1 := ((grown_alloc w0 (.cells #[.int .i64 0, .int .i64 1] 71) none).trans (grown_alloc _ (.cells #[.int .i64 0, .int .i64 d] 71) none)).trans (drew_grown _)
         obtain ⟨w1, e1⟩ : ∃ W, ((w0.alloc (.cells #[.int .i64 0, .int .i64 1] 71)).alloc (.cells #[.int .i64 0, .int .i64 d] 71)).drew = W := ⟨_, rfl⟩
         rw [e1] at a0 a1 b0 b1 hg1 ⊢
         clear e1)
      | (have a0 : ((w0.alloc (.cells #[.int .i64 0, .int .i64 d] 71)).alloc (.cells #[.int .i64 0, .int .i64 1] 71)).drew.cell? ⟨w.heap.size + 1 + 1, 0, none⟩ = some (.int .i64 0) := by simp [go_sem, hs0]
         have a1 : ((w0.alloc (.cells #[.int .i64 0, .int .i64 d] 71)).alloc (.cells #[.int .i64 0, .int .i64 1] 71)).drew.cell? ⟨w.heap.size + 1 + 1, 1, none⟩ = some (.int .i64 1) := by simp [go_sem, hs0]
         have b0 : ((w0.alloc (.cells #[.int .i64 0, .int .i64 d] 71)).alloc (.cells #[.int .i64 0, .int .i64 1] 71)).drew.cell? ⟨w.heap.size + 1, 0, none⟩ = some (.int .i64 0) := by simp [go_sem, hs0]
         have b1 : ((w0.alloc (.cells #[.int .i64 0, .int .i64 d] 71)).alloc (.cells #[.int .i64 0, .int .i64 1] 71)).drew.cell? ⟨w.heap.size + 1, 1, none⟩ = some (.int .i64 d) := by simp [go_sem, hs0]
         have hg1 := ((grown_alloc w0 (.cells #[.int .i64 0, .int .i64 d] 71) none).trans (grown_alloc _ (.cells #[.int .i64 0, .int .i64 1] 71) none)).trans (drew_grown _)
         obtain ⟨w1, e1⟩ : ∃ W, ((w0.alloc (.cells #[.int .i64 0, .int .i64 d] 71)).alloc (.cells #[.int .i64 0, .int .i64 1] 71)).drew = W := ⟨_, rfl⟩
         rw [e1] at a0 a1 b0 b1 hg1 ⊢
         clear e1)
    have l1 := hg1.cell l0 (by simp)
    have K0 : Hid (FrP w1 _ _ _ 0 1 0 d last ∧ w.grownBy w1 none) := hid ⟨⟨a0, a1, l1, b0, b1⟩, hw0.trans hg1⟩
    clear hg1 l0 hTk0 hw0 hs0
    go_wp2_with fail
    go_loopw [10] (fun i wr => ∃ j : Nat, i = .int .i64 (last + j) ∧ j ≤ N ∧ Hid (FrP wr _ _ _ 0 1 0 d last ∧ w.grownBy wr none)) (fun i _ => (last + N).toNat - (intOf i).toNat)
    case atStart => exact ⟨0, by simp, Nat.zero_le _, K0⟩
    case round =>
      clear a0 a1 b0 b1 l1 K0
      obtain ⟨j, rfl, hj, K⟩ := hrel
      obtain ⟨⟨a0, a1, l1, b0, b1⟩, _⟩ := K.out
      have C1 := hid (fun W pa pl pb => CA.out pa pl pb (last + j) W (by omega) (by omega))
      by_cases hlt : j < N
      · have hne := HN2.out j hlt
        have hb1' : (at2 0 1 last (last + j) != at2 0 d last (last + j)) = true := by simpa using hne
        rw [hb1'] at C1
        clear hne hb1'
        go_wp2_with fail
        with_reducible refine Calls.mono (C1.out _ _ _ _ K.out.1) ?_
        rintro r w2 ⟨rfl, hg2⟩
        replace K := hid (And.intro (K.out.1.on hg2) (K.out.2.trans hg2))
        clear hg2 a0 a1 b0 b1 l1
        go_wp2
        go_roundw
        case rel => exact ⟨j + 1, by go_num, by omega, K⟩
        case measure => simp [intOf]; omega
      · obtain rfl : j = N := by omega
        have hb1' : (at2 0 1 last (last + j) != at2 0 d last (last + j)) = false := by rw [hm.1, hm.2]; simp
        rw [hb1'] at C1
        have C2 := hid (fun W : World => CF.out (last + j) W (by omega) (by omega))
        rw [hm.1] at C2
        rw [HNN.out] at HV
        obtain ⟨q, hq⟩ : ∃ q, last / (k : Int) = q := ⟨_, rfl⟩
        rw [hq] at C2 HV
        clear hb1' hm hb hq HN2 HNN CF CA
        go_wp2_with fail
        with_reducible refine Calls.mono (C1.out _ _ _ _ K.out.1) ?_
        rintro r w2 ⟨rfl, hg2⟩
        replace K := hid (And.intro (K.out.1.on hg2) (K.out.2.trans hg2))
        clear hg2 a0 a1 b0 b1 l1
        obtain ⟨⟨a0, a1, l1, b0, b1⟩, _⟩ := K.out
        go_wp2_with fail
        with_reducible refine Calls.mono (C2.out _) ?_
        rintro r w3 ⟨rfl, hg3⟩
        have HG := hid (K.out.2.trans hg3)
        clear hg3
        go_wp2
        go_ret3
        exact ⟨congrArg Ending.returned HV.out.symm, HG.out⟩


set_option maxHeartbeats 1600000 in
theorem implPartAt_any (last p : Int) (w : World) (hT : Tabs w) :
    Calls Tryd.prog 41 #[.int .i64 last, .int .i64 p] w fun r w' => r = .returned (partVal last p) ∧ w.grownBy w' none := by
  by_cases h1 : within last 1 40 = true
  · by_cases h2 : within p 2 5 = true
    · have hok : partOk last p = true := by unfold partOk; rw [h1, h2]; rfl
      have hp : 2 ≤ p ∧ p ≤ 5 := (partOk_iff.1 hok).2
      obtain ⟨k, rfl⟩ : ∃ k : Nat, p = k := ⟨p.toNat, by omega⟩
      exact implPartAt_yes last k w hT hok
    · have HV := hid (partVal_no (last := last) (p := p) (by unfold partOk; rw [h1]; simpa using h2))
      by_cases h3 : p < 2
      · clear h2
        go_enter Tryd.func41, Tryd.ntmps41
        go_wp2_with (go_at_call 50; refine (lastOk_any _ _).mono ?_; rintro e w' ⟨rfl, rfl⟩)
        go_ret3
        exact ⟨congrArg Ending.returned HV.out.symm, grown_alloc _ _ _⟩
      · have h3' : decide (p < 2) = false := by simpa using h3
        have h4 : 5 < p := by simp [within] at h2; omega
        clear h2
        go_enter Tryd.func41, Tryd.ntmps41
        go_wp2_with (go_at_call 50; refine (lastOk_any _ _).mono ?_; rintro e w' ⟨rfl, rfl⟩)
        go_ret3
        exact ⟨congrArg Ending.returned HV.out.symm, grown_alloc _ _ _⟩
  · have HV := hid (partVal_no (last := last) (p := p) (by unfold partOk; simp [h1]))
    have h1' : within last 1 40 = false := by simpa using h1
    go_enter Tryd.func41, Tryd.ntmps41
    go_wp2_with (go_at_call 50; refine (lastOk_any _ _).mono ?_; rintro e w' ⟨rfl, rfl⟩)
    go_ret3
    exact ⟨congrArg Ending.returned HV.out.symm, grown_alloc _ _ _⟩

set_option maxHeartbeats 800000 in
theorem implMiddleAt_any (last : Int) (w : World) (hT : Tabs w) :
    Calls Tryd.prog 23 #[.int .i64 last] w fun r w' => r = .returned (partVal last 2) ∧ w.grownBy w' none := by
  have CP := hid (implPartAt_any last 2 w hT)
  obtain ⟨x, y, b, hv⟩ := partVal_form last 2
  rw [hv] at CP ⊢
  clear hv
  go_enter Tryd.func23, Tryd.ntmps23
  go_wp2_with fail
  with_reducible refine Calls.mono CP.out ?_
  rintro r w1 ⟨rfl, hg⟩
  have HG := hid hg
  clear hg
  go_wp2
  go_ret3
  exact ⟨rfl, HG.out⟩
end Go.Proofs.YtannfeiogocpeaaDoor
