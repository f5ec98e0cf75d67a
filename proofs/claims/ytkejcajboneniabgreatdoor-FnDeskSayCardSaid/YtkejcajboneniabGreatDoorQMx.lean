/-
  Texts put together: C3i C3k C4i C4h. No statement is proved here.
-/
import Derived.Test.YtkejcajboneniabGreatDoorQC2h
import Derived.Test.YtkejcajboneniabGreatDoorQMh
import Derived.Test.YtkejcajboneniabGreatDoorQMs
import Derived.Deep.RegionHeld3
import Derived.Deep.RegionWith
import Derived.BigRegion
import Derived.IntWalk
import Derived.Test.YtkejcajboneniabGreatDoorQMa
import Derived.RangeFuncBox
import Derived.Maps.AppendAt
set_option linter.unusedVariables false
set_option linter.unusedSimpArgs false
namespace Go.Proofs.YtkejcajboneniabGreatDoor
open Go.RowKit

/-- Two boxed signals and a boxed last place. -/
structure FrP (w : World) (pa pl pb : Nat) (f e g d last : Int) : Prop where
  a0 : w.cell? ⟨pa, 0, none⟩ = some (.int .i64 f)
  a1 : w.cell? ⟨pa, 1, none⟩ = some (.int .i64 e)
  l0 : w.cell? ⟨pl, 0, none⟩ = some (.int .i64 last)
  b0 : w.cell? ⟨pb, 0, none⟩ = some (.int .i64 g)
  b1 : w.cell? ⟨pb, 1, none⟩ = some (.int .i64 d)
theorem FrP.on {w w' : World} {pa pl pb : Nat} {f e g d last : Int} (h : FrP w pa pl pb f e g d last) (hg : w.grownBy w' none) : FrP w' pa pl pb f e g d last :=
  ⟨hg.cell h.a0 (by simp), hg.cell h.a1 (by simp), hg.cell h.l0 (by simp), hg.cell h.b0 (by simp), hg.cell h.b1 (by simp)⟩

set_option maxHeartbeats 3200000 in
theorem apart_any (pa pl pb : Nat) (f e g d last t : Int) (w : World) (h1 : sigOk f e last = true) (h2 : sigOk g d last = true) (t0 : 0 ≤ t) (t1 : t ≤ 3000) (K : FrP w pa pl pb f e g d last) :
    Calls Tryz.prog 224 #[.int .i64 t, .pointer (some ⟨pa, 0, none⟩), .pointer (some ⟨pl, 0, none⟩), .pointer (some ⟨pb, 0, none⟩)] w fun r w' => r = .returned (.bool (at2 f e last t != at2 g d last t)) ∧ w.grownBy w' none := by
  have CF := hid (fun W : World => placeAfter_any f e last t W h1 t0 t1)
  have CG := hid (fun W : World => placeAfter_any g d last t W h2 t0 t1)
  clear h1 h2
  have K2 := hid K
  obtain ⟨a0, a1, l0, b0, b1⟩ := K
  go_enter Tryz.func224, Tryz.ntmps224
  go_wp2_with fail
  go_region_held3 (fun w' => w'.cell? ⟨pa, 0, none⟩ = some (.int .i64 f) ∧ w'.cell? ⟨pa, 1, none⟩ = some (.int .i64 e) ∧ w'.cell? ⟨pl, 0, none⟩ = some (.int .i64 last) ∧ w'.cell? ⟨pb, 0, none⟩ = some (.int .i64 g) ∧ w'.cell? ⟨pb, 1, none⟩ = some (.int .i64 d))
    (first
      | go_keep
      | (go_split_ands
         refine ⟨?_, ?_, ?_, ?_, ?_⟩ <;> exact hg4.cell (by assumption) (by simp))
      | (go_split_ands
         refine ⟨?_, ?_, ?_, ?_, ?_⟩ <;> exact hg3.cell (by assumption) (by simp)))
    (first
      | (go_at_call 225; with_reducible refine Calls.mono (CF.out _) ?_; rintro r w3 ⟨rfl, hg3⟩)
      | (go_at_call 225; with_reducible refine Calls.mono (CG.out _) ?_; rintro r w4 ⟨rfl, hg4⟩))
  have HG := hid (((drew_grown2 w).trans hg3).trans hg4)
  clear hg3 hg4
  go_wp2
  go_ret
  exact ⟨rfl, HG.out⟩

set_option maxRecDepth 100000 in
set_option maxHeartbeats 6400000 in
theorem implPartAt_yes (last : Int) (k : Nat) (w : World) (hT : Tabs w) (hok : partOk last k = true) :
    Calls Tryz.prog 207 #[.int .i64 last, .int .i64 k] w fun r w' => r = .returned (partVal last k) ∧ w.grownBy w' none := by
  have HV := hid (partVal_yes hok)
  have hb := part_bd hok
  have hm := part_meet hok
  have HN := hid (fun (t : Int) (h0 : last ≤ t) (h1 : t < partTime last k) => part_not hok h0 h1)
  have hr := partOk_iff.1 hok
  have h1 : within last 1 40 = true := by simp [within]; omega
  have CF := hid (fun (t : Int) (W : World) (h0 : 0 ≤ t) (h1 : t ≤ 3000) => placeAfter_any 0 1 last t W (fast_ok hok) h0 h1)
  have CA := hid (fun (pa pl pb : Nat) (t : Int) (W : World) (h0 : 0 ≤ t) (h1 : t ≤ 3000) (K : FrP W pa pl pb 0 1 0 (2 * k - 1) last) => apart_any pa pl pb 0 1 0 (2 * k - 1) last t W (fast_ok hok) (slow_ok hok) h0 h1 K)
  obtain ⟨hl, hp⟩ := hr
  have hTk : w.cell? ⟨5, k, none⟩ = some (.int .i64 (2 * k - 1)) := by
    obtain ⟨T2, T3, T4, T5⟩ := hT
    have : k = 2 ∨ k = 3 ∨ k = 4 ∨ k = 5 := by omega
    rcases this with rfl | rfl | rfl | rfl
    · exact T2
    · exact T3
    · exact T4
    · exact T5
  have k0 : 0 ≤ (k : Int) := by omega
  have k6 : (k : Int) < 6 := by omega
  have k2 : decide ((k : Int) < 2) = false := by simp; omega
  have k5 : decide (5 < (k : Int)) = false := by simp; omega
  obtain ⟨N, hN⟩ : ∃ N : Nat, partTime last k = last + N := ⟨(partTime last k - last).toNat, by omega⟩
  rw [hN] at hm hb
  have HN2 := hid (fun (j : Nat) (hj : j < N) => HN.out (last + j) (by omega) (by rw [hN]; omega))
  have HNN := hid hN
  clear hN HN hok
  have hN40 : N ≤ 40 := by omega
  obtain ⟨d, hd⟩ : ∃ d : Int, 2 * (k : Int) - 1 = d := ⟨_, rfl⟩
  rw [hd] at hTk CA HN2 hm
  clear hd
  go_enter Tryz.func207, Tryz.ntmps207
  go_wp2_with (go_at_call 223; refine (lastOk_any _ _).mono ?_; rintro e w' ⟨rfl, rfl⟩)
  have hw0 := grown_alloc w (.cells #[.int .i64 last] 3) none
  have l0 : (w.alloc (.cells #[.int .i64 last] 3)).cell? ⟨w.heap.size, 0, none⟩ = some (.int .i64 last) := by simp
  have hs0 : (w.alloc (.cells #[.int .i64 last] 3)).heap.size = w.heap.size + 1 := by simp
  obtain ⟨w0, e0⟩ : ∃ W, w.alloc (.cells #[.int .i64 last] 3) = W := ⟨_, rfl⟩
  rw [e0] at hw0 l0 hs0 ⊢
  have hTk0 := hw0.cell hTk (by simp)
  have hTq : ∀ o1 o2 : Obj, ((w0.alloc o1).alloc o2).drew.cell? ⟨5, k, none⟩ = some (.int .i64 d) := fun o1 o2 => ((grown_alloc w0 o1 none).trans (grown_alloc _ o2 none)).cell hTk0 (by simp)
  have hTq1 : ∀ o1 : Obj, (w0.alloc o1).drew.cell? ⟨5, k, none⟩ = some (.int .i64 d) := fun o1 => (grown_alloc w0 o1 none).cell hTk0 (by simp)
  have hTq0 : w0.drew.cell? ⟨5, k, none⟩ = some (.int .i64 d) := hTk0
  clear e0 hTk
  go_region
  all_goals
    first
      | (have a0 : ((w0.alloc (.cells #[.int .i64 0, .int .i64 1] 158)).alloc (.cells #[.int .i64 0, .int .i64 d] 158)).drew.cell? ⟨w.heap.size + 1, 0, none⟩ = some (.int .i64 0) := by simp [go_sem, hs0]
         have a1 : ((w0.alloc (.cells #[.int .i64 0, .int .i64 1] 158)).alloc (.cells #[.int .i64 0, .int .i64 d] 158)).drew.cell? ⟨w.heap.size + 1, 1, none⟩ = some (.int .i64 1) := by simp [go_sem, hs0]
         have b0 : ((w0.alloc (.cells #[.int .i64 0, .int .i64 1] 158)).alloc (.cells #[.int .i64 0, .int .i64 d] 158)).drew.cell? ⟨w.heap.size + 1 + 1, 0, none⟩ = some (.int .i64 0) := by simp [go_sem, hs0]
         have b1 : ((w0.alloc (.cells #[.int .i64 0, .int .i64 1] 158)).alloc (.cells #[.int .i64 0, .int .i64 d] 158)).drew.cell? ⟨w.heap.size + 1 + 1, 1, none⟩ = some (.int .i64 d) := by simp [go_sem, hs0]
         have hg1 := ((grown_alloc w0 (.cells #[.int .i64 0, .int .i64 1] 158) none).trans (grown_alloc _ (.cells #[.int .i64 0, .int .i64 d] 158) none)).trans (drew_grown2 _)
         obtain ⟨w1, e1⟩ : ∃ W, ((w0.alloc (.cells #[.int .i64 0, .int .i64 1] 158)).alloc (.cells #[.int .i64 0, .int .i64 d] 158)).drew = W := ⟨_, rfl⟩
         rw [e1] at a0 a1 b0 b1 hg1 ⊢
         clear e1)
      | (have a0 : ((w0.alloc (.cells #[.int .i64 0, .int .i64 d] 158)).alloc (.cells #[.int .i64 0, .int .i64 1] 158)).drew.cell? ⟨w.heap.size + 1 + 1, 0, none⟩ = some (.int .i64 0) := by simp [go_sem, hs0]
         have a1 : ((w0.alloc (.cells #[.int .i64 0, .int .i64 d] 158)).alloc (.cells #[.int .i64 0, .int .i64 1] 158)).drew.cell? ⟨w.heap.size + 1 + 1, 1, none⟩ = some (.int .i64 1) := by simp [go_sem, hs0]
         have b0 : ((w0.alloc (.cells #[.int .i64 0, .int .i64 d] 158)).alloc (.cells #[.int .i64 0, .int .i64 1] 158)).drew.cell? ⟨w.heap.size + 1, 0, none⟩ = some (.int .i64 0) := by simp [go_sem, hs0]
         have b1 : ((w0.alloc (.cells #[.int .i64 0, .int .i64 d] 158)).alloc (.cells #[.int .i64 0, .int .i64 1] 158)).drew.cell? ⟨w.heap.size + 1, 1, none⟩ = some (.int .i64 d) := by simp [go_sem, hs0]
         have hg1 := ((grown_alloc w0 (.cells #[.int .i64 0, .int .i64 d] 158) none).trans (grown_alloc _ (.cells #[.int .i64 0, .int .i64 1] 158) none)).trans (drew_grown2 _)
         obtain ⟨w1, e1⟩ : ∃ W, ((w0.alloc (.cells #[.int .i64 0, .int .i64 d] 158)).alloc (.cells #[.int .i64 0, .int .i64 1] 158)).drew = W := ⟨_, rfl⟩
         rw [e1] at a0 a1 b0 b1 hg1 ⊢
         clear e1)
    have l1 := hg1.cell l0 (by simp)
    have K0 : Hid (FrP w1 _ _ _ 0 1 0 d last ∧ w.grownBy w1 none) := hid ⟨⟨a0, a1, l1, b0, b1⟩, hw0.trans hg1⟩
    clear hg1 l0 hTk0 hw0 hs0
    go_wp2_with fail
    go_loopw [10] (fun i wr => ∃ j : Nat, i = .int .i64 (last + j) ∧ j ≤ N ∧ Hid (FrP wr _ _ _ 0 1 0 d last ∧ w.grownBy wr none)) (fun i _ => (last + N).toNat - (intOf i).toNat)
    case atStart => exact ⟨0, by simp, Nat.zero_le _, K0⟩
    case round =>
      clear a0 a1 b0 b1 l1 K0
      obtain ⟨j, rfl, hj, K⟩ := hrel
      obtain ⟨⟨a0, a1, l1, b0, b1⟩, _⟩ := K.out
      have C1 := hid (fun W pa pl pb => CA.out pa pl pb (last + j) W (by omega) (by omega))
      by_cases hlt : j < N
      · have hne := HN2.out j hlt
        have hb1' : (at2 0 1 last (last + j) != at2 0 d last (last + j)) = true := by simpa using hne
        rw [hb1'] at C1
        clear hne hb1'
        go_wp2_with fail
        with_reducible refine Calls.mono (C1.out _ _ _ _ K.out.1) ?_
        rintro r w2 ⟨rfl, hg2⟩
        replace K := hid (And.intro (K.out.1.on hg2) (K.out.2.trans hg2))
        clear hg2 a0 a1 b0 b1 l1
        go_wp2
        go_roundw
        case rel => exact ⟨j + 1, by go_num, by omega, K⟩
        case measure => simp [intOf]; omega
      · obtain rfl : j = N := by omega
        have hb1' : (at2 0 1 last (last + j) != at2 0 d last (last + j)) = false := by rw [hm.1, hm.2]; simp
        rw [hb1'] at C1
        have C2 := hid (fun W : World => CF.out (last + j) W (by omega) (by omega))
        rw [hm.1] at C2
        rw [HNN.out] at HV
        obtain ⟨q, hq⟩ : ∃ q, last / (k : Int) = q := ⟨_, rfl⟩
        rw [hq] at C2 HV
        clear hb1' hm hb hq HN2 HNN CF CA
        go_wp2_with fail
        with_reducible refine Calls.mono (C1.out _ _ _ _ K.out.1) ?_
        rintro r w2 ⟨rfl, hg2⟩
        replace K := hid (And.intro (K.out.1.on hg2) (K.out.2.trans hg2))
        clear hg2 a0 a1 b0 b1 l1
        obtain ⟨⟨a0, a1, l1, b0, b1⟩, _⟩ := K.out
        go_wp2_with fail
        with_reducible refine Calls.mono (C2.out _) ?_
        rintro r w3 ⟨rfl, hg3⟩
        have HG := hid (K.out.2.trans hg3)
        clear hg3
        go_wp2
        go_ret3
        exact ⟨congrArg Ending.returned HV.out.symm, HG.out⟩


set_option maxHeartbeats 1600000 in
theorem implPartAt_any (last p : Int) (w : World) (hT : Tabs w) :
    Calls Tryz.prog 207 #[.int .i64 last, .int .i64 p] w fun r w' => r = .returned (partVal last p) ∧ w.grownBy w' none := by
  by_cases h1 : within last 1 40 = true
  · by_cases h2 : within p 2 5 = true
    · have hok : partOk last p = true := by unfold partOk; rw [h1, h2]; rfl
      have hp : 2 ≤ p ∧ p ≤ 5 := (partOk_iff.1 hok).2
      obtain ⟨k, rfl⟩ : ∃ k : Nat, p = k := ⟨p.toNat, by omega⟩
      exact implPartAt_yes last k w hT hok
    · have HV := hid (partVal_no (last := last) (p := p) (by unfold partOk; rw [h1]; simpa using h2))
      by_cases h3 : p < 2
      · clear h2
        go_enter Tryz.func207, Tryz.ntmps207
        go_wp2_with (go_at_call 223; refine (lastOk_any _ _).mono ?_; rintro e w' ⟨rfl, rfl⟩)
        go_ret3
        exact ⟨congrArg Ending.returned HV.out.symm, grown_alloc _ _ _⟩
      · have h3' : decide (p < 2) = false := by simpa using h3
        have h4 : 5 < p := by simp [within] at h2; omega
        clear h2
        go_enter Tryz.func207, Tryz.ntmps207
        go_wp2_with (go_at_call 223; refine (lastOk_any _ _).mono ?_; rintro e w' ⟨rfl, rfl⟩)
        go_ret3
        exact ⟨congrArg Ending.returned HV.out.symm, grown_alloc _ _ _⟩
  · have HV := hid (partVal_no (last := last) (p := p) (by unfold partOk; simp [h1]))
    have h1' : within last 1 40 = false := by simpa using h1
    go_enter Tryz.func207, Tryz.ntmps207
    go_wp2_with (go_at_call 223; refine (lastOk_any _ _).mono ?_; rintro e w' ⟨rfl, rfl⟩)
    go_ret3
    exact ⟨congrArg Ending.returned HV.out.symm, grown_alloc _ _ _⟩

set_option maxHeartbeats 800000 in
theorem implMiddleAt_any (last : Int) (w : World) (hT : Tabs w) :
    Calls Tryz.prog 178 #[.int .i64 last] w fun r w' => r = .returned (partVal last 2) ∧ w.grownBy w' none := by
  have CP := hid (implPartAt_any last 2 w hT)
  obtain ⟨x, y, b, hv⟩ := partVal_form last 2
  rw [hv] at CP ⊢
  clear hv
  go_enter Tryz.func178, Tryz.ntmps178
  go_wp2_with fail
  with_reducible refine Calls.mono CP.out ?_
  rintro r w1 ⟨rfl, hg⟩
  have HG := hid hg
  clear hg
  go_wp2
  go_ret3
  exact ⟨rfl, HG.out⟩
end Go.Proofs.YtkejcajboneniabGreatDoor
namespace Go.Proofs.YtkejcajboneniabGreatDoor
open Go.RowKit

set_option maxHeartbeats 1600000 in
theorem implMiddlesOf_any (last : Int) (w : World) (hT : Tabs w) :
    Calls Tryz.prog 147 #[.int .i64 last] w fun r w' => ∃ A2 m c2, r = .returned (.slice A2 m c2) ∧ w'.ownsRow w.heap.size 3 1 (.slice A2 m c2) m (ints (middles last)) ∧ m ≤ 2 ∧ Below w.heap.size w w' := by
  have CM := hid (implMiddleAt_any last w hT)
  by_cases h1 : within last 1 40 = true
  · have hl : 1 ≤ last ∧ last ≤ 40 := by simpa [within] using h1
    rw [partVal_yes (show partOk last 2 = true by unfold partOk; rw [h1]; rfl)] at CM
    have hd : last / 2 ≤ 20 := by omega
    have hd0 : 0 ≤ last / 2 := by omega
    by_cases h2 : last % 2 = 0
    · have HM := hid (show middles last = [last / 2] by unfold middles; rw [if_pos h1, if_pos h2])
      go_enter Tryz.func147, Tryz.ntmps147
      go_wp2_with fail
      with_reducible refine Calls.mono CM.out ?_
      rintro r w1 ⟨rfl, hg⟩
      have HG := hid hg
      clear hg
      go_wp2
      go_ret
      exact ⟨_, 1, 1, rfl, by rw [HM.out]; exact World.ownsRow_lit w1 #[.int .i64 (last / 2)] 1 HG.out.size (by simp [maxLen]) rfl, by omega, (below_grown HG.out).trans ((Below.refl _ _).alloc HG.out.size _)⟩
    · have h2' : decide (last % 2 = 0) = false := by simpa using h2
      have HM := hid (show middles last = [last / 2, last / 2 + 1] by unfold middles; rw [if_pos h1, if_neg h2])
      go_enter Tryz.func147, Tryz.ntmps147
      go_wp2_with fail
      with_reducible refine Calls.mono CM.out ?_
      rintro r w1 ⟨rfl, hg⟩
      have HG := hid hg
      clear hg
      go_wp2
      go_ret
      exact ⟨_, 2, 2, rfl, by rw [HM.out]; exact World.ownsRow_lit w1 #[.int .i64 (last / 2), .int .i64 (last / 2 + 1)] 2 HG.out.size (by simp [maxLen]) rfl, by omega, (below_grown HG.out).trans ((Below.refl _ _).alloc HG.out.size _)⟩
  · have h1' : within last 1 40 = false := by simpa using h1
    rw [partVal_no (show partOk last 2 = false by unfold partOk; rw [h1']; rfl)] at CM
    have HM := hid (show middles last = [] by unfold middles; rw [h1']; rfl)
    go_enter Tryz.func147, Tryz.ntmps147
    go_wp2_with fail
    with_reducible refine Calls.mono CM.out ?_
    rintro r w1 ⟨rfl, hg⟩
    have HG := hid hg
    clear hg
    go_wp2
    go_ret
    first
      | exact ⟨none, 0, 0, rfl, by rw [HM.out]; exact World.ownsRow_nil _ _ _ _, by omega, below_grown HG.out⟩
      | exact ⟨_, 0, 0, rfl, by rw [HM.out]; exact World.ownsRow_lit w1 #[] 0 HG.out.size (by simp [maxLen]) rfl, by omega, (below_grown HG.out).trans ((Below.refl _ _).alloc HG.out.size _)⟩
end Go.Proofs.YtkejcajboneniabGreatDoor
namespace Go.Proofs.YtkejcajboneniabGreatDoor
open Go.RowKit

theorem machinesOk_any (s : Int) (w : World) :
    Calls Tryz.prog 179 #[.int .i64 s] w fun e w' => e = .returned (.bool (within s 1 40)) ∧ w = w' := by
  by_cases h1 : 1 ≤ s
  · go_enter Tryz.func179, Tryz.ntmps179
    go_wp2
    go_ret
    exact ⟨ret_bool (by simp [within, h1]), rfl⟩
  · have h1' : decide (1 ≤ s) = false := by simpa using h1
    go_enter Tryz.func179, Tryz.ntmps179
    go_wp2
    go_ret
    exact ⟨ret_bool (by simp [within]; omega), rfl⟩

theorem roundsOfF_any (n : Int) (w : World) :
    Calls Tryz.prog 181 #[.int .i64 n] w fun e w' =>
      e = .returned (.func (.func 209) #[] #[.pointer (some ⟨w.heap.size, 0, none⟩)]) ∧ w' = w.alloc (.cells #[.int .i64 n] 3) := by
  go_enter Tryz.func181, Tryz.ntmps181
  go_wp2
  go_ret
  exact ⟨rfl, rfl⟩

attribute [local go_sem] Oper.semAt_some

set_option maxHeartbeats 1600000 in
/-- The iterator: the rounds are handed over, one by one, to whatever goes on with J and stops with Jx. -/
theorem rounds_in (m l h N : Nat) (J : List Int → World → Prop) (Jx : World → Prop) (W0 : World) (h1 : 1 ≤ N) (hN : N ≤ 40) (hc : W0.cell? ⟨h, 0, none⟩ = some (.int .i64 N))
    (hY : ∀ (pre : List Int) (x : Nat) (W : World), J pre W → (∃ rest, roundsN N = pre ++ (x : Int) :: rest) → 2 ≤ x → x ≤ 40 → YieldAt Fence.wide (m - 1) Tryz.prog l #[.int .i64 x] W fun e W' =>
      (e = .returned (.bool true) ∧ J (pre ++ [(x : Int)]) W') ∨ (e = .returned (.bool false) ∧ Jx W'))
    (h0 : J [] W0) :
    CallsIn Fence.wide m Tryz.prog 209 #[.func (.yield l) #[] #[], .pointer (some ⟨h, 0, none⟩)] W0 fun e W' => (∃ v, e = .returned v) ∧ (J (roundsN N) W' ∨ Jx W') := by
  refine callsIn_of_wp Tryz.func209 rfl trivial ?_ rfl
  simp only [Tryz.ntmps209, List.size_toArray, List.length_cons, List.length_nil, Nat.reduceAdd, Nat.reduceSub, Array.replicate_succ, Array.replicate_zero, List.push_toArray, List.append_toArray, List.nil_append, List.cons_append]
  have hwd : Fence.wide.depth.isSome = false := rfl
  gi_wp2
  have HS := hid (show ([] : List Int) ++ roundsN N = roundsN N from rfl)
  have HY := hid hY; clear hY
  have HJ := hid h0; clear h0
  gi_loopw [3] (fun i wr => ∃ (k : Nat) (pre : List Int), i = .int .i64 k ∧ 1 ≤ k ∧ k ≤ 40 ∧ Hid (pre ++ roundsN k = roundsN N) ∧ Hid (J pre wr)) (fun i _ => (intOf i).toNat)
  case atStart => exact ⟨N, [], rfl, h1, hN, HS, HJ⟩
  case round =>
    clear HJ HS
    obtain ⟨k, pre, rfl, hk1, hk2, HL, HJ⟩ := hrel
    by_cases hlt : 2 ≤ k
    · have hst := roundsN_step k hk2 hlt
      have HS := hid (show (pre ++ [(k : Int)]) ++ roundsN ((k + 1) / 2) = roundsN N from by rw [← HL.out, hst]; simp)
      obtain ⟨fn, tmps, assign, body, hy, hRd⟩ := HY.out pre k wr HJ.out ⟨_, by rw [← HL.out, hst]⟩ hlt hk2
      clear hst
      have HR := hid hRd; clear hRd
      have hlt1 : (1 : Int) < (k : Int) := by omega
      have hdiv : ((k : Int) + 1) / 2 = (((k + 1) / 2 : Nat) : Int) := by omega
      have HD := hid hdiv; clear hdiv
      gi_wp2
      refine HR.out.mono ?_
      rintro e W3 (⟨rfl, hj⟩ | ⟨rfl, hj⟩)
      · have HJ3 := hid hj; clear hj
        gi_wp2
        go_roundw
        case rel => exact ⟨(k + 1) / 2, pre ++ [(k : Int)], by rw [HD.out], by omega, by omega, HS, HJ3⟩
        case measure => simp [intOf]; omega
      · have HJ3 := hid hj; clear hj
        gi_wp2
        refine bodyPost_ret (results_none rfl _ _ _) rfl ?_
        exact ⟨⟨_, rfl⟩, .inr HJ3.out⟩
    · obtain rfl : k = 1 := by omega
      have hl : pre = roundsN N := by
        have h := HL.out
        rwa [roundsN_none (by omega), List.append_nil] at h
      subst hl
      gi_wp2
      go_end0
      exact ⟨⟨_, rfl⟩, .inl HJ.out⟩

theorem Boxed.put {W : World} {B l : Nat} {t : TypeId} {v : Value} (h : Boxed W B t v) (o : Obj) (hne : B ≠ l) : Boxed (W.putObj l o) B t v := (World.putObj_heap_other hne).trans h
theorem below_put {W W' : World} {B l : Nat} (h : Below B W W') (o : Obj) (hl : B ≤ l) (hB : B ≤ W'.heap.size) : Below B W (W'.putObj l o) := h.grown (grownBy_putObj' W' l o) hB (by intro k hk; cases hk; exact hl)

set_option maxHeartbeats 1600000 in
theorem appendRounds_any (h N : Nat) (w : World) (h1 : 1 ≤ N) (hN : N ≤ 40) (hc : w.cell? ⟨h, 0, none⟩ = some (.int .i64 N)) (hlt : h < w.heap.size) :
    Calls Tryz.prog 208 #[.slice none 0 0, .func (.func 209) #[] #[.pointer (some ⟨h, 0, none⟩)]] w fun e w' =>
      ∃ A m c, e = .returned (.slice A m c) ∧ w'.ownsRow w.heap.size 3 1 (.slice A m c) m (ints (roundsN N)) ∧ m ≤ 6 ∧ Below w.heap.size w w' := by
  obtain ⟨i0, hi, hz0, hz1, hz2⟩ := info_parts info_int
  have hlen := roundsN_len N hN
  refine (callsIn_wide (n := 5)).1 ?_
  have hwd : Fence.wide.depth.isSome = false := rfl
  have hwr : Fence.wide.round = none := rfl
  refine callsIn_of_wp_marks Tryz.func208 rfl trivial ?_ rfl
  simp only [Tryz.ntmps208, List.size_toArray, List.length_cons, List.length_nil, Nat.reduceAdd, Nat.reduceSub, Array.replicate_succ, Array.replicate_zero, List.push_toArray, List.append_toArray, List.nil_append, List.cons_append]
  gi_wp2
  obtain ⟨W0, hW0⟩ : ∃ W0 : World, w.alloc (.cells #[.slice none 0 0] 28) = W0 := ⟨_, rfl⟩
  rw [hW0]
  have hsz : w.heap.size + 1 ≤ W0.heap.size := by rw [← hW0]; simp
  have hb0 : Below w.heap.size w W0 := by rw [← hW0]; exact (Below.refl _ w).alloc (Nat.le_refl _) _
  have x0 : Boxed W0 w.heap.size 28 (.slice none 0 0) := by rw [← hW0]; exact Boxed.new w _ _
  have hc0 : W0.cell? ⟨h, 0, none⟩ = some (.int .i64 N) := (hb0.cell (p := ⟨h, 0, none⟩) hlt).trans hc
  clear hW0 hc
  have eg : ∀ args w, (callFunc 209 args).run Tryz.prog w = .ok (.enter 209 args) w := enters_of Tryz.func209 (by kernel_rfl) rfl
  refine range_bare (n := 5) rfl eg ?_
  intro rc W1 hs1 hb1 hl1 hd1 hY
  refine (rounds_in (5 - 1) (W0.heap.size + 1) h N
    (fun pre W => W.heap[W0.heap.size + 1]? = some (.loop (rc .ready none)) ∧ W.heap[W0.heap.size]? = some (.deferred (some [])) ∧
      (∃ v, Boxed W w.heap.size 28 v ∧ W.ownsRow w.heap.size 3 1 v pre.length (ints pre)) ∧ Below w.heap.size w W) (fun _ => False) W1 h1 hN
    ((hb1.cell (p := ⟨h, 0, none⟩) (by simp; omega)).trans hc0) ?yields
    ⟨hl1, hd1, ⟨_, x0.kept (row := none) ⟨hb1.os, hb1.tape, hb1.output, hb1.size, fun k hk _ => hb1.block k hk⟩ (by simp), World.ownsRow_nil _ _ _ _⟩, hb0.trans (hb1.mono (by omega))⟩).mono ?behind
  case yields =>
    rintro pre x W ⟨hl, hd, ⟨v, hv, hr⟩, hb⟩ ⟨rest, hrest⟩ hx2 hx40
    have hpl : pre.length + 1 ≤ 6 := by rw [hrest] at hlen; simp at hlen; omega
    refine hY #[.int .i64 x] W _ rfl hl ⟨?a1, ?w1, ?assign, ?ready, ?body⟩
    case assign =>
      intro K hK
      gi_wp2
      exact hK
    case ready => exact hl
    have hsW : w.heap.size ≤ W.heap.size := hb.size
    have hlW : W0.heap.size + 1 < W.heap.size := (Array.getElem?_eq_some_iff.1 hl).1
    obtain ⟨Wb, hWb⟩ : ∃ Wb, W.putObj (W0.heap.size + 1) (.loop (rc .busy none)) = Wb := ⟨_, rfl⟩
    rw [hWb]
    have lb : Wb.heap[W0.heap.size + 1]? = some (.loop (rc .busy none)) := by rw [← hWb]; exact World.putObj_heap_same hlW
    have db : Wb.heap[W0.heap.size]? = some (.deferred (some [])) := by rw [← hWb]; exact (World.putObj_heap_other (by omega)).trans hd
    have vb : Boxed Wb w.heap.size 28 v := by rw [← hWb]; exact Boxed.put hv _ (by omega)
    have rb : Wb.ownsRow w.heap.size 3 1 v pre.length (ints pre) := by rw [← hWb]; exact ownsRow_putObj hr _ hl rfl
    have bb : Below w.heap.size w Wb := by rw [← hWb]; exact below_put hb _ (by omega) hsW
    have szb : w.heap.size ≤ Wb.heap.size := bb.size
    have hcv := vb.cell
    have hfv := vb.frozen
    clear hl hd hv hr hb hWb
    gi_wp2_with (gi_at_builtin; refine wpListIn_append_own _ rfl _ _ 28 rfl w.heap.size 3 i0 (.int .i64 0) 1 8 Tryz.underlying28 hi hz0 hz1 hz2 rfl (by decide) _ _ _ rfl (rb.alloc _) ⟨Wb.heap.size, 0, none⟩ 1 1 [.int .i64 x] rfl rfl (cell_one_new _ _ _) (by simp [Value.oneCell']) (by simp only [maxLen]; omega) (by omega) (by simp; omega) ?_; intro v' w1 hown' hgrow _; obtain ⟨g', cap', rfl⟩ := ownsRow_succ hown'; obtain ⟨hv1, hv2, hr2, hk2, hb2⟩ := vb.appended (by decide) rb szb (Nat.le_refl _) hown' hgrow; have hc1 := hv1.cell; have hf1 := hv1.frozen)
    have hl3 := hk2.same _ _ lb rfl
    have hd3 := hk2.same _ _ db rfl
    exact ⟨hl3, rfl, World.putObj_heap_same (Array.getElem?_eq_some_iff.1 hl3).1, (World.putObj_heap_other (by omega)).trans hd3, ⟨_, Boxed.put hv2 _ (by omega), ownsRow_putObj hr2 _ hl3 rfl⟩, below_put (bb.trans hb2) _ (by omega) (bb.trans hb2).size⟩
  case behind =>
    rintro e W' ⟨hv, (⟨hl, hd, ⟨v, hv2, hr⟩, hb⟩ | h)⟩
    · refine ⟨hv, .inl ⟨hl, fun o => ?_⟩⟩
      obtain ⟨W2, hW2⟩ : ∃ W2, W'.putObj (W0.heap.size + 1) o = W2 := ⟨_, rfl⟩
      rw [hW2]
      have hcv : W2.cell? ⟨w.heap.size, 0, none⟩ = some v := by rw [← hW2]; exact (Boxed.put hv2 _ (by omega)).cell
      have hK2 : W2.heap[W0.heap.size]? = some (.deferred (some [])) := by rw [← hW2]; exact (World.putObj_heap_other (by omega)).trans hd
      have hr2 : W2.ownsRow w.heap.size 3 1 v (roundsN N).length (ints (roundsN N)) := by rw [← hW2]; exact ownsRow_putObj hr _ hl rfl
      have hb2 : Below w.heap.size w W2 := by rw [← hW2]; exact below_put hb _ (by omega) hb.size
      obtain ⟨A, c, rfl⟩ : ∃ A c, v = .slice A (roundsN N).length c := by
        rcases hr2.2 with ⟨h1, h2⟩ | ⟨g, cap, cur, h1, _⟩
        · exact ⟨none, 0, by rw [h1, h2]⟩
        · exact ⟨_, _, h1⟩
      obtain ⟨R, hR⟩ : ∃ R, roundsN N = R := ⟨_, rfl⟩
      rw [hR] at hlen hcv hr2
      clear hW2 hb hl hd hr hv2
      gi_wp2
      refine ⟨by simp, .inl ⟨_, _, rfl, run_takeDeferred hK2, ?_⟩⟩
      exact ⟨_, results_tmp rfl _ _ _, A, R.length, c, rfl, ownsRow_putObj hr2 _ hK2 rfl, hlen, below_put hb2 _ (by omega) hb2.size⟩
    · exact h.elim

set_option maxHeartbeats 800000 in
theorem collectRounds_any (h N : Nat) (w : World) (h1 : 1 ≤ N) (hN : N ≤ 40) (hc : w.cell? ⟨h, 0, none⟩ = some (.int .i64 N)) (hlt : h < w.heap.size) :
    Calls Tryz.prog 180 #[.func (.func 209) #[] #[.pointer (some ⟨h, 0, none⟩)]] w fun e w' =>
      ∃ A m c, e = .returned (.slice A m c) ∧ w'.ownsRow w.heap.size 3 1 (.slice A m c) m (ints (roundsN N)) ∧ m ≤ 6 ∧ Below w.heap.size w w' := by
  have CA := hid (appendRounds_any h N w h1 hN hc hlt)
  go_enter Tryz.func180, Tryz.ntmps180
  go_wp2_with fail
  with_reducible refine Calls.mono CA.out ?_
  rintro e w' ⟨A, m, c, rfl, o1, hm, b1⟩
  have HO := hid o1; clear o1
  go_wp2
  go_ret
  exact ⟨_, _, _, rfl, HO.out, hm, b1⟩

set_option maxHeartbeats 800000 in
theorem implRoundsOf_any (n : Int) (w : World) (hw : (Lit.int .i64 n).wf = true) :
    Calls Tryz.prog 148 #[.int .i64 n] w fun r w' => ∃ A2 m c2, r = .returned (.slice A2 m c2) ∧ w'.ownsRow w.heap.size 3 1 (.slice A2 m c2) m (ints (roundsOut n)) ∧ m ≤ 6 ∧ Below w.heap.size w w' := by
  by_cases hok : within n 1 40 = true
  · have hn : 1 ≤ n ∧ n ≤ 40 := by simpa [within] using hok
    obtain ⟨N, rfl⟩ : ∃ N : Nat, n = N := Int.eq_ofNat_of_zero_le (by omega)
    have HR := hid (show roundsOut (N : Int) = roundsN N from roundsOut_yes hn)
    have hb0 : Below w.heap.size w (w.alloc (.cells #[.int .i64 N] 3)) := (Below.refl _ _).alloc (Nat.le_refl _) _
    have CA := hid (collectRounds_any w.heap.size N (w.alloc (.cells #[.int .i64 N] 3)) (by omega) (by omega) (by exact (Boxed.new w _ _).cell) (by simp))
    go_enter Tryz.func148, Tryz.ntmps148
    go_wp2_with (first | (go_at_call 179; refine (machinesOk_any _ _).mono ?_; rintro e w' ⟨rfl, rfl⟩) | (go_at_call 181; refine (roundsOfF_any _ _).mono ?_; rintro e w' ⟨rfl, rfl⟩))
    with_reducible refine Calls.mono CA.out ?_
    rintro e w' ⟨A, m, c, rfl, o1, hm, b1⟩
    have HO := hid (own_mono (base' := w.heap.size) o1 hb0.size); clear o1
    go_wp2
    go_ret
    exact ⟨_, _, _, rfl, by rw [HR.out]; exact HO.out, hm, hb0.trans (b1.mono hb0.size)⟩
  · have h1 : within n 1 40 = false := by simpa using hok
    have HR := hid (show roundsOut n = [] from roundsOut_no (by simpa [within] using hok))
    clear hok
    go_enter Tryz.func148, Tryz.ntmps148
    go_wp2_with (go_at_call 179; refine (machinesOk_any _ _).mono ?_; rintro e w' ⟨rfl, rfl⟩)
    go_ret
    exact ⟨_, 0, 0, rfl, by rw [HR.out]; exact World.ownsRow_nil _ _ _ _, by omega, Below.refl _ _⟩
end Go.Proofs.YtkejcajboneniabGreatDoor
namespace Go.Proofs.YtkejcajboneniabGreatDoor
open Go.RowKit

attribute [local go_sem] Oper.semAt_some

set_option maxHeartbeats 1600000 in
theorem fireAt_yes (N : Nat) (w : World) (h1 : 1 ≤ N) (hN : N ≤ 40) (hT : Tabs w) :
    Calls Tryz.prog 182 #[.int .i64 N] w fun e w' => e = .returned (.int .i64 (fires (roundsN N))) ∧ Below w.heap.size w w' := by
  have hHB := fun k : Nat => fires_take_bd (n := (N : Int)) k
  rw [roundsOut_yes (show 1 ≤ (N : Int) ∧ (N : Int) ≤ 40 by omega), Int.toNat_natCast] at hHB
  have HB := hid hHB; clear hHB
  refine (callsIn_wide (n := 5)).1 ?_
  have hwd : Fence.wide.depth.isSome = false := rfl
  have hwr : Fence.wide.round = none := rfl
  have hf1 : Fence.wide.fn 179 := trivial
  have hf2 : Fence.wide.fn 181 := trivial
  have hf3 : Fence.wide.fn 178 := trivial
  have hok : within (N : Int) 1 40 = true := by simp [within]; omega
  refine callsIn_of_wp_marks Tryz.func182 rfl trivial ?_ rfl
  simp only [Tryz.ntmps182, List.size_toArray, List.length_cons, List.length_nil, Nat.reduceAdd, Nat.reduceSub, Array.replicate_succ, Array.replicate_zero, List.push_toArray, List.append_toArray, List.nil_append, List.cons_append]
  gi_wp2_with (first | (gi_at_call 179; refine (callsIn_wide.2 (machinesOk_any _ _)).mono ?_; rintro e w' ⟨rfl, rfl⟩) | (gi_at_call 181; refine (callsIn_wide.2 (roundsOfF_any _ _)).mono ?_; rintro e w' ⟨rfl, rfl⟩))
  obtain ⟨W0, hW0⟩ : ∃ W0 : World, (w.alloc (.cells #[.int .i64 0] 3)).alloc (.cells #[.int .i64 N] 3) = W0 := ⟨_, rfl⟩
  rw [hW0]
  have hsz : w.heap.size + 2 ≤ W0.heap.size := by rw [← hW0]; simp
  have hb0 : Below w.heap.size w W0 := by rw [← hW0]; exact ((Below.refl _ w).alloc (Nat.le_refl _) _).alloc (by simp) _
  have x0 : Boxed W0 w.heap.size 3 (.int .i64 0) := by rw [← hW0]; exact (Boxed.new w _ _).alloc _
  have hc0 : W0.cell? ⟨w.heap.size + 1, 0, none⟩ = some (.int .i64 N) := by rw [← hW0]; have := (Boxed.new (w.alloc (.cells #[.int .i64 0] 3)) 3 (.int .i64 N)).cell; rwa [World.size_alloc] at this
  clear hW0
  have eg : ∀ args w, (callFunc 209 args).run Tryz.prog w = .ok (.enter 209 args) w := enters_of Tryz.func209 (by kernel_rfl) rfl
  refine range_bare (n := 5) rfl eg ?_
  intro rc W1 hs1 hb1 hl1 hd1 hY
  refine (rounds_in (5 - 1) (W0.heap.size + 1) (w.heap.size + 1) N
    (fun pre W => W.heap[W0.heap.size + 1]? = some (.loop (rc .ready none)) ∧ W.heap[W0.heap.size]? = some (.deferred (some [])) ∧
      Boxed W w.heap.size 3 (.int .i64 (fires pre)) ∧ Below w.heap.size w W) (fun _ => False) W1 h1 hN
    ((hb1.cell (p := ⟨w.heap.size + 1, 0, none⟩) (by simp; omega)).trans hc0) ?yields
    ⟨hl1, hd1, x0.kept (row := none) ⟨hb1.os, hb1.tape, hb1.output, hb1.size, fun k hk _ => hb1.block k hk⟩ (by simp), hb0.trans (hb1.mono (by omega))⟩).mono ?behind
  case yields =>
    rintro pre x W ⟨hl, hd, hv, hb⟩ ⟨rest, hrest⟩ hx2 hx40
    have HS := hid (show fires (pre ++ [(x : Int)]) = fires pre + partTime ((x : Int) - 1) 2 from by rw [fires_snoc])
    have hs1 := HB.out pre.length
    have hs2 := HB.out (pre.length + 1)
    rw [hrest] at hs1 hs2
    rw [List.take_left] at hs1
    rw [show (pre ++ (x : Int) :: rest).take (pre.length + 1) = pre ++ [(x : Int)] from by rw [show pre ++ (x : Int) :: rest = (pre ++ [(x : Int)]) ++ rest from by simp, show pre.length + 1 = (pre ++ [(x : Int)]).length from by simp, List.take_left], HS.out] at hs2
    refine hY #[.int .i64 x] W _ rfl hl ⟨?a1, ?w1, ?assign, ?ready, ?body⟩
    case assign =>
      intro K hK
      gi_wp2
      exact hK
    case ready => exact hl
    clear hrest HB
    have hsW : w.heap.size ≤ W.heap.size := hb.size
    have hlW : W0.heap.size + 1 < W.heap.size := (Array.getElem?_eq_some_iff.1 hl).1
    obtain ⟨Wb, hWb⟩ : ∃ Wb, W.putObj (W0.heap.size + 1) (.loop (rc .busy none)) = Wb := ⟨_, rfl⟩
    rw [hWb]
    have lb : Wb.heap[W0.heap.size + 1]? = some (.loop (rc .busy none)) := by rw [← hWb]; exact World.putObj_heap_same hlW
    have db : Wb.heap[W0.heap.size]? = some (.deferred (some [])) := by rw [← hWb]; exact (World.putObj_heap_other (by omega)).trans hd
    have vb : Boxed Wb w.heap.size 3 (.int .i64 (fires pre)) := by rw [← hWb]; exact Boxed.put hv _ (by omega)
    have bb : Below w.heap.size w Wb := by rw [← hWb]; exact below_put hb _ (by omega) hsW
    clear hl hd hv hb hWb
    have CM := hid (implMiddleAt_any ((x : Int) - 1) Wb (hT.below bb))
    rw [partVal_yes (by rw [partOk_iff]; omega)] at CM
    obtain ⟨s, hse⟩ : ∃ s, fires pre = s := ⟨_, rfl⟩
    obtain ⟨q, hqe⟩ : ∃ q, partTime ((x : Int) - 1) 2 = q := ⟨_, rfl⟩
    rw [hqe] at CM HS hs2
    rw [hse] at HS hs1 hs2 vb
    clear hse hqe
    gi_wp2_with (gi_at_call 178; refine (CallsIn.inRound (W0.heap.size + 1) (callsIn_wide.2 CM.out)).mono ?_; rintro r w2 ⟨rfl, g2⟩; have v2 := vb.kept g2 (by simp); have hc2 := v2.cell; have hf2 := v2.frozen)
    have l2 : w2.heap[W0.heap.size + 1]? = some (.loop (rc .busy none)) := (g2.block _ (Array.getElem?_eq_some_iff.1 lb).1 (by simp)).trans lb
    have d2 : w2.heap[W0.heap.size]? = some (.deferred (some [])) := (g2.block _ (Array.getElem?_eq_some_iff.1 db).1 (by simp)).trans db
    have hK3 := KeepsOthers.setCell w2 ⟨w.heap.size, 0, none⟩ (.int .i64 (s + q))
    have hl3 := hK3.same _ _ l2 rfl
    have hd3 := hK3.same _ _ d2 rfl
    have b3 := (bb.trans ((below_grown g2).mono bb.size)).setCell (p := ⟨w.heap.size, 0, none⟩) (Nat.le_refl _) (.int .i64 (s + q))
    exact ⟨hl3, .inl ⟨rfl, World.putObj_heap_same (Array.getElem?_eq_some_iff.1 hl3).1, (World.putObj_heap_other (by omega)).trans hd3, by rw [HS.out]; exact Boxed.put (v2.set _) _ (by omega), below_put b3 _ (by omega) b3.size⟩⟩
  case behind =>
    rintro e W' ⟨hv, (⟨hl, hd, hv2, hb⟩ | h)⟩
    · refine ⟨hv, .inl ⟨hl, fun o => ?_⟩⟩
      obtain ⟨W2, hW2⟩ : ∃ W2, W'.putObj (W0.heap.size + 1) o = W2 := ⟨_, rfl⟩
      rw [hW2]
      obtain ⟨s, hse⟩ : ∃ s, fires (roundsN N) = s := ⟨_, rfl⟩
      rw [hse] at hv2
      have hcv : W2.cell? ⟨w.heap.size, 0, none⟩ = some (.int .i64 s) := by rw [← hW2]; exact (Boxed.put hv2 _ (by omega)).cell
      have hK2 : W2.heap[W0.heap.size]? = some (.deferred (some [])) := by rw [← hW2]; exact (World.putObj_heap_other (by omega)).trans hd
      have hb2 : Below w.heap.size w W2 := by rw [← hW2]; exact below_put hb _ (by omega) hb.size
      clear hW2 hb hl hd hv2
      gi_wp2
      refine ⟨by simp, .inl ⟨_, _, rfl, run_takeDeferred hK2, ?_⟩⟩
      exact ⟨_, results_tmp rfl _ _ _, rfl, below_put hb2 _ (by omega) hb2.size⟩
    · exact h.elim

set_option maxHeartbeats 1600000 in
theorem implFireAt_any (n : Int) (w : World) (hw : (Lit.int .i64 n).wf = true) (hT : Tabs w) :
    Calls Tryz.prog 182 #[.int .i64 n] w fun r w' => r = .returned (.int .i64 (fireOut n)) ∧ Below w.heap.size w w' := by
  by_cases hok : within n 1 40 = true
  · have hn : 1 ≤ n ∧ n ≤ 40 := by simpa [within] using hok
    obtain ⟨N, rfl⟩ : ∃ N : Nat, n = N := Int.eq_ofNat_of_zero_le (by omega)
    have hF : fireOut (N : Int) = fires (roundsN N) := by unfold fireOut; rw [if_pos hok, roundsOut_yes hn, Int.toNat_natCast]
    rw [hF]
    exact fireAt_yes N w (by omega) (by omega) hT
  · have h1' : within n 1 40 = false := by simpa using hok
    have HF := hid (show fireOut n = -1 from by unfold fireOut; rw [if_neg hok])
    clear hok
    go_enter Tryz.func182, Tryz.ntmps182
    go_wp2_with (go_at_call 179; refine (machinesOk_any _ _).mono ?_; rintro e w' ⟨rfl, rfl⟩)
    go_ret
    exact ⟨ret_int HF.out.symm, Below.refl _ _⟩
end Go.Proofs.YtkejcajboneniabGreatDoor
