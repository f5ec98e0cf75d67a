/-
  The walks of the exact laws of MeetAt and TimesAt. No statement is proved here.
-/
import Derived.Test.YtajjmhfbdknlfaaC2x
import Derived.Test.YtajjmhfbdknlfaaC2m
import Derived.Test.YtajjmhfbdknlfaaC2n
import Derived.Deep.RegionHeld3
import Derived.Test.YtajjmhfbdknlfaaC2u
import Derived.Test.YtajjmhfbdknlfaaExE
import Derived.Test.YtajjmhfbdknlfaaExM
namespace Go.Proofs.Ytajjmhfbdknlfaa
open Go.RowKit
set_option linter.unusedVariables false
set_option linter.unusedSimpArgs false

theorem One.below {w w1 w2 : World} {f e : Int} (h : One w w1 f e) (hb : Below w1.heap.size w1 w2) : One w w2 f e :=
  ⟨(hb.cell (p := ⟨w.heap.size, 0, none⟩) (by have := h.hs; simp; omega)).trans h.a0, (hb.cell (p := ⟨w.heap.size, 1, none⟩) (by have := h.hs; simp; omega)).trans h.a1, grown_below h.hg hb h.hg.size, Nat.le_trans h.hs hb.size⟩

theorem meetVal_form (f e g d last : Int) : ∃ x y b, meetVal f e g d last = .tuple #[.int .i64 x, .int .i64 y, .bool b] := by
  unfold meetVal
  cases meetOut f e g d last with
  | none => exact ⟨_, _, _, rfl⟩
  | some m => exact ⟨_, _, _, rfl⟩

set_option maxRecDepth 100000 in
set_option maxHeartbeats 1600000 in
theorem fnExactTimesAt_walk (f e last p : Int) (w : World) (wf : (Lit.int .i64 f).wf = true) (we : (Lit.int .i64 e).wf = true) (wlast : (Lit.int .i64 last).wf = true) (wp : (Lit.int .i64 p).wf = true) :
    Calls Try.prog 12 #[sig f e, .int .i64 last, .int .i64 p] w fun r w' => r = .returned (.bool true) ∧ Below w.heap.size w w' := by
  have CT := hid (fun W : World => toSignal_any f e W)
  have CS := hid (fun W : World => specTimesAt_any f e last p W)
  have CI := hid (fun W : World => implTimesAt_any f e last p W)
  obtain ⟨l, hl⟩ : ∃ l, timesOut f e last p = l := ⟨_, rfl⟩
  rw [hl] at CS CI
  clear hl
  go_enter Try.func12, Try.ntmps12
  go_wp2_with fail
  with_reducible refine Calls.mono (CT.out _) ?_
  rintro r w1 ⟨rfl, g1⟩
  have K : Hid (One w w1 f e) := hid ⟨g1.cell (by simp) (by simp), g1.cell (by simp) (by simp), (grown_alloc _ _ _).trans g1, Nat.le_trans (by simp) g1.size⟩
  clear g1
  obtain ⟨a0, a1, _, hz1⟩ := K.out
  go_wp2_with fail
  with_reducible refine Calls.mono (CS.out _) ?_
  rintro r w2 ⟨AW, nW, cW, rfl, oW, hnW, st2⟩
  have K := hid (K.out.below st2)
  have z2 := st2.size
  clear a0 a1
  obtain ⟨a0, a1, _, hz2⟩ := K.out
  have rloW := own_lo oW
  have rhiW := own_hi oW
  go_wp2_with fail
  with_reducible refine Calls.mono (CT.out _) ?_
  rintro r w3 ⟨rfl, g3⟩
  have oW := own_kept_none oW g3
  have K := hid (K.out.on g3)
  have z3 := g3.size
  clear g3 a0 a1
  obtain ⟨a0, a1, _, hz3⟩ := K.out
  go_wp2_with fail
  with_reducible refine Calls.mono (CI.out _) ?_
  rintro r w4 ⟨AG, nG, cG, rfl, oG, hnG, st4⟩
  have oW := own_on oW st4
  have K := hid (K.out.below st4)
  have z4 := st4.size
  clear a0 a1
  obtain ⟨a0, a1, _, hz4⟩ := K.out
  have rloG := own_lo oG
  have rhiG := own_hi oG
  go_wp2_with fail
  refine (eqIntS_b _ _ _ _ _ _ _ _ _ _ _ (Sl.of_own oG) (Sl.of_own oW)).mono ?_
  rintro r w5 ⟨rfl, st5⟩
  rw [decide_eq_true rfl]
  have oW := own_on oW st5
  have oG := own_on oG st5
  have K := hid (K.out.below st5)
  have z5 := st5.size
  clear a0 a1
  obtain ⟨a0, a1, _, hz5⟩ := K.out
  go_wp2_with fail
  refine (markIntS_any _ _ _ _ _ _ _ oG (by omega) (by omega) (by omega)).mono ?_
  rintro r w6 ⟨rfl, oG, gr6⟩
  have oW := oW.kept gr6 (own_apart rloW rhiW rloG rhiG (by omega))
  have K := hid (K.out.onRow gr6 (by intro j hj; have := rloG j hj; omega))
  have z6 := gr6.size
  clear a0 a1
  obtain ⟨a0, a1, _, hz6⟩ := K.out
  go_wp2_with fail
  refine (heldIntS_any _ _ _ _ _ _ (Sl.of_own oG) (by omega) (by omega)).mono ?_
  rintro r w' ⟨rfl, rfl⟩
  go_wp2_with fail
  with_reducible refine Calls.mono (CT.out _) ?_
  rintro r w7 ⟨rfl, g7⟩
  have oW := own_kept_none oW g7
  have oG := own_kept_none oG g7
  have K := hid (K.out.on g7)
  have z7 := g7.size
  clear g7 a0 a1
  obtain ⟨a0, a1, _, hz7⟩ := K.out
  go_wp2_with fail
  with_reducible refine Calls.mono (CI.out _) ?_
  rintro r w8 ⟨AH, nH, cH, rfl, oH, hnH, st8⟩
  have oW := own_on oW st8
  have oG := own_on oG st8
  have K := hid (K.out.below st8)
  have z8 := st8.size
  clear a0 a1
  obtain ⟨a0, a1, _, hz8⟩ := K.out
  have rloH := own_lo oH
  have rhiH := own_hi oH
  go_wp2_with fail
  refine (eqIntS_b _ _ _ _ _ _ _ _ _ _ _ (Sl.of_own oH) (Sl.of_own oW)).mono ?_
  rintro r w9 ⟨rfl, st9⟩
  rw [decide_eq_true rfl]
  have oW := own_on oW st9
  have oG := own_on oG st9
  have oH := own_on oH st9
  have K := hid (K.out.below st9)
  have z9 := st9.size
  clear a0 a1
  obtain ⟨a0, a1, _, hz9⟩ := K.out
  go_wp2_with fail
  refine (heldIntS_any _ _ _ _ _ _ (Sl.of_own oG) (by omega) (by omega)).mono ?_
  rintro r w' ⟨rfl, rfl⟩
  go_wp2
  go_ret
  exact ⟨rfl, below_one K.out⟩
set_option maxRecDepth 100000 in
set_option maxHeartbeats 1600000 in
theorem fnExactMeetAt_walk (f e g d last : Int) (w : World) (wf : (Lit.int .i64 f).wf = true) (we : (Lit.int .i64 e).wf = true) (wg : (Lit.int .i64 g).wf = true) (wd : (Lit.int .i64 d).wf = true) (wlast : (Lit.int .i64 last).wf = true) :
    Calls Try.prog 11 #[sig f e, sig g d, .int .i64 last] w fun r w' => r = .returned (.bool true) ∧ Below w.heap.size w w' := by
  have CA := hid (fun W : World => toSignal_any f e W)
  have CB := hid (fun W : World => toSignal_any g d W)
  have CS := hid (fun W : World => specMeetAt_any f e g d last W)
  have CI := hid (fun W : World => implMeetAt_any f e g d last W)
  obtain ⟨x, y, b, hv⟩ := meetVal_form f e g d last
  rw [hv] at CS CI
  clear hv
  cases b with
  | false =>
    go_enter Try.func11, Try.ntmps11
    have K0 : Hid (Two w ((w.alloc (.cells #[.int .i64 f, .int .i64 e] 42)).alloc (.cells #[.int .i64 g, .int .i64 d] 42)) f e g d) := hid ⟨by simp, by simp, by simp, by simp, (grown_alloc _ _ _).trans (grown_alloc _ _ _)⟩
    go_wp2_with fail
    obtain ⟨a0, a1, b0, b1, _⟩ := K0.out
    go_region_held3 (fun w' => w'.cell? ⟨w.heap.size, 0, none⟩ = some (.int .i64 f) ∧ w'.cell? ⟨w.heap.size, 1, none⟩ = some (.int .i64 e) ∧ w'.cell? ⟨w.heap.size + 1, 0, none⟩ = some (.int .i64 g) ∧ w'.cell? ⟨w.heap.size + 1, 1, none⟩ = some (.int .i64 d))
      (first
        | go_keep
        | (go_split_ands
           refine ⟨?_, ?_, ?_, ?_⟩ <;> exact hg12.cell (by assumption) (by simp))
        | (go_split_ands
           refine ⟨?_, ?_, ?_, ?_⟩ <;> exact hg11.cell (by assumption) (by simp))
        | (go_split_ands
           refine ⟨?_, ?_, ?_, ?_⟩ <;> exact hg10.cell (by assumption) (by simp)))
      (first
        | (go_at_call 31; with_reducible refine Calls.mono (CA.out _) ?_; rintro r w10 ⟨rfl, hg10⟩)
        | (go_at_call 31; with_reducible refine Calls.mono (CB.out _) ?_; rintro r w11 ⟨rfl, hg11⟩)
        | (go_at_call 25; with_reducible refine Calls.mono (CS.out _) ?_; rintro r w12 ⟨rfl, hg12⟩))
    have K1 := hid ((((K0.out.on (drew_grown _)).on hg10).on hg11).on hg12)
    clear hg10 hg11 hg12
    obtain ⟨a0, a1, b0, b1, _⟩ := K1.out
    go_wp2_with fail
    go_region_held3 (fun w' => w'.cell? ⟨w.heap.size, 0, none⟩ = some (.int .i64 f) ∧ w'.cell? ⟨w.heap.size, 1, none⟩ = some (.int .i64 e) ∧ w'.cell? ⟨w.heap.size + 1, 0, none⟩ = some (.int .i64 g) ∧ w'.cell? ⟨w.heap.size + 1, 1, none⟩ = some (.int .i64 d))
      (first
        | go_keep
        | (go_split_ands
           refine ⟨?_, ?_, ?_, ?_⟩ <;> exact hg22.cell (by assumption) (by simp))
        | (go_split_ands
           refine ⟨?_, ?_, ?_, ?_⟩ <;> exact hg21.cell (by assumption) (by simp))
        | (go_split_ands
           refine ⟨?_, ?_, ?_, ?_⟩ <;> exact hg20.cell (by assumption) (by simp)))
      (first
        | (go_at_call 31; with_reducible refine Calls.mono (CA.out _) ?_; rintro r w20 ⟨rfl, hg20⟩)
        | (go_at_call 31; with_reducible refine Calls.mono (CB.out _) ?_; rintro r w21 ⟨rfl, hg21⟩)
        | (go_at_call 24; with_reducible refine Calls.mono (CI.out _) ?_; rintro r w22 ⟨rfl, hg22⟩))
    have K2 := hid ((((K1.out.on (drew_grown _)).on hg20).on hg21).on hg22)
    clear hg20 hg21 hg22
    go_wp2
    go_ret
    exact ⟨rfl, below_grown K2.out.hg⟩
  | true =>
    go_enter Try.func11, Try.ntmps11
    have K0 : Hid (Two w ((w.alloc (.cells #[.int .i64 f, .int .i64 e] 42)).alloc (.cells #[.int .i64 g, .int .i64 d] 42)) f e g d) := hid ⟨by simp, by simp, by simp, by simp, (grown_alloc _ _ _).trans (grown_alloc _ _ _)⟩
    go_wp2_with fail
    obtain ⟨a0, a1, b0, b1, _⟩ := K0.out
    go_region_held3 (fun w' => w'.cell? ⟨w.heap.size, 0, none⟩ = some (.int .i64 f) ∧ w'.cell? ⟨w.heap.size, 1, none⟩ = some (.int .i64 e) ∧ w'.cell? ⟨w.heap.size + 1, 0, none⟩ = some (.int .i64 g) ∧ w'.cell? ⟨w.heap.size + 1, 1, none⟩ = some (.int .i64 d))
      (first
        | go_keep
        | (go_split_ands
           refine ⟨?_, ?_, ?_, ?_⟩ <;> exact hg12.cell (by assumption) (by simp))
        | (go_split_ands
           refine ⟨?_, ?_, ?_, ?_⟩ <;> exact hg11.cell (by assumption) (by simp))
        | (go_split_ands
           refine ⟨?_, ?_, ?_, ?_⟩ <;> exact hg10.cell (by assumption) (by simp)))
      (first
        | (go_at_call 31; with_reducible refine Calls.mono (CA.out _) ?_; rintro r w10 ⟨rfl, hg10⟩)
        | (go_at_call 31; with_reducible refine Calls.mono (CB.out _) ?_; rintro r w11 ⟨rfl, hg11⟩)
        | (go_at_call 25; with_reducible refine Calls.mono (CS.out _) ?_; rintro r w12 ⟨rfl, hg12⟩))
    have K1 := hid ((((K0.out.on (drew_grown _)).on hg10).on hg11).on hg12)
    clear hg10 hg11 hg12
    obtain ⟨a0, a1, b0, b1, _⟩ := K1.out
    go_wp2_with fail
    go_region_held3 (fun w' => w'.cell? ⟨w.heap.size, 0, none⟩ = some (.int .i64 f) ∧ w'.cell? ⟨w.heap.size, 1, none⟩ = some (.int .i64 e) ∧ w'.cell? ⟨w.heap.size + 1, 0, none⟩ = some (.int .i64 g) ∧ w'.cell? ⟨w.heap.size + 1, 1, none⟩ = some (.int .i64 d))
      (first
        | go_keep
        | (go_split_ands
           refine ⟨?_, ?_, ?_, ?_⟩ <;> exact hg22.cell (by assumption) (by simp))
        | (go_split_ands
           refine ⟨?_, ?_, ?_, ?_⟩ <;> exact hg21.cell (by assumption) (by simp))
        | (go_split_ands
           refine ⟨?_, ?_, ?_, ?_⟩ <;> exact hg20.cell (by assumption) (by simp)))
      (first
        | (go_at_call 31; with_reducible refine Calls.mono (CA.out _) ?_; rintro r w20 ⟨rfl, hg20⟩)
        | (go_at_call 31; with_reducible refine Calls.mono (CB.out _) ?_; rintro r w21 ⟨rfl, hg21⟩)
        | (go_at_call 24; with_reducible refine Calls.mono (CI.out _) ?_; rintro r w22 ⟨rfl, hg22⟩))
    have K2 := hid ((((K1.out.on (drew_grown _)).on hg20).on hg21).on hg22)
    clear hg20 hg21 hg22
    go_wp2
    go_ret
    exact ⟨rfl, below_grown K2.out.hg⟩
end Go.Proofs.Ytajjmhfbdknlfaa
