/-
  The walk of laws.FnMeetAt, written by program (lawmeet.py). No statement is proved here.
-/
import Derived.Test.YtajjmhfbdknlfaaC2m
import Derived.Test.YtajjmhfbdknlfaaC2n
import Derived.Test.YtajjmhfbdknlfaaDr4
import Derived.Test.YtajjmhfbdknlfaaC1a
import Derived.Deep.RegionHeld3
namespace Go.Proofs.Ytajjmhfbdknlfaa
open Go.RowKit
set_option linter.unusedVariables false
set_option linter.unusedSimpArgs false

theorem meetVal_of_none {f e g d last : Int} (h : meetOut f e g d last = none) : meetVal f e g d last = .tuple #[.int .i64 (-1), .int .i64 (-1), .bool false] := by
  unfold meetVal
  rw [h]
theorem meetVal_of_some {f e g d last : Int} {m : Nat} (h : meetOut f e g d last = some m) : meetVal f e g d last = .tuple #[.int .i64 m, .int .i64 (at2 f e last m), .bool true] := by
  unfold meetVal
  rw [h]

set_option maxRecDepth 100000 in
set_option maxHeartbeats 3200000 in
theorem fnMeetAt_walk (A : Option Addr) (n c : Nat) (w : World) (hs : By w w.heap.size A n) (hc : n ≤ c) :
    Calls Try.prog 6 #[.slice A n c] w fun e w' => e = .returned (.bool true) ∧ Below w.heap.size w w' := by
  have hm : n ≤ 9223372036854775807 := hs.1
  by_cases hbig : 1048576 < n
  · go_enter Try.func6, Try.ntmps6
    go_wp2
    go_ret
    exact ⟨rfl, Below.refl _ _⟩
  go_enter Try.func6, Try.ntmps6
  go_wp2_with fail
  refine (drawMeetAt_any A n c _ hs hc).mono ?_
  rintro r w1 ⟨f, e, g, d, z, rfl, f0, f1, e0, e1, g0, g1, d0, d1, z0, z1, hb1⟩
  clear hs
  have CI := hid (fun W : World => implMeetAt_any f e g d z W)
  have CS := hid (fun W : World => specMeetAt_any f e g d z W)
  obtain ho | ⟨m, ho⟩ : meetOut f e g d z = none ∨ ∃ m, meetOut f e g d z = some m := by
    cases meetOut f e g d z with
    | none => exact .inl rfl
    | some m => exact .inr ⟨m, rfl⟩
  · rw [meetVal_of_none ho] at CI CS
    clear ho
    go_wp2_with fail
    with_reducible refine Calls.mono (CI.out _) ?_
    rintro r w2 ⟨rfl, g2⟩
    have K : Hid (Two w1 w2 f e g d) := hid ⟨g2.cell (by simp) (by simp), g2.cell (by simp) (by simp), g2.cell (by simp) (by simp), g2.cell (by simp) (by simp), ((grown_alloc _ _ _).trans (grown_alloc _ _ _)).trans g2⟩
    clear g2
    obtain ⟨a0, a1, b0, b1, _⟩ := K.out
    go_wp2_with fail
    with_reducible refine Calls.mono (CS.out _) ?_
    rintro r w3 ⟨rfl, g3⟩
    replace K := hid (K.out.on g3)
    clear a0 a1 b0 b1
    clear g3
    obtain ⟨a0, a1, b0, b1, _⟩ := K.out
    go_wp2_with fail
    refine (alive_any _).mono ?_
    rintro r w4 ⟨rfl, hb2⟩
    have HB := hid (hb1.trans ((Below.trans (below_grown K.out.hg) (hb2.mono K.out.hg.size)).mono hb1.size))
    clear hb2 a0 a1 b0 b1
    go_wp2
    go_ret
    exact ⟨rfl, HB.out⟩
  · have hi := meetOut_inv ho
    have CV := hid (fun W : World => implMeetAt_any g d f e z W)
    have CE := hid (fun W : World => implMeetAt_any f e f e z W)
    rw [meetVal_of_some (meetOut_swap f e g d z ▸ ho), ← hi.2.2.2.1] at CV
    rw [meetVal_of_some (meetOut_self hi.1), show ((0 : Nat) : Int) = 0 from rfl, at2_zero hi.1] at CE
    rw [meetVal_of_some ho] at CI CS
    have hb := at2_bd hi.1 m
    have PA := hid (fun (k : Nat) (W : World) => implPlaceAt_any f e z k W)
    have PB := hid (fun (k : Nat) (W : World) => implPlaceAt_any g d z k W)
    have EA := hid (fun (k : Nat) (hk : k ≤ 2000) => (show placeOut f e z k = at2 f e z k from by unfold placeOut; rw [hi.1, if_pos (by simp; omega)]))
    have EB := hid (fun (k : Nat) (hk : k ≤ 2000) => (show placeOut g d z k = at2 g d z k from by unfold placeOut; rw [hi.2.1, if_pos (by simp; omega)]))
    have EM := hid (show placeOut g d z m = at2 f e z m from by rw [EB.out m hi.2.2.1, hi.2.2.2.1])
    have EN := hid hi.2.2.2.2
    have hm2 := hi.2.2.1
    have MA := hid (PA.out m)
    have MB := hid (PB.out m)
    rw [EA.out m hm2] at MA
    rw [EM.out] at MB
    obtain ⟨v, hv⟩ : ∃ v, at2 f e z m = v := ⟨_, rfl⟩
    rw [hv] at CI CS CV MA MB hb
    clear hi ho hv EM
    go_wp2_with fail
    with_reducible refine Calls.mono (CI.out _) ?_
    rintro r w2 ⟨rfl, g2⟩
    have K : Hid (Two w1 w2 f e g d) := hid ⟨g2.cell (by simp) (by simp), g2.cell (by simp) (by simp), g2.cell (by simp) (by simp), g2.cell (by simp) (by simp), ((grown_alloc _ _ _).trans (grown_alloc _ _ _)).trans g2⟩
    clear g2
    obtain ⟨a0, a1, b0, b1, _⟩ := K.out
    go_wp2_with fail
    with_reducible refine Calls.mono (CS.out _) ?_
    rintro r w3 ⟨rfl, g3⟩
    replace K := hid (K.out.on g3)
    clear a0 a1 b0 b1
    clear g3
    obtain ⟨a0, a1, b0, b1, _⟩ := K.out
    go_wp2_with fail
    go_loopw [12] (fun i wr => ∃ k : Nat, i = .int .i64 k ∧ k ≤ m ∧ Hid (Two w1 wr f e g d)) (fun i _ => m - (intOf i).toNat)
    case atStart => exact ⟨0, rfl, Nat.zero_le _, K⟩
    case round =>
      clear K a0 a1 b0 b1
      obtain ⟨k, rfl, hk, K⟩ := hrel
      obtain ⟨a0, a1, b0, b1, _⟩ := K.out
      by_cases hlt : k < m
      · have P1 := hid (PA.out k)
        have P2 := hid (PB.out k)
        rw [EA.out k (by omega)] at P1
        rw [EB.out k (by omega)] at P2
        have hne := EN.out k hlt
        obtain ⟨x, hx⟩ : ∃ x, at2 f e z k = x := ⟨_, rfl⟩
        obtain ⟨y, hy⟩ : ∃ y, at2 g d z k = y := ⟨_, rfl⟩
        rw [hx] at P1 hne
        rw [hy] at P2 hne
        clear hx hy
        have hb1' : (x == y) = false := by simpa using hne
        have hb2' : decide (x = y) = false := by simpa using hne
        have hlti : (k : Int) < (m : Int) := by omega
        go_wp2_with fail
        go_region_held3 (fun w' => w'.cell? ⟨w1.heap.size, 0, none⟩ = some (.int .i64 f) ∧ w'.cell? ⟨w1.heap.size, 1, none⟩ = some (.int .i64 e) ∧ w'.cell? ⟨w1.heap.size + 1, 0, none⟩ = some (.int .i64 g) ∧ w'.cell? ⟨w1.heap.size + 1, 1, none⟩ = some (.int .i64 d))
          (first
            | go_keep
            | (go_split_ands
               refine ⟨?_, ?_, ?_, ?_⟩ <;> exact hg5.cell (by assumption) (by simp))
            | (go_split_ands
               refine ⟨?_, ?_, ?_, ?_⟩ <;> exact hg4.cell (by assumption) (by simp)))
          (first
            | (go_at_call 18; with_reducible refine Calls.mono (P1.out _) ?_; rintro r w4 ⟨rfl, hg4⟩)
            | (go_at_call 18; with_reducible refine Calls.mono (P2.out _) ?_; rintro r w5 ⟨rfl, hg5⟩))
        replace K := hid (K.out.on (((drew_grown _).trans hg4).trans hg5))
        clear hg4 hg5 a0 a1 b0 b1
        go_wp2
        go_roundw
        case rel => exact ⟨k + 1, by go_num, by omega, K⟩
        case measure => simp [intOf]; omega
      · obtain rfl : k = m := by omega
        clear EN
        go_wp2_with fail
        with_reducible refine Calls.mono (CV.out _) ?_
        rintro r w4 ⟨rfl, g4⟩
        replace K := hid (K.out.on g4)
        clear a0 a1 b0 b1
        clear g4
        obtain ⟨a0, a1, b0, b1, _⟩ := K.out
        go_wp2_with fail
        with_reducible refine Calls.mono (CE.out _) ?_
        rintro r w5 ⟨rfl, g5⟩
        replace K := hid (K.out.on g5)
        clear a0 a1 b0 b1
        clear g5
        obtain ⟨a0, a1, b0, b1, _⟩ := K.out
        go_wp2_with fail
        with_reducible refine Calls.mono (MA.out _) ?_
        rintro r w6 ⟨rfl, g6⟩
        replace K := hid (K.out.on g6)
        clear a0 a1 b0 b1
        clear g6
        obtain ⟨a0, a1, b0, b1, _⟩ := K.out
        go_wp2_with fail
        with_reducible refine Calls.mono (MB.out _) ?_
        rintro r w7 ⟨rfl, g7⟩
        replace K := hid (K.out.on g7)
        clear a0 a1 b0 b1
        clear g7
        obtain ⟨a0, a1, b0, b1, _⟩ := K.out
        go_wp2
        go_ret
        exact ⟨rfl, hb1.trans ((below_grown K.out.hg).mono hb1.size)⟩
end Go.Proofs.Ytajjmhfbdknlfaa
