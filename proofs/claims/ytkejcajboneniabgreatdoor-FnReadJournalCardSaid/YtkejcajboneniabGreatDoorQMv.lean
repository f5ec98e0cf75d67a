/-
  Texts put together: K12m DkQ K12n. No statement is proved here.
-/
import Derived.Test.YtkejcajboneniabGreatDoorQMu
import Derived.Test.YtkejcajboneniabGreatDoorQK12e
import Derived.Test.YtkejcajboneniabGreatDoorQMq
import Derived.Test.YtkejcajboneniabGreatDoorQMr
import Derived.Test.YtkejcajboneniabGreatDoorQMi
import Derived.BigQuiet
import Derived.Deep.QuietTactic
set_option linter.unusedVariables false
set_option linter.unusedSimpArgs false
namespace Go.Proofs.YtkejcajboneniabGreatDoor
open Go.RowKit

theorem ne_empty {l : List Int} (h : 1 ≤ l.length) : (!l.isEmpty) = true := by
  cases l with
  | nil => simp at h
  | cons a l => rfl
theorem ok_len {l : List Int} (h : bitsOk l = true) : 1 ≤ l.length := (bitsOk_iff.1 h).2.1
theorem made_sums {l : List Int} (h : bitsOk l = true) : madeL l 0 0 = sumOut l ∧ (!(madeL l 0 0).isEmpty) = true := by
  have e : madeL l 0 0 = sumOut l := by unfold madeL; simp
  refine ⟨e, ?_⟩
  rw [e]; unfold sumOut; rw [if_pos h]
  exact ne_empty (ok_len (sumL_ok h))
theorem made_cars {l : List Int} (h : bitsOk l = true) : madeL l 1 0 = drivenOut l ∧ (!(madeL l 1 0).isEmpty) = true := by
  have e : madeL l 1 0 = drivenOut l := by unfold madeL; simp
  refine ⟨e, ?_⟩
  rw [e]; unfold drivenOut; rw [if_pos h]
  exact ne_empty (ok_len (driveL_ok h))
theorem made_votes {l : List Int} (h : bitsOk l = true) : madeL l 2 0 = votedOut l ∧ (!(madeL l 2 0).isEmpty) = true := by
  obtain ⟨hb, h1, h2⟩ := bitsOk_iff.1 h
  have e : madeL l 2 0 = votedOut l := by unfold madeL; simp
  refine ⟨e, ?_⟩
  have hv : votesOk l = true := votesOk_iff.2 ⟨⟨h1, by omega⟩, hb⟩
  rw [e]; unfold votedOut; rw [if_pos hv]
  exact ne_empty (by rw [voteL_len]; exact h1)
theorem made_free {l : List Int} (h : bitsOk l = true) : madeL l 5 0 = freeOut l ∧ (!(madeL l 5 0).isEmpty) = true := by
  have e : madeL l 5 0 = freeOut l := by unfold madeL; simp
  refine ⟨e, ?_⟩
  rw [e]; unfold freeOut; rw [if_pos h]
  exact ne_empty (ok_len (freeL_ok h))
theorem made_flip {l : List Int} {F : Nat} (hF : F < l.length) : madeL l 3 F = flipL l F ∧ (!(madeL l 3 F).isEmpty) = true := by
  have hw : within (F : Int) 0 ((l.length : Int) - 1) = true := within_iff.2 (by omega)
  have e : madeL l 3 F = flipL l F := by unfold madeL; rw [hw]; simp
  refine ⟨e, ?_⟩
  rw [e]
  exact ne_empty (by simp [flipL]; omega)
theorem made_round {l : List Int} {F : Nat} (hF : F < l.length) : madeL l 4 F = roundL l F ∧ (!(madeL l 4 F).isEmpty) = true := by
  have hw : within (F : Int) 0 ((l.length : Int) - 1) = true := within_iff.2 (by omega)
  have e : madeL l 4 F = roundL l F := by unfold madeL; rw [hw]; simp
  refine ⟨e, ?_⟩
  rw [e]
  exact ne_empty (by simp [roundL]; omega)
theorem made_out {l : List Int} {k N : Int} (hk : k = 3 ∨ k = 4) (hN : N < 0 ∨ (l.length : Int) ≤ N) : madeL l k N = [] := by
  have hw : within N 0 ((l.length : Int) - 1) = false := by
    rw [Bool.eq_false_iff]
    intro h
    have := within_iff.1 h
    omega
  unfold madeL
  rw [hw]
  rcases hk with rfl | rfl <;> simp
theorem made_other {l : List Int} {k N : Int} (h0 : k ≠ 0) (h1 : k ≠ 1) (h2 : k ≠ 2) (h3 : k ≠ 3) (h4 : k ≠ 4) (h5 : k ≠ 5) : madeL l k N = [] := by
  unfold madeL
  simp [h0, h1, h2, h3, h4, h5]
theorem made_zero {l : List Int} {k N : Int} (hk : placed k = false) (hN : N ≠ 0) : madeL l k N = [] := by
  have h34 : ¬ (k = 3 ∨ k = 4) := by simpa [placed] using hk
  have h3 : k ≠ 3 := fun h => h34 (.inl h)
  have h4 : k ≠ 4 := fun h => h34 (.inr h)
  unfold madeL
  simp [hN, h3, h4]

set_option maxRecDepth 100000 in
set_option maxHeartbeats 3200000 in
theorem ringAfter_any (A : Option Addr) (n c : Nat) (l : List Int) (k N : Int) (w : World) (hs : Sl w w.heap.size A n l) (hcap : n ≤ c ∧ c ≤ 9223372036854775807) (hok : bitsOk l = true) (hN : N = 0 ∨ placed k = true) :
    Calls Tryz.prog 102 #[deed k N, .slice A n c] w fun e w' => ∃ A2 m c2, e = .returned (.tuple #[.slice A2 m c2, .bool (!(madeL l k N).isEmpty)]) ∧ w'.ownsRow w.heap.size 3 1 (.slice A2 m c2) m (ints (madeL l k N)) ∧ Below w.heap.size w w' := by
  obtain ⟨hbits, h1, h2⟩ := bitsOk_iff.1 hok
  have HL := hid hs.len
  rw [HL.out] at h1 h2
  have XA := heap_alloc_new w (.cells #[.int .i64 k, .int .i64 N] 39)
  have B0 := (Below.refl w.heap.size w).alloc (Nat.le_refl _) (.cells #[.int .i64 k, .int .i64 N] 39)
  obtain ⟨w0, e0⟩ : ∃ W, w.alloc (.cells #[.int .i64 k, .int .i64 N] 39) = W := ⟨_, rfl⟩
  have hz0 : w0.heap.size = w.heap.size + 1 := by rw [← e0]; simp
  rw [e0] at XA B0
  have a0 : w0.cell? ⟨w.heap.size, 0, none⟩ = some (.int .i64 k) := cell_of_row _ _ 0 _ _ _ XA
  have a1 : w0.cell? ⟨w.heap.size, 1, none⟩ = some (.int .i64 N) := cell_of_row _ _ 1 _ _ _ XA
  have HS := hid hs
  have HB0 := hid B0
  have HXA := hid XA
  have CN := hid (namesPlace_any k N w0)
  have HOK := hid hok
  clear hs B0 XA hok
  by_cases hk0 : k = 0
  · subst hk0
    obtain rfl : N = 0 := by rcases hN with h | h; exact h; exact absurd h (by decide)
    have HV := hid (made_sums HOK.out)
    have CF := hid (fun (W : World) (hW : Below w.heap.size w W) => implSummedOf_any A n c l W (HS.out.on hW))
    rw [show placed 0 = false from by decide] at CN
    go_enter Tryz.func102, Tryz.ntmps102

    go_wp2_with fail
    with_reducible refine Calls.mono CN.out ?_
    rintro e w2 ⟨rfl, b2⟩
    have HB2 := hid (HB0.out.trans (b2.mono HB0.out.size))
    have XB := (b2.block w.heap.size (by omega)).trans HXA.out
    have a0 : w2.cell? ⟨w.heap.size, 0, none⟩ = some (.int .i64 0) := cell_of_row _ _ 0 _ _ _ XB
    have a1 : w2.cell? ⟨w.heap.size, 1, none⟩ = some (.int .i64 0) := cell_of_row _ _ 1 _ _ _ XB
    clear b2 XB
    go_wp2_with fail
    with_reducible refine Calls.mono (CF.out _ HB2.out) ?_
    rintro e w3 ⟨A2, m, c3, rfl, o3, hm, b3⟩
    have O3 := hid (own_mono (base' := w.heap.size) o3 HB2.out.size)
    have B3 := hid (HB2.out.trans (b3.mono HB2.out.size))
    clear o3 b3
    go_wp2
    go_ret2
    exact ⟨_, _, _, by rw [HV.out.2]; rfl, by rw [HV.out.1]; exact O3.out, B3.out⟩
  by_cases hk1 : k = 1
  · subst hk1
    obtain rfl : N = 0 := by rcases hN with h | h; exact h; exact absurd h (by decide)
    have HV := hid (made_cars HOK.out)
    have CF := hid (fun (W : World) (hW : Below w.heap.size w W) => implDrivenOf_any A n c l W (HS.out.on hW))
    rw [show placed 1 = false from by decide] at CN
    go_enter Tryz.func102, Tryz.ntmps102

    go_wp2_with fail
    with_reducible refine Calls.mono CN.out ?_
    rintro e w2 ⟨rfl, b2⟩
    have HB2 := hid (HB0.out.trans (b2.mono HB0.out.size))
    have XB := (b2.block w.heap.size (by omega)).trans HXA.out
    have a0 : w2.cell? ⟨w.heap.size, 0, none⟩ = some (.int .i64 1) := cell_of_row _ _ 0 _ _ _ XB
    have a1 : w2.cell? ⟨w.heap.size, 1, none⟩ = some (.int .i64 0) := cell_of_row _ _ 1 _ _ _ XB
    clear b2 XB
    go_wp2_with fail
    with_reducible refine Calls.mono (CF.out _ HB2.out) ?_
    rintro e w3 ⟨A2, m, c3, rfl, o3, hm, b3⟩
    have O3 := hid (own_mono (base' := w.heap.size) o3 HB2.out.size)
    have B3 := hid (HB2.out.trans (b3.mono HB2.out.size))
    clear o3 b3
    go_wp2
    go_ret2
    exact ⟨_, _, _, by rw [HV.out.2]; rfl, by rw [HV.out.1]; exact O3.out, B3.out⟩
  by_cases hk2 : k = 2
  · subst hk2
    obtain rfl : N = 0 := by rcases hN with h | h; exact h; exact absurd h (by decide)
    have HV := hid (made_votes HOK.out)
    have CF := hid (fun (W : World) (hW : Below w.heap.size w W) => implVotedOf_any A n c l W (HS.out.on hW))
    rw [show placed 2 = false from by decide] at CN
    go_enter Tryz.func102, Tryz.ntmps102

    go_wp2_with fail
    with_reducible refine Calls.mono CN.out ?_
    rintro e w2 ⟨rfl, b2⟩
    have HB2 := hid (HB0.out.trans (b2.mono HB0.out.size))
    have XB := (b2.block w.heap.size (by omega)).trans HXA.out
    have a0 : w2.cell? ⟨w.heap.size, 0, none⟩ = some (.int .i64 2) := cell_of_row _ _ 0 _ _ _ XB
    have a1 : w2.cell? ⟨w.heap.size, 1, none⟩ = some (.int .i64 0) := cell_of_row _ _ 1 _ _ _ XB
    clear b2 XB
    go_wp2_with fail
    with_reducible refine Calls.mono (CF.out _ HB2.out) ?_
    rintro e w3 ⟨A2, m, c3, rfl, o3, hm, b3⟩
    have O3 := hid (own_mono (base' := w.heap.size) o3 HB2.out.size)
    have B3 := hid (HB2.out.trans (b3.mono HB2.out.size))
    clear o3 b3
    go_wp2
    go_ret2
    exact ⟨_, _, _, by rw [HV.out.2]; rfl, by rw [HV.out.1]; exact O3.out, B3.out⟩
  by_cases hk5 : k = 5
  · subst hk5
    obtain rfl : N = 0 := by rcases hN with h | h; exact h; exact absurd h (by decide)
    have HV := hid (made_free HOK.out)
    have CF := hid (fun (W : World) (hW : Below w.heap.size w W) => implFreeAs_any A n c l W (HS.out.on hW))
    rw [show placed 5 = false from by decide] at CN
    go_enter Tryz.func102, Tryz.ntmps102

    go_wp2_with fail
    with_reducible refine Calls.mono CN.out ?_
    rintro e w2 ⟨rfl, b2⟩
    have HB2 := hid (HB0.out.trans (b2.mono HB0.out.size))
    have XB := (b2.block w.heap.size (by omega)).trans HXA.out
    have a0 : w2.cell? ⟨w.heap.size, 0, none⟩ = some (.int .i64 5) := cell_of_row _ _ 0 _ _ _ XB
    have a1 : w2.cell? ⟨w.heap.size, 1, none⟩ = some (.int .i64 0) := cell_of_row _ _ 1 _ _ _ XB
    clear b2 XB
    go_wp2_with fail
    with_reducible refine Calls.mono (CF.out _ HB2.out) ?_
    rintro e w3 ⟨A2, m, c3, rfl, o3, hm, b3⟩
    have O3 := hid (own_mono (base' := w.heap.size) o3 HB2.out.size)
    have B3 := hid (HB2.out.trans (b3.mono HB2.out.size))
    clear o3 b3
    go_wp2
    go_ret2
    exact ⟨_, _, _, by rw [HV.out.2]; rfl, by rw [HV.out.1]; exact O3.out, B3.out⟩
  by_cases hk3 : k = 3
  · subst hk3
    rw [show placed 3 = true from by decide] at CN
    by_cases hneg : N < 0
    · have HV := hid (made_out (l := l) (N := N) (k := 3) (by omega) (.inl hneg))
      go_enter Tryz.func102, Tryz.ntmps102

      go_wp2_with fail
      with_reducible refine Calls.mono CN.out ?_
      rintro e w2 ⟨rfl, b2⟩
      have HB2 := hid (HB0.out.trans (b2.mono HB0.out.size))
      have XB := (b2.block w.heap.size (by omega)).trans HXA.out
      have a0 : w2.cell? ⟨w.heap.size, 0, none⟩ = some (.int .i64 3) := cell_of_row _ _ 0 _ _ _ XB
      have a1 : w2.cell? ⟨w.heap.size, 1, none⟩ = some (.int .i64 N) := cell_of_row _ _ 1 _ _ _ XB
      clear b2 XB
      go_wp2
      go_ret2
      exact ⟨_, 0, _, by rw [HV.out]; rfl, by rw [HV.out]; exact World.ownsRow_nil _ _ _ _, HB2.out⟩
    · obtain ⟨F, rfl⟩ : ∃ F : Nat, N = F := Int.eq_ofNat_of_zero_le (by omega)
      have hneg' : ¬ ((F : Int) < 0) := by omega
      by_cases hF : F < n
      · have HV := hid (made_flip (l := l) (F := F) (by rw [HL.out]; exact hF))
        have hge : ¬ ((n : Int) ≤ (F : Int)) := by omega
        have CF := hid (fun (W : World) (hW : Below w.heap.size w W) => flippedAt_any A n c l F W (HS.out.on hW) hF h2 hbits)
        go_enter Tryz.func102, Tryz.ntmps102

        go_wp2_with fail
        with_reducible refine Calls.mono CN.out ?_
        rintro e w2 ⟨rfl, b2⟩
        have HB2 := hid (HB0.out.trans (b2.mono HB0.out.size))
        have XB := (b2.block w.heap.size (by omega)).trans HXA.out
        have a0 : w2.cell? ⟨w.heap.size, 0, none⟩ = some (.int .i64 3) := cell_of_row _ _ 0 _ _ _ XB
        have a1 : w2.cell? ⟨w.heap.size, 1, none⟩ = some (.int .i64 F) := cell_of_row _ _ 1 _ _ _ XB
        clear b2 XB
        go_wp2_with fail
        with_reducible refine Calls.mono (CF.out _ HB2.out) ?_
        rintro e w3 ⟨A2, c3, rfl, o3, b3⟩
        have O3 := hid (own_mono (base' := w.heap.size) o3 HB2.out.size)
        have B3 := hid (HB2.out.trans (b3.mono HB2.out.size))
        clear o3 b3
        go_wp2
        go_ret2
        exact ⟨_, _, _, by rw [HV.out.2]; rfl, by rw [HV.out.1]; exact O3.out, B3.out⟩
      · have HV := hid (made_out (l := l) (N := F) (k := 3) (by omega) (.inr (by rw [HL.out]; omega)))
        have hge : (n : Int) ≤ (F : Int) := by omega
        go_enter Tryz.func102, Tryz.ntmps102

        go_wp2_with fail
        with_reducible refine Calls.mono CN.out ?_
        rintro e w2 ⟨rfl, b2⟩
        have HB2 := hid (HB0.out.trans (b2.mono HB0.out.size))
        have XB := (b2.block w.heap.size (by omega)).trans HXA.out
        have a0 : w2.cell? ⟨w.heap.size, 0, none⟩ = some (.int .i64 3) := cell_of_row _ _ 0 _ _ _ XB
        have a1 : w2.cell? ⟨w.heap.size, 1, none⟩ = some (.int .i64 F) := cell_of_row _ _ 1 _ _ _ XB
        clear b2 XB
        go_wp2
        go_ret2
        exact ⟨_, 0, _, by rw [HV.out]; rfl, by rw [HV.out]; exact World.ownsRow_nil _ _ _ _, HB2.out⟩
  by_cases hk4 : k = 4
  · subst hk4
    rw [show placed 4 = true from by decide] at CN
    by_cases hneg : N < 0
    · have HV := hid (made_out (l := l) (N := N) (k := 4) (by omega) (.inl hneg))
      go_enter Tryz.func102, Tryz.ntmps102

      go_wp2_with fail
      with_reducible refine Calls.mono CN.out ?_
      rintro e w2 ⟨rfl, b2⟩
      have HB2 := hid (HB0.out.trans (b2.mono HB0.out.size))
      have XB := (b2.block w.heap.size (by omega)).trans HXA.out
      have a0 : w2.cell? ⟨w.heap.size, 0, none⟩ = some (.int .i64 4) := cell_of_row _ _ 0 _ _ _ XB
      have a1 : w2.cell? ⟨w.heap.size, 1, none⟩ = some (.int .i64 N) := cell_of_row _ _ 1 _ _ _ XB
      clear b2 XB
      go_wp2
      go_ret2
      exact ⟨_, 0, _, by rw [HV.out]; rfl, by rw [HV.out]; exact World.ownsRow_nil _ _ _ _, HB2.out⟩
    · obtain ⟨F, rfl⟩ : ∃ F : Nat, N = F := Int.eq_ofNat_of_zero_le (by omega)
      have hneg' : ¬ ((F : Int) < 0) := by omega
      by_cases hF : F < n
      · have HV := hid (made_round (l := l) (F := F) (by rw [HL.out]; exact hF))
        have hge : ¬ ((n : Int) ≤ (F : Int)) := by omega
        have CF := hid (fun (W : World) (hW : Below w.heap.size w W) => begunK_any A n c l F W (HS.out.on hW) hcap.1 (by simpa [maxLen] using hcap.2) hF h2)
        go_enter Tryz.func102, Tryz.ntmps102

        go_wp2_with fail
        with_reducible refine Calls.mono CN.out ?_
        rintro e w2 ⟨rfl, b2⟩
        have HB2 := hid (HB0.out.trans (b2.mono HB0.out.size))
        have XB := (b2.block w.heap.size (by omega)).trans HXA.out
        have a0 : w2.cell? ⟨w.heap.size, 0, none⟩ = some (.int .i64 4) := cell_of_row _ _ 0 _ _ _ XB
        have a1 : w2.cell? ⟨w.heap.size, 1, none⟩ = some (.int .i64 F) := cell_of_row _ _ 1 _ _ _ XB
        clear b2 XB
        go_wp2_with fail
        with_reducible refine Calls.mono (CF.out _ HB2.out) ?_
        rintro e w3 ⟨A2, c3, rfl, o3, b3⟩
        have O3 := hid (own_mono (base' := w.heap.size) o3 HB2.out.size)
        have B3 := hid (HB2.out.trans (b3.mono HB2.out.size))
        clear o3 b3
        go_wp2
        go_ret2
        exact ⟨_, _, _, by rw [HV.out.2]; rfl, by rw [HV.out.1]; exact O3.out, B3.out⟩
      · have HV := hid (made_out (l := l) (N := F) (k := 4) (by omega) (.inr (by rw [HL.out]; omega)))
        have hge : (n : Int) ≤ (F : Int) := by omega
        go_enter Tryz.func102, Tryz.ntmps102

        go_wp2_with fail
        with_reducible refine Calls.mono CN.out ?_
        rintro e w2 ⟨rfl, b2⟩
        have HB2 := hid (HB0.out.trans (b2.mono HB0.out.size))
        have XB := (b2.block w.heap.size (by omega)).trans HXA.out
        have a0 : w2.cell? ⟨w.heap.size, 0, none⟩ = some (.int .i64 4) := cell_of_row _ _ 0 _ _ _ XB
        have a1 : w2.cell? ⟨w.heap.size, 1, none⟩ = some (.int .i64 F) := cell_of_row _ _ 1 _ _ _ XB
        clear b2 XB
        go_wp2
        go_ret2
        exact ⟨_, 0, _, by rw [HV.out]; rfl, by rw [HV.out]; exact World.ownsRow_nil _ _ _ _, HB2.out⟩
  have HV := hid (made_other (l := l) (N := N) hk0 hk1 hk2 hk3 hk4 hk5)
  have hp : placed k = false := by simp [placed, hk3, hk4]
  obtain rfl : N = 0 := by rcases hN with h | h; exact h; rw [hp] at h; cases h
  rw [hp] at CN
  have q0 : (k == 0) = false := by simpa using hk0
  have q1 : (k == 1) = false := by simpa using hk1
  have q2 : (k == 2) = false := by simpa using hk2
  have q3 : (k == 3) = false := by simpa using hk3
  have q4 : (k == 4) = false := by simpa using hk4
  have q5 : (k == 5) = false := by simpa using hk5
  go_enter Tryz.func102, Tryz.ntmps102

  go_wp2_with fail
  with_reducible refine Calls.mono CN.out ?_
  rintro e w2 ⟨rfl, b2⟩
  have HB2 := hid (HB0.out.trans (b2.mono HB0.out.size))
  have XB := (b2.block w.heap.size (by omega)).trans HXA.out
  have a0 : w2.cell? ⟨w.heap.size, 0, none⟩ = some (.int .i64 k) := cell_of_row _ _ 0 _ _ _ XB
  have a1 : w2.cell? ⟨w.heap.size, 1, none⟩ = some (.int .i64 0) := cell_of_row _ _ 1 _ _ _ XB
  clear b2 XB
  go_wp2
  go_ret2
  exact ⟨_, 0, _, by rw [HV.out]; rfl, by rw [HV.out]; exact World.ownsRow_nil _ _ _ _, HB2.out⟩
end Go.Proofs.YtkejcajboneniabGreatDoor
namespace Go.Proofs.YtkejcajboneniabGreatDoor
open Go.RowKit

def InQ (P : Nat → Prop) (A : Option Addr) (n : Nat) : Prop := 0 < n → ∃ b off, A = some ⟨b, off, none⟩ ∧ P b
def SlQ (w : World) (P : Nat → Prop) (A : Option Addr) (n : Nat) (l : List Int) : Prop := Sl w w.heap.size A n l ∧ InQ P A n
def OutQ (w : World) (P : Nat → Prop) (A : Option Addr) (m : Nat) (vs : List Value) : Prop := Out w w.heap.size A m vs ∧ InQ P A m
def RowsQ (w : World) (P : Nat → Prop) (vs : List Value) (ls : List (List Int)) : Prop := vs.length = ls.length ∧ ∀ (j : Nat) v l, vs[j]? = some v → ls[j]? = some l → ∃ A n c, v = .slice A n c ∧ SlQ w P A n l ∧ n ≤ c ∧ c ≤ 9223372036854775807
structure DkQ (w : World) (P : Nat → Prop) (A : Option Addr) (n c : Nat) (A2 : Option Addr) (m c2 : Nat) (D : Dk) : Prop where
  now : SlQ w P A n D.now
  past : ∃ vs, OutQ w P A2 m vs ∧ RowsQ w P vs D.past
  cap : n ≤ c ∧ c ≤ 9223372036854775807
  cap2 : m ≤ c2 ∧ c2 ≤ 9223372036854775807
section
variable {w W : World} {P P' : Nat → Prop} {A A2 : Option Addr} {n c m c2 B b : Nat} {l : List Int} {vs : List Value} {ls : List (List Int)} {D : Dk}
theorem InQ.mono (h : InQ P A n) (hP : ∀ b, P b → P' b) : InQ P' A n := fun hn => by
  obtain ⟨b, off, e, hb⟩ := h hn
  exact ⟨b, off, e, hP b hb⟩
theorem SlQ.keep (h : SlQ w P A n l) (hs : w.heap.size ≤ W.heap.size) (hk : ∀ p : Addr, P p.block → p.block < w.heap.size → W.cell? p = w.cell? p) : SlQ W P A n l := by
  refine ⟨⟨h.1.1, h.1.2.1, fun hn => ?_⟩, h.2⟩
  obtain ⟨b, off, e, hb, hc⟩ := h.1.2.2 hn
  obtain ⟨b', off', e', hb'⟩ := h.2 hn
  rw [e] at e'
  injection e' with e'
  injection e' with e1 e2 e3
  subst e1; subst e2
  exact ⟨b, off, e, by omega, fun j hj => (hk _ hb' hb).trans (hc j hj)⟩
theorem OutQ.keep (h : OutQ w P A m vs) (hs : w.heap.size ≤ W.heap.size) (hk : ∀ p : Addr, P p.block → p.block < w.heap.size → W.cell? p = w.cell? p) : OutQ W P A m vs := by
  refine ⟨⟨h.1.1, h.1.2.1, fun hn => ?_⟩, h.2⟩
  obtain ⟨b, off, e, hb, hc⟩ := h.1.2.2 hn
  obtain ⟨b', off', e', hb'⟩ := h.2 hn
  rw [e] at e'
  injection e' with e'
  injection e' with e1 e2 e3
  subst e1; subst e2
  exact ⟨b, off, e, by omega, fun j v hv => (hk _ hb' hb).trans (hc j v hv)⟩
theorem RowsQ.keep (h : RowsQ w P vs ls) (hs : w.heap.size ≤ W.heap.size) (hk : ∀ p : Addr, P p.block → p.block < w.heap.size → W.cell? p = w.cell? p) : RowsQ W P vs ls :=
  ⟨h.1, fun j v l h1 h2 => by
    obtain ⟨A, n, c, e, hsq, hc⟩ := h.2 j v l h1 h2
    exact ⟨A, n, c, e, hsq.keep hs hk, hc⟩⟩
theorem DkQ.keep (h : DkQ w P A n c A2 m c2 D) (hs : w.heap.size ≤ W.heap.size) (hk : ∀ p : Addr, P p.block → p.block < w.heap.size → W.cell? p = w.cell? p) : DkQ W P A n c A2 m c2 D :=
  ⟨h.now.keep hs hk, h.past.elim fun vs k => ⟨vs, k.1.keep hs hk, k.2.keep hs hk⟩, h.cap, h.cap2⟩
theorem SlQ.mono (h : SlQ w P A n l) (hP : ∀ b, P b → P' b) : SlQ w P' A n l := ⟨h.1, h.2.mono hP⟩
theorem OutQ.mono (h : OutQ w P A m vs) (hP : ∀ b, P b → P' b) : OutQ w P' A m vs := ⟨h.1, h.2.mono hP⟩
theorem RowsQ.mono (h : RowsQ w P vs ls) (hP : ∀ b, P b → P' b) : RowsQ w P' vs ls :=
  ⟨h.1, fun j v l h1 h2 => by
    obtain ⟨A, n, c, e, hsq, hc⟩ := h.2 j v l h1 h2
    exact ⟨A, n, c, e, hsq.mono hP, hc⟩⟩
theorem DkQ.mono (h : DkQ w P A n c A2 m c2 D) (hP : ∀ b, P b → P' b) : DkQ w P' A n c A2 m c2 D :=
  ⟨h.now.mono hP, h.past.elim fun vs k => ⟨vs, k.1.mono hP, k.2.mono hP⟩, h.cap, h.cap2⟩
/-- What lies in blocks that are there lies in those of P that are there. -/
theorem SlQ.here (h : SlQ w P A n l) : SlQ w (fun b => P b ∧ b < w.heap.size) A n l := ⟨h.1, fun hn => by
  obtain ⟨b, off, e, hb, _⟩ := h.1.2.2 hn
  obtain ⟨b', off', e', hb'⟩ := h.2 hn
  rw [e] at e'
  injection e' with e'
  injection e' with e1 e2 e3
  subst e1
  exact ⟨b, off, e, hb', hb⟩⟩
theorem OutQ.here (h : OutQ w P A m vs) : OutQ w (fun b => P b ∧ b < w.heap.size) A m vs := ⟨h.1, fun hn => by
  obtain ⟨b, off, e, hb, _⟩ := h.1.2.2 hn
  obtain ⟨b', off', e', hb'⟩ := h.2 hn
  rw [e] at e'
  injection e' with e'
  injection e' with e1 e2 e3
  subst e1
  exact ⟨b, off, e, hb', hb⟩⟩
theorem DkQ.here (h : DkQ w P A n c A2 m c2 D) : DkQ w (fun b => P b ∧ b < w.heap.size) A n c A2 m c2 D :=
  ⟨h.now.here, h.past.elim fun vs k => ⟨vs, k.1.here, k.2.1, fun j v l h1 h2 => by
    obtain ⟨A, n, c, e, hsq, hc⟩ := k.2.2 j v l h1 h2
    exact ⟨A, n, c, e, hsq.here, hc⟩⟩, h.cap, h.cap2⟩
theorem SlQ.on (h : SlQ w P A n l) (hb : Below w.heap.size w W) : SlQ W P A n l := h.keep hb.size fun _ _ hp => hb.cell hp
theorem DkQ.on (h : DkQ w P A n c A2 m c2 D) (hb : Below w.heap.size w W) : DkQ W P A n c A2 m c2 D := h.keep hb.size fun _ _ hp => hb.cell hp
theorem DkQ.read (h : DkQ w P A n c A2 m c2 D) : DkR w w.heap.size A n c A2 m c2 D :=
  ⟨h.now.1, h.past.elim fun vs k => ⟨vs, k.1.1, k.2.1, fun j v l h1 h2 => by
    obtain ⟨A, n, c, e, hsq, hc⟩ := k.2.2 j v l h1 h2
    exact ⟨A, n, c, e, hsq.1, hc⟩⟩, h.cap, h.cap2⟩
theorem SlQ.of (h : Sl w B A n l) (hB : B ≤ w.heap.size) (hP : ∀ b, b < B → P b) : SlQ w P A n l :=
  ⟨h.more hB, fun hn => by
    obtain ⟨b, off, e, hb, _⟩ := h.2.2 hn
    exact ⟨b, off, e, hP b hb⟩⟩
theorem DkQ.of (h : DkR w B A n c A2 m c2 D) (hB : B ≤ w.heap.size) (hP : ∀ b, b < B → P b) : DkQ w P A n c A2 m c2 D := by
  obtain ⟨vs, h1, h2⟩ := h.past
  refine ⟨.of h.now hB hP, ⟨vs, ⟨h1.keep hB (fun _ _ => rfl), fun hm => ?_⟩, h2.1, fun j v l hv hl => ?_⟩, h.cap, h.cap2⟩
  · obtain ⟨b, off, e, hb, _⟩ := h1.2.2 hm
    exact ⟨b, off, e, hP b hb⟩
  · obtain ⟨A, n, c, e, hs, hc⟩ := h2.2 j v l hv hl
    exact ⟨A, n, c, e, .of hs hB hP, hc⟩
theorem SlQ.of_own {cc : Nat} (h : w.ownsRow B 3 1 (.slice A n cc) n (ints l)) (hP : ∀ b, B ≤ b → P b) : SlQ w P A n l :=
  ⟨Sl.of_own h, fun hn => by
    obtain ⟨g, cap, hv, hg, _⟩ := own_shape1 h hn
    injection hv with h1 h2 h3
    exact ⟨g, 0, h1, hP g hg⟩⟩
theorem cell_put2 (w : World) (b : Nat) (x y : Value) (p : Addr) (hp : p.block ≠ b) : ((w.setCell ⟨b, 0, none⟩ x).setCell ⟨b, 1, none⟩ y).cell? p = w.cell? p := by
  have h1 := heap_setCell_other w ⟨b, 0, none⟩ p.block x hp
  have h2 := heap_setCell_other (w.setCell ⟨b, 0, none⟩ x) ⟨b, 1, none⟩ p.block y hp
  unfold World.cell?
  rw [h2, h1]
theorem DkQ.put2 (h : DkQ w P A n c A2 m c2 D) (hb : ¬ P b) (x y : Value) : DkQ ((w.setCell ⟨b, 0, none⟩ x).setCell ⟨b, 1, none⟩ y) P A n c A2 m c2 D :=
  h.keep (by simp [World.setCell]) fun p hp _ => cell_put2 w b x y p (fun e => hb (e ▸ hp))
end
theorem OutQ.cut {w : World} {P : Nat → Prop} {A : Option Addr} {m k : Nat} {vs : List Value} (h : OutQ w P A m vs) (hk : k ≤ m) : OutQ w P A k (vs.take k) := by
  refine ⟨⟨by rw [List.length_take, h.1.1]; omega, Nat.le_trans hk h.1.2.1, fun h0 => ?_⟩, fun h0 => h.2 (by omega)⟩
  obtain ⟨b, off, e, hb, hc⟩ := h.1.2.2 (by omega)
  exact ⟨b, off, e, hb, fun j v hv => hc j v (by rw [List.getElem?_take] at hv; split at hv; exact hv; cases hv)⟩
theorem RowsQ.cut {w : World} {P : Nat → Prop} {k : Nat} {vs : List Value} {ls : List (List Int)} (h : RowsQ w P vs ls) : RowsQ w P (vs.take k) (ls.take k) := by
  refine ⟨by rw [List.length_take, List.length_take, h.1], fun j v l hv hl => ?_⟩
  rw [List.getElem?_take] at hv hl
  split at hv
  · rename_i hj
    rw [if_pos hj] at hl
    exact h.2 j v l hv hl
  · cases hv
theorem OutQ.tail {w : World} {P : Nat → Prop} {b off m : Nat} {vs : List Value} (h : OutQ w P (some ⟨b, off, none⟩) (m + 1) vs) : OutQ w P (some ⟨b, off + 1, none⟩) m (vs.drop 1) := by
  refine ⟨⟨by rw [List.length_drop, h.1.1]; omega, by have := h.1.2.1; omega, fun h0 => ?_⟩, fun h0 => ?_⟩
  · obtain ⟨b', off', e, hb, hc⟩ := h.1.2.2 (by omega)
    injection e with e
    injection e with e1 e2 e3
    subst e1; subst e2
    refine ⟨b, off + 1, rfl, hb, fun j v hv => ?_⟩
    rw [List.getElem?_drop] at hv
    rw [show off + 1 + j = off + (1 + j) by omega]
    exact hc (1 + j) v hv
  · obtain ⟨b', off', e, hb⟩ := h.2 (by omega)
    injection e with e
    injection e with e1 e2 e3
    subst e1
    exact ⟨b, off + 1, rfl, hb⟩
theorem RowsQ.tail {w : World} {P : Nat → Prop} {vs : List Value} {ls : List (List Int)} (h : RowsQ w P vs ls) : RowsQ w P (vs.drop 1) (ls.drop 1) :=
  ⟨by rw [List.length_drop, List.length_drop, h.1], fun j v l hv hl => by
    rw [List.getElem?_drop] at hv hl
    exact h.2 (1 + j) v l hv hl⟩
theorem RowsQ.snoc {w : World} {P : Nat → Prop} {vs : List Value} {ls : List (List Int)} {A : Option Addr} {n c : Nat} {l : List Int} (h : RowsQ w P vs ls) (hs : SlQ w P A n l) (hc : n ≤ c ∧ c ≤ 9223372036854775807) : RowsQ w P (vs ++ [.slice A n c]) (ls ++ [l]) := by
  refine ⟨by simp [h.1], fun j v l' hv hl => ?_⟩
  by_cases hj : j < vs.length
  · rw [List.getElem?_append_left hj] at hv
    rw [List.getElem?_append_left (by rw [← h.1]; exact hj)] at hl
    exact h.2 j v l' hv hl
  · have h1 := (List.getElem?_eq_some_iff.1 hv).1
    simp at h1
    obtain rfl : j = vs.length := by omega
    have h3 : v = .slice A n c := by simpa using hv.symm
    have h4 : l' = l := by rw [h.1] at hl; simpa using hl.symm
    subst h3; subst h4
    exact ⟨A, n, c, rfl, hs, hc⟩
theorem RowsQ.one {w : World} {P : Nat → Prop} {vs : List Value} {ls : List (List Int)} (h : RowsQ w P vs ls) : ∀ u ∈ vs, u.oneCell' = true := by
  intro u hu
  obtain ⟨j, hj, rfl⟩ := List.getElem_of_mem hu
  obtain ⟨A, n, c, e, _⟩ := h.2 j _ _ (List.getElem?_eq_getElem hj) (List.getElem?_eq_getElem (by rw [← h.1]; exact hj))
  rw [e]; rfl
theorem Out.of_own {w : World} {B m c : Nat} {A : Option Addr} {vs : List Value} {e : TypeId} (h : w.ownsRow B e 1 (.slice A m c) m vs) : Out w w.heap.size A m vs := by
  have hl : vs.length = m := by have := h.1; omega
  refine ⟨hl, by have := (own_capK h); simp only [maxLen]; omega, fun hm => ?_⟩
  obtain ⟨g, cap, hv, _, hlt⟩ := own_shape1 h hm
  injection hv with h1 h2 h3
  subst h1; subst h3
  exact ⟨g, 0, rfl, hlt, fun j v hj => by rw [Nat.zero_add, h.cellAt j (by have := (List.getElem?_eq_some_iff.1 hj).1; omega)]; exact hj⟩
end Go.Proofs.YtkejcajboneniabGreatDoor
namespace Go.Proofs.YtkejcajboneniabGreatDoor
open Go.RowKit

def backL (D : Dk) : Dk := if D.past.isEmpty then D else ⟨D.past.getLast?.getD [], D.past.dropLast⟩
def hasPast (D : Dk) : Bool := !D.past.isEmpty
set_option maxRecDepth 100000 in
set_option maxHeartbeats 1600000 in
/-- The last ring of before put back. -/
theorem back_any (P : Nat → Prop) (A : Option Addr) (n c : Nat) (A2 : Option Addr) (m c2 : Nat) (D : Dk) (w : World) (h : DkQ w P A n c A2 m c2 D) :
    Calls Tryz.prog 101 #[dsk A n c A2 m c2] w fun e w' => ∃ A3 n3 c3 A4 m4 c4, e = .returned (.tuple #[dsk A3 n3 c3 A4 m4 c4, .bool (hasPast D)]) ∧ DkQ w' P A3 n3 c3 A4 m4 c4 (backL D) ∧ Below w.heap.size w w' := by
  have mx2 := h.read.past.max
  have hcap2 := h.cap2
  have HLM := hid h.read.past.len
  have z1 : (w.alloc (.cells #[.slice A n c, .slice A2 m c2] 31)).heap.size = w.heap.size + 1 := by simp
  have g1 := grown_alloc (w.alloc (.cells #[.slice A n c, .slice A2 m c2] 31)) (.cells #[.slice none 0 0, .slice none 0 0] 31) none
  have X0 := (Db.new w (.slice A n c) (.slice A2 m c2)).on (row := none) g1 (by simp)
  have XR := Db.new (w.alloc (.cells #[.slice A n c, .slice A2 m c2] 31)) (.slice none 0 0) (.slice none 0 0)
  rw [z1] at XR
  have B0 := ((Below.refl w.heap.size w).alloc (Nat.le_refl _) (.cells #[.slice A n c, .slice A2 m c2] 31)).alloc (by simp) (.cells #[.slice none 0 0, .slice none 0 0] 31)
  obtain ⟨w0, e0⟩ : ∃ W, (w.alloc (.cells #[.slice A n c, .slice A2 m c2] 31)).alloc (.cells #[.slice none 0 0, .slice none 0 0] 31) = W := ⟨_, rfl⟩
  have hz0 : w0.heap.size = w.heap.size + 2 := by rw [← e0]; simp
  rw [e0] at X0 XR B0
  have c0 := X0.c0
  have c1 := X0.c1
  have r0 := XR.c0
  have r1 := XR.c1
  have f0 := XR.fz 0
  have f1 := XR.fz 1
  have wm : IntKind.i64.wrap ((m : Int) - 1) = (m : Int) - 1 := IntWalk.i64_in _ (by omega)
  have HX0 := hid X0
  have HXR := hid XR
  have HB0 := hid B0
  have HH := hid h
  clear g1 X0 XR B0 z1 h
  by_cases hm : 0 < m
  · obtain ⟨vs, hO, hRq⟩ := HH.out.past
    obtain ⟨b5, off5, e5, hb5, hcs⟩ := hO.1.2.2 hm
    have hvl : vs.length = m := hO.1.1
    have hlk : D.past[m - 1]? = some (D.past.getD (m - 1) []) := by rw [List.getD_eq_getElem?_getD, List.getElem?_eq_getElem (by rw [HLM.out]; omega)]; rfl
    obtain ⟨A5, n5, c5, ev5, s5, hcap5⟩ := hRq.2 (m - 1) _ _ (List.getElem?_eq_getElem (show m - 1 < vs.length by omega)) hlk
    have hc5 := hcs (m - 1) _ (List.getElem?_eq_getElem (show m - 1 < vs.length by omega))
    rw [ev5] at hc5
    have HOQ := hid (show ∃ vs, OutQ w P A2 m vs ∧ RowsQ w P vs D.past from HH.out.past)
    clear hO hRq hcs hvl hlk ev5
    have hc6 := (HB0.out.cell (p := ⟨b5, off5 + (m - 1), none⟩) hb5).trans hc5
    have hcw := hc5
    have hcw := hc5
    have hcw := hc5
    have hne : D.past.isEmpty = false := by
      rw [List.isEmpty_eq_false_iff]
      intro h
      have := HLM.out
      rw [h] at this
      simp at this; omega
    obtain ⟨q, lq, hq1, hq2, hq3⟩ := last_getD hne
    have hgd : D.past.getD (m - 1) [] = lq := by
      have h1 := HLM.out
      rw [hq1, List.length_append, List.length_singleton] at h1
      rw [hq1, show m - 1 = q.length from by omega]
      simp [List.getD]
    rw [hgd] at s5
    have HS5 := hid s5
    have HV := hid (show hasPast D = true from by unfold hasPast; rw [hne]; rfl)
    have HD := hid (show backL D = ⟨lq, D.past.take (m - 1)⟩ from by
      unfold backL
      rw [hne, hq2, hq3]
      have h1 := HLM.out
      rw [hq1, List.length_append, List.length_singleton] at h1
      rw [hq1, show m - 1 = q.length from by omega]
      simp)
    have HCA := hid hcap5
    subst e5
    obtain ⟨m1, hm1⟩ : ∃ m1, m - 1 = m1 := ⟨_, rfl⟩
    rw [hm1] at hc6 hcw
    have hmi : (m : Int) - 1 = (m1 : Int) := by omega
    rw [hmi] at wm
    have hneg : ¬ ((m1 : Int) < 0) := by omega
    have hlt1 : (m1 : Int) < (m : Int) := by omega
    have hle1 : (m1 : Int) ≤ (c2 : Int) := by omega
    have hle2 : m1 ≤ c2 := by omega
    have hge1 : (0 : Int) ≤ (m1 : Int) := by omega
    have HM1 := hid hm1
    clear hne hq1 hq2 hq3 hgd s5 hc5 hcap5 hm1
    go_enter Tryz.func101, Tryz.ntmps101
    -- REGION
    obtain ⟨wd, hwd⟩ : ∃ W, w0.drew = W := ⟨_, rfl⟩
    have DB : Below w0.heap.size w0 wd := by rw [← hwd]; exact (Below.refl _ _).drew
    have X1 := HX0.out.below DB (by omega)
    have XR1 := HXR.out.below DB (by omega)
    have c1 := X1.c1
    have hc6 := (DB.cell (p := ⟨b5, off5 + m1, none⟩) (by show b5 < w0.heap.size; omega)).trans hc6
    have f0 := XR1.fz 0
    have f1 := XR1.fz 1
    have r0 := XR1.c0
    have r1 := XR1.c1
    have q1 := ((X1.other (g := w.heap.size + 1) (by omega) 0 (.slice A5 n5 c5)).other (g := w.heap.size + 1) (by omega) 1 (.slice (some ⟨b5, off5, none⟩) m1 c2)).c1
    have BQ := ((HB0.out.trans (DB.mono (by omega))).setCell (p := ⟨w.heap.size + 1, 0, none⟩) (by simp) (.slice A5 n5 c5)).setCell (p := ⟨w.heap.size + 1, 1, none⟩) (by simp) (.slice (some ⟨b5, off5, none⟩) m1 c2)
    have q2 := (BQ.cell (p := ⟨b5, off5 + m1, none⟩) hb5).trans hcw
    have HBQ := hid BQ
    have HXQ := hid (XR1.set (.slice A5 n5 c5) (.slice (some ⟨b5, off5, none⟩) m1 c2))
    clear BQ DB X1 XR1
    go_wp2
    refine wp_region_held_drew (S := fun W => W.cell? ⟨w.heap.size, 1, none⟩ = some (.slice (some ⟨b5, off5, none⟩) m c2) ∧ W.cell? ⟨b5, off5 + m1, none⟩ = some (.slice A5 n5 c5)) (by kernel_rfl) (by rw [hwd]; exact ⟨c1, hc6⟩) (fun hHeld => ?_)
    rw [hwd] at hHeld ⊢
    refine wpAnyH_take (i := 0) (v := ?v0b) rfl (by kernel_rfl) (by kernel_rfl) (by kernel_rfl) (fun _ _ _ h => h) (Or.inl ⟨by rfl, ?y0b⟩) (by assumption) ?r0b
    case y0b => (intro w hSw; (try dsimp only at hSw); go_simp; try with_reducible rfl)
    try simp only [List.getElem_toArray, List.getElem_cons_zero, List.getElem_cons_succ, Act.put, List.setIfInBounds_toArray, List.set_cons_zero, List.set_cons_succ]
    refine wpAnyH_take (i := 1) (v := ?v1b) rfl (by kernel_rfl) (by kernel_rfl) (by kernel_rfl) (fun _ _ _ h => h) (Or.inl ⟨by rfl, ?y1b⟩) (by assumption) ?r1b
    case y1b => (intro w hSw; (try dsimp only at hSw); go_simp; try with_reducible rfl)
    try simp only [List.getElem_toArray, List.getElem_cons_zero, List.getElem_cons_succ, Act.put, List.setIfInBounds_toArray, List.set_cons_zero, List.set_cons_succ]
    refine wpAnyH_take (i := 2) (v := ?v2b) rfl (by kernel_rfl) (by kernel_rfl) (by kernel_rfl) (fun _ _ _ h => h) (Or.inl ⟨by rfl, ?y2b⟩) (by assumption) ?r2b
    case y2b => (intro w hSw; (try dsimp only at hSw); go_simp; try with_reducible rfl)
    try simp only [List.getElem_toArray, List.getElem_cons_zero, List.getElem_cons_succ, Act.put, List.setIfInBounds_toArray, List.set_cons_zero, List.set_cons_succ]
    refine wpAnyH_take (i := 3) (v := ?v3b) rfl (by kernel_rfl) (by kernel_rfl) (by kernel_rfl) (fun _ _ _ h => h) (Or.inl ⟨by rfl, ?y3b⟩) (by assumption) ?r3b
    case y3b => (intro w hSw; (try dsimp only at hSw); go_simp; try with_reducible rfl)
    try simp only [List.getElem_toArray, List.getElem_cons_zero, List.getElem_cons_succ, Act.put, List.setIfInBounds_toArray, List.set_cons_zero, List.set_cons_succ]
    refine wpAnyH_take (i := 4) (v := ?v4b) rfl (by kernel_rfl) (by kernel_rfl) (by kernel_rfl) (fun _ _ _ h => h) (Or.inl ⟨by rfl, ?y4b⟩) (by assumption) ?r4b
    case y4b => (intro w hSw; (try dsimp only at hSw); go_simp; try with_reducible rfl)
    try simp only [List.getElem_toArray, List.getElem_cons_zero, List.getElem_cons_succ, Act.put, List.setIfInBounds_toArray, List.set_cons_zero, List.set_cons_succ]
    refine wpAnyH_take (i := 5) (v := ?v5b) rfl (by kernel_rfl) (by kernel_rfl) (by kernel_rfl) (fun _ _ _ h => h) (Or.inl ⟨by rfl, ?y5b⟩) (by assumption) ?r5b
    case y5b => (intro w hSw; (try dsimp only at hSw); go_simp; try with_reducible rfl)
    try simp only [List.getElem_toArray, List.getElem_cons_zero, List.getElem_cons_succ, Act.put, List.setIfInBounds_toArray, List.set_cons_zero, List.set_cons_succ]
    refine wpAnyH_take (i := 6) (v := ?v6b) rfl (by kernel_rfl) (by kernel_rfl) (by kernel_rfl) (fun _ _ _ h => h) (Or.inl ⟨by rfl, ?y6b⟩) (by assumption) ?r6b
    case y6b => (intro w hSw; (try dsimp only at hSw); go_simp; try with_reducible rfl)
    try simp only [List.getElem_toArray, List.getElem_cons_zero, List.getElem_cons_succ, Act.put, List.setIfInBounds_toArray, List.set_cons_zero, List.set_cons_succ]
    refine wpAnyH_take (i := 7) (v := ?v7b) rfl (by kernel_rfl) (by kernel_rfl) (by kernel_rfl) (fun _ _ _ h => h) (Or.inl ⟨by rfl, ?y7b⟩) (by assumption) ?r7b
    case y7b => (intro w hSw; (try dsimp only at hSw); go_simp; try with_reducible rfl)
    try simp only [List.getElem_toArray, List.getElem_cons_zero, List.getElem_cons_succ, Act.put, List.setIfInBounds_toArray, List.set_cons_zero, List.set_cons_succ]
    refine wpAnyH_take (i := 8) (v := ?v8b) rfl (by kernel_rfl) (by kernel_rfl) (by kernel_rfl) (fun _ _ _ h => h) (Or.inl ⟨by rfl, ?y8b⟩) (by assumption) ?r8b
    case y8b => (intro w hSw; (try dsimp only at hSw); go_simp; try with_reducible rfl)
    try simp only [List.getElem_toArray, List.getElem_cons_zero, List.getElem_cons_succ, Act.put, List.setIfInBounds_toArray, List.set_cons_zero, List.set_cons_succ]
    refine wpAnyH_take (i := 9) (v := ?v9b) rfl (by kernel_rfl) (by kernel_rfl) (by kernel_rfl) (fun _ _ _ h => h) (Or.inl ⟨by rfl, ?y9b⟩) (by assumption) ?r9b
    case y9b => (intro w hSw; (try dsimp only at hSw); go_simp; try with_reducible rfl)
    try simp only [List.getElem_toArray, List.getElem_cons_zero, List.getElem_cons_succ, Act.put, List.setIfInBounds_toArray, List.set_cons_zero, List.set_cons_succ]
    refine wpAnyH_ready (rs := [10]) (by kernel_rfl) (by simp) ?_
    refine AllReadyH.cons rfl (fun Kr hKr => ?_) AllReadyH.nil
    go_simp
    try go_wp2_with fail
    refine hKr.out _ _ ⟨q1, q2⟩ (fun hHeld => ?_)
    clear hKr Kr
    try simp only [List.getElem_toArray, List.getElem_cons_zero, List.getElem_cons_succ, Act.put, List.setIfInBounds_toArray, List.set_cons_zero, List.set_cons_succ]
    refine wpAnyH_take (i := 11) (v := ?v11b) rfl (by kernel_rfl) (by kernel_rfl) (by kernel_rfl) (fun _ _ _ h => h) (Or.inl ⟨by rfl, ?y11b⟩) (by assumption) ?r11b
    case y11b => (intro w hSw; (try dsimp only at hSw); go_simp; try with_reducible rfl)
    try simp only [List.getElem_toArray, List.getElem_cons_zero, List.getElem_cons_succ, Act.put, List.setIfInBounds_toArray, List.set_cons_zero, List.set_cons_succ]
    refine wpAnyH_done (by kernel_rfl) ?_ _
    go_wp2
    (try simp only [Exit.inBlock, Exit.then])
    refine bodyPost_ret (results_db rfl _ _ (w.heap.size + 1) 31 _ (0, 0) _ (by simp [Act.put]) HXQ.out Tryz.underlying31 rfl size_desk) rfl ?_
    refine ⟨A5, n5, c5, some ⟨b5, off5, none⟩, m1, c2, by rw [HV.out]; rfl, ?_, HBQ.out⟩
    rw [HD.out]
    refine DkQ.on ?_ HBQ.out
    obtain ⟨vs, h1, h2⟩ := HOQ.out
    exact ⟨HS5.out, ⟨vs.take m1, h1.cut (by omega), by rw [HM1.out]; exact h2.cut⟩, HCA.out, by omega⟩
  · obtain rfl : m = 0 := by omega
    have hne : D.past.isEmpty = true := by
      rw [List.isEmpty_iff]
      exact List.eq_nil_of_length_eq_zero HLM.out
    have HV := hid (show hasPast D = false from by unfold hasPast; rw [hne]; rfl)
    have HD := hid (show backL D = D from by unfold backL; rw [if_pos hne])
    clear hne
    go_enter Tryz.func101, Tryz.ntmps101
    go_wp2
    (try simp only [Exit.inBlock, Exit.then])
    refine bodyPost_ret (results_db rfl _ _ (w.heap.size + 1) 31 _ (0, 0) _ (by simp [Act.put]) (HXR.out.set _ _) Tryz.underlying31 rfl size_desk) rfl ?_
    have BQ := (HB0.out.setCell (p := ⟨w.heap.size + 1, 0, none⟩) (by simp) (.slice A n c)).setCell (p := ⟨w.heap.size + 1, 1, none⟩) (by simp) (.slice A2 0 c2)
    exact ⟨_, _, _, _, _, _, by first | rfl | (rw [HV.out]; rfl), by first | exact HH.out.on BQ | (rw [HD.out]; exact HH.out.on BQ), BQ⟩

set_option maxRecDepth 100000 in
set_option maxHeartbeats 1600000 in
/-- Another ring, the one that was there behind those of before. -/
theorem moved_any (P : Nat → Prop) (A : Option Addr) (n c : Nat) (A2 : Option Addr) (m c2 : Nat) (D : Dk) (A1 : Option Addr) (n1 c1 : Nat) (l1 : List Int) (w : World) (h : DkQ w P A n c A2 m c2 D) (hs1 : SlQ w P A1 n1 l1) (hcap1 : n1 ≤ c1 ∧ c1 ≤ 9223372036854775807) (h8 : m ≤ 8) :
    Calls Tryz.prog 104 #[dsk A n c A2 m c2, .slice A1 n1 c1] w fun e w' => ∃ A4 m4 c4, e = .returned (dsk A1 n1 c1 A4 m4 c4) ∧ DkQ w' (fun b => P b ∨ w.heap.size ≤ b) A1 n1 c1 A4 m4 c4 ⟨l1, trimL (D.past ++ [D.now])⟩ ∧ Below w.heap.size w w' := by
  have HLM := hid h.read.past.len
  have z1 : (w.alloc (.cells #[.slice A n c, .slice A2 m c2] 31)).heap.size = w.heap.size + 1 := by simp
  have g1 := grown_alloc (w.alloc (.cells #[.slice A n c, .slice A2 m c2] 31)) (.cells #[.slice none 0 0, .slice none 0 0] 31) none
  have X0 := (Db.new w (.slice A n c) (.slice A2 m c2)).on (row := none) g1 (by simp)
  have XR := Db.new (w.alloc (.cells #[.slice A n c, .slice A2 m c2] 31)) (.slice none 0 0) (.slice none 0 0)
  rw [z1] at XR
  have B0 := ((Below.refl w.heap.size w).alloc (Nat.le_refl _) (.cells #[.slice A n c, .slice A2 m c2] 31)).alloc (by simp) (.cells #[.slice none 0 0, .slice none 0 0] 31)
  obtain ⟨w0, e0⟩ : ∃ W, (w.alloc (.cells #[.slice A n c, .slice A2 m c2] 31)).alloc (.cells #[.slice none 0 0, .slice none 0 0] 31) = W := ⟨_, rfl⟩
  have hz0 : w0.heap.size = w.heap.size + 2 := by rw [← e0]; simp
  rw [e0] at X0 XR B0
  have c0 := X0.c0
  have c1' := X0.c1
  -- the one that was there, as a slice of one; the two, as a slice of two
  have B1 := B0.alloc (by omega) (.cells #[.slice A n c] 28)
  obtain ⟨w1, e1⟩ : ∃ W, w0.alloc (.cells #[.slice A n c] 28) = W := ⟨_, rfl⟩
  have hz1 : w1.heap.size = w.heap.size + 3 := by rw [← e1]; simp; omega
  have y2 : w1.cell? ⟨w0.heap.size, 0, none⟩ = some (.slice A n c) := by rw [← e1]; simp
  have DB1 : Below w0.heap.size w0 w1 := by rw [← e1]; exact (Below.refl _ _).alloc (Nat.le_refl _) _
  have DB2 := DB1.alloc (by omega) (.cells #[.slice A2 m c2, .slice (some ⟨w0.heap.size, 0, none⟩) 1 1] 29)
  have yq0 : (w1.alloc (.cells #[.slice A2 m c2, .slice (some ⟨w0.heap.size, 0, none⟩) 1 1] 29)).cell? ⟨w1.heap.size, 0, none⟩ = some (.slice A2 m c2) := by simp
  have yq1 : (w1.alloc (.cells #[.slice A2 m c2, .slice (some ⟨w0.heap.size, 0, none⟩) 1 1] 29)).cell? ⟨w1.heap.size, 1, none⟩ = some (.slice (some ⟨w0.heap.size, 0, none⟩) 1 1) := by simp
  have yq2 : (w1.alloc (.cells #[.slice A2 m c2, .slice (some ⟨w0.heap.size, 0, none⟩) 1 1] 29)).cell? ⟨w0.heap.size, 0, none⟩ = some (.slice A n c) := ((Below.refl w1.heap.size w1).alloc (Nat.le_refl _) (.cells #[.slice A2 m c2, .slice (some ⟨w0.heap.size, 0, none⟩) 1 1] 29)).cell (p := ⟨w0.heap.size, 0, none⟩) (show w0.heap.size < w1.heap.size by omega) |>.trans y2
  obtain ⟨w2, e2⟩ : ∃ W, w1.alloc (.cells #[.slice A2 m c2, .slice (some ⟨w0.heap.size, 0, none⟩) 1 1] 29) = W := ⟨_, rfl⟩
  have hz2 : w2.heap.size = w.heap.size + 4 := by rw [← e2]; simp; omega
  rw [e2] at yq0 yq1 yq2 DB2
  have B2 := B0.trans (DB2.mono (by omega))
  obtain ⟨vs, HOut0, HRows0⟩ := h.past
  have HOut := (HOut0.keep (W := w2) B2.size (fun p _ hp => B2.cell hp)).1
  have CC := hid (concatR_any w1.heap.size A2 m c2 w0.heap.size vs (.slice A n c) w2 (by omega) yq0 yq1 HOut (by omega) yq2 rfl HRows0.one h8)
  have HX0 := hid X0
  have HXR := hid (XR.below DB2 (by omega))
  have HB2 := hid B2
  have HRS := hid (HRows0.snoc h.now h.cap)
  have HS1 := hid hs1
  rw [hz1] at CC
  rw [hz0] at e2
  clear g1 X0 XR B0 B1 z1 h hs1 DB1 DB2 B2 HOut HOut0 HRows0 yq0 yq1 yq2 y2
  go_enter Tryz.func104, Tryz.ntmps104
  go_wp2_with fail
  with_reducible refine Calls.mono CC.out ?_
  rintro e w3 ⟨g, c3, rfl, o3, b3⟩
  have YR := HXR.out.below b3 (by omega)
  have r0 := YR.c0
  have r1 := YR.c1
  have f0 := YR.fz 0
  have f1 := YR.fz 1
  have HB3 := hid (HB2.out.trans (b3.mono (by omega)))
  have HO3 := hid o3
  have hgB := (o3.lt g rfl).1
  have HC3 := hid (own_capK o3)
  have hcc := own_capK o3
  have HYR := hid YR
  clear YR o3 b3
  by_cases h7 : m = 8
  · subst h7
    have wm : max (0 : Int) (((8 : Nat) : Int) + 1 - 8) = 1 := by decide
    have HT := hid (show trimL (D.past ++ [D.now]) = (D.past ++ [D.now]).drop 1 from by
      unfold trimL; rw [if_pos (by simp [HLM.out])])
    go_wp2
    (try simp only [Exit.inBlock, Exit.then])
    refine bodyPost_ret (results_cell_row rfl _ _ (w.heap.size + 1) 31 _ (0, 0) _ (by simp [Act.put]) (HYR.out.set _ _) Tryz.underlying31 rfl size_desk) rfl ?_
    have BQ := (HB3.out.setCell (p := ⟨w.heap.size + 1, 0, none⟩) (by simp) (.slice A1 n1 c1)).setCell (p := ⟨w.heap.size + 1, 1, none⟩) (by simp) (.slice (some ⟨g, 0 + 1, none⟩) (8 + 1 - 1) (c3 - 1))
    have DQ := ((Below.refl (w.heap.size + 1) w3).setCell (p := ⟨w.heap.size + 1, 0, none⟩) (by simp) (.slice A1 n1 c1)).setCell (p := ⟨w.heap.size + 1, 1, none⟩) (by simp) (.slice (some ⟨g, 0 + 1, none⟩) (8 + 1 - 1) (c3 - 1))
    refine ⟨_, _, _, rfl, ?_, BQ⟩
    rw [HT.out]
    have O5 := own_box (k := 1) (.slice (some ⟨g, 0 + 1, none⟩) (8 + 1 - 1) (c3 - 1)) (own_box (k := 0) (.slice A1 n1 c1) HO3.out (HYR.out.ne_row HO3.out)) ((HYR.out.set0 (.slice A1 n1 c1)).ne_row (own_box (k := 0) (.slice A1 n1 c1) HO3.out (HYR.out.ne_row HO3.out)))
    exact ⟨(HS1.out.on BQ).mono (fun b hb => .inl hb), ⟨_, OutQ.tail ⟨Out.of_own O5, fun _ => ⟨g, 0, rfl, .inr (by omega)⟩⟩, ((HRS.out.keep BQ.size (fun p _ hp => BQ.cell hp)).mono (fun b hb => .inl hb)).tail⟩, hcap1, by have := HC3.out; omega⟩
  · have hlt : m ≤ 7 := by omega
    have wm : max (0 : Int) ((m : Int) + 1 - 8) = 0 := by omega
    have w8 : IntKind.i64.wrap ((m : Int) + 1 - 8) = (m : Int) + 1 - 8 := IntWalk.i64_in _ (by omega)
    have HT := hid (show trimL (D.past ++ [D.now]) = D.past ++ [D.now] from by
      unfold trimL; rw [if_neg (by simp [HLM.out]; omega)])
    go_wp2
    (try simp only [Exit.inBlock, Exit.then])
    refine bodyPost_ret (results_cell_row rfl _ _ (w.heap.size + 1) 31 _ (0, 0) _ (by simp [Act.put]) (HYR.out.set _ _) Tryz.underlying31 rfl size_desk) rfl ?_
    have BQ := (HB3.out.setCell (p := ⟨w.heap.size + 1, 0, none⟩) (by simp) (.slice A1 n1 c1)).setCell (p := ⟨w.heap.size + 1, 1, none⟩) (by simp) (.slice (some ⟨g, 0, none⟩) (m + 1) c3)
    refine ⟨_, _, _, rfl, ?_, BQ⟩
    rw [HT.out]
    have O5 := own_box (k := 1) (.slice (some ⟨g, 0, none⟩) (m + 1) c3) (own_box (k := 0) (.slice A1 n1 c1) HO3.out (HYR.out.ne_row HO3.out)) ((HYR.out.set0 (.slice A1 n1 c1)).ne_row (own_box (k := 0) (.slice A1 n1 c1) HO3.out (HYR.out.ne_row HO3.out)))
    exact ⟨(HS1.out.on BQ).mono (fun b hb => .inl hb), ⟨_, ⟨Out.of_own O5, fun _ => ⟨g, 0, rfl, .inr (by omega)⟩⟩, (HRS.out.keep BQ.size (fun p _ hp => BQ.cell hp)).mono (fun b hb => .inl hb)⟩, hcap1, HC3.out⟩
end Go.Proofs.YtkejcajboneniabGreatDoor
