/-
  The walk of laws.FnToldBy, written by program (law6.py). No statement is proved here.
-/
import Derived.Test.YtdacjpaaffpfgaaC6i
import Derived.Test.YtdacjpaaffpfgaaC6a
import Derived.Test.YtdacjpaaffpfgaaDrT
import Derived.Test.YtdacjpaaffpfgaaS6b
import Derived.Test.YtdacjpaaffpfgaaExC
import Derived.Test.YtdacjpaaffpfgaaC1a
import Derived.Deep.RegionHeld3
import Derived.IntWalk
namespace Go.Proofs.Ytdacjpaaffpfgaa
open Go.RowKit
set_option linter.unusedVariables false
set_option linter.unusedSimpArgs false

set_option maxRecDepth 100000 in
set_option maxHeartbeats 6400000 in
theorem fnToldBy_walk (A : Option Addr) (n c : Nat) (w : World) (hs : By w w.heap.size A n) (hc : n ≤ c) :
    Calls Try.prog 6 #[.slice A n c] w fun e w' => e = .returned (.bool true) ∧ Below w.heap.size w w' := by
  have hm : n ≤ 9223372036854775807 := hs.1
  by_cases hbig : 1048576 < n
  · go_enter Try.func6, Try.ntmps6
    go_wp2
    go_ret
    exact ⟨rfl, Below.refl _ _⟩
  go_enter Try.func6, Try.ntmps6
  go_wp2_with fail
  refine (drawToldBy_any A n c _ hs hc).mono ?_
  rintro e w1 ⟨A1, n1, c1, A2, n2, c2, D, C, rfl, oc, hn1, hn2, hb1⟩
  have HB := hid hb1
  have z1 := hb1.size
  clear hs hc hb1 hbig hm
  replace oc := oc.mono (Nat.zero_le _)
  have yD := oc.lenD
  have yC := oc.lenC
  have hM1 : n1 ≤ 9223372036854775807 := (Sl.of_own oc.d).max
  have hM2 : n2 ≤ 9223372036854775807 := (Sl.of_own oc.e).max
  have st2 := (Below.refl w1.heap.size w1).alloc (Nat.le_refl _) (.cells #[.slice A1 n1 c1, .slice A2 n2 c2] 25)
  have Xc := Bt.new w1 25 (.slice A1 n1 c1) (.slice A2 n2 c2)
  obtain ⟨bc, hbc⟩ : ∃ q, w1.heap.size = q := ⟨_, rfl⟩
  rw [hbc] at Xc
  obtain ⟨w2, e2⟩ : ∃ W, w1.alloc (.cells #[.slice A1 n1 c1, .slice A2 n2 c2] 25) = W := ⟨_, rfl⟩
  rw [e2] at Xc st2
  have Bc := hid Xc
  clear Xc
  replace oc := oc.on st2
  have z2 := st2.size
  replace HB := hid (HB.out.trans (st2.mono HB.out.size))
  clear st2
  have cc0 := Bc.out.c0
  have cc1 := Bc.out.c1
  have CI := hid (fun (W : World) (h1 : Sl W W.heap.size A1 n1 D) (h2 : Sl W W.heap.size A2 n2 C) => implToldBy_any A1 n1 c1 A2 n2 c2 D C W h1 h2)
  have CS := hid (fun (W : World) (h1 : Sl W W.heap.size A1 n1 D) (h2 : Sl W W.heap.size A2 n2 C) => specToldBy_any A1 n1 c1 A2 n2 c2 D C W h1 h2)
  cases hok : ctrOk D C with
  | false =>
    rw [told_no hok] at CI CS
    clear hok
    go_wp2_with fail
    clear cc0 cc1
    with_reducible refine Calls.mono (CI.out _ (Sl.of_own oc.d) (Sl.of_own oc.e)) ?_
    rintro e w3 ⟨rfl, st3⟩
    replace oc := oc.on st3
    replace Bc := hid (Bc.out.below st3)
    have z3 := st3.size
    replace HB := hid (HB.out.trans (st3.mono HB.out.size))
    clear st3
    have cc0 := Bc.out.c0
    have cc1 := Bc.out.c1
    go_wp2_with fail
    clear cc0 cc1
    with_reducible refine Calls.mono (CS.out _ (Sl.of_own oc.d) (Sl.of_own oc.e)) ?_
    rintro e w4 ⟨rfl, st4⟩
    replace st4 := below_grown st4
    replace oc := oc.on st4
    replace Bc := hid (Bc.out.below st4)
    have z4 := st4.size
    replace HB := hid (HB.out.trans (st4.mono HB.out.size))
    clear st4
    have cc0 := Bc.out.c0
    have cc1 := Bc.out.c1
    go_wp2_with fail
    clear cc0 cc1
    refine (alive_any _).mono ?_
    rintro e w5 ⟨rfl, st5⟩
    replace oc := oc.on st5
    replace Bc := hid (Bc.out.below st5)
    have z5 := st5.size
    replace HB := hid (HB.out.trans (st5.mono HB.out.size))
    clear st5
    have cc0 := Bc.out.c0
    have cc1 := Bc.out.c1
    go_wp2
    go_ret
    exact ⟨rfl, HB.out⟩
  | true =>
    obtain ⟨t0, t1, t2⟩ := told_law hok
    obtain ⟨hD1, hD2, _⟩ := ctrOk_iff.1 hok
    rw [yD] at t1 t2 hD1
    rw [yD, yC] at hD2
    subst hD2
    obtain ⟨T, hT⟩ : ∃ T, toldC D C = T := ⟨_, rfl⟩
    rw [hT] at CI CS t0 t1 t2
    have hp := pow_le8 (show n2 ≤ 8 by omega)
    obtain ⟨Y, hY⟩ : ∃ Y, (2 : Int) * 2 ^ n2 = Y := ⟨_, rfl⟩
    have y1 : 2 ≤ Y ∧ Y ≤ 512 := by omega
    rw [hY] at t1
    clear hp hT hok
    have HT := hid t2
    clear t2
    obtain ⟨T, rfl⟩ := Int.eq_ofNat_of_zero_le t0
    clear t0
    go_wp2_with fail
    clear cc0 cc1
    with_reducible refine Calls.mono (CI.out _ (Sl.of_own oc.d) (Sl.of_own oc.e)) ?_
    rintro e w3 ⟨rfl, st3⟩
    replace oc := oc.on st3
    replace Bc := hid (Bc.out.below st3)
    have z3 := st3.size
    replace HB := hid (HB.out.trans (st3.mono HB.out.size))
    clear st3
    have cc0 := Bc.out.c0
    have cc1 := Bc.out.c1
    go_wp2_with fail
    clear cc0 cc1
    with_reducible refine Calls.mono (CS.out _ (Sl.of_own oc.d) (Sl.of_own oc.e)) ?_
    rintro e w4 ⟨rfl, st4⟩
    replace st4 := below_grown st4
    replace oc := oc.on st4
    replace Bc := hid (Bc.out.below st4)
    have z4 := st4.size
    replace HB := hid (HB.out.trans (st4.mono HB.out.size))
    clear st4
    have cc0 := Bc.out.c0
    have cc1 := Bc.out.c1
    obtain ⟨bb1, oo1, rfl, _, hc1⟩ := (Sl.of_own oc.d).2.2 (by omega)
    obtain ⟨bb2, oo2, rfl, _, hc2⟩ := (Sl.of_own oc.e).2.2 (by omega)
    have H1 := hid hc1
    have H2 := hid hc2
    clear hc1 hc2
    have i4 : IntKind.i64.wrap Y = Y := IntWalk.i64_in _ (by omega)
    have i5 : IntKind.i64.wrap (Y - 2) = Y - 2 := IntWalk.i64_in _ (by omega)
    have i6 : ¬ (T : Int) < 0 := by omega
    have i7 : decide ((T : Int) ≤ Y - 2) = true := by simp; omega
    have i8 : (T : Int) ≤ Y - 2 := by omega
    have hbs : ((n2 : Nat) : Int) ≤ 64 := by omega
    clear oc
    go_wp2_with fail
    go_loopw [5, 6] (fun b i wr => ∃ (k m : Nat) (v : Bool), b = .bool v ∧ i = .int .i64 k ∧ k ≤ n2 ∧ wr = w4.drewN m ∧ (v = true ↔ ∀ j, j < k → nth D j = 0 ∧ nth C j = 0)) (fun _ i _ => n2 - (intOf i).toNat)
    case atStart => exact ⟨0, 0, true, rfl, rfl, Nat.zero_le _, rfl, by simp⟩
    case round =>
      obtain ⟨k, m, v, rfl, rfl, hk, rfl, hv⟩ := hrel
      by_cases hlt : k < n2
      · have hx := H1.out k hlt
        have hy := H2.out k hlt
        have q1 : (k : Int) < (n2 : Int) := by omega
        have hnx : (∀ j, j < k + 1 → nth D j = 0 ∧ nth C j = 0) ↔ (∀ j, j < k → nth D j = 0 ∧ nth C j = 0) ∧ nth D k = 0 ∧ nth C k = 0 := by
          constructor
          · intro h; exact ⟨fun j hj => h j (by omega), h k (by omega)⟩
          · intro h j hj
            rcases (show j < k ∨ j = k by omega) with h' | rfl
            · exact h.1 j h'
            · exact h.2
        rw [← hv] at hnx
        obtain ⟨x, hxe⟩ : ∃ x, nth D k = x := ⟨_, rfl⟩
        obtain ⟨y, hye⟩ : ∃ y, nth C k = y := ⟨_, rfl⟩
        rw [hxe] at hx hnx
        rw [hye] at hy hnx
        have HN := hid hnx
        clear hv hnx hxe hye
        go_wp2
        all_goals
          refine ⟨⟨k + 1, m, _, rfl, by go_num, by omega, rfl, ?_⟩, by simp [intOf]; omega⟩
          rw [HN.out]
          simp [*]
      · obtain rfl : k = n2 := by omega
        rw [← HT.out] at hv
        have hvv : ((T : Int) == 0) = v := by
          rw [Bool.eq_iff_iff, hv]; simp
        clear hv
        subst hvv
        go_wp2
        go_ret
        exact ⟨rfl, below_drewN HB.out _⟩
end Go.Proofs.Ytdacjpaaffpfgaa
