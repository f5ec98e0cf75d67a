/-
  The walk of laws.FnBitsOk, written by program (law10.py). No statement is proved here.
-/
import Derived.Test.YthncjopbagkdcaaC10c
import Derived.Test.YthncjopbagkdcaaC10d
import Derived.Test.YthncjopbagkdcaaC10i
import Derived.Test.YthncjopbagkdcaaDrX
import Derived.Test.YthncjopbagkdcaaExS
import Derived.Test.YthncjopbagkdcaaC1a
import Derived.IntWalk
import Derived.Deep.RegionHeld3
import Derived.BigQuiet
import Derived.Deep.QuietTactic
namespace Go.Proofs.Ythncjopbagkdcaa
open Go.RowKit
set_option linter.unusedVariables false
set_option linter.unusedSimpArgs false

theorem bits_take {l : List Int} (h : bitsOk l = true) {m : Nat} (h1 : 1 ≤ m) (h2 : m ≤ l.length) : bitsOk (l.take m) = true := by
  obtain ⟨g1, g2, g3⟩ := bitsOk_iff.1 h
  exact bitsOk_iff.2 ⟨fun x hx => g1 x (List.mem_of_mem_take hx), by rw [List.length_take]; omega, by rw [List.length_take]; omega⟩

set_option maxRecDepth 100000 in
set_option maxHeartbeats 6400000 in
theorem fnBitsOk_walk (A : Option Addr) (n c : Nat) (w : World) (hs : By w w.heap.size A n) (hc : n ≤ c) :
    Calls Try.prog 3 #[.slice A n c] w fun e w' => e = .returned (.bool true) ∧ Below w.heap.size w w' := by
  have hm : n ≤ 9223372036854775807 := hs.1
  by_cases hbig : 1048576 < n
  · go_enter Try.func3, Try.ntmps3
    go_wp2
    go_ret
    exact ⟨rfl, Below.refl _ _⟩
  go_enter Try.func3, Try.ntmps3
  go_wp2_with fail
  refine (drawBitsOk_any A n c _ hs hc).mono ?_
  rintro e w1 ⟨A1, n1, c1, l1, rfl, o1, hn1, hb1⟩
  have HB := hid hb1
  clear hs hc hb1 hbig hm
  replace o1 := own_mono (base' := 0) o1 (Nat.zero_le _)
  have hl1 : l1.length = n1 := by have := o1.1; simpa using this
  have CI := hid (fun (W : World) (hs : Sl W W.heap.size A1 n1 l1) => implBitsOk_any A1 n1 c1 l1 W hs)
  have CS := hid (fun (W : World) (B : Nat) (hs : Sl W B A1 n1 l1) => specBitsOk_any A1 n1 c1 l1 W B hs)
  have CL := hid (fun (W : World) (x : Int) => implBitsOk_any (some ⟨W.heap.size, 0, none⟩) 1 1 [x] (W.alloc (.cells #[.int .i64 x] 3)) ((Sl.lit W 3 [x] (by simp)).more (by simp)))
  cases hk : bitsOk l1 with
  | false =>
    rw [hk] at CI CS
    clear hk
    go_wp2_with fail
    with_reducible refine Calls.mono (CI.out _ (Sl.of_own o1)) ?_
    rintro e w2 ⟨rfl, st2⟩
    replace o1 := own_on o1 st2
    replace HB := hid (HB.out.trans (st2.mono HB.out.size))
    clear st2
    go_wp2_with fail
    with_reducible refine Calls.mono (CS.out _ _ (Sl.of_own o1)) ?_
    rintro e w' ⟨rfl, rfl⟩
    go_wp2_with fail
    have C3 := hid (CL.out w2 0)
    rw [show bitsOk [0] = true from by decide] at C3
    with_reducible refine Calls.mono C3.out ?_
    rintro e w3 ⟨rfl, st3⟩
    have ga3 : Below w2.heap.size w2 w3 := ((Below.refl w2.heap.size w2).alloc (Nat.le_refl _) (.cells #[.int .i64 0] 3)).trans (st3.mono (by simp))
    replace o1 := own_on o1 ga3
    replace HB := hid (HB.out.trans (ga3.mono HB.out.size))
    clear st3 ga3 C3
    go_wp2_with fail
    have C4 := hid (CL.out w3 1)
    rw [show bitsOk [1] = true from by decide] at C4
    with_reducible refine Calls.mono C4.out ?_
    rintro e w4 ⟨rfl, st4⟩
    have ga4 : Below w3.heap.size w3 w4 := ((Below.refl w3.heap.size w3).alloc (Nat.le_refl _) (.cells #[.int .i64 1] 3)).trans (st4.mono (by simp))
    replace o1 := own_on o1 ga4
    replace HB := hid (HB.out.trans (ga4.mono HB.out.size))
    clear st4 ga4 C4
    go_wp2_with fail
    have C5 := hid (CL.out w4 2)
    rw [show bitsOk [2] = false from by decide] at C5
    with_reducible refine Calls.mono C5.out ?_
    rintro e w5 ⟨rfl, st5⟩
    have ga5 : Below w4.heap.size w4 w5 := ((Below.refl w4.heap.size w4).alloc (Nat.le_refl _) (.cells #[.int .i64 2] 3)).trans (st5.mono (by simp))
    replace o1 := own_on o1 ga5
    replace HB := hid (HB.out.trans (ga5.mono HB.out.size))
    clear st5 ga5 C5
    go_wp2_with fail
    refine (alive_any _).mono ?_
    rintro e w6 ⟨rfl, st6⟩
    replace o1 := own_on o1 st6
    replace HB := hid (HB.out.trans (st6.mono HB.out.size))
    clear st6
    go_wp2
    go_ret
    exact ⟨rfl, HB.out⟩
  | true =>
    obtain ⟨_, h1, h2⟩ := bitsOk_iff.1 hk
    have htk := fun h => bits_take hk (m := n1 - 1) h (by omega)
    rw [hl1] at h1 h2
    rw [hk] at CI CS
    clear hk hl1
    go_wp2_with fail
    with_reducible refine Calls.mono (CI.out _ (Sl.of_own o1)) ?_
    rintro e w2 ⟨rfl, st2⟩
    replace o1 := own_on o1 st2
    replace HB := hid (HB.out.trans (st2.mono HB.out.size))
    clear st2
    go_wp2_with fail
    with_reducible refine Calls.mono (CS.out _ _ (Sl.of_own o1)) ?_
    rintro e w' ⟨rfl, rfl⟩
    clear CI CS
    go_wp2_with fail
    have C3 := hid (CL.out w2 0)
    rw [show bitsOk [0] = true from by decide] at C3
    with_reducible refine Calls.mono C3.out ?_
    rintro e w3 ⟨rfl, st3⟩
    have ga3 : Below w2.heap.size w2 w3 := ((Below.refl w2.heap.size w2).alloc (Nat.le_refl _) (.cells #[.int .i64 0] 3)).trans (st3.mono (by simp))
    replace o1 := own_on o1 ga3
    replace HB := hid (HB.out.trans (ga3.mono HB.out.size))
    clear st3 ga3 C3
    go_wp2_with fail
    have C4 := hid (CL.out w3 1)
    rw [show bitsOk [1] = true from by decide] at C4
    with_reducible refine Calls.mono C4.out ?_
    rintro e w4 ⟨rfl, st4⟩
    have ga4 : Below w3.heap.size w3 w4 := ((Below.refl w3.heap.size w3).alloc (Nat.le_refl _) (.cells #[.int .i64 1] 3)).trans (st4.mono (by simp))
    replace o1 := own_on o1 ga4
    replace HB := hid (HB.out.trans (ga4.mono HB.out.size))
    clear st4 ga4 C4
    go_wp2_with fail
    have C5 := hid (CL.out w4 2)
    rw [show bitsOk [2] = false from by decide] at C5
    with_reducible refine Calls.mono C5.out ?_
    rintro e w5 ⟨rfl, st5⟩
    have ga5 : Below w4.heap.size w4 w5 := ((Below.refl w4.heap.size w4).alloc (Nat.le_refl _) (.cells #[.int .i64 2] 3)).trans (st5.mono (by simp))
    replace o1 := own_on o1 ga5
    replace HB := hid (HB.out.trans (ga5.mono HB.out.size))
    clear st5 ga5 C5
    by_cases hn : n1 = 1
    · subst hn
      go_wp2_with fail
      refine (alive_any _).mono ?_
      rintro e w6 ⟨rfl, st6⟩
      replace o1 := own_on o1 st6
      replace HB := hid (HB.out.trans (st6.mono HB.out.size))
      clear st6
      go_wp2
      go_ret
      exact ⟨rfl, HB.out⟩
    · obtain ⟨m, rfl⟩ : ∃ m, n1 = m + 1 := ⟨n1 - 1, by omega⟩
      have h3 : bitsOk (l1.take m) = true := htk (by omega)
      obtain ⟨hc, hcm⟩ := own_capsD o1
      obtain ⟨g1, cg, hsh, _, _⟩ := own_shape1 o1 (by omega)
      injection hsh with q1 q2 q3
      subst q1
      clear q2 q3
      simp only [maxLen] at hcm
      have w1 : IntKind.i64.wrap ((m : Int) + 1 - 1) = (m : Int) := by rw [show (m : Int) + 1 - 1 = (m : Int) by omega]; exact IntWalk.i64_in _ (by omega)
      have e1 : (m : Int) ≤ (c1 : Int) := by omega
      have e2 : m ≤ c1 := by omega
      have e3 : (0 : Int) ≤ (m : Int) := by omega
      have e4 : ((m : Int) + 1 == 1) = false := by simp; omega
      have e5 : ¬ (m : Int) + 1 = 1 := by omega
      have e6 : ¬ (m : Int) = 0 := by omega
      have CX := hid (fun (W : World) (hs : Sl W W.heap.size (some ⟨g1, 0, none⟩) m (l1.take m)) => implBitsOk_any (some ⟨g1, 0, none⟩) m c1 (l1.take m) W hs)
      rw [h3] at CX
      go_wp2_with fail
      with_reducible refine Calls.mono (CX.out _ ((Sl.of_own o1).takeD (Nat.le_succ _))) ?_
      rintro e w6 ⟨rfl, st6⟩
      replace o1 := own_on o1 st6
      replace HB := hid (HB.out.trans (st6.mono HB.out.size))
      clear st6
      go_wp2_with fail
      refine (alive_any _).mono ?_
      rintro e w7 ⟨rfl, st7⟩
      replace o1 := own_on o1 st7
      replace HB := hid (HB.out.trans (st7.mono HB.out.size))
      clear st7
      go_wp2
      go_ret
      exact ⟨rfl, HB.out⟩
end Go.Proofs.Ythncjopbagkdcaa
