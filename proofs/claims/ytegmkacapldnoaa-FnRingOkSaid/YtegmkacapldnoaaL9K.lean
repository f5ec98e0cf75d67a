/-
  The walk of laws.FnRingOk, written by program (law9.py). No statement is proved here.
-/
import Derived.Test.YtegmkacapldnoaaC9c
import Derived.Test.YtegmkacapldnoaaC9w
import Derived.Test.YtegmkacapldnoaaC9i
import Derived.Test.YtegmkacapldnoaaDrS
import Derived.Test.YtegmkacapldnoaaExS
import Derived.Test.YtegmkacapldnoaaC1a
import Derived.IntWalk
import Derived.Deep.RegionHeld3
namespace Go.Proofs.Ytegmkacapldnoaa
open Go.RowKit
set_option linter.unusedVariables false
set_option linter.unusedSimpArgs false

theorem ring_take {l : List Int} (h : ringOk l = true) {m : Nat} (h1 : 1 ≤ m) (h2 : m ≤ l.length) : ringOk (l.take m) = true := by
  obtain ⟨g1, g2, g3, g4⟩ := ringOk_iff.1 h
  refine ringOk_iff.2 ⟨fun x hx => g1 x (List.mem_of_mem_take hx), fun b hb a ha e => ?_, by rw [List.length_take]; omega, by rw [List.length_take]; omega⟩
  rw [List.length_take] at hb
  refine g2 b (by omega) a ha ?_
  have : ∀ k, k < m → nth (l.take m) k = nth l k := fun k hk => by simp [nth, List.getD, hk]
  rw [← this a (by omega), ← this b (by omega)]
  exact e

set_option maxRecDepth 100000 in
set_option maxHeartbeats 6400000 in
theorem fnRingOk_walk (A : Option Addr) (n c : Nat) (w : World) (hs : By w w.heap.size A n) (hc : n ≤ c) :
    Calls Try.prog 3 #[.slice A n c] w fun e w' => e = .returned (.bool true) ∧ Below w.heap.size w w' := by
  have hm : n ≤ 9223372036854775807 := hs.1
  by_cases hbig : 1048576 < n
  · go_enter Try.func3, Try.ntmps3
    go_wp2
    go_ret
    exact ⟨rfl, Below.refl _ _⟩
  go_enter Try.func3, Try.ntmps3
  go_wp2_with fail
  refine (drawRingOk_any A n c _ hs hc).mono ?_
  rintro e w1 ⟨A1, n1, c1, l1, rfl, o1, hn1, hb1⟩
  have HB := hid hb1
  clear hs hc hb1 hbig hm
  replace o1 := own_mono (base' := 0) o1 (Nat.zero_le _)
  have hl1 : l1.length = n1 := by have := o1.1; simpa using this
  obtain ⟨hc1, hc2⟩ := own_caps9 o1
  have CI := hid (fun (W : World) (hs : Sl W W.heap.size A1 n1 l1) => implRingOk_any A1 n1 c1 l1 W hs hc1 hc2)
  have CS := hid (fun (W : World) (hs : Sl W W.heap.size A1 n1 l1) => specRingOk_any A1 n1 c1 l1 W hs)
  have CL := hid (fun (W : World) (x : Int) => implRingOk_any (some ⟨W.heap.size, 0, none⟩) 1 1 [x] (W.alloc (.cells #[.int .i64 x] 3)) ((Sl.lit W 3 [x] (by simp)).more (by simp)) (Nat.le_refl _) (by simp [maxLen]))
  have CT := hid (fun (W : World) => implRingOk_any (some ⟨W.heap.size, 0, none⟩) 2 2 [2, 2] (W.alloc (.cells #[.int .i64 2, .int .i64 2] 3)) ((Sl.lit W 3 [2, 2] (by simp)).more (by simp)) (Nat.le_refl _) (by simp [maxLen]))
  rw [show ringOk [2, 2] = false from by decide] at CT
  cases hk : ringOk l1 with
  | false =>
    rw [hk] at CI CS
    clear hk
    go_wp2_with fail
    with_reducible refine Calls.mono (CI.out _ (Sl.of_own o1)) ?_
    rintro e w2 ⟨rfl, st2⟩
    replace o1 := own_on o1 st2
    replace HB := hid (HB.out.trans (st2.mono HB.out.size))
    clear st2
    go_wp2_with fail
    with_reducible refine Calls.mono (CS.out _ (Sl.of_own o1)) ?_
    rintro e w3 ⟨rfl, st3⟩
    replace o1 := own_on o1 st3
    replace HB := hid (HB.out.trans (st3.mono HB.out.size))
    clear st3
    go_wp2_with fail
    have C4 := hid (CL.out w3 1)
    rw [show ringOk [1] = true from by decide] at C4
    with_reducible refine Calls.mono C4.out ?_
    rintro e w4 ⟨rfl, st4⟩
    have ga4 : Below w3.heap.size w3 w4 := ((Below.refl w3.heap.size w3).alloc (Nat.le_refl _) (.cells #[.int .i64 1] 3)).trans (st4.mono (by simp))
    replace o1 := own_on o1 ga4
    replace HB := hid (HB.out.trans (ga4.mono HB.out.size))
    clear st4 ga4 C4
    go_wp2_with fail
    have C5 := hid (CL.out w4 99)
    rw [show ringOk [99] = true from by decide] at C5
    with_reducible refine Calls.mono C5.out ?_
    rintro e w5 ⟨rfl, st5⟩
    have ga5 : Below w4.heap.size w4 w5 := ((Below.refl w4.heap.size w4).alloc (Nat.le_refl _) (.cells #[.int .i64 99] 3)).trans (st5.mono (by simp))
    replace o1 := own_on o1 ga5
    replace HB := hid (HB.out.trans (ga5.mono HB.out.size))
    clear st5 ga5 C5
    go_wp2_with fail
    have C6 := hid (CT.out w5)
    with_reducible refine Calls.mono C6.out ?_
    rintro e w6 ⟨rfl, st6⟩
    have ga6 : Below w5.heap.size w5 w6 := ((Below.refl w5.heap.size w5).alloc (Nat.le_refl _) (.cells #[.int .i64 2, .int .i64 2] 3)).trans (st6.mono (by simp))
    replace o1 := own_on o1 ga6
    replace HB := hid (HB.out.trans (ga6.mono HB.out.size))
    clear st6 ga6 C6
    go_wp2_with fail
    refine (alive_any _).mono ?_
    rintro e w7 ⟨rfl, st7⟩
    replace o1 := own_on o1 st7
    replace HB := hid (HB.out.trans (st7.mono HB.out.size))
    clear st7
    go_wp2
    go_ret
    exact ⟨rfl, HB.out⟩
  | true =>
    obtain ⟨_, _, h1, h2⟩ := ringOk_iff.1 hk
    have htk := fun h => ring_take hk (m := n1 - 1) h (by omega)
    rw [hl1] at h1 h2
    rw [hk] at CI CS
    clear hk hl1
    go_wp2_with fail
    with_reducible refine Calls.mono (CI.out _ (Sl.of_own o1)) ?_
    rintro e w2 ⟨rfl, st2⟩
    replace o1 := own_on o1 st2
    replace HB := hid (HB.out.trans (st2.mono HB.out.size))
    clear st2
    go_wp2_with fail
    with_reducible refine Calls.mono (CS.out _ (Sl.of_own o1)) ?_
    rintro e w3 ⟨rfl, st3⟩
    replace o1 := own_on o1 st3
    replace HB := hid (HB.out.trans (st3.mono HB.out.size))
    clear st3
    clear CI CS
    go_wp2_with fail
    have C4 := hid (CL.out w3 1)
    rw [show ringOk [1] = true from by decide] at C4
    with_reducible refine Calls.mono C4.out ?_
    rintro e w4 ⟨rfl, st4⟩
    have ga4 : Below w3.heap.size w3 w4 := ((Below.refl w3.heap.size w3).alloc (Nat.le_refl _) (.cells #[.int .i64 1] 3)).trans (st4.mono (by simp))
    replace o1 := own_on o1 ga4
    replace HB := hid (HB.out.trans (ga4.mono HB.out.size))
    clear st4 ga4 C4
    go_wp2_with fail
    have C5 := hid (CL.out w4 99)
    rw [show ringOk [99] = true from by decide] at C5
    with_reducible refine Calls.mono C5.out ?_
    rintro e w5 ⟨rfl, st5⟩
    have ga5 : Below w4.heap.size w4 w5 := ((Below.refl w4.heap.size w4).alloc (Nat.le_refl _) (.cells #[.int .i64 99] 3)).trans (st5.mono (by simp))
    replace o1 := own_on o1 ga5
    replace HB := hid (HB.out.trans (ga5.mono HB.out.size))
    clear st5 ga5 C5
    go_wp2_with fail
    have C6 := hid (CT.out w5)
    with_reducible refine Calls.mono C6.out ?_
    rintro e w6 ⟨rfl, st6⟩
    have ga6 : Below w5.heap.size w5 w6 := ((Below.refl w5.heap.size w5).alloc (Nat.le_refl _) (.cells #[.int .i64 2, .int .i64 2] 3)).trans (st6.mono (by simp))
    replace o1 := own_on o1 ga6
    replace HB := hid (HB.out.trans (ga6.mono HB.out.size))
    clear st6 ga6 C6
    by_cases hn : n1 = 1
    · subst hn
      go_wp2_with fail
      refine (alive_any _).mono ?_
      rintro e w7 ⟨rfl, st7⟩
      replace o1 := own_on o1 st7
      replace HB := hid (HB.out.trans (st7.mono HB.out.size))
      clear st7
      go_wp2
      go_ret
      exact ⟨rfl, HB.out⟩
    · obtain ⟨m, rfl⟩ : ∃ m, n1 = m + 1 := ⟨n1 - 1, by omega⟩
      have h3 : ringOk (l1.take m) = true := htk (by omega)
      rcases own_form9 o1 with ⟨_, h0, _⟩ | ⟨g1, rfl, hc, hcm⟩
      · omega
      simp only [maxLen] at hcm
      have w1 : IntKind.i64.wrap ((m : Int) + 1 - 1) = (m : Int) := by rw [show (m : Int) + 1 - 1 = (m : Int) by omega]; exact IntWalk.i64_in _ (by omega)
      have e1 : (m : Int) ≤ (c1 : Int) := by omega
      have e2 : m ≤ c1 := by omega
      have e3 : (0 : Int) ≤ (m : Int) := by omega
      have e4 : ((m : Int) + 1 == 1) = false := by simp; omega
      have e5 : ¬ (m : Int) + 1 = 1 := by omega
      have e6 : ¬ (m : Int) = 0 := by omega
      have CX := hid (fun (W : World) (hs : Sl W W.heap.size (some ⟨g1, 0, none⟩) m (l1.take m)) => implRingOk_any (some ⟨g1, 0, none⟩) m c1 (l1.take m) W hs (by omega) hc2)
      rw [h3] at CX
      go_wp2_with fail
      with_reducible refine Calls.mono (CX.out _ ((Sl.of_own o1).take (Nat.le_succ _))) ?_
      rintro e w7 ⟨rfl, st7⟩
      replace o1 := own_on o1 st7
      replace HB := hid (HB.out.trans (st7.mono HB.out.size))
      clear st7
      go_wp2_with fail
      refine (alive_any _).mono ?_
      rintro e w8 ⟨rfl, st8⟩
      replace o1 := own_on o1 st8
      replace HB := hid (HB.out.trans (st8.mono HB.out.size))
      clear st8
      go_wp2
      go_ret
      exact ⟨rfl, HB.out⟩
end Go.Proofs.Ytegmkacapldnoaa
