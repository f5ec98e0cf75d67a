/-
  The walk of laws.FnInOk, written by program (law8.py). No statement is proved here.
-/
import Derived.Test.YtmkbbkpgdfpcoaaC8p
import Derived.Test.YtmkbbkpgdfpcoaaC8i
import Derived.Test.YtmkbbkpgdfpcoaaDrQ
import Derived.Test.YtmkbbkpgdfpcoaaC1a
namespace Go.Proofs.Ytmkbbkpgdfpcoaa
open Go.RowKit
set_option linter.unusedVariables false
set_option linter.unusedSimpArgs false

theorem Sl.take {w : World} {B n m : Nat} {A : Option Addr} {l : List Int} (h : Sl w B A n l) (hm : m ≤ n) : Sl w B A m (l.take m) := by
  refine ⟨by rw [List.length_take, h.len]; omega, Nat.le_trans hm h.max, fun h0 => ?_⟩
  obtain ⟨b, off, e, hb, hc⟩ := h.2.2 (by omega)
  refine ⟨b, off, e, hb, fun j hj => ?_⟩
  rw [hc j (by omega)]
  simp [nth, List.getD, hj]
theorem in_take {l : List Int} (h : inOk l = true) (m : Nat) : inOk (l.take m) = true := by
  rw [inOk_iff] at h ⊢
  exact ⟨fun x hx => h.1 x (List.mem_of_mem_take hx), by rw [List.length_take]; omega⟩
theorem own_cap8 {w : World} {B n c : Nat} {A : Option Addr} {e : TypeId} {xs : List Value} (h : w.ownsRow B e 1 (.slice A n c) n xs) (h0 : 0 < n) : n ≤ c ∧ c ≤ maxLen := by
  rcases h.2 with ⟨h1, h2⟩ | ⟨g, cap, cur, hv, hbg, hgg, hnc, hcm, hsz, ht⟩
  · omega
  · injection hv with e1 e2 e3
    subst e3
    exact ⟨hnc, hcm⟩

set_option maxRecDepth 100000 in
set_option maxHeartbeats 6400000 in
theorem fnInOk_walk (A : Option Addr) (n c : Nat) (w : World) (hs : By w w.heap.size A n) (hc : n ≤ c) :
    Calls Try.prog 4 #[.slice A n c] w fun e w' => e = .returned (.bool true) ∧ Below w.heap.size w w' := by
  have hm : n ≤ 9223372036854775807 := hs.1
  by_cases hbig : 1048576 < n
  · go_enter Try.func4, Try.ntmps4
    go_wp2
    go_ret
    exact ⟨rfl, Below.refl _ _⟩
  go_enter Try.func4, Try.ntmps4
  go_wp2_with fail
  refine (drawInOk_any A n c _ hs hc).mono ?_
  rintro e w1 ⟨A1, n1, c1, l1, rfl, o1, hn1, hv1, hb1⟩
  have HB := hid hb1
  clear hs hc hb1 hbig hm
  replace o1 := own_mono (base' := 0) o1 (Nat.zero_le _)
  have hl1 : l1.length = n1 := by have := o1.1; simpa using this
  have CI := hid (fun (W : World) (h1 : Sl W W.heap.size A1 n1 l1) => implInOk_any A1 n1 c1 l1 W h1)
  have CS := hid (fun (W : World) (h1 : Sl W W.heap.size A1 n1 l1) => specInOk_any A1 n1 c1 l1 W W.heap.size h1)
  have C0 := hid (fun (W : World) => implInOk_any (some ⟨W.heap.size, 0, none⟩) 0 0 [] (W.alloc (.cells #[] 3)) (Sl.of_own (World.ownsRow_lit (base := 0) W #[] 0 (Nat.zero_le _) (by simp [maxLen]) rfl)))
  rw [show inOk [] = true from by decide] at C0
  have CM := hid (fun (W : World) => implInOk_any (some ⟨W.heap.size, 0, none⟩) 1 1 [-99] (W.alloc (.cells #[.int .i64 (-99)] 3)) (Sl.of_own (World.ownsRow_lit (base := 0) W #[.int .i64 (-99)] 1 (Nat.zero_le _) (by simp [maxLen]) rfl)))
  rw [show inOk [-99] = true from by decide] at CM
  have CP := hid (fun (W : World) => implInOk_any (some ⟨W.heap.size, 0, none⟩) 1 1 [100] (W.alloc (.cells #[.int .i64 100] 3)) (Sl.of_own (World.ownsRow_lit (base := 0) W #[.int .i64 100] 1 (Nat.zero_le _) (by simp [maxLen]) rfl)))
  rw [show inOk [100] = false from by decide] at CP
  cases hk : inOk l1 with
  | false =>
    rw [hk] at CI CS
    clear hk
    go_wp2_with fail
    with_reducible refine Calls.mono (CI.out _ (Sl.of_own o1)) ?_
    rintro e w2 ⟨rfl, st2⟩
    replace o1 := own_on o1 st2
    replace HB := hid (HB.out.trans (st2.mono HB.out.size))
    clear st2
    go_wp2_with fail
    with_reducible refine Calls.mono (CS.out _ (Sl.of_own o1)) ?_
    rintro e w' ⟨rfl, rfl⟩
    clear o1
    go_wp2_with fail
    with_reducible refine Calls.mono (C0.out _) ?_
    rintro e w3 ⟨rfl, st3⟩
    replace st3 := ((Below.refl w2.heap.size w2).alloc (Nat.le_refl _) (.cells #[] 3)).trans (st3.mono (by simp))
    replace HB := hid (HB.out.trans (st3.mono HB.out.size))
    clear st3
    go_wp2_with fail
    with_reducible refine Calls.mono (CM.out _) ?_
    rintro e w4 ⟨rfl, st4⟩
    replace st4 := ((Below.refl w3.heap.size w3).alloc (Nat.le_refl _) (.cells #[.int .i64 (-99)] 3)).trans (st4.mono (by simp))
    replace HB := hid (HB.out.trans (st4.mono HB.out.size))
    clear st4
    go_wp2_with fail
    with_reducible refine Calls.mono (CP.out _) ?_
    rintro e w5 ⟨rfl, st5⟩
    replace st5 := ((Below.refl w4.heap.size w4).alloc (Nat.le_refl _) (.cells #[.int .i64 100] 3)).trans (st5.mono (by simp))
    replace HB := hid (HB.out.trans (st5.mono HB.out.size))
    clear st5
    go_wp2_with fail
    refine (alive_any _).mono ?_
    rintro e w6 ⟨rfl, st6⟩
    replace HB := hid (HB.out.trans (st6.mono HB.out.size))
    clear st6
    go_wp2
    go_ret
    exact ⟨rfl, HB.out⟩
  | true =>
    rw [hk] at CI CS
    by_cases h0 : n1 = 0
    · subst h0
      clear hk
      go_wp2_with fail
      with_reducible refine Calls.mono (CI.out _ (Sl.of_own o1)) ?_
      rintro e w2 ⟨rfl, st2⟩
      replace o1 := own_on o1 st2
      replace HB := hid (HB.out.trans (st2.mono HB.out.size))
      clear st2
      go_wp2_with fail
      with_reducible refine Calls.mono (CS.out _ (Sl.of_own o1)) ?_
      rintro e w' ⟨rfl, rfl⟩
      clear o1
      go_wp2_with fail
      with_reducible refine Calls.mono (C0.out _) ?_
      rintro e w3 ⟨rfl, st3⟩
      replace st3 := ((Below.refl w2.heap.size w2).alloc (Nat.le_refl _) (.cells #[] 3)).trans (st3.mono (by simp))
      replace HB := hid (HB.out.trans (st3.mono HB.out.size))
      clear st3
      go_wp2_with fail
      with_reducible refine Calls.mono (CM.out _) ?_
      rintro e w4 ⟨rfl, st4⟩
      replace st4 := ((Below.refl w3.heap.size w3).alloc (Nat.le_refl _) (.cells #[.int .i64 (-99)] 3)).trans (st4.mono (by simp))
      replace HB := hid (HB.out.trans (st4.mono HB.out.size))
      clear st4
      go_wp2_with fail
      with_reducible refine Calls.mono (CP.out _) ?_
      rintro e w5 ⟨rfl, st5⟩
      replace st5 := ((Below.refl w4.heap.size w4).alloc (Nat.le_refl _) (.cells #[.int .i64 100] 3)).trans (st5.mono (by simp))
      replace HB := hid (HB.out.trans (st5.mono HB.out.size))
      clear st5
      go_wp2_with fail
      refine (alive_any _).mono ?_
      rintro e w6 ⟨rfl, st6⟩
      replace HB := hid (HB.out.trans (st6.mono HB.out.size))
      clear st6
      go_wp2
      go_ret
      exact ⟨rfl, HB.out⟩
    · obtain ⟨m, rfl⟩ : ∃ m, n1 = m + 1 := ⟨n1 - 1, by omega⟩
      have ht := in_take hk m
      have CT := hid (fun (W : World) (hs : Sl W W.heap.size A1 m (l1.take m)) => implInOk_any A1 m c1 (l1.take m) W hs)
      rw [ht] at CT
      have hcap := own_cap8 o1 (by omega)
      have e2 : (m : Int) ≤ (c1 : Int) := by omega
      have e3 : m ≤ c1 := by omega
      have e5 : c1 ≤ 9223372036854775807 := by have := hcap.2; simp only [maxLen] at this; omega
      have e6 : (((m : Int) + 1) == 0) = false := by simp; omega
      have e7 : ¬ ((m : Int) + 1) = 0 := by omega
      clear hk ht hcap
      go_wp2_with fail
      with_reducible refine Calls.mono (CI.out _ (Sl.of_own o1)) ?_
      rintro e w2 ⟨rfl, st2⟩
      replace o1 := own_on o1 st2
      replace HB := hid (HB.out.trans (st2.mono HB.out.size))
      clear st2
      go_wp2_with fail
      with_reducible refine Calls.mono (CS.out _ (Sl.of_own o1)) ?_
      rintro e w' ⟨rfl, rfl⟩
      go_wp2_with fail
      with_reducible refine Calls.mono (C0.out _) ?_
      rintro e w3 ⟨rfl, st3⟩
      replace st3 := ((Below.refl w2.heap.size w2).alloc (Nat.le_refl _) (.cells #[] 3)).trans (st3.mono (by simp))
      replace o1 := own_on o1 st3
      replace HB := hid (HB.out.trans (st3.mono HB.out.size))
      clear st3
      go_wp2_with fail
      with_reducible refine Calls.mono (CM.out _) ?_
      rintro e w4 ⟨rfl, st4⟩
      replace st4 := ((Below.refl w3.heap.size w3).alloc (Nat.le_refl _) (.cells #[.int .i64 (-99)] 3)).trans (st4.mono (by simp))
      replace o1 := own_on o1 st4
      replace HB := hid (HB.out.trans (st4.mono HB.out.size))
      clear st4
      go_wp2_with fail
      with_reducible refine Calls.mono (CP.out _) ?_
      rintro e w5 ⟨rfl, st5⟩
      replace st5 := ((Below.refl w4.heap.size w4).alloc (Nat.le_refl _) (.cells #[.int .i64 100] 3)).trans (st5.mono (by simp))
      replace o1 := own_on o1 st5
      replace HB := hid (HB.out.trans (st5.mono HB.out.size))
      clear st5
      go_wp2_with fail
      with_reducible refine Calls.mono (CT.out _ ((Sl.of_own o1).take (by omega))) ?_
      rintro e w6 ⟨rfl, st6⟩
      replace o1 := own_on o1 st6
      replace HB := hid (HB.out.trans (st6.mono HB.out.size))
      clear st6
      clear o1
      go_wp2_with fail
      refine (alive_any _).mono ?_
      rintro e w7 ⟨rfl, st7⟩
      replace HB := hid (HB.out.trans (st7.mono HB.out.size))
      clear st7
      go_wp2
      go_ret
      exact ⟨rfl, HB.out⟩
end Go.Proofs.Ytmkbbkpgdfpcoaa
