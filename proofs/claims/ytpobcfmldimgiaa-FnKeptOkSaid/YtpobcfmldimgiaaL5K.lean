/-
  The walk of laws.FnKeptOk, written by program (law5.py). No statement is proved here.
-/
import Derived.Test.YtpobcfmldimgiaaC5
import Derived.Test.YtpobcfmldimgiaaC5i
import Derived.Test.YtpobcfmldimgiaaDr9
namespace Go.Proofs.Ytpobcfmldimgiaa
open Go.RowKit
set_option linter.unusedVariables false
set_option linter.unusedSimpArgs false

theorem Sl.take {w : World} {B n m : Nat} {A : Option Addr} {l : List Int} (h : Sl w B A n l) (hm : m ≤ n) : Sl w B A m (l.take m) := by
  refine ⟨by rw [List.length_take, h.len]; omega, Nat.le_trans hm h.max, fun h0 => ?_⟩
  obtain ⟨b, off, e, hb, hc⟩ := h.2.2 (by omega)
  refine ⟨b, off, e, hb, fun j hj => ?_⟩
  rw [hc j (by omega)]
  simp [nth, List.getD, hj]
theorem kept_take {l : List Int} (h : keptOk l = true) {m : Nat} (h1 : 1 ≤ m) (h2 : m ≤ l.length) : keptOk (l.take m) = true := by
  rw [keptOk_iff] at h ⊢
  exact ⟨fun x hx => h.1 x (List.mem_of_mem_take hx), by rw [List.length_take]; omega, by rw [List.length_take]; omega⟩
theorem own_cap {w : World} {B n c : Nat} {A : Option Addr} {e : TypeId} {xs : List Value} (h : w.ownsRow B e 1 (.slice A n c) n xs) (h0 : 0 < n) : n ≤ c ∧ c ≤ maxLen := by
  rcases h.2 with ⟨h1, h2⟩ | ⟨g, cap, cur, hv, hbg, hgg, hnc, hcm, hsz, ht⟩
  · omega
  · injection hv with h1 h2 h3
    subst h3
    exact ⟨hnc, hcm⟩

set_option maxRecDepth 100000 in
set_option maxHeartbeats 6400000 in
theorem fnKeptOk_walk (A : Option Addr) (n c : Nat) (w : World) (hs : By w w.heap.size A n) (hc : n ≤ c) :
    Calls Try.prog 3 #[.slice A n c] w fun e w' => e = .returned (.bool true) ∧ Below w.heap.size w w' := by
  have hm : n ≤ 9223372036854775807 := hs.1
  by_cases hbig : 1048576 < n
  · go_enter Try.func3, Try.ntmps3
    go_wp2
    go_ret
    exact ⟨rfl, Below.refl _ _⟩
  go_enter Try.func3, Try.ntmps3
  go_wp2_with fail
  refine (drawKeptOk_any A n c _ hs hc).mono ?_
  rintro e w1 ⟨A1, n1, c1, l1, rfl, o1, hn1, hb1⟩
  have HB := hid hb1
  clear hs hc hb1 hbig hm
  have HL := hid (show l1.length = n1 from by have := o1.1; simpa using this)
  have CI := hid (fun (W : World) (hs : Sl W W.heap.size A1 n1 l1) => implKeptOk_any A1 n1 c1 l1 W hs)
  have CS := hid (fun (W : World) (B : Nat) (hs : Sl W B A1 n1 l1) => specKeptOk_any A1 n1 c1 l1 W B hs)
  have CL := hid (fun (W : World) (x : Int) => implKeptOk_any (some ⟨W.heap.size, 0, none⟩) 1 1 [x] (W.alloc (.cells #[.int .i64 x] 3)) ((Sl.lit W 3 [x] (by simp)).more (by simp)))
  have GA := hid (fun (W : World) (x : Int) (hb : Below w.heap.size w W) => hb.trans (((Below.refl W.heap.size W).alloc (Nat.le_refl _) (.cells #[.int .i64 x] 3)).mono hb.size))
  cases hk : keptOk l1 with
  | false =>
    rw [hk] at CI CS
    clear hk
    go_wp2_with fail
    with_reducible refine Calls.mono (CI.out _ (Sl.of_own o1)) ?_
    rintro e w2 ⟨rfl, st2⟩
    replace o1 := own_on o1 st2
    replace HB := hid (HB.out.trans (st2.mono HB.out.size))
    clear st2
    go_wp2_with fail
    with_reducible refine Calls.mono (CS.out _ _ (Sl.of_own o1)) ?_
    rintro e w' ⟨rfl, rfl⟩
    clear o1
    go_wp2_with fail
    have C3 := hid (CL.out w2 0)
    rw [show keptOk [0] = true from by decide] at C3
    replace HB := hid (GA.out w2 0 HB.out)
    with_reducible refine Calls.mono C3.out ?_
    rintro e w3 ⟨rfl, st3⟩
    have hz3 : w.heap.size ≤ (w2.alloc (.cells #[.int .i64 0] 3)).heap.size := HB.out.size
    replace HB := hid (HB.out.trans (st3.mono hz3))
    clear st3 hz3
    go_wp2_with fail
    have C4 := hid (CL.out w3 99)
    rw [show keptOk [99] = true from by decide] at C4
    replace HB := hid (GA.out w3 99 HB.out)
    with_reducible refine Calls.mono C4.out ?_
    rintro e w4 ⟨rfl, st4⟩
    have hz4 : w.heap.size ≤ (w3.alloc (.cells #[.int .i64 99] 3)).heap.size := HB.out.size
    replace HB := hid (HB.out.trans (st4.mono hz4))
    clear st4 hz4
    go_wp2_with fail
    have C5 := hid (CL.out w4 (-1))
    rw [show keptOk [(-1)] = false from by decide] at C5
    replace HB := hid (GA.out w4 (-1) HB.out)
    with_reducible refine Calls.mono C5.out ?_
    rintro e w5 ⟨rfl, st5⟩
    have hz5 : w.heap.size ≤ (w4.alloc (.cells #[.int .i64 (-1)] 3)).heap.size := HB.out.size
    replace HB := hid (HB.out.trans (st5.mono hz5))
    clear st5 hz5
    go_wp2_with fail
    refine (alive_any _).mono ?_
    rintro e w6 ⟨rfl, st6⟩
    replace HB := hid (HB.out.trans (st6.mono HB.out.size))
    clear st6
    go_wp2
    go_ret
    exact ⟨rfl, HB.out⟩
  | true =>
    have hk2 := (keptOk_iff.1 hk).2
    rw [HL.out] at hk2
    rw [hk] at CI CS
    go_wp2_with fail
    with_reducible refine Calls.mono (CI.out _ (Sl.of_own o1)) ?_
    rintro e w2 ⟨rfl, st2⟩
    replace o1 := own_on o1 st2
    replace HB := hid (HB.out.trans (st2.mono HB.out.size))
    clear st2
    go_wp2_with fail
    with_reducible refine Calls.mono (CS.out _ _ (Sl.of_own o1)) ?_
    rintro e w' ⟨rfl, rfl⟩
    by_cases h1 : n1 = 1
    · subst h1
      clear hk hk2
      clear o1
      go_wp2_with fail
      have C3 := hid (CL.out w2 0)
      rw [show keptOk [0] = true from by decide] at C3
      replace HB := hid (GA.out w2 0 HB.out)
      with_reducible refine Calls.mono C3.out ?_
      rintro e w3 ⟨rfl, st3⟩
      have hz3 : w.heap.size ≤ (w2.alloc (.cells #[.int .i64 0] 3)).heap.size := HB.out.size
      replace HB := hid (HB.out.trans (st3.mono hz3))
      clear st3 hz3
      go_wp2_with fail
      have C4 := hid (CL.out w3 99)
      rw [show keptOk [99] = true from by decide] at C4
      replace HB := hid (GA.out w3 99 HB.out)
      with_reducible refine Calls.mono C4.out ?_
      rintro e w4 ⟨rfl, st4⟩
      have hz4 : w.heap.size ≤ (w3.alloc (.cells #[.int .i64 99] 3)).heap.size := HB.out.size
      replace HB := hid (HB.out.trans (st4.mono hz4))
      clear st4 hz4
      go_wp2_with fail
      have C5 := hid (CL.out w4 (-1))
      rw [show keptOk [(-1)] = false from by decide] at C5
      replace HB := hid (GA.out w4 (-1) HB.out)
      with_reducible refine Calls.mono C5.out ?_
      rintro e w5 ⟨rfl, st5⟩
      have hz5 : w.heap.size ≤ (w4.alloc (.cells #[.int .i64 (-1)] 3)).heap.size := HB.out.size
      replace HB := hid (HB.out.trans (st5.mono hz5))
      clear st5 hz5
      go_wp2_with fail
      refine (alive_any _).mono ?_
      rintro e w6 ⟨rfl, st6⟩
      replace HB := hid (HB.out.trans (st6.mono HB.out.size))
      clear st6
      go_wp2
      go_ret
      exact ⟨rfl, HB.out⟩
    · obtain ⟨m, rfl⟩ : ∃ m, n1 = m + 1 := ⟨n1 - 1, by omega⟩
      have hm1 : 1 ≤ m := by omega
      have ht := kept_take hk hm1 (by rw [HL.out]; omega)
      have CT := hid (fun (W : World) (hs : Sl W W.heap.size A1 m (l1.take m)) => implKeptOk_any A1 m c1 (l1.take m) W hs)
      rw [ht] at CT
      have hcap := own_cap o1 (by omega)
      have e1 : decide ((m : Int) = 0) = false := by simp; omega
      have e4 : ((m : Int) == 0) = false := by simp; omega
      have e2 : (m : Int) ≤ (c1 : Int) := by omega
      have e3 : m ≤ c1 := by omega
      have e5 : c1 ≤ 9223372036854775807 := by have := hcap.2; simp only [maxLen] at this; omega
      clear hk hk2 ht hcap h1
      go_wp2_with fail
      have C3 := hid (CL.out w2 0)
      rw [show keptOk [0] = true from by decide] at C3
      replace HB := hid (GA.out w2 0 HB.out)
      with_reducible refine Calls.mono C3.out ?_
      rintro e w3 ⟨rfl, st3⟩
      have hz3 : w.heap.size ≤ (w2.alloc (.cells #[.int .i64 0] 3)).heap.size := HB.out.size
      replace o1 := own_on (own_kept_none o1 (grown_alloc w2 (.cells #[.int .i64 0] 3) none)) st3
      replace HB := hid (HB.out.trans (st3.mono hz3))
      clear st3 hz3
      go_wp2_with fail
      have C4 := hid (CL.out w3 99)
      rw [show keptOk [99] = true from by decide] at C4
      replace HB := hid (GA.out w3 99 HB.out)
      with_reducible refine Calls.mono C4.out ?_
      rintro e w4 ⟨rfl, st4⟩
      have hz4 : w.heap.size ≤ (w3.alloc (.cells #[.int .i64 99] 3)).heap.size := HB.out.size
      replace o1 := own_on (own_kept_none o1 (grown_alloc w3 (.cells #[.int .i64 99] 3) none)) st4
      replace HB := hid (HB.out.trans (st4.mono hz4))
      clear st4 hz4
      go_wp2_with fail
      with_reducible refine Calls.mono (CT.out _ ((Sl.of_own o1).take (by omega))) ?_
      rintro e w5 ⟨rfl, st5⟩
      replace o1 := own_on o1 st5
      replace HB := hid (HB.out.trans (st5.mono HB.out.size))
      clear st5
      clear o1
      go_wp2_with fail
      have C6 := hid (CL.out w5 (-1))
      rw [show keptOk [(-1)] = false from by decide] at C6
      replace HB := hid (GA.out w5 (-1) HB.out)
      with_reducible refine Calls.mono C6.out ?_
      rintro e w6 ⟨rfl, st6⟩
      have hz6 : w.heap.size ≤ (w5.alloc (.cells #[.int .i64 (-1)] 3)).heap.size := HB.out.size
      replace HB := hid (HB.out.trans (st6.mono hz6))
      clear st6 hz6
      go_wp2_with fail
      refine (alive_any _).mono ?_
      rintro e w7 ⟨rfl, st7⟩
      replace HB := hid (HB.out.trans (st7.mono HB.out.size))
      clear st7
      go_wp2
      go_ret
      exact ⟨rfl, HB.out⟩
end Go.Proofs.Ytpobcfmldimgiaa
