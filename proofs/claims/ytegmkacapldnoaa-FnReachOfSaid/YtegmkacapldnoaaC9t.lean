/-
  Walks of the program's rounds of messages (the iterator, met by whatever the loop over it does) and of MessagesOf. No statement is proved here.
-/
import Derived.Test.YtegmkacapldnoaaRb
import Derived.Test.YtegmkacapldnoaaC9s
import Derived.Test.YtegmkacapldnoaaC9m
import Derived.RangeFuncBox
namespace Go.Proofs.Ytegmkacapldnoaa
open Go.RowKit
set_option linter.unusedVariables false
set_option linter.unusedSimpArgs false

theorem sumN_filter (p : Nat → Bool) : ∀ n, ((List.range n).filter p).length = sumN (fun j => if p j = true then 1 else 0) n
  | 0 => rfl
  | n + 1 => by
    rw [List.range_succ, List.filter_append, List.length_append, sumN_filter p n]
    cases h : p n <;> simp [sumN, h]
/-- As many messages as numbers that are sent. -/
theorem msgs_count {l : List Int} (hp : posL l) (h0 : 0 < l.length) (s : Nat) : (msgs l s).length = sendN (sentL l s) l.length := by
  have h := count_sent hp h0 s
  unfold countP at h
  rw [sentL_len] at h
  unfold sendN msgs
  rw [List.length_map, sumN_filter, h]
theorem msgs_some {l : List Int} (ha : apart l) (h0 : 0 < l.length) {s : Nat} (hs : s < l.length) : 0 < (msgs l s).length := by
  obtain ⟨p, hp⟩ := max_there h0
  have h1 := surv_mono ((surv_max ha hp.1).2 hp) (show s ≤ l.length - 1 by omega)
  have h2 : msgAt l s p ∈ msgs l s := by
    unfold msgs
    exact List.mem_map.2 ⟨p, List.mem_filter.2 ⟨List.mem_range.2 hp.1, h1⟩, rfl⟩
  exact List.length_pos_of_mem h2
theorem msgs_none {l : List Int} (h0 : 0 < l.length) {s : Nat} (hs : l.length ≤ s) : msgs l s = [] := by
  unfold msgs
  rw [List.filter_eq_nil_iff.2 fun j _ => by rw [surv_full h0 hs]; simp]
  rfl

theorem messageRoundsF_any (A : Option Addr) (n c : Nat) (w : World) :
    Calls Try.prog 47 #[.slice A n c] w fun e w' =>
      e = .returned (.func (.func 55) #[] #[.pointer (some ⟨w.heap.size, 0, none⟩)]) ∧ w' = w.alloc (.cells #[.slice A n c] 23) := by
  go_enter Try.func47, Try.ntmps47
  go_wp2
  go_ret
  exact ⟨rfl, rfl⟩

attribute [local go_sem] Oper.semAt_some

theorem own_len2 {w : World} {B n c : Nat} {A : Option Addr} {e : TypeId} {ms : List (Int × Int)} (h : w.ownsRow B e 2 (.slice A n c) n (ints (flat ms))) : ms.length = n := by
  have := h.1
  simp only [ints, List.length_map, flat_len] at this
  omega

set_option maxRecDepth 100000 in
set_option maxHeartbeats 1600000 in
/-- The iterator: the steps and their messages are handed over, each in memory of its own, to whatever goes on with J and stops with Jx. -/
theorem rounds9_in (m l h : Nat) (A : Option Addr) (n c : Nat) (lst : List Int) (J : Nat → World → Prop) (Jx : World → Prop) (W0 : World)
    (hLn : lst.length = n) (hk : ringOk lst = true) (hA : Sl W0 W0.heap.size A n lst)
    (hc1 : W0.cell? ⟨h, 0, none⟩ = some (.slice A n c)) (hh : h < W0.heap.size)
    (hJs : ∀ (k : Nat) (W : World), J k W → Sl W W.heap.size A n lst ∧ W.cell? ⟨h, 0, none⟩ = some (.slice A n c) ∧ W0.heap.size ≤ W.heap.size)
    (hJb : ∀ (k : Nat) (W W' : World), J k W → Below W.heap.size W W' → J k W')
    (hY : ∀ (k q c3 : Nat) (A3 : Option Addr) (W : World), J k W → k < n → 0 < q → W.ownsRow W0.heap.size 49 2 (.slice A3 q c3) q (ints (flat (msgs lst k))) →
      YieldAt Fence.wide (m - 1) Try.prog l #[.int .i64 k, .slice A3 q c3] W fun e W' =>
        (e = .returned (.bool true) ∧ J (k + 1) W' ∧ W'.ownsRow W0.heap.size 49 2 (.slice A3 q c3) q (ints (flat (msgs lst k)))) ∨ (e = .returned (.bool false) ∧ Jx W'))
    (h0 : J 0 W0) :
    CallsIn Fence.wide m Try.prog 55 #[.func (.yield l) #[] #[], .pointer (some ⟨h, 0, none⟩)] W0 fun e W' => (∃ v, e = .returned v) ∧ (J n W' ∨ Jx W') := by
  refine callsIn_of_wp Try.func55 rfl trivial ?_ rfl
  simp only [Try.ntmps55, List.size_toArray, List.length_cons, List.length_nil, Nat.reduceAdd, Nat.reduceSub, Array.replicate_succ, Array.replicate_zero, List.push_toArray, List.append_toArray, List.nil_append, List.cons_append]
  have hrk := ringOk_iff.1 hk
  rw [hLn] at hrk
  obtain ⟨_, _, h1, hn⟩ := hrk
  have HLL := hid hLn
  have HAP := hid (ring_apart hk)
  have HY := hid hY; clear hY
  have HJB := hid hJb; clear hJb
  have HJS := hid hJs; clear hJs
  have HJ0 := hid h0; clear h0
  have CC := hid (ownNumbers_any A n c lst W0 hA h1 hn)
  clear hA hk hLn
  have hwd : Fence.wide.depth.isSome = false := rfl
  have hf1 : Fence.wide.fn 56 := trivial
  have hf2 : Fence.wide.fn 57 := trivial
  gi_wp2_with (gi_at_call 56; refine (callsIn_wide.2 CC.out).mono ?_; rintro e W1 ⟨A5, c5, rfl, o5, b5⟩)
  have HJ1 := hid (HJB.out 0 _ _ HJ0.out b5)
  have HO := hid o5
  clear hc1 b5 o5 HJ0 CC
  gi_loopw [3, 4] (fun i v wr => ∃ (A3 : Option Addr) (q c3 k : Nat), i = .int .i64 k ∧ v = .slice A3 q c3 ∧ k ≤ n ∧ Hid (wr.ownsRow W0.heap.size 49 2 (.slice A3 q c3) q (ints (flat (msgs lst k)))) ∧ Hid (J k wr))
    (fun i _ _ => n - (intOf i).toNat)
  case atStart => exact ⟨A5, n, c5, 0, rfl, rfl, Nat.zero_le _, HO, HJ1⟩
  case round =>
    clear HO HJ1
    obtain ⟨A3, q, c3, k, rfl, rfl, hk, HO, HJ⟩ := hrel
    have hql := own_len2 HO.out
    by_cases hlt : k < n
    · have hq0 : 0 < q := by have := msgs_some HAP.out (by rw [HLL.out]; omega) (s := k) (by rw [HLL.out]; exact hlt); omega
      have hqi : (0 : Int) < (q : Int) := by omega
      have HQ := hid hql
      clear hql
      obtain ⟨fn, tmps, assign, body, hy, hRd⟩ := HY.out k q c3 A3 wr HJ.out hlt hq0 HO.out
      have HR := hid hRd; clear hRd
      gi_wp2
      refine HR.out.mono ?_
      rintro e W3 (⟨rfl, hj, ho⟩ | ⟨rfl, hj⟩)
      · obtain ⟨hsl, hcc, hsz3⟩ := HJS.out _ _ hj
        have CS := hid (sentOn_any A A3 n c q c3 lst (msgs lst k) W3 hsl h1 hn (SlD.of_own ho) (by have := msgs_len_le lst k; rw [HQ.out, HLL.out] at this; omega) (fun i hi => by
          obtain ⟨j, hj1, hj2, he⟩ := msgs_get (l := lst) (s := k) (k := i) (by rw [HQ.out]; exact hi)
          exact ⟨(j + k) % lst.length, by rw [← HLL.out]; exact Nat.mod_lt _ (by omega), by rw [he]; rfl⟩))
        rw [msgs_next (by rw [HLL.out]; omega)] at CS
        have HJ3 := hid hj; clear hj ho hsl
        gi_wp2
        refine (callsIn_wide.2 CS.out).mono ?_
        rintro e W4 ⟨A7, q7, c7, rfl, o7, b7⟩
        have O8 := hid (own_mono (base' := W0.heap.size) o7 hsz3)
        have HJ4 := hid (HJB.out _ _ _ HJ3.out b7)
        clear o7 b7
        gi_wp2
        go_roundw
        case rel => exact ⟨A7, q7, c7, k + 1, by go_num, rfl, by omega, O8, HJ4⟩
        case measure => simp [intOf]; omega
      · have HJ3 := hid hj; clear hj
        gi_wp2
        refine bodyPost_ret (results_none rfl _ _ _) rfl ?_
        exact ⟨⟨_, rfl⟩, .inr HJ3.out⟩
    · obtain rfl : k = n := by omega
      have hq0 : q = 0 := by rw [← hql, msgs_none (by rw [HLL.out]; omega) (by rw [HLL.out]; omega)]; rfl
      subst hq0
      clear hql
      gi_wp2
      go_end0
      exact ⟨⟨_, rfl⟩, .inl HJ.out⟩
end Go.Proofs.Ytegmkacapldnoaa
