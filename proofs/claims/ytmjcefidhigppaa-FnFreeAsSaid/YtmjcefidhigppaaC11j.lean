/-
  Walks of the program's flows after 0, 1, 2 .. steps (the iterator, met by whatever the loop over it does). No statement is proved here.
-/
import Derived.Test.YtmjcefidhigppaaRb
import Derived.Test.YtmjcefidhigppaaC11f
import Derived.RangeFuncBox
namespace Go.Proofs.Ytmjcefidhigppaa
open Go.RowKit
set_option linter.unusedVariables false
set_option linter.unusedSimpArgs false

theorem flowsF_any (x n T : Nat) (w : World) :
    Calls Try.prog 57 #[vot x n, .int .i64 T] w fun e w' =>
      e = .returned (.func (.func 67) #[] #[.pointer (some ⟨w.heap.size, 0, none⟩), .pointer (some ⟨w.heap.size + 1, 0, none⟩)]) ∧
      w' = (w.alloc (.cells #[.int .u64 x, .int .i64 n] 45)).alloc (.cells #[.int .i64 T] 3) := by
  go_enter Try.func57, Try.ntmps57
  go_wp2
  go_ret
  exact ⟨rfl, rfl⟩

attribute [local go_sem] Oper.semAt_some
theorem grown_some {w w' : World} {b : Nat} (h : Below w.heap.size w w') : w.grownBy w' (some b) := ⟨h.os, h.tape, h.output, h.size, fun k hk _ => h.block k hk⟩
theorem grown_set2 (w : World) (b : Nat) (v u : Value) : w.grownBy ((w.setCell ⟨b, 0, none⟩ v).setCell ⟨b, 1, none⟩ u) (some b) := by
  refine ⟨rfl, rfl, rfl, by simp [World.setCell], fun k hk hne => ?_⟩
  have hb : k ≠ b := fun e => hne (by rw [e])
  exact (heap_setCell_other _ ⟨b, 1, none⟩ k u (by simpa using hb)).trans (heap_setCell_other w ⟨b, 0, none⟩ k v (by simpa using hb))

set_option maxRecDepth 100000 in
set_option maxHeartbeats 1600000 in
/-- The iterator: the flows after 0, 1 .. T steps are handed over to whatever goes on with J and stops with Jx; the ring lies in a block of its own, B. -/
theorem flows_in (m l h : Nat) (n T : Nat) (lst : List Int) (J : Nat → World → Prop) (Jx : World → Prop) (W0 : World) (B : Nat) (hB : W0.heap.size = B)
    (hL : lst.length = n) (h1 : 1 ≤ n) (hn : n ≤ 16) (hb : ∀ x ∈ lst, x = 0 ∨ x = 1) (hT : T ≤ 60)
    (hc1 : Vr W0 h (pb lst n) n) (hc2 : W0.cell? ⟨h + 1, 0, none⟩ = some (.int .i64 T)) (hh : h + 1 < W0.heap.size)
    (hJb : ∀ (k x : Nat) (W W' : World), J k W → Vr W B x n → W.grownBy W' (some B) → J k W')
    (hY : ∀ (k x : Nat) (W : World), J k W → Vr W B x n → k ≤ T →
      YieldAt Fence.wide (m - 1) Try.prog l #[.int .i64 (flowN (driveI k lst))] W fun e W' =>
        (e = .returned (.bool true) ∧ J (k + 1) W' ∧ Vr W' B x n) ∨ (e = .returned (.bool false) ∧ Jx W'))
    (h0 : ∀ W, W0.grownBy W none → J 0 W) :
    CallsIn Fence.wide m Try.prog 67 #[.func (.yield l) #[] #[], .pointer (some ⟨h, 0, none⟩), .pointer (some ⟨h + 1, 0, none⟩)] W0 fun e W' => (∃ v, e = .returned v) ∧ (J (T + 1) W' ∨ Jx W') := by
  refine callsIn_of_wp Try.func67 rfl trivial ?_ rfl
  simp only [Try.ntmps67, List.size_toArray, List.length_cons, List.length_nil, Nat.reduceAdd, Nat.reduceSub, Array.replicate_succ, Array.replicate_zero, List.push_toArray, List.append_toArray, List.nil_append, List.cons_append]
  subst hB
  have HY := hid hY; clear hY
  have HJB := hid hJb; clear hJb
  have HJ0 := hid h0; clear h0
  have HDL := hid (fun k => show (driveI k lst).length = n from by rw [driveI_len, hL])
  have HDB := hid (fun k => (end_driveI hb k).2)
  have CF := hid (fun (k : Nat) (W : World) => flow_any (driveI k lst) n W (HDL.out k) h1 hn (HDB.out k))
  have CD := hid (fun (k : Nat) (W : World) => driven_any (driveI k lst) n W (HDL.out k) h1 hn (HDB.out k))
  have hwd : Fence.wide.depth.isSome = false := rfl
  have hf1 : Fence.wide.fn 49 := trivial
  have hf2 : Fence.wide.fn 52 := trivial
  obtain ⟨x0, hx0⟩ : ∃ x0, pb lst n = x0 := ⟨_, rfl⟩
  rw [hx0] at hc1
  have c0 := hc1.c0
  have c1 := hc1.c1
  have hc3 : (W0.alloc (.cells #[.int .u64 x0, .int .i64 n] 45)).cell? ⟨h + 1, 0, none⟩ = some (.int .i64 T) := (World.cell?_of_block (Below.heap_alloc W0 _ (h + 1) hh)).trans hc2
  have HX := hid (show Vr (W0.alloc (.cells #[.int .u64 x0, .int .i64 n] 45)) W0.heap.size (pb (driveI 0 lst) n) n from by rw [show pb (driveI 0 lst) n = x0 from hx0]; exact Vr.new _ _ _)
  have HJ := hid (HJ0.out (W0.alloc (.cells #[.int .u64 x0, .int .i64 n] 45)) (grown_alloc _ _ none))
  clear hx0 hc1 hb hL HJ0
  gi_wp2
  obtain ⟨W1, hW1⟩ : ∃ W1, W0.alloc (.cells #[.int .u64 x0, .int .i64 n] 45) = W1 := ⟨_, rfl⟩
  rw [hW1] at HX HJ ⊢
  clear hW1 hc3 c0 c1 hc2
  gi_loopw [7] (fun i wr => ∃ k : Nat, i = .int .i64 k ∧ k ≤ T ∧ Hid (J k wr) ∧ Hid (Vr wr W0.heap.size (pb (driveI k lst) n) n)) (fun i _ => T - (intOf i).toNat)
  case atStart => exact ⟨0, rfl, Nat.zero_le _, HJ, HX⟩
  case round =>
    clear HJ HX
    obtain ⟨k, rfl, hk, HJ, HX⟩ := hrel
    have c0 := HX.out.c0
    have c1 := HX.out.c1
    have CFk := hid (CF.out k)
    have HYk := hid (fun (x : Nat) (W : World) => HY.out k x W)
    obtain ⟨x, hx⟩ : ∃ x, pb (driveI k lst) n = x := ⟨_, rfl⟩
    obtain ⟨fl, hfl⟩ : ∃ fl, flowN (driveI k lst) = fl := ⟨_, rfl⟩
    have CDk := hid (CD.out k)
    rw [← driveI_last] at CDk
    rw [hx, hfl] at CFk
    rw [hx] at c0 HX CDk
    rw [hfl] at HYk
    clear hx hfl
    by_cases hlt : k < T
    · have hlt2 : (k : Int) < (T : Int) := by omega
      gi_wp2_with (gi_at_call 49; refine (callsIn_wide.2 (CFk.out _)).mono ?_; rintro e W3 ⟨rfl, b3⟩; have X3 := HX.out.below b3 HX.out.lt; have J3 := HJB.out k _ _ _ HJ.out HX.out (grown_some b3); obtain ⟨fn, tmps, assign, body, hy, hRd⟩ := HYk.out _ _ J3 X3 (by omega); have HR := hid hRd; clear hRd)
      refine HR.out.mono ?_
      rintro e W4 (⟨rfl, hj, hm⟩ | ⟨rfl, hj⟩)
      · have HJ4 := hid hj
        have HX4 := hid hm
        have d0 := hm.c0
        have d1 := hm.c1
        clear hj hm b3 X3 J3 HR hy HX HJ c0 c1
        obtain ⟨y, hy⟩ : ∃ y, pb (driveI (k + 1) lst) n = y := ⟨_, rfl⟩
        rw [hy] at CDk
        have HYY := hid hy
        clear hy
        gi_wp2_with (gi_at_call 52; refine (callsIn_wide.2 (CDk.out _)).mono ?_; rintro e W5 ⟨rfl, b5⟩; have X5 := HX4.out.below b5 HX4.out.lt; have J5 := hid (HJB.out (k + 1) _ _ _ HJ4.out HX4.out (grown_some b5)); have f0 := X5.fz 0; have f1 := X5.fz 1; have k0 := X5.c0; have k1 := X5.c1)
        have J6 := hid (HJB.out (k + 1) _ _ _ J5.out X5 (grown_set2 W5 W0.heap.size (.int .u64 y) (.int .i64 n)))
        have X6 := hid (show Vr ((W5.setCell ⟨W0.heap.size, 0, none⟩ (.int .u64 y)).setCell ⟨W0.heap.size, 1, none⟩ (.int .i64 n)) W0.heap.size (pb (driveI (k + 1) lst) n) n from by rw [HYY.out]; exact X5.set y n)
        clear X5 J5 b5 f0 f1 k0 k1
        go_roundw
        case rel => exact ⟨k + 1, by go_num, by omega, J6, X6⟩
        case measure => simp [intOf]; omega
      · have HJ3 := hid hj; clear hj
        gi_wp2
        refine bodyPost_ret (results_none rfl _ _ _) rfl ?_
        exact ⟨⟨_, rfl⟩, .inr HJ3.out⟩
    · obtain rfl : k = T := by omega
      gi_wp2_with (gi_at_call 49; refine (callsIn_wide.2 (CFk.out _)).mono ?_; rintro e W3 ⟨rfl, b3⟩; have X3 := HX.out.below b3 HX.out.lt; have J3 := HJB.out k _ _ _ HJ.out HX.out (grown_some b3); obtain ⟨fn, tmps, assign, body, hy, hRd⟩ := HYk.out _ _ J3 X3 (by omega); have HR := hid hRd; clear hRd)
      refine HR.out.mono ?_
      rintro e W4 (⟨rfl, hj, hm⟩ | ⟨rfl, hj⟩)
      · have HJ3 := hid hj; clear hj hm
        gi_wp2
        go_end0
        exact ⟨⟨_, rfl⟩, .inl HJ3.out⟩
      · have HJ3 := hid hj; clear hj
        gi_wp2
        go_end0
        exact ⟨⟨_, rfl⟩, .inr HJ3.out⟩
end Go.Proofs.Ytmjcefidhigppaa
