/-
  Walks of the program's rows after 0, 1, 2 .. steps (the iterator, met by whatever the loop over it does), AfterSteps and StepsToOrder. No statement is proved here.
-/
import Derived.Test.YtpobcfmldimgiaaRb
import Derived.Test.YtpobcfmldimgiaaC5h
import Derived.RangeFuncBox
namespace Go.Proofs.Ytpobcfmldimgiaa
open Go.RowKit
set_option linter.unusedVariables false
set_option linter.unusedSimpArgs false

theorem swappedRowsOf_any (A : Option Addr) (n c : Nat) (T : Int) (w : World) :
    Calls Try.prog 54 #[.slice A n c, .int .i64 T] w fun e w' =>
      e = .returned (.func (.func 61) #[] #[.pointer (some ⟨w.heap.size, 0, none⟩), .pointer (some ⟨w.heap.size + 1, 0, none⟩)]) ∧
      w' = (w.alloc (.cells #[.slice A n c] 23)).alloc (.cells #[.int .i64 T] 3) := by
  go_enter Try.func54, Try.ntmps54
  go_wp2
  go_ret
  exact ⟨rfl, rfl⟩

attribute [local go_sem] Oper.semAt_some

set_option maxRecDepth 100000 in
set_option maxHeartbeats 1600000 in
/-- The iterator: the rows after 0, 1 .. T steps are handed over, each in memory of its own, to whatever goes on with J and stops with Jx. -/
theorem swrows_in (m l h : Nat) (A : Option Addr) (n c T : Nat) (lst : List Int) (J : Nat → World → Prop) (Jx : World → Prop) (W0 : World)
    (hA : Sl W0 W0.heap.size A n lst) (h1 : 1 ≤ n) (hn : n ≤ 14) (hT : T ≤ 60)
    (hc1 : W0.cell? ⟨h, 0, none⟩ = some (.slice A n c)) (hc2 : W0.cell? ⟨h + 1, 0, none⟩ = some (.int .i64 T)) (hh : h + 1 < W0.heap.size)
    (hJb : ∀ (k : Nat) (W W' : World), J k W → Below W.heap.size W W' → J k W')
    (hY : ∀ (k g c3 : Nat) (W : World), J k W → k ≤ T → W.ownsRow W0.heap.size 3 1 (.slice (some ⟨g, 0, none⟩) n c3) n (ints (afterS ltZ lst k)) →
      YieldAt Fence.wide (m - 1) Try.prog l #[.slice (some ⟨g, 0, none⟩) n c3] W fun e W' =>
        (e = .returned (.bool true) ∧ J (k + 1) W' ∧ W'.ownsRow W0.heap.size 3 1 (.slice (some ⟨g, 0, none⟩) n c3) n (ints (afterS ltZ lst k))) ∨ (e = .returned (.bool false) ∧ Jx W'))
    (h0 : J 0 W0) :
    CallsIn Fence.wide m Try.prog 61 #[.func (.yield l) #[] #[], .pointer (some ⟨h, 0, none⟩), .pointer (some ⟨h + 1, 0, none⟩)] W0 fun e W' => (∃ v, e = .returned v) ∧ (J (T + 1) W' ∨ Jx W') := by
  refine callsIn_of_wp Try.func61 rfl trivial ?_ rfl
  simp only [Try.ntmps61, List.size_toArray, List.length_cons, List.length_nil, Nat.reduceAdd, Nat.reduceSub, Array.replicate_succ, Array.replicate_zero, List.push_toArray, List.append_toArray, List.nil_append, List.cons_append]
  obtain ⟨b, off, rfl, hbh, hcc⟩ := hA.2.2 (by omega)
  clear hcc
  have hmax : n ≤ 9223372036854775807 := hA.max
  have HLL := hid hA.len
  have HY := hid hY; clear hY
  have HJB := hid hJb; clear hJb
  have HJ0 := hid h0; clear h0
  have CC := hid (clone5_any b off n c lst W0 hA (by omega) h1)
  clear hA
  have hwd : Fence.wide.depth.isSome = false := rfl
  have hf1 : Fence.wide.fn 60 := trivial
  have hf2 : Fence.wide.fn 52 := trivial
  have hf3 : Fence.wide.fn 51 := trivial
  gi_wp2_with (gi_at_call 60; refine (callsIn_wide.2 CC.out).mono ?_; rintro e W1 ⟨g5, c5, rfl, hg5, o5, b5⟩; have hc2' : W1.cell? ⟨h + 1, 0, none⟩ = some (.int .i64 T) := (b5.cell (p := ⟨h + 1, 0, none⟩) (by simp; omega)).trans hc2)
  have HJ1 := hid (HJB.out 0 _ _ HJ0.out b5)
  have HO := hid (show W1.ownsRow W0.heap.size 3 1 (.slice (some ⟨g5, 0, none⟩) n c5) n (ints (afterS ltZ lst 0)) from o5)
  clear hc1 hc2 hc2' b5 o5 HJ0 CC
  gi_loopw [4, 9] (fun v i wr => ∃ (g3 c3 k : Nat), v = .slice (some ⟨g3, 0, none⟩) n c3 ∧ i = .int .i64 k ∧ k ≤ T ∧ Hid (wr.ownsRow W0.heap.size 3 1 (.slice (some ⟨g3, 0, none⟩) n c3) n (ints (afterS ltZ lst k))) ∧ Hid (J k wr))
    (fun _ i _ => T - (intOf i).toNat)
  case atStart => exact ⟨g5, c5, 0, rfl, rfl, Nat.zero_le _, HO, HJ1⟩
  case round =>
    obtain ⟨g3, c3, k, rfl, rfl, hk, HO, HJ⟩ := hrel
    obtain ⟨fn, tmps, assign, body, hy, hRd⟩ := HY.out k g3 c3 wr HJ.out hk HO.out
    have HR := hid hRd; clear hRd
    by_cases hlt : k < T
    · have hlt2 : (k : Int) < (T : Int) := by omega
      gi_wp2
      refine HR.out.mono ?_
      rintro e W3 (⟨rfl, hj, ho⟩ | ⟨rfl, hj⟩)
      · have HJ3 := hid hj; clear hj
        have hsz3 : W0.heap.size ≤ W3.heap.size := by have h1 := own_lo ho g3 rfl; have h2 := own_hi ho g3 rfl; omega
        obtain ⟨p, hp⟩ : ∃ p, k % 2 = p := ⟨_, rfl⟩
        have HP := hid hp
        clear hp
        have CS := hid (swapped_any (some ⟨g3, 0, none⟩) n c3 (afterS ltZ lst k) k p HP.out W3 (Sl.of_own ho) h1 hn)
        clear ho
        gi_wp2_with (gi_at_call 51; refine (callsIn_wide.2 (parityOf_any _ p HP.out _)).mono ?_; rintro e w' ⟨rfl, rfl⟩)
        refine (callsIn_wide.2 CS.out).mono ?_
        rintro e W4 ⟨A7, c7, rfl, o7, b7⟩
        obtain ⟨g7, c8, he, hg7, hl7⟩ := own_shape1 o7 (by omega)
        injection he with he1 he2 he3
        subst he1
        subst he3
        have O8 := hid (show W4.ownsRow W0.heap.size 3 1 (.slice (some ⟨g7, 0, none⟩) n c7) n (ints (afterS ltZ lst (k + 1))) from own_mono o7 hsz3)
        have HJ4 := hid (HJB.out _ _ _ HJ3.out b7)
        clear o7 b7
        gi_wp2
        go_roundw
        case rel => exact ⟨g7, c7, k + 1, rfl, by go_num, by omega, O8, HJ4⟩
        case measure => simp [intOf]; omega
      · have HJ3 := hid hj; clear hj
        gi_wp2
        refine bodyPost_ret (results_none rfl _ _ _) rfl ?_
        exact ⟨⟨_, rfl⟩, .inr HJ3.out⟩
    · obtain rfl : k = T := by omega
      gi_wp2
      refine HR.out.mono ?_
      rintro e W3 (⟨rfl, hj, ho⟩ | ⟨rfl, hj⟩)
      · have HJ3 := hid hj; clear hj ho
        gi_wp2
        go_end0
        exact ⟨⟨_, rfl⟩, .inl HJ3.out⟩
      · have HJ3 := hid hj; clear hj
        gi_wp2
        go_end0
        exact ⟨⟨_, rfl⟩, .inr HJ3.out⟩

theorem own_caps {w : World} {B n c : Nat} {A : Option Addr} {e : TypeId} {xs : List Value} (h : w.ownsRow B e 1 (.slice A n c) n xs) : n ≤ c ∧ c ≤ maxLen := by
  rcases h.2 with ⟨h1, h2⟩ | ⟨g, cap, cur, hv, hb, hg, hnc, hcm, hs, ht⟩
  · injection h1 with h1 h3 h4
    subst h3; subst h4
    exact ⟨Nat.le_refl _, by simp [maxLen]⟩
  · injection hv with h1 h2 h3
    subst h3
    exact ⟨hnc, hcm⟩
theorem own_set0 {w : World} {B b n : Nat} {v u : Value} {e : TypeId} {xs : List Value} (h : w.ownsRow B e 1 v n xs) (hb : b < B) : (w.setCell ⟨b, 0, none⟩ u).ownsRow B e 1 v n xs := by
  refine ⟨h.1, ?_⟩
  rcases h.2 with h' | ⟨g, cap, cur, e1, hg, hx, rest⟩
  · exact .inl h'
  · exact .inr ⟨g, cap, cur, e1, hg, (heap_setCell_other w ⟨b, 0, none⟩ g u (by simp; omega)).trans hx, rest⟩

set_option maxRecDepth 100000 in
set_option maxHeartbeats 1600000 in
theorem afterSteps_yes (A : Option Addr) (n c : Nat) (l : List Int) (K : Nat) (w : World) (hs : Sl w w.heap.size A n l) (hk : 1 ≤ n ∧ n ≤ 14) (h1 : keptOk l = true) (hK : K ≤ 60) :
    Calls Try.prog 27 #[.slice A n c, .int .i64 K] w fun e w' => ∃ g c2, e = .returned (.slice (some ⟨g, 0, none⟩) n c2) ∧ w'.ownsRow w.heap.size 3 1 (.slice (some ⟨g, 0, none⟩) n c2) n (ints (afterS ltZ l K)) ∧ Below w.heap.size w w' := by
  refine (callsIn_wide (n := 5)).1 ?_
  have hwd : Fence.wide.depth.isSome = false := rfl
  have hwr : Fence.wide.round = none := rfl
  have hf1 : Fence.wide.fn 18 := trivial
  have hf2 : Fence.wide.fn 50 := trivial
  have hf3 : Fence.wide.fn 54 := trivial
  have hok : within (K : Int) 0 60 = true := by simp [within]; omega
  refine callsIn_of_wp_marks Try.func27 rfl trivial ?_ rfl
  simp only [Try.ntmps27, List.size_toArray, List.length_cons, List.length_nil, Nat.reduceAdd, Nat.reduceSub, Array.replicate_succ, Array.replicate_zero, List.push_toArray, List.append_toArray, List.nil_append, List.cons_append]
  gi_wp2_with (first | (gi_at_call 18; refine (callsIn_wide.2 (keptI_any _ _ _ l _ _ hs)).mono ?_; rintro e w' ⟨rfl, rfl⟩) | (gi_at_call 50; refine (callsIn_wide.2 (stepsOk_any _ _)).mono ?_; rintro e w' ⟨rfl, rfl⟩) | (gi_at_call 54; refine (callsIn_wide.2 (swappedRowsOf_any _ _ _ _ _)).mono ?_; rintro e w' ⟨rfl, rfl⟩))
  obtain ⟨W0, hW0⟩ : ∃ W0 : World, ((w.alloc (.cells #[.slice none 0 0] 23)).alloc (.cells #[.slice A n c] 23)).alloc (.cells #[.int .i64 K] 3) = W0 := ⟨_, rfl⟩
  rw [hW0]
  have hsz : w.heap.size + 3 ≤ W0.heap.size := by rw [← hW0]; simp
  have hb0 : Below w.heap.size w W0 := by rw [← hW0]; exact (((Below.refl _ w).alloc (Nat.le_refl _) _).alloc (by simp) _).alloc (by simp; omega) _
  have x0 : Boxed W0 w.heap.size 23 (.slice none 0 0) := by rw [← hW0]; exact ((Boxed.new w _ _).alloc _).alloc _
  have hc1 : W0.cell? ⟨w.heap.size + 1, 0, none⟩ = some (.slice A n c) := by
    rw [← hW0]
    have h1 := Boxed.new (w.alloc (.cells #[.slice none 0 0] 23)) 23 (.slice A n c)
    rw [World.size_alloc] at h1
    exact (h1.alloc _).cell
  have hc2 : W0.cell? ⟨w.heap.size + 1 + 1, 0, none⟩ = some (.int .i64 K) := by
    rw [← hW0]
    have h1 := Boxed.new ((w.alloc (.cells #[.slice none 0 0] 23)).alloc (.cells #[.slice A n c] 23)) 3 (.int .i64 K)
    rw [World.size_alloc, World.size_alloc] at h1
    exact h1.cell
  clear hW0
  have eg : ∀ args w, (callFunc 61 args).run Try.prog w = .ok (.enter 61 args) w := enters_of Try.func61 (by kernel_rfl) rfl
  refine range_bareX (n := 5) rfl eg ?_
  intro rc W1 hs1 hb1 hl1 hd1 hY
  have hbW := hb0.trans (hb1.mono (by omega))
  refine (swrows_in (5 - 1) (W0.heap.size + 1) (w.heap.size + 1) A n c K l
    (fun k W => W.heap[W0.heap.size + 1]? = some (.loop (rc .ready none)) ∧ W.heap[W0.heap.size]? = some (.deferred (some [])) ∧
      (∃ v, Boxed W w.heap.size 23 v ∧ (1 ≤ k → ∃ g c3, v = .slice (some ⟨g, 0, none⟩) n c3 ∧ W.ownsRow W1.heap.size 3 1 (.slice (some ⟨g, 0, none⟩) n c3) n (ints (afterS ltZ l (k - 1))))) ∧ Below w.heap.size w W) (fun _ => False) W1
    (hs.on hbW |>.more (by omega)) hk.1 hk.2 hK ((hb1.cell (p := ⟨w.heap.size + 1, 0, none⟩) (by simp; omega)).trans hc1) ((hb1.cell (p := ⟨w.heap.size + 1 + 1, 0, none⟩) (by simp; omega)).trans hc2) (by omega) ?below ?yields
    ⟨hl1, hd1, ⟨_, x0.kept (row := none) ⟨hb1.os, hb1.tape, hb1.output, hb1.size, fun k hk _ => hb1.block k hk⟩ (by simp), fun h => absurd h (by omega)⟩, hbW⟩).mono ?behind
  case below =>
    rintro k W W' ⟨g1, g2, ⟨v, g3, g4⟩, g5⟩ hb
    refine ⟨(hb.block _ (Array.getElem?_eq_some_iff.1 g1).1).trans g1, (hb.block _ (Array.getElem?_eq_some_iff.1 g2).1).trans g2, ⟨v, (hb.block _ g3.lt).trans g3, fun h => ?_⟩, g5.trans (hb.mono g5.size)⟩
    obtain ⟨g, c3, rfl, ho⟩ := g4 h
    exact ⟨g, c3, rfl, own_on ho hb⟩
  case yields =>
    rintro k g c3 W ⟨hl, hd, ⟨v, hv, hrow⟩, hb⟩ hkT ho
    clear hrow
    refine hY #[.slice (some ⟨g, 0, none⟩) n c3] W _ rfl hl ⟨?a1, ?w1, ?assign, ?ready, ?body⟩
    case assign =>
      intro K hK
      gi_wp2
      exact hK
    case ready => exact hl
    have hsW : w.heap.size ≤ W.heap.size := hb.size
    have hlW : W0.heap.size + 1 < W.heap.size := (Array.getElem?_eq_some_iff.1 hl).1
    obtain ⟨Wb, hWb⟩ : ∃ Wb, W.putObj (W0.heap.size + 1) (.loop (rc .busy none)) = Wb := ⟨_, rfl⟩
    rw [hWb]
    have lb : Wb.heap[W0.heap.size + 1]? = some (.loop (rc .busy none)) := by rw [← hWb]; exact World.putObj_heap_same hlW
    have db : Wb.heap[W0.heap.size]? = some (.deferred (some [])) := by rw [← hWb]; exact (World.putObj_heap_other (by omega)).trans hd
    have vb : Boxed Wb w.heap.size 23 v := by rw [← hWb]; exact boxed_putX hv _ (by omega)
    have bb : Below w.heap.size w Wb := by rw [← hWb]; exact below_putX hb _ (by omega) hsW
    have ob : Wb.ownsRow W1.heap.size 3 1 (.slice (some ⟨g, 0, none⟩) n c3) n (ints (afterS ltZ l k)) := by rw [← hWb]; exact ownsRow_putObj ho _ hl rfl
    have hcv := vb.cell
    have hfv := vb.frozen
    have V2 := hid (vb.set (.slice (some ⟨g, 0, none⟩) n c3))
    have OB := hid ob
    have BB := hid bb
    clear hl hd hv hb hWb ho vb ob bb
    have hK3 := KeepsOthers.setCell Wb ⟨w.heap.size, 0, none⟩ (.slice (some ⟨g, 0, none⟩) n c3)
    have hl3 := hK3.same _ _ lb rfl
    have hd3 := hK3.same _ _ db rfl
    gi_wp2
    have b3 := BB.out.setCell (p := ⟨w.heap.size, 0, none⟩) (Nat.le_refl _) (.slice (some ⟨g, 0, none⟩) n c3)
    have o3 := own_set0 (u := .slice (some ⟨g, 0, none⟩) n c3) OB.out (b := w.heap.size) (by omega)
    have o4 := ownsRow_putObj o3 (.loop (rc .ready none)) hl3 rfl
    rw [hs1] at o4
    exact ⟨hl3, rfl, ⟨World.putObj_heap_same (Array.getElem?_eq_some_iff.1 hl3).1, (World.putObj_heap_other (by omega)).trans hd3, ⟨_, boxed_putX V2.out _ (by omega), g, c3, rfl, o4⟩, below_putX b3 _ (by omega) b3.size⟩, o4⟩
  case behind =>
    rintro e W' ⟨hv, (⟨hl, hd, ⟨v, hv2, hrow⟩, hb⟩ | h)⟩
    · refine ⟨hv, .inl ⟨hl, fun o => ?_⟩⟩
      obtain ⟨g, c3, rfl, hr⟩ := hrow (by omega)
      rw [Nat.add_sub_cancel] at hr
      obtain ⟨W2, hW2⟩ : ∃ W2, W'.putObj (W0.heap.size + 1) o = W2 := ⟨_, rfl⟩
      rw [hW2]
      have hcv : W2.cell? ⟨w.heap.size, 0, none⟩ = some (.slice (some ⟨g, 0, none⟩) n c3) := by rw [← hW2]; exact (boxed_putX hv2 _ (by omega)).cell
      have hK2 : W2.heap[W0.heap.size]? = some (.deferred (some [])) := by rw [← hW2]; exact (World.putObj_heap_other (by omega)).trans hd
      have hr2 : W2.ownsRow w.heap.size 3 1 (.slice (some ⟨g, 0, none⟩) n c3) n (ints (afterS ltZ l K)) := by rw [← hW2]; exact own_mono (ownsRow_putObj hr _ hl rfl) (by omega)
      have hb2 : Below w.heap.size w W2 := by rw [← hW2]; exact below_putX hb _ (by omega) hb.size
      have HR2 := hid hr2
      clear hW2 hb hl hd hr hv2 hr2
      gi_wp2
      refine ⟨by simp, .inl ⟨_, _, rfl, run_takeDeferred hK2, ?_⟩⟩
      exact ⟨_, results_tmp rfl _ _ _, g, c3, rfl, ownsRow_putObj HR2.out _ hK2 rfl, below_putX hb2 _ (by omega) hb2.size⟩
    · exact h.elim

set_option maxHeartbeats 800000 in
theorem implAfterSteps_any (A : Option Addr) (n c : Nat) (l : List Int) (s : Int) (w : World) (hs : Sl w w.heap.size A n l) :
    Calls Try.prog 27 #[.slice A n c, .int .i64 s] w fun e w' => ∃ A2 m c2, e = .returned (.slice A2 m c2) ∧ w'.ownsRow w.heap.size 3 1 (.slice A2 m c2) m (ints (afterOut l s)) ∧ m ≤ 14 ∧ Below w.heap.size w w' := by
  by_cases h1 : keptOk l = true
  · by_cases h2 : within s 0 60 = true
    · have hk := (keptOk_iff.1 h1).2
      rw [hs.len] at hk
      have hb := within_iff.1 h2
      obtain ⟨K, rfl⟩ : ∃ K : Nat, s = K := Int.eq_ofNat_of_zero_le hb.1
      have HV := hid (show afterOut l (K : Int) = afterS ltZ l K from by rw [afterOut_yes h1 h2, Int.toNat_natCast])
      refine (afterSteps_yes A n c l K w hs hk h1 (by omega)).mono ?_
      rintro e w1 ⟨g, c2, rfl, ho, hb1⟩
      exact ⟨_, n, _, rfl, by rw [HV.out]; exact ho, hk.2, hb1⟩
    · have h2' : within s 0 60 = false := by simpa using h2
      have HV := hid (afterOut_no (l := l) (s := s) (by rw [h2']; simp))
      go_enter Try.func27, Try.ntmps27
      go_wp2_with (first | (go_at_call 18; refine (keptI_any _ _ _ l _ _ hs).mono ?_; rintro e w' ⟨rfl, rfl⟩) | (go_at_call 50; refine (stepsOk_any _ _).mono ?_; rintro e w' ⟨rfl, rfl⟩))
      go_ret
      exact ⟨_, 0, 0, rfl, by rw [HV.out]; exact World.ownsRow_nil _ _ _ _, by omega, Below.refl _ _⟩
  · have h1' : keptOk l = false := by simpa using h1
    have HV := hid (afterOut_no (l := l) (s := s) (by rw [h1']; simp))
    go_enter Try.func27, Try.ntmps27
    go_wp2_with (first | (go_at_call 18; refine (keptI_any _ _ _ l _ _ hs).mono ?_; rintro e w' ⟨rfl, rfl⟩) | (go_at_call 50; refine (stepsOk_any _ _).mono ?_; rintro e w' ⟨rfl, rfl⟩))
    go_ret
    exact ⟨_, 0, 0, rfl, by rw [HV.out]; exact World.ownsRow_nil _ _ _ _, by omega, Below.refl _ _⟩

set_option maxRecDepth 100000 in
set_option maxHeartbeats 1600000 in
theorem stepsTo_yes (A : Option Addr) (n c : Nat) (l : List Int) (w : World) (hs : Sl w w.heap.size A n l) (hk : 1 ≤ n ∧ n ≤ 14) (h1 : keptOk l = true) :
    Calls Try.prog 33 #[.slice A n c] w fun e w' => e = .returned (.int .i64 (stepsOut l)) ∧ Below w.heap.size w w' := by
  have HLL := hid hs.len
  refine (callsIn_wide (n := 5)).1 ?_
  have hwd : Fence.wide.depth.isSome = false := rfl
  have hwr : Fence.wide.round = none := rfl
  have hf1 : Fence.wide.fn 18 := trivial
  have hf2 : Fence.wide.fn 29 := trivial
  have hf3 : Fence.wide.fn 54 := trivial
  refine callsIn_of_wp_marks Try.func33 rfl trivial ?_ rfl
  simp only [Try.ntmps33, List.size_toArray, List.length_cons, List.length_nil, Nat.reduceAdd, Nat.reduceSub, Array.replicate_succ, Array.replicate_zero, List.push_toArray, List.append_toArray, List.nil_append, List.cons_append]
  gi_wp2_with (first | (gi_at_call 18; refine (callsIn_wide.2 (keptI_any _ _ _ l _ _ hs)).mono ?_; rintro e w' ⟨rfl, rfl⟩) | (gi_at_call 54; refine (callsIn_wide.2 (swappedRowsOf_any _ _ _ _ _)).mono ?_; rintro e w' ⟨rfl, rfl⟩))
  obtain ⟨W0, hW0⟩ : ∃ W0 : World, ((w.alloc (.cells #[.int .i64 0] 3)).alloc (.cells #[.slice A n c] 23)).alloc (.cells #[.int .i64 n] 3) = W0 := ⟨_, rfl⟩
  rw [hW0]
  have hsz : w.heap.size + 3 ≤ W0.heap.size := by rw [← hW0]; simp
  have hb0 : Below w.heap.size w W0 := by rw [← hW0]; exact (((Below.refl _ w).alloc (Nat.le_refl _) _).alloc (by simp) _).alloc (by simp; omega) _
  have x0 : Boxed W0 w.heap.size 3 (.int .i64 0) := by rw [← hW0]; exact ((Boxed.new w _ _).alloc _).alloc _
  have hc1 : W0.cell? ⟨w.heap.size + 1, 0, none⟩ = some (.slice A n c) := by
    rw [← hW0]
    have h1 := Boxed.new (w.alloc (.cells #[.int .i64 0] 3)) 23 (.slice A n c)
    rw [World.size_alloc] at h1
    exact (h1.alloc _).cell
  have hc2 : W0.cell? ⟨w.heap.size + 1 + 1, 0, none⟩ = some (.int .i64 n) := by
    rw [← hW0]
    have h1 := Boxed.new ((w.alloc (.cells #[.int .i64 0] 3)).alloc (.cells #[.slice A n c] 23)) 3 (.int .i64 n)
    rw [World.size_alloc, World.size_alloc] at h1
    exact h1.cell
  clear hW0
  have eg : ∀ args w, (callFunc 61 args).run Try.prog w = .ok (.enter 61 args) w := enters_of Try.func61 (by kernel_rfl) rfl
  refine range_bareX (n := 5) rfl eg ?_
  intro rc W1 hs1 hb1 hl1 hd1 hY
  have hbW := hb0.trans (hb1.mono (by omega))
  refine (swrows_in (5 - 1) (W0.heap.size + 1) (w.heap.size + 1) A n c n l
    (fun k W => W.heap[W0.heap.size + 1]? = some (.loop (rc .ready none)) ∧ W.heap[W0.heap.size]? = some (.deferred (some [])) ∧
      Boxed W w.heap.size 3 (.int .i64 k) ∧ (∀ j, j < k → ordS ltZ (afterS ltZ l j) = false) ∧ Below w.heap.size w W)
    (fun W => ∃ k : Nat, k ≤ n ∧ W.heap[W0.heap.size + 1]? = some (.loop (rc .done (some (.exit 0)))) ∧ W.heap[W0.heap.size]? = some (.deferred (some [])) ∧
      Boxed W w.heap.size 3 (.int .i64 k) ∧ stepsOut l = k ∧ Below w.heap.size w W) W1
    (hs.on hbW |>.more (by omega)) hk.1 hk.2 (by omega) ((hb1.cell (p := ⟨w.heap.size + 1, 0, none⟩) (by simp; omega)).trans hc1) ((hb1.cell (p := ⟨w.heap.size + 1 + 1, 0, none⟩) (by simp; omega)).trans hc2) (by omega) ?below ?yields
    ⟨hl1, hd1, x0.kept (row := none) ⟨hb1.os, hb1.tape, hb1.output, hb1.size, fun k hk _ => hb1.block k hk⟩ (by simp), fun j h => absurd h (by omega), hbW⟩).mono ?behind
  case below =>
    rintro k W W' ⟨g1, g2, g3, g4, g5⟩ hb
    exact ⟨(hb.block _ (Array.getElem?_eq_some_iff.1 g1).1).trans g1, (hb.block _ (Array.getElem?_eq_some_iff.1 g2).1).trans g2, (hb.block _ g3.lt).trans g3, g4, g5.trans (hb.mono g5.size)⟩
  case yields =>
    rintro k g c3 W ⟨hl, hd, hv, hpre, hb⟩ hkT ho
    refine hY #[.slice (some ⟨g, 0, none⟩) n c3] W _ rfl hl ⟨?a1, ?w1, ?assign, ?ready, ?body⟩
    case assign =>
      intro K hK
      gi_wp2
      exact hK
    case ready => exact hl
    have hsW : w.heap.size ≤ W.heap.size := hb.size
    have hlW : W0.heap.size + 1 < W.heap.size := (Array.getElem?_eq_some_iff.1 hl).1
    obtain ⟨Wb, hWb⟩ : ∃ Wb, W.putObj (W0.heap.size + 1) (.loop (rc .busy none)) = Wb := ⟨_, rfl⟩
    rw [hWb]
    have lb : Wb.heap[W0.heap.size + 1]? = some (.loop (rc .busy none)) := by rw [← hWb]; exact World.putObj_heap_same hlW
    have db : Wb.heap[W0.heap.size]? = some (.deferred (some [])) := by rw [← hWb]; exact (World.putObj_heap_other (by omega)).trans hd
    have vb : Boxed Wb w.heap.size 3 (.int .i64 k) := by rw [← hWb]; exact boxed_putX hv _ (by omega)
    have bb : Below w.heap.size w Wb := by rw [← hWb]; exact below_putX hb _ (by omega) hsW
    have ob : Wb.ownsRow W1.heap.size 3 1 (.slice (some ⟨g, 0, none⟩) n c3) n (ints (afterS ltZ l k)) := by rw [← hWb]; exact ownsRow_putObj ho _ hl rfl
    clear hl hd hv hb hWb ho
    have hko : keptOk (afterS ltZ l k) = true := kept_after h1 k
    have CI := hid (orderI_any (some ⟨g, 0, none⟩) n c3 (afterS ltZ l k) Wb Wb.heap.size (Sl.of_own ob))
    by_cases hord : ordS ltZ (afterS ltZ l k) = true
    · have HV := hid (show stepsOut l = k from stepsOut_at h1 (by omega) hpre hord)
      have hoo : orderOk (afterS ltZ l k) = true := by unfold orderOk; rw [hord, hko]; rfl
      clear hord hpre ob hko
      gi_wp2_with (gi_at_call 29; refine (CallsIn.inRound (W0.heap.size + 1) (callsIn_wide.2 CI.out)).mono ?_; rintro r w2 ⟨rfl, g2⟩; have v2 := vb.kept g2 (by simp); have hc2 := v2.cell; have hf2 := v2.frozen)
      have l2 : w2.heap[W0.heap.size + 1]? = some (.loop (rc .busy none)) := (g2.block _ (Array.getElem?_eq_some_iff.1 lb).1 (by simp)).trans lb
      have d2 : w2.heap[W0.heap.size]? = some (.deferred (some [])) := (g2.block _ (Array.getElem?_eq_some_iff.1 db).1 (by simp)).trans db
      have b2 := bb.trans ((below_grown g2).mono bb.size)
      exact ⟨l2, .inr ⟨rfl, k, hkT, World.putObj_heap_same (Array.getElem?_eq_some_iff.1 l2).1, (World.putObj_heap_other (by omega)).trans d2, boxed_putX v2 _ (by omega), HV.out, below_putX b2 _ (by omega) b2.size⟩⟩
    · have hord' : ordS ltZ (afterS ltZ l k) = false := by simpa using hord
      have hoo : orderOk (afterS ltZ l k) = false := by unfold orderOk; rw [hord']; rfl
      have HP := hid (show ∀ j, j < k + 1 → ordS ltZ (afterS ltZ l j) = false from fun j hj => by
        by_cases h : j < k
        · exact hpre j h
        · obtain rfl : j = k := by omega
          exact hord')
      have OB := hid ob
      have HE := hid (show (k : Int) + 1 = ((k + 1 : Nat) : Int) from by omega)
      clear hord hpre ob hko hord'
      gi_wp2_with (gi_at_call 29; refine (CallsIn.inRound (W0.heap.size + 1) (callsIn_wide.2 CI.out)).mono ?_; rintro r w2 ⟨rfl, g2⟩; have v2 := vb.kept g2 (by simp); have hc2 := v2.cell; have hf2 := v2.frozen)
      have l2 : w2.heap[W0.heap.size + 1]? = some (.loop (rc .busy none)) := (g2.block _ (Array.getElem?_eq_some_iff.1 lb).1 (by simp)).trans lb
      have d2 : w2.heap[W0.heap.size]? = some (.deferred (some [])) := (g2.block _ (Array.getElem?_eq_some_iff.1 db).1 (by simp)).trans db
      have hK3 := KeepsOthers.setCell w2 ⟨w.heap.size, 0, none⟩ (.int .i64 ((k : Int) + 1))
      have hl3 := hK3.same _ _ l2 rfl
      have hd3 := hK3.same _ _ d2 rfl
      have b3 := (bb.trans ((below_grown g2).mono bb.size)).setCell (p := ⟨w.heap.size, 0, none⟩) (Nat.le_refl _) (.int .i64 ((k : Int) + 1))
      have o3 := own_set0 (u := .int .i64 ((k : Int) + 1)) (own_kept_none OB.out g2) (b := w.heap.size) (by omega)
      have o4 := ownsRow_putObj o3 (.loop (rc .ready none)) hl3 rfl
      exact ⟨hl3, .inl ⟨rfl, ⟨World.putObj_heap_same (Array.getElem?_eq_some_iff.1 hl3).1, (World.putObj_heap_other (by omega)).trans hd3, by rw [← HE.out]; exact boxed_putX (v2.set _) _ (by omega), HP.out, below_putX b3 _ (by omega) b3.size⟩, o4⟩⟩
  case behind =>
    rintro e W' ⟨hv, (⟨hl, hd, hv2, hall, hb⟩ | ⟨k, hkn, hl, hd, hv2, hst, hb⟩)⟩
    · obtain ⟨k, _, hkl, _, hk2⟩ := steps_have h1
      rw [HLL.out] at hkl
      rw [hall k (by omega)] at hk2
      cases hk2
    · refine ⟨hv, .inr ⟨_, hl, fun o => ?_⟩⟩
      obtain ⟨W2, hW2⟩ : ∃ W2, W'.putObj (W0.heap.size + 1) o = W2 := ⟨_, rfl⟩
      rw [hW2]
      have hcv : W2.cell? ⟨w.heap.size, 0, none⟩ = some (.int .i64 k) := by rw [← hW2]; exact (boxed_putX hv2 _ (by omega)).cell
      have hK2 : W2.heap[W0.heap.size]? = some (.deferred (some [])) := by rw [← hW2]; exact (World.putObj_heap_other (by omega)).trans hd
      have hb2 : Below w.heap.size w W2 := by rw [← hW2]; exact below_putX hb _ (by omega) hb.size
      have HST := hid hst
      clear hW2 hb hl hd hv2 hst
      gi_wp2
      refine ⟨by simp, .inl ⟨_, _, rfl, run_takeDeferred hK2, ?_⟩⟩
      exact ⟨_, results_tmp rfl _ _ _, by rw [HST.out]; rfl, below_putX hb2 _ (by omega) hb2.size⟩

theorem implStepsToOrder_any (A : Option Addr) (n c : Nat) (l : List Int) (w : World) (hs : Sl w w.heap.size A n l) :
    Calls Try.prog 33 #[.slice A n c] w fun e w' => e = .returned (.int .i64 (stepsOut l)) ∧ Below w.heap.size w w' := by
  by_cases h1 : keptOk l = true
  · have hk := (keptOk_iff.1 h1).2
    rw [hs.len] at hk
    exact stepsTo_yes A n c l w hs hk h1
  · have h1' : keptOk l = false := by simpa using h1
    have HV := hid (stepsOut_no h1')
    go_enter Try.func33, Try.ntmps33
    go_wp2_with (go_at_call 18; refine (keptI_any _ _ _ l _ _ hs).mono ?_; rintro e w' ⟨rfl, rfl⟩)
    go_ret
    exact ⟨ret_int (by rw [HV.out]), Below.refl _ _⟩
end Go.Proofs.Ytpobcfmldimgiaa
