/-
  Walks of the program's machinesOk, its rounds (the iterator, met by whatever the loop over it does), and RoundsOf. No statement is proved here.
-/
import Derived.Test.YtannfeiogocpeaaDoorRg
import Derived.Test.YtannfeiogocpeaaDoorC1a
import Derived.Test.YtannfeiogocpeaaDoorEx0
import Derived.Test.YtannfeiogocpeaaDoorS4
import Derived.RangeFuncBox
import Derived.Maps.AppendAt
namespace Go.Proofs.YtannfeiogocpeaaDoor
open Go.RowKit
set_option linter.unusedVariables false
set_option linter.unusedSimpArgs false

theorem machinesOk_any (s : Int) (w : World) :
    Calls Tryd.prog 33 #[.int .i64 s] w fun e w' => e = .returned (.bool (within s 1 40)) ∧ w = w' := by
  by_cases h1 : 1 ≤ s
  · go_enter Tryd.func33, Tryd.ntmps33
    go_wp2
    go_ret
    exact ⟨ret_bool (by simp [within, h1]), rfl⟩
  · have h1' : decide (1 ≤ s) = false := by simpa using h1
    go_enter Tryd.func33, Tryd.ntmps33
    go_wp2
    go_ret
    exact ⟨ret_bool (by simp [within]; omega), rfl⟩

theorem roundsOfF_any (n : Int) (w : World) :
    Calls Tryd.prog 34 #[.int .i64 n] w fun e w' =>
      e = .returned (.func (.func 44) #[] #[.pointer (some ⟨w.heap.size, 0, none⟩)]) ∧ w' = w.alloc (.cells #[.int .i64 n] 3) := by
  go_enter Tryd.func34, Tryd.ntmps34
  go_wp2
  go_ret
  exact ⟨rfl, rfl⟩

attribute [local go_sem] Oper.semAt_some

set_option maxHeartbeats 1600000 in
/-- The iterator: the rounds are handed over, one by one, to whatever goes on with J and stops with Jx. -/
theorem rounds_in (m l h N : Nat) (J : List Int → World → Prop) (Jx : World → Prop) (W0 : World) (h1 : 1 ≤ N) (hN : N ≤ 40) (hc : W0.cell? ⟨h, 0, none⟩ = some (.int .i64 N))
    (hY : ∀ (pre : List Int) (x : Nat) (W : World), J pre W → (∃ rest, roundsN N = pre ++ (x : Int) :: rest) → 2 ≤ x → x ≤ 40 → YieldAt Fence.wide (m - 1) Tryd.prog l #[.int .i64 x] W fun e W' =>
      (e = .returned (.bool true) ∧ J (pre ++ [(x : Int)]) W') ∨ (e = .returned (.bool false) ∧ Jx W'))
    (h0 : J [] W0) :
    CallsIn Fence.wide m Tryd.prog 44 #[.func (.yield l) #[] #[], .pointer (some ⟨h, 0, none⟩)] W0 fun e W' => (∃ v, e = .returned v) ∧ (J (roundsN N) W' ∨ Jx W') := by
  refine callsIn_of_wp Tryd.func44 rfl trivial ?_ rfl
  simp only [Tryd.ntmps44, List.size_toArray, List.length_cons, List.length_nil, Nat.reduceAdd, Nat.reduceSub, Array.replicate_succ, Array.replicate_zero, List.push_toArray, List.append_toArray, List.nil_append, List.cons_append]
  have hwd : Fence.wide.depth.isSome = false := rfl
  gi_wp2
  have HS := hid (show ([] : List Int) ++ roundsN N = roundsN N from rfl)
  have HY := hid hY; clear hY
  have HJ := hid h0; clear h0
  gi_loopw [3] (fun i wr => ∃ (k : Nat) (pre : List Int), i = .int .i64 k ∧ 1 ≤ k ∧ k ≤ 40 ∧ Hid (pre ++ roundsN k = roundsN N) ∧ Hid (J pre wr)) (fun i _ => (intOf i).toNat)
  case atStart => exact ⟨N, [], rfl, h1, hN, HS, HJ⟩
  case round =>
    clear HJ HS
    obtain ⟨k, pre, rfl, hk1, hk2, HL, HJ⟩ := hrel
    by_cases hlt : 2 ≤ k
    · have hst := roundsN_step k hk2 hlt
      have HS := hid (show (pre ++ [(k : Int)]) ++ roundsN ((k + 1) / 2) = roundsN N from by rw [← HL.out, hst]; simp)
      obtain ⟨fn, tmps, assign, body, hy, hRd⟩ := HY.out pre k wr HJ.out ⟨_, by rw [← HL.out, hst]⟩ hlt hk2
      clear hst
      have HR := hid hRd; clear hRd
      have hlt1 : (1 : Int) < (k : Int) := by omega
      have hdiv : ((k : Int) + 1) / 2 = (((k + 1) / 2 : Nat) : Int) := by omega
      have HD := hid hdiv; clear hdiv
      gi_wp2
      refine HR.out.mono ?_
      rintro e W3 (⟨rfl, hj⟩ | ⟨rfl, hj⟩)
      · have HJ3 := hid hj; clear hj
        gi_wp2
        go_roundw
        case rel => exact ⟨(k + 1) / 2, pre ++ [(k : Int)], by rw [HD.out], by omega, by omega, HS, HJ3⟩
        case measure => simp [intOf]; omega
      · have HJ3 := hid hj; clear hj
        gi_wp2
        refine bodyPost_ret (results_none rfl _ _ _) rfl ?_
        exact ⟨⟨_, rfl⟩, .inr HJ3.out⟩
    · obtain rfl : k = 1 := by omega
      have hl : pre = roundsN N := by
        have h := HL.out
        rwa [roundsN_none (by omega), List.append_nil] at h
      subst hl
      gi_wp2
      go_end0
      exact ⟨⟨_, rfl⟩, .inl HJ.out⟩

theorem Boxed.put {W : World} {B l : Nat} {t : TypeId} {v : Value} (h : Boxed W B t v) (o : Obj) (hne : B ≠ l) : Boxed (W.putObj l o) B t v := (World.putObj_heap_other hne).trans h
theorem below_put {W W' : World} {B l : Nat} (h : Below B W W') (o : Obj) (hl : B ≤ l) (hB : B ≤ W'.heap.size) : Below B W (W'.putObj l o) := h.grown (grownBy_putObj' W' l o) hB (by intro k hk; cases hk; exact hl)

set_option maxHeartbeats 1600000 in
theorem appendRounds_any (h N : Nat) (w : World) (h1 : 1 ≤ N) (hN : N ≤ 40) (hc : w.cell? ⟨h, 0, none⟩ = some (.int .i64 N)) (hlt : h < w.heap.size) :
    Calls Tryd.prog 53 #[.slice none 0 0, .func (.func 44) #[] #[.pointer (some ⟨h, 0, none⟩)]] w fun e w' =>
      ∃ A m c, e = .returned (.slice A m c) ∧ w'.ownsRow w.heap.size 3 1 (.slice A m c) m (ints (roundsN N)) ∧ m ≤ 6 ∧ Below w.heap.size w w' := by
  obtain ⟨i0, hi, hz0, hz1, hz2⟩ := info_parts info_int
  have hlen := roundsN_len N hN
  refine (callsIn_wide (n := 5)).1 ?_
  have hwd : Fence.wide.depth.isSome = false := rfl
  have hwr : Fence.wide.round = none := rfl
  refine callsIn_of_wp_marks Tryd.func53 rfl trivial ?_ rfl
  simp only [Tryd.ntmps53, List.size_toArray, List.length_cons, List.length_nil, Nat.reduceAdd, Nat.reduceSub, Array.replicate_succ, Array.replicate_zero, List.push_toArray, List.append_toArray, List.nil_append, List.cons_append]
  gi_wp2
  obtain ⟨W0, hW0⟩ : ∃ W0 : World, w.alloc (.cells #[.slice none 0 0] 29) = W0 := ⟨_, rfl⟩
  rw [hW0]
  have hsz : w.heap.size + 1 ≤ W0.heap.size := by rw [← hW0]; simp
  have hb0 : Below w.heap.size w W0 := by rw [← hW0]; exact (Below.refl _ w).alloc (Nat.le_refl _) _
  have x0 : Boxed W0 w.heap.size 29 (.slice none 0 0) := by rw [← hW0]; exact Boxed.new w _ _
  have hc0 : W0.cell? ⟨h, 0, none⟩ = some (.int .i64 N) := (hb0.cell (p := ⟨h, 0, none⟩) hlt).trans hc
  clear hW0 hc
  have eg : ∀ args w, (callFunc 44 args).run Tryd.prog w = .ok (.enter 44 args) w := enters_of Tryd.func44 (by kernel_rfl) rfl
  refine range_bare (n := 5) rfl eg ?_
  intro rc W1 hs1 hb1 hl1 hd1 hY
  refine (rounds_in (5 - 1) (W0.heap.size + 1) h N
    (fun pre W => W.heap[W0.heap.size + 1]? = some (.loop (rc .ready none)) ∧ W.heap[W0.heap.size]? = some (.deferred (some [])) ∧
      (∃ v, Boxed W w.heap.size 29 v ∧ W.ownsRow w.heap.size 3 1 v pre.length (ints pre)) ∧ Below w.heap.size w W) (fun _ => False) W1 h1 hN
    ((hb1.cell (p := ⟨h, 0, none⟩) (by simp; omega)).trans hc0) ?yields
    ⟨hl1, hd1, ⟨_, x0.kept (row := none) ⟨hb1.os, hb1.tape, hb1.output, hb1.size, fun k hk _ => hb1.block k hk⟩ (by simp), World.ownsRow_nil _ _ _ _⟩, hb0.trans (hb1.mono (by omega))⟩).mono ?behind
  case yields =>
    rintro pre x W ⟨hl, hd, ⟨v, hv, hr⟩, hb⟩ ⟨rest, hrest⟩ hx2 hx40
    have hpl : pre.length + 1 ≤ 6 := by rw [hrest] at hlen; simp at hlen; omega
    refine hY #[.int .i64 x] W _ rfl hl ⟨?a1, ?w1, ?assign, ?ready, ?body⟩
    case assign =>
      intro K hK
      gi_wp2
      exact hK
    case ready => exact hl
    have hsW : w.heap.size ≤ W.heap.size := hb.size
    have hlW : W0.heap.size + 1 < W.heap.size := (Array.getElem?_eq_some_iff.1 hl).1
    obtain ⟨Wb, hWb⟩ : ∃ Wb, W.putObj (W0.heap.size + 1) (.loop (rc .busy none)) = Wb := ⟨_, rfl⟩
    rw [hWb]
    have lb : Wb.heap[W0.heap.size + 1]? = some (.loop (rc .busy none)) := by rw [← hWb]; exact World.putObj_heap_same hlW
    have db : Wb.heap[W0.heap.size]? = some (.deferred (some [])) := by rw [← hWb]; exact (World.putObj_heap_other (by omega)).trans hd
    have vb : Boxed Wb w.heap.size 29 v := by rw [← hWb]; exact Boxed.put hv _ (by omega)
    have rb : Wb.ownsRow w.heap.size 3 1 v pre.length (ints pre) := by rw [← hWb]; exact ownsRow_putObj hr _ hl rfl
    have bb : Below w.heap.size w Wb := by rw [← hWb]; exact below_put hb _ (by omega) hsW
    have szb : w.heap.size ≤ Wb.heap.size := bb.size
    have hcv := vb.cell
    have hfv := vb.frozen
    clear hl hd hv hr hb hWb
    gi_wp2_with (gi_at_builtin; refine wpListIn_append_own _ rfl _ _ 29 rfl w.heap.size 3 i0 (.int .i64 0) 1 8 Tryd.underlying29 hi hz0 hz1 hz2 rfl (by decide) _ _ _ rfl (rb.alloc _) ⟨Wb.heap.size, 0, none⟩ 1 1 [.int .i64 x] rfl rfl (cell_one_new _ _ _) (by simp [Value.oneCell']) (by simp only [maxLen]; omega) (by omega) (by simp; omega) ?_; intro v' w1 hown' hgrow _; obtain ⟨g', cap', rfl⟩ := ownsRow_succ hown'; obtain ⟨hv1, hv2, hr2, hk2, hb2⟩ := vb.appended (by decide) rb szb (Nat.le_refl _) hown' hgrow; have hc1 := hv1.cell; have hf1 := hv1.frozen)
    have hl3 := hk2.same _ _ lb rfl
    have hd3 := hk2.same _ _ db rfl
    exact ⟨hl3, rfl, World.putObj_heap_same (Array.getElem?_eq_some_iff.1 hl3).1, (World.putObj_heap_other (by omega)).trans hd3, ⟨_, Boxed.put hv2 _ (by omega), ownsRow_putObj hr2 _ hl3 rfl⟩, below_put (bb.trans hb2) _ (by omega) (bb.trans hb2).size⟩
  case behind =>
    rintro e W' ⟨hv, (⟨hl, hd, ⟨v, hv2, hr⟩, hb⟩ | h)⟩
    · refine ⟨hv, .inl ⟨hl, fun o => ?_⟩⟩
      obtain ⟨W2, hW2⟩ : ∃ W2, W'.putObj (W0.heap.size + 1) o = W2 := ⟨_, rfl⟩
      rw [hW2]
      have hcv : W2.cell? ⟨w.heap.size, 0, none⟩ = some v := by rw [← hW2]; exact (Boxed.put hv2 _ (by omega)).cell
      have hK2 : W2.heap[W0.heap.size]? = some (.deferred (some [])) := by rw [← hW2]; exact (World.putObj_heap_other (by omega)).trans hd
      have hr2 : W2.ownsRow w.heap.size 3 1 v (roundsN N).length (ints (roundsN N)) := by rw [← hW2]; exact ownsRow_putObj hr _ hl rfl
      have hb2 : Below w.heap.size w W2 := by rw [← hW2]; exact below_put hb _ (by omega) hb.size
      obtain ⟨A, c, rfl⟩ : ∃ A c, v = .slice A (roundsN N).length c := by
        rcases hr2.2 with ⟨h1, h2⟩ | ⟨g, cap, cur, h1, _⟩
        · exact ⟨none, 0, by rw [h1, h2]⟩
        · exact ⟨_, _, h1⟩
      obtain ⟨R, hR⟩ : ∃ R, roundsN N = R := ⟨_, rfl⟩
      rw [hR] at hlen hcv hr2
      clear hW2 hb hl hd hr hv2
      gi_wp2
      refine ⟨by simp, .inl ⟨_, _, rfl, run_takeDeferred hK2, ?_⟩⟩
      exact ⟨_, results_tmp rfl _ _ _, A, R.length, c, rfl, ownsRow_putObj hr2 _ hK2 rfl, hlen, below_put hb2 _ (by omega) hb2.size⟩
    · exact h.elim

set_option maxHeartbeats 800000 in
theorem collectRounds_any (h N : Nat) (w : World) (h1 : 1 ≤ N) (hN : N ≤ 40) (hc : w.cell? ⟨h, 0, none⟩ = some (.int .i64 N)) (hlt : h < w.heap.size) :
    Calls Tryd.prog 42 #[.func (.func 44) #[] #[.pointer (some ⟨h, 0, none⟩)]] w fun e w' =>
      ∃ A m c, e = .returned (.slice A m c) ∧ w'.ownsRow w.heap.size 3 1 (.slice A m c) m (ints (roundsN N)) ∧ m ≤ 6 ∧ Below w.heap.size w w' := by
  have CA := hid (appendRounds_any h N w h1 hN hc hlt)
  go_enter Tryd.func42, Tryd.ntmps42
  go_wp2_with fail
  with_reducible refine Calls.mono CA.out ?_
  rintro e w' ⟨A, m, c, rfl, o1, hm, b1⟩
  have HO := hid o1; clear o1
  go_wp2
  go_ret
  exact ⟨_, _, _, rfl, HO.out, hm, b1⟩

set_option maxHeartbeats 800000 in
theorem implRoundsOf_any (n : Int) (w : World) (hw : (Lit.int .i64 n).wf = true) :
    Calls Tryd.prog 26 #[.int .i64 n] w fun r w' => ∃ A2 m c2, r = .returned (.slice A2 m c2) ∧ w'.ownsRow w.heap.size 3 1 (.slice A2 m c2) m (ints (roundsOut n)) ∧ m ≤ 6 ∧ Below w.heap.size w w' := by
  by_cases hok : within n 1 40 = true
  · have hn : 1 ≤ n ∧ n ≤ 40 := by simpa [within] using hok
    obtain ⟨N, rfl⟩ : ∃ N : Nat, n = N := Int.eq_ofNat_of_zero_le (by omega)
    have HR := hid (show roundsOut (N : Int) = roundsN N from roundsOut_yes hn)
    have hb0 : Below w.heap.size w (w.alloc (.cells #[.int .i64 N] 3)) := (Below.refl _ _).alloc (Nat.le_refl _) _
    have CA := hid (collectRounds_any w.heap.size N (w.alloc (.cells #[.int .i64 N] 3)) (by omega) (by omega) (by exact (Boxed.new w _ _).cell) (by simp))
    go_enter Tryd.func26, Tryd.ntmps26
    go_wp2_with (first | (go_at_call 33; refine (machinesOk_any _ _).mono ?_; rintro e w' ⟨rfl, rfl⟩) | (go_at_call 34; refine (roundsOfF_any _ _).mono ?_; rintro e w' ⟨rfl, rfl⟩))
    with_reducible refine Calls.mono CA.out ?_
    rintro e w' ⟨A, m, c, rfl, o1, hm, b1⟩
    have HO := hid (own_mono (base' := w.heap.size) o1 hb0.size); clear o1
    go_wp2
    go_ret
    exact ⟨_, _, _, rfl, by rw [HR.out]; exact HO.out, hm, hb0.trans (b1.mono hb0.size)⟩
  · have h1 : within n 1 40 = false := by simpa using hok
    have HR := hid (show roundsOut n = [] from roundsOut_no (by simpa [within] using hok))
    clear hok
    go_enter Tryd.func26, Tryd.ntmps26
    go_wp2_with (go_at_call 33; refine (machinesOk_any _ _).mono ?_; rintro e w' ⟨rfl, rfl⟩)
    go_ret
    exact ⟨_, 0, 0, rfl, by rw [HR.out]; exact World.ownsRow_nil _ _ _ _, by omega, Below.refl _ _⟩
end Go.Proofs.YtannfeiogocpeaaDoor
