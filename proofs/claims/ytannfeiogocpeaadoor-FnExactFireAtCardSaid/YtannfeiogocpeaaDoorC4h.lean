/-
  The walk of the program's FireAt. No statement is proved here.
-/
import Derived.Test.YtannfeiogocpeaaDoorC4i
import Derived.Test.YtannfeiogocpeaaDoorC3i
import Derived.Test.YtannfeiogocpeaaDoorC4f
namespace Go.Proofs.YtannfeiogocpeaaDoor
open Go.RowKit
set_option linter.unusedVariables false
set_option linter.unusedSimpArgs false

attribute [local go_sem] Oper.semAt_some

set_option maxHeartbeats 1600000 in
theorem fireAt_yes (N : Nat) (w : World) (h1 : 1 ≤ N) (hN : N ≤ 40) (hT : Tabs w) :
    Calls Tryd.prog 10 #[.int .i64 N] w fun e w' => e = .returned (.int .i64 (fires (roundsN N))) ∧ Below w.heap.size w w' := by
  have hHB := fun k : Nat => fires_take_bd (n := (N : Int)) k
  rw [roundsOut_yes (show 1 ≤ (N : Int) ∧ (N : Int) ≤ 40 by omega), Int.toNat_natCast] at hHB
  have HB := hid hHB; clear hHB
  refine (callsIn_wide (n := 5)).1 ?_
  have hwd : Fence.wide.depth.isSome = false := rfl
  have hwr : Fence.wide.round = none := rfl
  have hf1 : Fence.wide.fn 33 := trivial
  have hf2 : Fence.wide.fn 34 := trivial
  have hf3 : Fence.wide.fn 23 := trivial
  have hok : within (N : Int) 1 40 = true := by simp [within]; omega
  refine callsIn_of_wp_marks Tryd.func10 rfl trivial ?_ rfl
  simp only [Tryd.ntmps10, List.size_toArray, List.length_cons, List.length_nil, Nat.reduceAdd, Nat.reduceSub, Array.replicate_succ, Array.replicate_zero, List.push_toArray, List.append_toArray, List.nil_append, List.cons_append]
  gi_wp2_with (first | (gi_at_call 33; refine (callsIn_wide.2 (machinesOk_any _ _)).mono ?_; rintro e w' ⟨rfl, rfl⟩) | (gi_at_call 34; refine (callsIn_wide.2 (roundsOfF_any _ _)).mono ?_; rintro e w' ⟨rfl, rfl⟩))
  obtain ⟨W0, hW0⟩ : ∃ W0 : World, (w.alloc (.cells #[.int .i64 0] 3)).alloc (.cells #[.int .i64 N] 3) = W0 := ⟨_, rfl⟩
  rw [hW0]
  have hsz : w.heap.size + 2 ≤ W0.heap.size := by rw [← hW0]; simp
  have hb0 : Below w.heap.size w W0 := by rw [← hW0]; exact ((Below.refl _ w).alloc (Nat.le_refl _) _).alloc (by simp) _
  have x0 : Boxed W0 w.heap.size 3 (.int .i64 0) := by rw [← hW0]; exact (Boxed.new w _ _).alloc _
  have hc0 : W0.cell? ⟨w.heap.size + 1, 0, none⟩ = some (.int .i64 N) := by rw [← hW0]; have := (Boxed.new (w.alloc (.cells #[.int .i64 0] 3)) 3 (.int .i64 N)).cell; rwa [World.size_alloc] at this
  clear hW0
  have eg : ∀ args w, (callFunc 44 args).run Tryd.prog w = .ok (.enter 44 args) w := enters_of Tryd.func44 (by kernel_rfl) rfl
  refine range_bare (n := 5) rfl eg ?_
  intro rc W1 hs1 hb1 hl1 hd1 hY
  refine (rounds_in (5 - 1) (W0.heap.size + 1) (w.heap.size + 1) N
    (fun pre W => W.heap[W0.heap.size + 1]? = some (.loop (rc .ready none)) ∧ W.heap[W0.heap.size]? = some (.deferred (some [])) ∧
      Boxed W w.heap.size 3 (.int .i64 (fires pre)) ∧ Below w.heap.size w W) (fun _ => False) W1 h1 hN
    ((hb1.cell (p := ⟨w.heap.size + 1, 0, none⟩) (by simp; omega)).trans hc0) ?yields
    ⟨hl1, hd1, x0.kept (row := none) ⟨hb1.os, hb1.tape, hb1.output, hb1.size, fun k hk _ => hb1.block k hk⟩ (by simp), hb0.trans (hb1.mono (by omega))⟩).mono ?behind
  case yields =>
    rintro pre x W ⟨hl, hd, hv, hb⟩ ⟨rest, hrest⟩ hx2 hx40
    have HS := hid (show fires (pre ++ [(x : Int)]) = fires pre + partTime ((x : Int) - 1) 2 from by rw [fires_snoc])
    have hs1 := HB.out pre.length
    have hs2 := HB.out (pre.length + 1)
    rw [hrest] at hs1 hs2
    rw [List.take_left] at hs1
    rw [show (pre ++ (x : Int) :: rest).take (pre.length + 1) = pre ++ [(x : Int)] from by rw [show pre ++ (x : Int) :: rest = (pre ++ [(x : Int)]) ++ rest from by simp, show pre.length + 1 = (pre ++ [(x : Int)]).length from by simp, List.take_left], HS.out] at hs2
    refine hY #[.int .i64 x] W _ rfl hl ⟨?a1, ?w1, ?assign, ?ready, ?body⟩
    case assign =>
      intro K hK
      gi_wp2
      exact hK
    case ready => exact hl
    clear hrest HB
    have hsW : w.heap.size ≤ W.heap.size := hb.size
    have hlW : W0.heap.size + 1 < W.heap.size := (Array.getElem?_eq_some_iff.1 hl).1
    obtain ⟨Wb, hWb⟩ : ∃ Wb, W.putObj (W0.heap.size + 1) (.loop (rc .busy none)) = Wb := ⟨_, rfl⟩
    rw [hWb]
    have lb : Wb.heap[W0.heap.size + 1]? = some (.loop (rc .busy none)) := by rw [← hWb]; exact World.putObj_heap_same hlW
    have db : Wb.heap[W0.heap.size]? = some (.deferred (some [])) := by rw [← hWb]; exact (World.putObj_heap_other (by omega)).trans hd
    have vb : Boxed Wb w.heap.size 3 (.int .i64 (fires pre)) := by rw [← hWb]; exact Boxed.put hv _ (by omega)
    have bb : Below w.heap.size w Wb := by rw [← hWb]; exact below_put hb _ (by omega) hsW
    clear hl hd hv hb hWb
    have CM := hid (implMiddleAt_any ((x : Int) - 1) Wb (hT.below bb))
    rw [partVal_yes (by rw [partOk_iff]; omega)] at CM
    obtain ⟨s, hse⟩ : ∃ s, fires pre = s := ⟨_, rfl⟩
    obtain ⟨q, hqe⟩ : ∃ q, partTime ((x : Int) - 1) 2 = q := ⟨_, rfl⟩
    rw [hqe] at CM HS hs2
    rw [hse] at HS hs1 hs2 vb
    clear hse hqe
    gi_wp2_with (gi_at_call 23; refine (CallsIn.inRound (W0.heap.size + 1) (callsIn_wide.2 CM.out)).mono ?_; rintro r w2 ⟨rfl, g2⟩; have v2 := vb.kept g2 (by simp); have hc2 := v2.cell; have hf2 := v2.frozen)
    have l2 : w2.heap[W0.heap.size + 1]? = some (.loop (rc .busy none)) := (g2.block _ (Array.getElem?_eq_some_iff.1 lb).1 (by simp)).trans lb
    have d2 : w2.heap[W0.heap.size]? = some (.deferred (some [])) := (g2.block _ (Array.getElem?_eq_some_iff.1 db).1 (by simp)).trans db
    have hK3 := KeepsOthers.setCell w2 ⟨w.heap.size, 0, none⟩ (.int .i64 (s + q))
    have hl3 := hK3.same _ _ l2 rfl
    have hd3 := hK3.same _ _ d2 rfl
    have b3 := (bb.trans ((below_grown g2).mono bb.size)).setCell (p := ⟨w.heap.size, 0, none⟩) (Nat.le_refl _) (.int .i64 (s + q))
    exact ⟨hl3, .inl ⟨rfl, World.putObj_heap_same (Array.getElem?_eq_some_iff.1 hl3).1, (World.putObj_heap_other (by omega)).trans hd3, by rw [HS.out]; exact Boxed.put (v2.set _) _ (by omega), below_put b3 _ (by omega) b3.size⟩⟩
  case behind =>
    rintro e W' ⟨hv, (⟨hl, hd, hv2, hb⟩ | h)⟩
    · refine ⟨hv, .inl ⟨hl, fun o => ?_⟩⟩
      obtain ⟨W2, hW2⟩ : ∃ W2, W'.putObj (W0.heap.size + 1) o = W2 := ⟨_, rfl⟩
      rw [hW2]
      obtain ⟨s, hse⟩ : ∃ s, fires (roundsN N) = s := ⟨_, rfl⟩
      rw [hse] at hv2
      have hcv : W2.cell? ⟨w.heap.size, 0, none⟩ = some (.int .i64 s) := by rw [← hW2]; exact (Boxed.put hv2 _ (by omega)).cell
      have hK2 : W2.heap[W0.heap.size]? = some (.deferred (some [])) := by rw [← hW2]; exact (World.putObj_heap_other (by omega)).trans hd
      have hb2 : Below w.heap.size w W2 := by rw [← hW2]; exact below_put hb _ (by omega) hb.size
      clear hW2 hb hl hd hv2
      gi_wp2
      refine ⟨by simp, .inl ⟨_, _, rfl, run_takeDeferred hK2, ?_⟩⟩
      exact ⟨_, results_tmp rfl _ _ _, rfl, below_put hb2 _ (by omega) hb2.size⟩
    · exact h.elim

set_option maxHeartbeats 1600000 in
theorem implFireAt_any (n : Int) (w : World) (hw : (Lit.int .i64 n).wf = true) (hT : Tabs w) :
    Calls Tryd.prog 10 #[.int .i64 n] w fun r w' => r = .returned (.int .i64 (fireOut n)) ∧ Below w.heap.size w w' := by
  by_cases hok : within n 1 40 = true
  · have hn : 1 ≤ n ∧ n ≤ 40 := by simpa [within] using hok
    obtain ⟨N, rfl⟩ : ∃ N : Nat, n = N := Int.eq_ofNat_of_zero_le (by omega)
    have hF : fireOut (N : Int) = fires (roundsN N) := by unfold fireOut; rw [if_pos hok, roundsOut_yes hn, Int.toNat_natCast]
    rw [hF]
    exact fireAt_yes N w (by omega) (by omega) hT
  · have h1' : within n 1 40 = false := by simpa using hok
    have HF := hid (show fireOut n = -1 from by unfold fireOut; rw [if_neg hok])
    clear hok
    go_enter Tryd.func10, Tryd.ntmps10
    go_wp2_with (go_at_call 33; refine (machinesOk_any _ _).mono ?_; rintro e w' ⟨rfl, rfl⟩)
    go_ret
    exact ⟨ret_int HF.out.symm, Below.refl _ _⟩
end Go.Proofs.YtannfeiogocpeaaDoor
