/-
  The walk of the program's MessagesOf. No statement is proved here.
-/
import Derived.Test.YtegmkacapldnoaaC9t
namespace Go.Proofs.Ytegmkacapldnoaa
open Go.RowKit
set_option linter.unusedVariables false
set_option linter.unusedSimpArgs false
attribute [local go_sem] Oper.semAt_some

theorem own_set9 {w : World} {B b n sz : Nat} {v u : Value} {e : TypeId} {xs : List Value} (h : w.ownsRow B e sz v n xs) (hb : b < B) : (w.setCell ⟨b, 0, none⟩ u).ownsRow B e sz v n xs := by
  refine ⟨h.1, ?_⟩
  rcases h.2 with h' | ⟨g, cap, cur, e1, hg, hx, rest⟩
  · exact .inl h'
  · exact .inr ⟨g, cap, cur, e1, hg, (heap_setCell_other w ⟨b, 0, none⟩ g u (by simp; omega)).trans hx, rest⟩

set_option maxRecDepth 100000 in
set_option maxHeartbeats 1600000 in
theorem messages_yes (A : Option Addr) (n c : Nat) (l : List Int) (w : World) (hs : Sl w w.heap.size A n l) (hc : n ≤ c) (hcm : c ≤ maxLen) (h1 : ringOk l = true) :
    Calls Try.prog 28 #[.slice A n c] w fun e w' => e = .returned (.int .i64 (messN l)) ∧ Below w.heap.size w w' := by
  have HLL := hid hs.len
  have hrk := ringOk_iff.1 h1
  rw [HLL.out] at hrk
  obtain ⟨_, _, hn1, hn12⟩ := hrk
  have HPO := hid (ring_pos h1)
  have CK := hid (ringI_any A n c l w _ hs hc hcm)
  rw [h1] at CK
  refine (callsIn_wide (n := 5)).1 ?_
  have hwd : Fence.wide.depth.isSome = false := rfl
  have hwr : Fence.wide.round = none := rfl
  have hf1 : Fence.wide.fn 16 := trivial
  have hf3 : Fence.wide.fn 47 := trivial
  refine callsIn_of_wp_marks Try.func28 rfl trivial ?_ rfl
  simp only [Try.ntmps28, List.size_toArray, List.length_cons, List.length_nil, Nat.reduceAdd, Nat.reduceSub, Array.replicate_succ, Array.replicate_zero, List.push_toArray, List.append_toArray, List.nil_append, List.cons_append]
  gi_wp2_with (first | (gi_at_call 16; refine (callsIn_wide.2 CK.out).mono ?_; rintro e w' ⟨rfl, rfl⟩) | (gi_at_call 47; refine (callsIn_wide.2 (messageRoundsF_any _ _ _ _)).mono ?_; rintro e w' ⟨rfl, rfl⟩))
  obtain ⟨W0, hW0⟩ : ∃ W0 : World, (w.alloc (.cells #[.int .i64 0] 3)).alloc (.cells #[.slice A n c] 23) = W0 := ⟨_, rfl⟩
  rw [hW0]
  have hsz : w.heap.size + 2 ≤ W0.heap.size := by rw [← hW0]; simp
  have hb0 : Below w.heap.size w W0 := by rw [← hW0]; exact ((Below.refl _ w).alloc (Nat.le_refl _) _).alloc (by simp) _
  have x0 : Boxed W0 w.heap.size 3 (.int .i64 0) := by rw [← hW0]; exact (Boxed.new w _ _).alloc _
  have x1 : Boxed W0 (w.heap.size + 1) 23 (.slice A n c) := by
    rw [← hW0]
    have h1 := Boxed.new (w.alloc (.cells #[.int .i64 0] 3)) 23 (.slice A n c)
    rw [World.size_alloc] at h1
    exact h1
  clear hW0
  have eg : ∀ args w, (callFunc 55 args).run Try.prog w = .ok (.enter 55 args) w := enters_of Try.func55 (by kernel_rfl) rfl
  refine range_bareX (n := 5) rfl eg ?_
  intro rc W1 hs1 hb1 hl1 hd1 hY
  have hbW := hb0.trans (hb1.mono (by omega))
  have x11 : Boxed W1 (w.heap.size + 1) 23 (.slice A n c) := x1.kept (row := none) ⟨hb1.os, hb1.tape, hb1.output, hb1.size, fun k hk _ => hb1.block k hk⟩ (by simp)
  have HS := hid hs
  refine (rounds9_in (5 - 1) (W0.heap.size + 1) (w.heap.size + 1) A n c l
    (fun k W => W.heap[W0.heap.size + 1]? = some (.loop (rc .ready none)) ∧ W.heap[W0.heap.size]? = some (.deferred (some [])) ∧
      Boxed W w.heap.size 3 (.int .i64 (messTo l k)) ∧ Boxed W (w.heap.size + 1) 23 (.slice A n c) ∧ W1.heap.size ≤ W.heap.size ∧ Below w.heap.size w W) (fun _ => False) W1
    HLL.out h1 (hs.on hbW |>.more (by omega)) x11.cell (by omega) ?still ?below ?yields
    ⟨hl1, hd1, x0.kept (row := none) ⟨hb1.os, hb1.tape, hb1.output, hb1.size, fun k hk _ => hb1.block k hk⟩ (by simp), x11, Nat.le_refl _, hbW⟩).mono ?behind
  case still =>
    rintro k W ⟨_, _, _, g4, g5, g6⟩
    exact ⟨HS.out.on g6, g4.cell, g5⟩
  case below =>
    rintro k W W' ⟨g1, g2, g3, g4, g5, g6⟩ hb
    exact ⟨(hb.block _ (Array.getElem?_eq_some_iff.1 g1).1).trans g1, (hb.block _ (Array.getElem?_eq_some_iff.1 g2).1).trans g2, (hb.block _ g3.lt).trans g3, (hb.block _ g4.lt).trans g4, Nat.le_trans g5 hb.size, g6.trans (hb.mono g6.size)⟩
  case yields =>
    rintro k q c3 A3 W ⟨hl, hd, hv, hv2, hz, hb⟩ hkn hq0 ho
    refine hY #[.int .i64 k, .slice A3 q c3] W _ rfl hl ⟨?a1, ?w1, ?assign, ?ready, ?body⟩
    case assign =>
      intro K hK
      gi_wp2
      exact hK
    case ready => exact hl
    have hsW : w.heap.size ≤ W.heap.size := hb.size
    have hlW : W0.heap.size + 1 < W.heap.size := (Array.getElem?_eq_some_iff.1 hl).1
    obtain ⟨Wb, hWb⟩ : ∃ Wb, W.putObj (W0.heap.size + 1) (.loop (rc .busy none)) = Wb := ⟨_, rfl⟩
    rw [hWb]
    have lb : Wb.heap[W0.heap.size + 1]? = some (.loop (rc .busy none)) := by rw [← hWb]; exact World.putObj_heap_same hlW
    have db : Wb.heap[W0.heap.size]? = some (.deferred (some [])) := by rw [← hWb]; exact (World.putObj_heap_other (by omega)).trans hd
    have vb : Boxed Wb w.heap.size 3 (.int .i64 (messTo l k)) := by rw [← hWb]; exact boxed_putX hv _ (by omega)
    have v2b : Boxed Wb (w.heap.size + 1) 23 (.slice A n c) := by rw [← hWb]; exact boxed_putX hv2 _ (by omega)
    have bb : Below w.heap.size w Wb := by rw [← hWb]; exact below_putX hb _ (by omega) hsW
    have zb : W1.heap.size ≤ Wb.heap.size := by rw [← hWb]; simpa using hz
    have ob : Wb.ownsRow W1.heap.size 49 2 (.slice A3 q c3) q (ints (flat (msgs l k))) := by rw [← hWb]; exact ownsRow_putObj ho _ hl rfl
    have hql := own_len2 ob
    rw [msgs_count HPO.out (by rw [HLL.out]; omega)] at hql
    have hstep := messTo_succ l k
    rw [hql] at hstep
    have hle := messTo_le (l := l) (by rw [HLL.out]; exact hn12) k
    have hqn : q ≤ 12 := by rw [← hql]; exact Nat.le_trans (sendN_le _ _) (by rw [HLL.out]; exact hn12)
    obtain ⟨a, ha⟩ : ∃ a, messTo l k = a := ⟨_, rfl⟩
    rw [ha] at vb hstep hle
    have HST := hid hstep
    have hcv := vb.cell
    have hfv := vb.frozen
    have V2 := hid (vb.set (.int .i64 ((a : Int) + (q : Int))))
    have OB := hid ob
    have BB := hid bb
    have VB := hid v2b
    clear hl hd hv hb hWb ho vb ob bb v2b hv2 hql hstep ha
    have hK3 := KeepsOthers.setCell Wb ⟨w.heap.size, 0, none⟩ (.int .i64 ((a : Int) + (q : Int)))
    have hl3 := hK3.same _ _ lb rfl
    have hd3 := hK3.same _ _ db rfl
    gi_wp2
    have b3 := BB.out.setCell (p := ⟨w.heap.size, 0, none⟩) (Nat.le_refl _) (.int .i64 ((a : Int) + (q : Int)))
    have o3 := own_set9 (u := .int .i64 ((a : Int) + (q : Int))) OB.out (b := w.heap.size) (by omega)
    have o4 := ownsRow_putObj o3 (.loop (rc .ready none)) hl3 rfl
    have v3 : Boxed (Wb.setCell ⟨w.heap.size, 0, none⟩ (.int .i64 ((a : Int) + (q : Int)))) (w.heap.size + 1) 23 (.slice A n c) := (heap_setCell_other Wb ⟨w.heap.size, 0, none⟩ (w.heap.size + 1) _ (by simp)).trans VB.out
    have v4 := V2.out
    rw [show (a : Int) + (q : Int) = ((messTo l (k + 1) : Nat) : Int) from by rw [HST.out]; omega] at v4 o4 v3 b3 hl3 hd3 ⊢
    rw [hs1] at o4 zb
    exact ⟨hl3, rfl, ⟨World.putObj_heap_same (Array.getElem?_eq_some_iff.1 hl3).1, (World.putObj_heap_other (by omega)).trans hd3, boxed_putX v4 _ (by omega), boxed_putX v3 _ (by omega), by simpa [World.setCell] using zb, below_putX b3 _ (by omega) b3.size⟩, o4⟩
  case behind =>
    rintro e W' ⟨hv, (⟨hl, hd, hv2, hv3, hz, hb⟩ | h)⟩
    · refine ⟨hv, .inl ⟨hl, fun o => ?_⟩⟩
      obtain ⟨W2, hW2⟩ : ∃ W2, W'.putObj (W0.heap.size + 1) o = W2 := ⟨_, rfl⟩
      rw [hW2]
      have HM := hid (show messTo l n = messN l from by unfold messN messTo; rw [HLL.out])
      obtain ⟨a, ha⟩ : ∃ a, messTo l n = a := ⟨_, rfl⟩
      rw [ha] at HM hv2
      have hcv : W2.cell? ⟨w.heap.size, 0, none⟩ = some (.int .i64 a) := by rw [← hW2]; exact (boxed_putX hv2 _ (by omega)).cell
      have hK2 : W2.heap[W0.heap.size]? = some (.deferred (some [])) := by rw [← hW2]; exact (World.putObj_heap_other (by omega)).trans hd
      have hb2 : Below w.heap.size w W2 := by rw [← hW2]; exact below_putX hb _ (by omega) hb.size
      clear hW2 hb hl hd hv2 ha
      gi_wp2
      refine ⟨by simp, .inl ⟨_, _, rfl, run_takeDeferred hK2, ?_⟩⟩
      exact ⟨_, results_tmp rfl _ _ _, by rw [← HM.out]; rfl, below_putX hb2 _ (by omega) hb2.size⟩
    · exact h.elim

theorem messI_any (A : Option Addr) (n c : Nat) (l : List Int) (w : World) (hs : Sl w w.heap.size A n l) (hc : n ≤ c) (hcm : c ≤ maxLen) :
    Calls Try.prog 28 #[.slice A n c] w fun e w' => e = .returned (.int .i64 (messOut l)) ∧ Below w.heap.size w w' := by
  cases h1 : ringOk l with
  | true =>
    have HV : messOut l = (messN l : Int) := by unfold messOut; rw [if_pos h1]
    rw [HV]
    exact messages_yes A n c l w hs hc hcm h1
  | false =>
    have HV := hid (show messOut l = -1 from by unfold messOut; rw [h1]; rfl)
    have CK := hid (ringI_any A n c l w _ hs hc hcm)
    rw [h1] at CK
    go_enter Try.func28, Try.ntmps28
    go_wp2_with (go_at_call 16; refine CK.out.mono ?_; rintro e w' ⟨rfl, rfl⟩)
    go_ret
    exact ⟨ret_int (by rw [HV.out]), Below.refl _ _⟩
end Go.Proofs.Ytegmkacapldnoaa
