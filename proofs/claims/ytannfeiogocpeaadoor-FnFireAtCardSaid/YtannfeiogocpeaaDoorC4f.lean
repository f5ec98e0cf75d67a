/-
  The walk of the model's FireAt. No statement is proved here.
-/
import Derived.Test.YtannfeiogocpeaaDoorC4
import Derived.Test.YtannfeiogocpeaaDoorC3
namespace Go.Proofs.YtannfeiogocpeaaDoor
open Go.RowKit
set_option linter.unusedVariables false
set_option linter.unusedSimpArgs false

theorem fires_take_bd {n : Int} (k : Nat) : 0 ≤ fires ((roundsOut n).take k) ∧ fires ((roundsOut n).take k) ≤ 600 := by
  have h := fires_bd ((roundsOut n).take k) (fun x hx => roundsOut_mem (List.mem_of_mem_take hx))
  have h2 := roundsOut_len n
  have h3 : ((roundsOut n).take k).length ≤ 6 := by simp; omega
  omega

set_option maxHeartbeats 1600000 in
theorem specFireAt_any (n : Int) (w : World) (hw : (Lit.int .i64 n).wf = true) :
    Calls Tryd.prog 9 #[.int .i64 n] w fun r w' => r = .returned (.int .i64 (fireOut n)) ∧ Below w.heap.size w w' := by
  by_cases hok : within n 1 40 = true
  · have HF := hid (show fireOut n = fires (roundsOut n) from by unfold fireOut; rw [if_pos hok])
    have hn : 1 ≤ n ∧ n ≤ 40 := by simpa [within] using hok
    have CR := hid (fun W : World => specRoundsOf_any n W hw)
    have HM := hid (fun (x : Int) (hx : x ∈ roundsOut n) => roundsOut_mem hx)
    have HB := hid (fun k : Nat => fires_take_bd (n := n) k)
    obtain ⟨l, hl⟩ : ∃ l, roundsOut n = l := ⟨_, rfl⟩
    rw [hl] at HF CR HM HB
    clear hl
    go_enter Tryd.func9, Tryd.ntmps9
    go_wp2_with (go_at_call 30; refine (l1In_any _ _ _ _).mono ?_; rintro e w' ⟨rfl, rfl⟩)
    with_reducible refine Calls.mono (CR.out _) ?_
    rintro r w1 ⟨A, m, c, rfl, o1, hm6, b1⟩
    have hlen : l.length = m := by have := o1.1; simpa using this
    have HL := hid hlen; clear hlen
    have o1 := own_mono (base' := 0) o1 (Nat.zero_le _)
    go_wp2_with fail
    go_loopw [3, 5] (fun v kk wr => ∃ k : Nat, v = .int .i64 (fires (l.take k)) ∧ kk = .int .i64 k ∧ k ≤ m ∧ wr.ownsRow 0 3 1 (.slice A m c) m (ints l) ∧ Hid (Below w.heap.size w wr)) (fun _ kk _ => m - (intOf kk).toNat)
    case atStart => exact ⟨0, by simp [fires], rfl, Nat.zero_le _, o1, hid b1⟩
    case round =>
      clear o1 b1
      obtain ⟨k, rfl, rfl, hk, o1, BB⟩ := hrel
      by_cases hlt : k < m
      · have hx := HM.out (nth l k) (by rw [nth_lt (by rw [HL.out]; exact hlt)]; exact List.getElem_mem _)
        have hs1 := HB.out k
        have hs2 := HB.out (k + 1)
        have ht : l.take (k + 1) = l.take k ++ [nth l k] := take_nth (by rw [HL.out]; exact hlt)
        rw [ht, fires_snoc] at hs2
        have HS := hid (show fires (l.take (k + 1)) = fires (l.take k) + partTime (nth l k - 1) 2 from by rw [ht, fires_snoc])
        clear ht
        have CM := hid (fun W : World => specMiddleAt_any (nth l k - 1) W)
        rw [partVal_yes (by rw [partOk_iff]; omega)] at CM
        obtain ⟨j, rfl⟩ : ∃ j, m = j + 1 := ⟨m - 1, by omega⟩
        obtain ⟨g, cg, hs0, _, _⟩ := own_shape o1
        injection hs0 with e1 e2 e3
        subst e1
        have hck := own_cell o1 HL.out hlt
        clear e3
        obtain ⟨x, hxe⟩ : ∃ x, nth l k = x := ⟨_, rfl⟩
        obtain ⟨s, hse⟩ : ∃ s, fires (l.take k) = s := ⟨_, rfl⟩
        obtain ⟨q, hqe⟩ : ∃ q, partTime (x - 1) 2 = q := ⟨_, rfl⟩
        rw [hxe] at hck CM hx HS hs2
        rw [hqe] at CM HS hs2
        rw [hse] at HS hs1 hs2
        rw [hse]
        clear hxe hse hqe
        go_wp2_with fail
        with_reducible refine Calls.mono (CM.out _) ?_
        rintro r w2 ⟨rfl, g2⟩
        replace o1 := own_kept_none o1 g2
        replace BB := hid (BB.out.trans ((below_grown g2).mono BB.out.size))
        clear g2 hck
        go_wp2
        go_roundw
        case rel => exact ⟨k + 1, by rw [HS.out], by go_num, by omega, o1, BB⟩
        case measure => simp [intOf]; omega
      · obtain rfl : k = m := by omega
        have hf : fires (l.take k) = fireOut n := by rw [HF.out, List.take_of_length_le (by rw [HL.out]; omega)]
        rw [hf]
        clear hf
        go_wp2
        go_ret
        exact ⟨rfl, BB.out⟩
  · have h1' : within n 1 40 = false := by simpa using hok
    have HF := hid (show fireOut n = -1 from by unfold fireOut; rw [if_neg hok])
    clear hok
    go_enter Tryd.func9, Tryd.ntmps9
    go_wp2_with (go_at_call 30; refine (l1In_any _ _ _ _).mono ?_; rintro e w' ⟨rfl, rfl⟩)
    go_ret
    exact ⟨ret_int HF.out.symm, Below.refl _ _⟩
end Go.Proofs.YtannfeiogocpeaaDoor
