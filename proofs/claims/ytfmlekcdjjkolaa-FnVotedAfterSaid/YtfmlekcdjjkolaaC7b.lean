/-
  Walks of the model's votes: OpposedOf, FirmOf, SettledAfter. No statement is proved here.
-/
import Derived.Test.YtfmlekcdjjkolaaC7a
namespace Go.Proofs.Ytfmlekcdjjkolaa
open Go.RowKit
set_option linter.unusedVariables false
set_option linter.unusedSimpArgs false

/-- What OpposedOf gives. -/
def oppOut (l : List Int) : List Int := if votesOk l = true then oppL l else []
theorem opp_take {l : List Int} {k : Nat} (h : k < l.length) : (oppL l).take (k + 1) = (oppL l).take k ++ [1 - nth l k] := by
  rw [take_nth (by rw [opp_len]; exact h), nth_opp h]

set_option maxRecDepth 100000 in
set_option maxHeartbeats 3200000 in
theorem specOpposedOf_any (A : Option Addr) (n c : Nat) (l : List Int) (w : World) (hs : Sl w w.heap.size A n l) :
    Calls Try.prog 26 #[.slice A n c] w fun e w' => ∃ A2 m c2, e = .returned (.slice A2 m c2) ∧ w'.ownsRow w.heap.size 3 1 (.slice A2 m c2) m (ints (oppOut l)) ∧ m ≤ 40 ∧ Below w.heap.size w w' := by
  obtain ⟨i0, hi, hz0, hz1, hz2⟩ := info_parts info_int
  have HL := hid hs.len
  have hm := hs.max
  have ho0 : (w.alloc (.cells #[] 3)).ownsRow w.heap.size 3 1 (.slice (some ⟨w.heap.size, 0, none⟩) 0 0) 0 (ints []) := World.ownsRow_lit w #[] 0 (Nat.le_refl _) (by simp [maxLen]) rfl
  have hb0 : Below w.heap.size w (w.alloc (.cells #[] 3)) := (Below.refl _ _).alloc (Nat.le_refl _) _
  have CK := hid (fun (W : World) (hb : Below w.heap.size w W) => specVotesOk_any A n c l W w.heap.size (hs.below hb))
  cases hok : votesOk l with
  | false =>
    have HV := hid (show oppOut l = [] from by unfold oppOut; rw [hok]; rfl)
    rw [hok] at CK
    clear hok
    go_enter Try.func26, Try.ntmps26
    go_wp2
    go_loopw [3, 4] (fun v i wr => v = .slice (some ⟨w.heap.size, 0, none⟩) 0 0 ∧ i = .int .i64 0 ∧ wr = w.alloc (.cells #[] 3)) (fun _ _ _ => 0)
    case atStart => exact ⟨rfl, rfl, rfl⟩
    case round =>
      obtain ⟨rfl, rfl, rfl⟩ := hrel
      by_cases h0 : 0 < n
      · go_wp2_with (go_at_call 14; with_reducible refine Calls.mono (CK.out _ hb0) ?_; rintro e w' ⟨rfl, rfl⟩)
        go_ret
        exact ⟨_, 0, _, rfl, by rw [HV.out]; exact ho0, by omega, hb0⟩
      · obtain rfl : n = 0 := by omega
        go_wp2
        go_ret
        exact ⟨_, 0, _, rfl, by rw [HV.out]; exact ho0, by omega, hb0⟩
  | true =>
    have HV := hid (show oppOut l = oppL l from by unfold oppOut; rw [if_pos hok])
    obtain ⟨⟨h1, h2⟩, hb⟩ := votesOk_iff.1 hok
    rw [HL.out] at h1 h2
    have HX := hid (fun k => bits_nth hb k)
    rw [hok] at CK
    clear hok hb
    go_enter Try.func26, Try.ntmps26
    go_wp2
    go_loopw [3, 4] (fun v i wr => ∃ (A1 : Option Addr) (c1 k : Nat), v = .slice A1 k c1 ∧ i = .int .i64 k ∧ k ≤ n ∧ wr.ownsRow w.heap.size 3 1 (.slice A1 k c1) k (ints ((oppL l).take k)) ∧ Hid (Below w.heap.size w wr)) (fun _ i _ => n - (intOf i).toNat)
    case atStart => exact ⟨_, _, 0, rfl, rfl, Nat.zero_le _, ho0, hid hb0⟩
    case round =>
      clear ho0 hb0
      obtain ⟨A1, c1, k, rfl, rfl, hk, ho, HB⟩ := hrel
      by_cases hlt : k < n
      · obtain ⟨b, off, rfl, _, hc⟩ := (hs.below HB.out).2.2 (by omega)
        have x0 := hc k hlt
        have b0 := HX.out k
        have HT := hid (opp_take (l := l) (k := k) (by rw [HL.out]; exact hlt))
        obtain ⟨x, hx⟩ : ∃ x, nth l k = x := ⟨_, rfl⟩
        rw [hx] at x0 b0 HT
        clear hx hc
        have hlti : (k : Int) < (n : Int) := by omega
        have w1 : IntKind.i64.wrap (1 - x) = 1 - x := IntWalk.i64_in _ (by omega)
        have hzz := HB.out.size
        have hv := own_blk ho
        go_wp2_with (first
          | (go_at_call 14; with_reducible refine Calls.mono (CK.out _ HB.out) ?_; rintro e w' ⟨rfl, rfl⟩)
          | (at_builtin; refine wpList_append_own _ rfl _ _ 23 rfl w.heap.size 3 i0 (.int .i64 0) 1 8 Try.underlying23 hi hz0 hz1 hz2 rfl (by decide) (.slice A1 k c1) _ _ rfl (ho.alloc _) ⟨wr.heap.size, 0, none⟩ 1 1 [.int .i64 (1 - x)] rfl rfl (cell_one_new wr _ _) (by simp [Value.oneCell']) (by simp only [maxLen]; omega) (by omega) (by simp; omega) ?_; intro v2 w2 hown2 hgrow2 _))
        obtain ⟨A2, c2, rfl, o2, b2⟩ := pushedB HB.out (Nat.le_refl _) (by omega) hv hown2 hgrow2
        rw [← HT.out] at o2
        have O2 := hid o2
        have B2 := hid b2
        clear hown2 hgrow2 ho o2 b2 HB
        go_wp2
        go_roundw
        case rel => exact ⟨A2, c2, k + 1, rfl, by go_num, by omega, O2.out, B2⟩
        case measure => simp [intOf]; omega
      · obtain rfl : k = n := by omega
        rw [List.take_of_length_le (by rw [opp_len, HL.out]; omega)] at ho
        have HO := hid ho
        clear ho
        go_wp2
        go_ret
        exact ⟨A1, k, c1, rfl, by rw [HV.out]; exact HO.out, h2, HB.out⟩
end Go.Proofs.Ytfmlekcdjjkolaa
