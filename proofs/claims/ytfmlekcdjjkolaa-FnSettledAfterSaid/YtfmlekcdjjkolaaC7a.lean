/-
  Walks of the model's votes: VotedOf, VotedAfter. No statement is proved here.
-/
import Derived.Test.YtfmlekcdjjkolaaC7
namespace Go.Proofs.Ytfmlekcdjjkolaa
open Go.RowKit
set_option linter.unusedVariables false
set_option linter.unusedSimpArgs false

/-- What VotedOf gives. -/
def votedOut (l : List Int) : List Int := if votesOk l = true then voteL l else []
/-- What VotedAfter gives. -/
def votedN (l : List Int) (s : Int) : List Int := if (votesOk l && within s 0 60) = true then voteN s.toNat l else []

set_option maxRecDepth 100000 in
set_option maxHeartbeats 3200000 in
theorem specVotedOf_any (A : Option Addr) (n c : Nat) (l : List Int) (w : World) (hs : Sl w w.heap.size A n l) :
    Calls Try.prog 29 #[.slice A n c] w fun e w' => ∃ A2 m c2, e = .returned (.slice A2 m c2) ∧ w'.ownsRow w.heap.size 3 1 (.slice A2 m c2) m (ints (votedOut l)) ∧ m ≤ 40 ∧ Below w.heap.size w w' := by
  have HL := hid hs.len
  cases hok : votesOk l with
  | false =>
    have HV := hid (show votedOut l = [] from by unfold votedOut; rw [hok]; rfl)
    have CK := hid (specVotesOk_any A n c l w w.heap.size hs)
    rw [hok] at CK
    clear hok
    go_enter Try.func29, Try.ntmps29
    go_wp2_with fail
    with_reducible refine Calls.mono CK.out ?_
    rintro e w' ⟨rfl, rfl⟩
    go_wp2
    go_ret
    exact ⟨_, 0, _, rfl, by rw [HV.out]; exact World.ownsRow_lit w #[] 0 (Nat.le_refl _) (by simp [maxLen]) rfl, by omega, (Below.refl _ _).alloc (Nat.le_refl _) _⟩
  | true =>
    have HV := hid (show votedOut l = voteL l from by unfold votedOut; rw [if_pos hok])
    obtain ⟨⟨h1, h2⟩, hb⟩ := votesOk_iff.1 hok
    rw [HL.out] at h1 h2
    have CK := hid (specVotesOk_any A n c l w w.heap.size hs)
    have CV := hid (l7Vote_any A n c l w hs h1 h2 hb)
    rw [hok] at CK
    clear hok
    go_enter Try.func29, Try.ntmps29
    go_wp2_with fail
    with_reducible refine Calls.mono CK.out ?_
    rintro e w' ⟨rfl, rfl⟩
    go_wp2_with fail
    with_reducible refine Calls.mono CV.out ?_
    rintro e w2 ⟨A2, c2, rfl, o2, b2⟩
    go_wp2
    go_ret
    exact ⟨A2, n, c2, rfl, by rw [HV.out]; exact o2, h2, b2⟩

set_option maxRecDepth 100000 in
set_option maxHeartbeats 3200000 in
theorem specVotedAfter_any (A : Option Addr) (n c : Nat) (l : List Int) (s : Int) (w : World) (hs : Sl w w.heap.size A n l) :
    Calls Try.prog 19 #[.slice A n c, .int .i64 s] w fun e w' => ∃ A2 m c2, e = .returned (.slice A2 m c2) ∧ w'.ownsRow w.heap.size 3 1 (.slice A2 m c2) m (ints (votedN l s)) ∧ m ≤ 40 ∧ Below w.heap.size w w' := by
  obtain ⟨i0, hi, hz0, hz1, hz2⟩ := info_parts info_int
  have HL := hid hs.len
  have CK := hid (specVotesOk_any A n c l w w.heap.size hs)
  cases hok : (votesOk l && within s 0 60) with
  | false =>
    have HV := hid (show votedN l s = [] from by unfold votedN; rw [hok]; rfl)
    cases h0 : votesOk l with
    | false =>
      rw [h0] at CK
      clear hok h0
      go_enter Try.func19, Try.ntmps19
      go_wp2_with fail
      with_reducible refine Calls.mono CK.out ?_
      rintro e w' ⟨rfl, rfl⟩
      go_wp2
      go_ret
      exact ⟨_, 0, _, rfl, by rw [HV.out]; exact World.ownsRow_lit w #[] 0 (Nat.le_refl _) (by simp [maxLen]) rfl, by omega, (Below.refl _ _).alloc (Nat.le_refl _) _⟩
    | true =>
      rw [h0, Bool.true_and] at hok
      rw [h0] at CK
      clear h0
      go_enter Try.func19, Try.ntmps19
      go_wp2_with fail
      with_reducible refine Calls.mono CK.out ?_
      rintro e w' ⟨rfl, rfl⟩
      go_wp2_with (go_at_call 41; refine (l1In_any _ _ _ _).mono ?_; rintro e w' ⟨rfl, rfl⟩)
      go_ret
      exact ⟨_, 0, _, rfl, by rw [HV.out]; exact World.ownsRow_lit w #[] 0 (Nat.le_refl _) (by simp [maxLen]) rfl, by omega, (Below.refl _ _).alloc (Nat.le_refl _) _⟩
  | true =>
    have hok2 : votesOk l = true ∧ within s 0 60 = true := by simpa using hok
    obtain ⟨h0, hws⟩ := hok2
    obtain ⟨⟨h1, h2⟩, hb⟩ := votesOk_iff.1 h0
    rw [HL.out] at h1 h2
    have hsb := within_iff.1 hws
    obtain ⟨S, rfl⟩ : ∃ S : Nat, s = S := Int.eq_ofNat_of_zero_le hsb.1
    have HV := hid (show votedN l S = voteN S l from by unfold votedN; rw [if_pos hok, Int.toNat_natCast])
    rw [h0] at CK
    have HB := hid (fun k => voteN_bits hb k)
    have ho0 : (w.alloc (.cells #[] 3)).ownsRow w.heap.size 3 1 (.slice (some ⟨w.heap.size, 0, none⟩) 0 0) 0 (ints []) := World.ownsRow_lit w #[] 0 (Nat.le_refl _) (by simp [maxLen]) rfl
    have hb0 : Below w.heap.size w (w.alloc (.cells #[] 3)) := (Below.refl _ _).alloc (Nat.le_refl _) _
    have hs1 := hs.on hb0
    obtain ⟨bl, off, rfl, hbl, hc⟩ := hs.2.2 (by omega)
    clear hok h0 hb hc
    go_enter Try.func19, Try.ntmps19
    go_wp2_with fail
    with_reducible refine Calls.mono CK.out ?_
    rintro e w' ⟨rfl, rfl⟩
    go_wp2_with (first
      | (go_at_call 41; refine (l1In_any _ _ _ _).mono ?_; rintro e w' ⟨rfl, rfl⟩)
      | (at_builtin; refine wpList_append_own _ rfl _ _ 23 rfl w.heap.size 3 i0 (.int .i64 0) 1 8 Try.underlying23 hi hz0 hz1 hz2 rfl (by decide) (.slice (some ⟨w.heap.size, 0, none⟩) 0 0) _ _ rfl ho0 ⟨bl, off, none⟩ n c (ints l) rfl (by rw [List.length_map, HL.out, Nat.mul_one]) hs1.cellsAt (ints_one l) (by simp only [maxLen]; omega) (by omega) hb0.size ?_; intro v2 w2 o2 g2 _))
    obtain ⟨g, c2, rfl, hbg, hlt2⟩ := own_shape1 o2 (by omega)
    have hb1 := hb0.grown g2 hb0.size (by intro j hj; simp [Value.ownBlock] at hj; omega)
    rw [show ints [] ++ ints l = ints (voteN 0 l) from rfl] at o2
    simp only [Nat.zero_add] at o2
    clear hb0 hs1 ho0 g2 hs CK
    simp only [Nat.zero_add]
    have HB1 := hid hb1
    clear hb1
    go_loopw [5, 6] (fun v i wr => ∃ (A1 : Option Addr) (c1 k : Nat), v = .slice A1 n c1 ∧ i = .int .i64 k ∧ k ≤ S ∧ wr.ownsRow w.heap.size 3 1 (.slice A1 n c1) n (ints (voteN k l)) ∧ Hid (Below w.heap.size w wr)) (fun _ i _ => S - (intOf i).toNat)
    case atStart => exact ⟨_, _, 0, rfl, rfl, Nat.zero_le _, o2, HB1⟩
    case round =>
      clear o2 HB1
      obtain ⟨A1, c1, k, rfl, rfl, hk, o2, HB1⟩ := hrel
      by_cases hlt : k < S
      · have hlti : (k : Int) < (S : Int) := by omega
        have CV := hid (l7Vote_any A1 n c1 (voteN k l) wr (Sl.of_own o2) h1 h2 (HB.out k))
        rw [← voteN_succ] at CV
        clear o2
        go_wp2_with fail
        with_reducible refine Calls.mono CV.out ?_
        rintro e w3 ⟨A3, c3, rfl, o3, b3⟩
        have O3 := hid (own_mono o3 HB1.out.size)
        replace HB1 := hid (HB1.out.trans (b3.mono HB1.out.size))
        clear o3 b3
        go_wp2
        go_roundw
        case rel => exact ⟨A3, c3, k + 1, rfl, by go_num, by omega, O3.out, HB1⟩
        case measure => simp [intOf]; omega
      · obtain rfl : k = S := by omega
        rw [← HV.out] at o2
        have O2 := hid o2
        clear o2
        go_wp2
        go_ret
        exact ⟨A1, n, c1, rfl, O2.out, h2, HB1.out⟩
end Go.Proofs.Ytfmlekcdjjkolaa
