/-
  Walks of the model's votes: VotedOf, VotedAfter. No statement is proved here.
-/
import Derived.Test.YtfmlekcdjjkolaaDoorC7
namespace Go.Proofs.YtfmlekcdjjkolaaDoor
open Go.RowKit
set_option linter.unusedVariables false
set_option linter.unusedSimpArgs false

/-- What VotedOf gives. -/
def votedOut (l : List Int) : List Int := if votesOk l = true then voteL l else []
/-- What VotedAfter gives. -/
def votedN (l : List Int) (s : Int) : List Int := if (votesOk l && within s 0 60) = true then voteN s.toNat l else []

set_option maxRecDepth 100000 in
set_option maxHeartbeats 3200000 in
theorem specVotedOf_any (A : Option Addr) (n c : Nat) (l : List Int) (w : World) (hs : Sl w w.heap.size A n l) :
    Calls Tryd.prog 9 #[.slice A n c] w fun e w' => ∃ A2 m c2, e = .returned (.slice A2 m c2) ∧ w'.ownsRow w.heap.size 3 1 (.slice A2 m c2) m (ints (votedOut l)) ∧ m ≤ 40 ∧ Below w.heap.size w w' := by
  have HL := hid hs.len
  cases hok : votesOk l with
  | false =>
    have HV := hid (show votedOut l = [] from by unfold votedOut; rw [hok]; rfl)
    have CK := hid (specVotesOk_any A n c l w w.heap.size hs)
    rw [hok] at CK
    clear hok
    go_enter Tryd.func9, Tryd.ntmps9
    go_wp2_with fail
    with_reducible refine Calls.mono CK.out ?_
    rintro e w' ⟨rfl, rfl⟩
    go_wp2
    go_ret
    exact ⟨_, 0, _, rfl, by rw [HV.out]; exact World.ownsRow_lit w #[] 0 (Nat.le_refl _) (by simp [maxLen]) rfl, by omega, (Below.refl _ _).alloc (Nat.le_refl _) _⟩
  | true =>
    have HV := hid (show votedOut l = voteL l from by unfold votedOut; rw [if_pos hok])
    obtain ⟨⟨h1, h2⟩, hb⟩ := votesOk_iff.1 hok
    rw [HL.out] at h1 h2
    have CK := hid (specVotesOk_any A n c l w w.heap.size hs)
    have CV := hid (l7Vote_any A n c l w hs h1 h2 hb)
    rw [hok] at CK
    clear hok
    go_enter Tryd.func9, Tryd.ntmps9
    go_wp2_with fail
    with_reducible refine Calls.mono CK.out ?_
    rintro e w' ⟨rfl, rfl⟩
    go_wp2_with fail
    with_reducible refine Calls.mono CV.out ?_
    rintro e w2 ⟨A2, c2, rfl, o2, b2⟩
    go_wp2
    go_ret
    exact ⟨A2, n, c2, rfl, by rw [HV.out]; exact o2, h2, b2⟩

end Go.Proofs.YtfmlekcdjjkolaaDoor
