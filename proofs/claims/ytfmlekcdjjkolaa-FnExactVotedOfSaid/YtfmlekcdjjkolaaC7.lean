/-
  Walks of the model's votes: VotesOk, l7Vote, VotedOf, VotedAfter. No statement is proved here.
-/
import Derived.Test.YtfmlekcdjjkolaaC1
import Derived.Test.YtfmlekcdjjkolaaS7
import Derived.Test.YtfmlekcdjjkolaaEx0
import Derived.OwnWalk
import Derived.Lib.MinMax
import Derived.IntWalk
namespace Go.Proofs.Ytfmlekcdjjkolaa
open Go.RowKit
set_option linter.unusedVariables false
set_option linter.unusedSimpArgs false

/-- What VotesOk tells. -/
def votesOk (l : List Int) : Bool := cellsOk l 2
theorem votesOk_iff {l : List Int} : votesOk l = true ↔ (1 ≤ l.length ∧ l.length ≤ 40) ∧ bitsL l := by
  simp only [votesOk, cellsOk, within, allIn, bitsL, Bool.and_eq_true, decide_eq_true_eq, List.all_eq_true]
  constructor
  · rintro ⟨_, h1, h2, h3⟩; exact ⟨⟨h1, h2⟩, fun x hx => by have := h3 x hx; omega⟩
  · rintro ⟨⟨h1, h2⟩, h3⟩; exact ⟨by omega, h1, h2, fun x hx => by have := h3 x hx; omega⟩

set_option maxHeartbeats 800000 in
theorem specVotesOk_any (A : Option Addr) (n c : Nat) (l : List Int) (w : World) (B : Nat) (hs : Sl w B A n l) :
    Calls Try.prog 14 #[.slice A n c] w fun e w' => e = .returned (.bool (votesOk l)) ∧ w = w' := by
  go_enter Try.func14, Try.ntmps14
  go_wp2_with (go_at_call 35; refine (specCellsOk_any _ _ _ l 2 _ _ hs (by omega)).mono ?_; rintro e w' ⟨rfl, rfl⟩)
  go_ret
  exact ⟨rfl, rfl⟩

theorem drewN_g7 (w : World) (m : Nat) : w.grownBy (w.drewN m) none := ⟨rfl, rfl, rfl, Nat.le_refl _, fun _ _ _ => rfl⟩
theorem vote_take {l : List Int} {k : Nat} (h : k < l.length) : (voteL l).take (k + 1) = (voteL l).take k ++ [voteAt l k] := by
  rw [take_nth (by rw [voteL_len]; exact h), nth_vote h]

set_option maxRecDepth 100000 in
set_option maxHeartbeats 3200000 in
theorem l7Vote_any (A : Option Addr) (n c : Nat) (l : List Int) (w : World) (hs : Sl w w.heap.size A n l) (h1 : 1 ≤ n) (hn : n ≤ 40) (hb : bitsL l) :
    Calls Try.prog 42 #[.slice A n c] w fun e w' => ∃ A2 c2, e = .returned (.slice A2 n c2) ∧ w'.ownsRow w.heap.size 3 1 (.slice A2 n c2) n (ints (voteL l)) ∧ Below w.heap.size w w' := by
  obtain ⟨i0, hi, hz0, hz1, hz2⟩ := info_parts info_int
  have ho0 : (w.alloc (.cells #[] 3)).ownsRow w.heap.size 3 1 (.slice (some ⟨w.heap.size, 0, none⟩) 0 0) 0 (ints []) := World.ownsRow_lit w #[] 0 (Nat.le_refl _) (by simp [maxLen]) rfl
  have hb0 : Below w.heap.size w (w.alloc (.cells #[] 3)) := (Below.refl _ _).alloc (Nat.le_refl _) _
  have HL := hid hs.len
  have HX := hid (fun k => bits_nth hb k)
  go_enter Try.func42, Try.ntmps42
  go_wp2
  go_loopw [3, 4] (fun v i wr => ∃ (A1 : Option Addr) (c1 k : Nat), v = .slice A1 k c1 ∧ i = .int .i64 k ∧ k ≤ n ∧ wr.ownsRow w.heap.size 3 1 (.slice A1 k c1) k (ints ((voteL l).take k)) ∧ Hid (Below w.heap.size w wr)) (fun _ i _ => n - (intOf i).toNat)
  case atStart => exact ⟨_, _, 0, rfl, rfl, Nat.zero_le _, ho0, hid hb0⟩
  case round =>
    clear ho0 hb0
    obtain ⟨A1, c1, k, rfl, rfl, hk, ho, HB⟩ := hrel
    by_cases hlt : k < n
    · obtain ⟨b, off, rfl, _, hc⟩ := (hs.below HB.out).2.2 (by omega)
      have x0 := hc k hlt
      have x1 := hc (k - 1) (by omega)
      have x2 := hc (min (k + 1) (n - 1)) (by omega)
      have b0 := HX.out k
      have b1 := HX.out (k - 1)
      have b2 := HX.out (min (k + 1) (n - 1))
      have HT := hid (vote_take (l := l) (k := k) (by rw [HL.out]; exact hlt))
      have HV := hid (show voteAt l k = (nth l k + nth l (k - 1) + nth l (min (k + 1) (n - 1))) / 2 from by unfold voteAt; rw [HL.out])
      obtain ⟨x, hx⟩ : ∃ x, nth l k = x := ⟨_, rfl⟩
      obtain ⟨y, hy⟩ : ∃ y, nth l (k - 1) = y := ⟨_, rfl⟩
      obtain ⟨z, hz⟩ : ∃ z, nth l (min (k + 1) (n - 1)) = z := ⟨_, rfl⟩
      rw [hx] at x0 b0 HV
      rw [hy] at x1 b1 HV
      rw [hz] at x2 b2 HV
      clear hx hy hz hc
      have hlti : (k : Int) < (n : Int) := by omega
      obtain ⟨p, hp⟩ : ∃ p, k - 1 = p := ⟨_, rfl⟩
      obtain ⟨q, hq⟩ : ∃ q, min (k + 1) (n - 1) = q := ⟨_, rfl⟩
      have p1 : max ((k : Int) - 1) 0 = (p : Int) := by omega
      have p2 : min ((k : Int) + 1) ((n : Int) - 1) = (q : Int) := by omega
      have w1 : IntKind.i64.wrap ((k : Int) - 1) = (k : Int) - 1 := IntWalk.i64_in _ (by omega)
      have w2 : IntKind.i64.wrap ((k : Int) + 1) = (k : Int) + 1 := IntWalk.i64_in _ (by omega)
      have w3 : IntKind.i64.wrap ((n : Int) - 1) = (n : Int) - 1 := IntWalk.i64_in _ (by omega)
      have w4 : IntKind.i64.wrap (x + y) = x + y := IntWalk.i64_in _ (by omega)
      have w5 : IntKind.i64.wrap (x + y + z) = x + y + z := IntWalk.i64_in _ (by omega)
      have w6 : (0 : Int) ≤ x + y + z ∧ x + y + z ≤ 3 := by omega
      have p3 : (p : Int) < (n : Int) := by omega
      have p4 : (q : Int) < (n : Int) := by omega
      rw [hp] at x1
      rw [hq] at x2
      clear hp hq
      go_wp2_with fail
      go_quiet (fail)
      have hod := own_kept_none ho (drewN_g7 wr nq)
      have hbd := below_drewN HB.out nq
      have hzd : (wr.drewN nq).heap.size = wr.heap.size := rfl
      have hzz := HB.out.size
      have hv := own_blk ho
      go_wp2_with (at_builtin; refine wpList_append_own _ rfl (.tmp 34) (.tmp 37) 23 rfl w.heap.size 3 i0 (.int .i64 0) 1 8 Try.underlying23 hi hz0 hz1 hz2 rfl (by decide) (.slice A1 k c1) _ _ rfl (hod.alloc _) ⟨wr.heap.size, 0, none⟩ 1 1 [.int .i64 ((x + y + z) / 2)] rfl rfl (cell_one_new (wr.drewN nq) _ _) (by simp [Value.oneCell']) (by simp only [maxLen]; omega) (by omega) (by simp; omega) ?_; intro v2 w2 hown2 hgrow2 _)
      obtain ⟨A2, c2, rfl, o2, b2⟩ := pushedB hbd (Nat.le_refl _) (by omega) hv hown2 hgrow2
      rw [← HV.out, ← HT.out] at o2
      have O2 := hid o2
      have B2 := hid b2
      clear hown2 hgrow2 hod hbd ho o2 b2 HB
      go_wp2
      go_roundw
      case rel => exact ⟨A2, c2, k + 1, rfl, by go_num, by omega, O2.out, B2⟩
      case measure => simp [intOf]; omega
    · obtain rfl : k = n := by omega
      rw [List.take_of_length_le (by rw [voteL_len, HL.out]; omega)] at ho
      have HO := hid ho
      clear ho
      go_wp2
      go_ret
      exact ⟨A1, c1, rfl, HO.out, HB.out⟩
end Go.Proofs.Ytfmlekcdjjkolaa
