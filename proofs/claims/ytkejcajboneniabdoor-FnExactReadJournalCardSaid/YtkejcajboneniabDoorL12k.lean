/-
  The walk of laws.FnExactReadJournal. No statement is proved here.
-/
import Derived.Test.YtkejcajboneniabDoorT12y
import Derived.Test.YtkejcajboneniabDoorT12i
namespace Go.Proofs.YtkejcajboneniabDoor
open Go.RowKit
set_option linter.unusedVariables false
set_option linter.unusedSimpArgs false

set_option maxRecDepth 100000 in
set_option maxHeartbeats 3200000 in
theorem fnExactReadJournal_walk (s : List UInt8) (w : World) (hm : s.length ≤ maxLen) (hT : TabsL w) :
    Calls Tryd.prog 5 #[encStr s] w fun e w' => e = .returned (.bool true) ∧ Below w.heap.size w w' := by
  have hsz : (⟨s.toArray⟩ : ByteArray).size = s.length := by show s.toArray.size = _; simp
  by_cases hbig : 1048576 < s.length
  · have hbi : (1048576 : Int) < (s.length : Int) := by omega
    go_enter Tryd.func5, Tryd.ntmps5
    go_wp2
    go_ret
    exact ⟨rfl, Below.refl _ _⟩
  have hbi : ¬ (1048576 : Int) < (s.length : Int) := by omega
  have CS := hid (fun W => specReadJournal_any s (by omega) W)
  have CI := hid (fun (W : World) (hW : Below w.heap.size w W) => implReadJournal_any s (by omega) W (hT.below hW))
  have hjl := jgo_len s s.length
  obtain ⟨l, hl⟩ : ∃ l, (jOut s).1 = l := ⟨_, rfl⟩
  obtain ⟨f, hf⟩ : ∃ f, (jOut s).2 = f := ⟨_, rfl⟩
  rw [show (jgo s s.length).1 = l from hl] at hjl
  rw [hl, hf] at CS CI
  clear hl hf
  have hff : ((f : Int) != (f : Int)) = false := by simp
  go_enter Tryd.func5, Tryd.ntmps5
  go_wp2_with fail
  with_reducible refine Calls.mono (CS.out _) ?_
  rintro e w1 ⟨AW, mW, cW, rfl, oW, b1⟩
  go_wp2_with fail
  with_reducible refine Calls.mono (CI.out _ b1) ?_
  rintro e w2 ⟨AG, mG, cG, rfl, oG, b2⟩
  have oW2 := own_on2 oW b2
  have b02 := below_tr b1 b2
  go_wp2_with fail
  refine (eqDeedS_any _ _ _ _ _ _ l _ (SlD.of_own oG) (SlD.of_own oW2)).mono ?_
  rintro e w3 ⟨rfl, b3⟩
  have oW3 := own_on2 oW2 b3
  have oG3 := own_on2 oG b3
  have b03 := below_tr b02 b3
  obtain rfl : mG = l.length := (SlD.of_own oG).len.symm
  have hWlt : ∀ k, (Value.slice AW mW cW).ownBlock = some k → k < w1.heap.size := fun k hk => (oW.lt k hk).2
  have hGlo : ∀ k, (Value.slice AG l.length cG).ownBlock = some k → w1.heap.size ≤ k := fun k hk => (oG.lt k hk).1
  have hz1 : w.heap.size ≤ w1.heap.size := b1.size
  have hz13 : w1.heap.size ≤ w3.heap.size := Nat.le_trans b2.size b3.size
  have CM := hid (markDeedS_any AG l.length cG w1.heap.size l 1 w3 oG3 (by omega) (by omega) hz13)
  obtain ⟨M, hM⟩ : ∃ M : Int, (1 : Int) + (l.length : Int) * 2 = M := ⟨_, rfl⟩
  rw [hM] at CM
  have hMM : (M != M) = false := by simp
  have hM0 : ¬ M < 0 := by omega
  go_wp2_with fail
  with_reducible refine Calls.mono CM.out ?_
  rintro e w4 ⟨rfl, oM, g4⟩
  have hne : (Value.slice AW mW cW).ownBlock = none ∨ (Value.slice AW mW cW).ownBlock ≠ (Value.slice AG l.length cG).ownBlock := by
    rcases h1 : (Value.slice AW mW cW).ownBlock with _ | k
    · exact .inl rfl
    · refine .inr (fun h => ?_)
      have := hWlt k h1
      have := hGlo k h.symm
      omega
  have oW4 := oW3.kept g4 hne
  have b04 : Below w.heap.size w w4 := b03.grown g4 (Nat.le_trans hz1 hz13) (fun k hk => Nat.le_trans hz1 (hGlo k hk))
  have CH := hid (fun (W : World) (h : W.ownsRow w1.heap.size 42 2 (.slice AG l.length cG) l.length (ints (marks 1 (l.length * 2)))) => heldDeedS_any AG l.length cG w1.heap.size 1 W h (by omega) (by omega))
  rw [hM] at CH
  clear hM
  go_wp2_with fail
  with_reducible refine Calls.mono (CH.out _ oM) ?_
  rintro e w' ⟨rfl, rfl⟩
  go_wp2_with fail
  with_reducible refine Calls.mono (CI.out _ b04) ?_
  rintro e w5 ⟨AH, mH, cH, rfl, oH, b5⟩
  have oW5 := own_on2 oW4 b5
  have oM5 := own_on2 oM b5
  have b05 := below_tr b04 b5
  go_wp2_with fail
  refine (eqDeedS_any _ _ _ _ _ _ l _ (SlD.of_own oH) (SlD.of_own oW5)).mono ?_
  rintro e w6 ⟨rfl, b6⟩
  have oM6 := own_on2 oM5 b6
  go_wp2_with fail
  with_reducible refine Calls.mono (CH.out _ oM6) ?_
  rintro e w' ⟨rfl, rfl⟩
  go_wp2
  go_ret
  exact ⟨rfl, below_tr b05 b6⟩
end Go.Proofs.YtkejcajboneniabDoor
