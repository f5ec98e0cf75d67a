/-
  The walk of laws.FnExactJournalText. No statement is proved here.
-/
import Derived.Test.YtkejcajboneniabDoorT12y
import Derived.Test.YtkejcajboneniabDoorT12i
namespace Go.Proofs.YtkejcajboneniabDoor
open Go.RowKit
set_option linter.unusedVariables false
set_option linter.unusedSimpArgs false

set_option maxRecDepth 100000 in
set_option maxHeartbeats 1600000 in
theorem fnExactJournalText_walk (A : Option Addr) (n c : Nat) (l : List (Int × Int)) (w : World) (hs : SlD w w.heap.size A n l) (hT : TabsD w) :
    Calls Tryd.prog 4 #[.slice A n c] w fun e w' => e = .returned (.bool true) ∧ Below w.heap.size w w' := by
  have CZ := hid (szDeedS_any A n c 1048576 w hs.max (by omega) (by omega))
  by_cases hbig : (1048576 : Int) - n < 0
  · rw [if_pos hbig] at CZ
    go_enter Tryd.func4, Tryd.ntmps4
    go_wp2_with fail
    with_reducible refine Calls.mono CZ.out ?_
    rintro e w' ⟨rfl, rfl⟩
    go_wp2
    go_ret
    exact ⟨rfl, Below.refl _ _⟩
  rw [if_neg hbig] at CZ
  have hn : n ≤ 1048576 := by omega
  have CT := hid (fun (W : World) (hb : Below w.heap.size w W) => toDeedS_any A n c l W (hs.on hb) (by omega))
  have CS := hid (fun (A2 : Option Addr) (c2 : Nat) (W : World) (h : SlD W W.heap.size A2 n l) => specJournalText_any A2 n c2 l W h (by omega))
  have CI := hid (fun (A2 : Option Addr) (c2 : Nat) (W : World) (hW : Below w.heap.size w W) (h : SlD W W.heap.size A2 n l) => implJournalText_any A2 n c2 l W h (by omega) (hT.below hW))
  obtain ⟨v, hv⟩ : ∃ v, journalOut l = v := ⟨_, rfl⟩
  rw [hv] at CS CI
  clear hv
  go_enter Tryd.func4, Tryd.ntmps4
  go_wp2_with fail
  with_reducible refine Calls.mono CZ.out ?_
  rintro e w' ⟨rfl, rfl⟩
  go_wp2_with fail
  with_reducible refine Calls.mono (CT.out _ (Below.refl _ _)) ?_
  rintro e w1 ⟨gC, rfl, oC, b1⟩
  go_wp2_with fail
  with_reducible refine Calls.mono (CS.out _ _ _ (SlD.of_own oC)) ?_
  rintro e w2 ⟨rfl, b2⟩
  have b02 := below_tr b1 b2
  go_wp2_with fail
  with_reducible refine Calls.mono (CT.out _ b02) ?_
  rintro e w3 ⟨gX, rfl, oX, b3⟩
  have b03 := below_tr b02 b3
  go_wp2_with fail
  with_reducible refine Calls.mono (CI.out _ _ _ b03 (SlD.of_own oX)) ?_
  rintro e w4 ⟨rfl, b4⟩
  have oX4 := own_on2 oX b4
  have b04 := below_tr b03 b4
  go_wp2_with fail
  with_reducible refine Calls.mono (CT.out _ b04) ?_
  rintro e w5 ⟨gD, rfl, oD, b5⟩
  have oX5 := own_on2 oX4 b5
  have b05 := below_tr b04 b5
  go_wp2_with fail
  refine (eqDeedS_any _ _ _ _ _ _ l _ (SlD.of_own oX5) (SlD.of_own oD)).mono ?_
  rintro e w6 ⟨rfl, b6⟩
  go_wp2
  go_ret
  exact ⟨rfl, below_tr b05 b6⟩
end Go.Proofs.YtkejcajboneniabDoor
