/-
  The walk of laws.FnExactToldAfter, written by program (exact.py). No statement is proved here.
-/
import Derived.Test.YtannfeiogocpeaaDoorC4t
import Derived.Test.YtannfeiogocpeaaDoorC4j
import Derived.Test.YtannfeiogocpeaaDoorExE
import Derived.Test.YtannfeiogocpeaaDoorExM
import Derived.Test.YtannfeiogocpeaaDoorTab
namespace Go.Proofs.YtannfeiogocpeaaDoor
open Go.RowKit
set_option linter.unusedVariables false
set_option linter.unusedSimpArgs false

set_option maxHeartbeats 1600000 in
theorem fnExactToldAfter_walk (s0 : Int) (s1 : Int) (w : World) (hw0 : (Lit.int .i64 s0).wf = true) (hw1 : (Lit.int .i64 s1).wf = true) (hT : Tabs2 w) :
    Calls Tryd.prog 5 #[.int .i64 s0, .int .i64 s1] w fun e w' => e = .returned (.bool true) ∧ Below w.heap.size w w' := by
  go_enter Tryd.func5, Tryd.ntmps5
  have hb0 : Below w.heap.size w w := Below.refl _ _
  go_wp2_with fail
  refine (specToldAfter_any s0 s1 _  hw0 hw1 ).mono ?_
  rintro e w1 ⟨AW, nW, cW, rfl, oW, hnW, st1⟩
  have z1 := st1.size
  have hb1 := below_tr hb0 st1
  have rloW := own_lo oW
  have rhiW := own_hi oW
  go_wp2_with fail
  refine (implToldAfter_any s0 s1 _  hw0 hw1 (hT.below hb1)).mono ?_
  rintro e w2 ⟨AG, nG, cG, rfl, oG, hnG, st2⟩
  have z2 := st2.size
  have oW := own_on oW st2
  have hb2 := below_tr hb1 st2
  have rloG := own_lo oG
  have rhiG := own_hi oG
  go_wp2_with fail
  refine (eqIntS_b _ _ _ _ _ _ _ _ _ _ _ (Sl.of_own oG) (Sl.of_own oW)).mono ?_
  rintro e w3 ⟨rfl, st3⟩
  rw [decide_eq_true rfl]
  have z3 := st3.size
  have oW := own_on oW st3
  have oG := own_on oG st3
  have hb3 := below_tr hb2 st3
  go_wp2_with fail
  refine (markIntS_any _ _ _ _ _ _ _ oG (by omega) (by omega) (by omega)).mono ?_
  rintro e w4 ⟨rfl, oG, gr4⟩
  have z4 := gr4.size
  have oW := oW.kept gr4 (own_apart rloW rhiW rloG rhiG (by omega))
  have hb4 := hb3.grown gr4 (by omega) (by intro j hj; have := rloG j hj; omega)
  go_wp2_with fail
  refine (heldIntS_any _ _ _ _ _ _ (Sl.of_own oG) (by omega) (by omega)).mono ?_
  rintro e w' ⟨rfl, rfl⟩
  go_wp2_with fail
  refine (implToldAfter_any s0 s1 _  hw0 hw1 (hT.below hb4)).mono ?_
  rintro e w5 ⟨AH, nH, cH, rfl, oH, hnH, st5⟩
  have z5 := st5.size
  have oW := own_on oW st5
  have oG := own_on oG st5
  have hb5 := below_tr hb4 st5
  have rloH := own_lo oH
  have rhiH := own_hi oH
  go_wp2_with fail
  refine (eqIntS_b _ _ _ _ _ _ _ _ _ _ _ (Sl.of_own oH) (Sl.of_own oW)).mono ?_
  rintro e w6 ⟨rfl, st6⟩
  rw [decide_eq_true rfl]
  have z6 := st6.size
  have oW := own_on oW st6
  have oG := own_on oG st6
  have oH := own_on oH st6
  have hb6 := below_tr hb5 st6
  go_wp2_with fail
  refine (heldIntS_any _ _ _ _ _ _ (Sl.of_own oG) (by omega) (by omega)).mono ?_
  rintro e w' ⟨rfl, rfl⟩
  go_wp2
  go_ret
  exact ⟨rfl, hb6⟩
end Go.Proofs.YtannfeiogocpeaaDoor
