/-
  The walk of laws.FnExactRuleOk. No statement is proved here.
-/
import Derived.Test.YtnegbebfofcakaaC1b
import Derived.Test.YtnegbebfofcakaaEx
namespace Go.Proofs.Ytnegbebfofcakaa
open Go.RowKit
set_option linter.unusedVariables false
set_option linter.unusedSimpArgs false

set_option maxHeartbeats 800000 in
theorem fnExactRuleOk_walk (A : Option Addr) (n c : Nat) (l : List Int) (s : Int) (w : World) (hs : Sl w w.heap.size A n l) (hw : (Lit.int .i64 s).wf = true) :
    Calls Try.prog 6 #[.slice A n c, .int .i64 s] w fun e w' => e = .returned (.bool true) ∧ Below w.heap.size w w' := by
  by_cases hbig : 1048576 < n
  · go_enter Try.func6, Try.ntmps6
    go_wp2
    go_ret
    exact ⟨rfl, Below.refl _ _⟩
  · go_enter Try.func6, Try.ntmps6
    go_wp2_with fail
    refine (toIntS_any A n c l _ hs (by omega)).mono ?_
    rintro e w1 ⟨g1, rfl, ho1, hb1⟩
    have s1 := Sl.of_own ho1
    go_wp2_with fail
    refine (specRuleOk_any _ _ _ l s _ _ s1).mono ?_
    rintro e w1' ⟨rfl, rfl⟩
    have h1 := hs.on hb1
    go_wp2_with fail
    refine (toIntS_any A n c l _ h1 (by omega)).mono ?_
    rintro e w2 ⟨g2, rfl, ho2, hb2⟩
    have s2 := Sl.of_own ho2
    have h2 := h1.on hb2
    go_wp2_with fail
    refine (ruleOk_any _ _ _ l s _ _ s2).mono ?_
    rintro e w2' ⟨rfl, rfl⟩
    have en : (ruleOk l s != ruleOk l s) = false := by simp
    go_wp2_with fail
    refine (toIntS_any A n c l _ h2 (by omega)).mono ?_
    rintro e w3 ⟨g3, rfl, ho3, hb3⟩
    have s3 := Sl.of_own ho3
    have s2' := s2.on hb3
    go_wp2_with fail
    refine (eqIntS_any _ _ _ _ _ _ l l _ _ _ s2' s3).mono ?_
    rintro e w4 ⟨rfl, m, rfl⟩
    have el : decide (l = l) = true := by simp
    go_wp2
    go_ret
    exact ⟨rfl, below_drewN (below_tr hb1 (below_tr hb2 hb3)) _⟩
end Go.Proofs.Ytnegbebfofcakaa
