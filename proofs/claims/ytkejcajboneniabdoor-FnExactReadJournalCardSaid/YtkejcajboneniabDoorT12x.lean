/-
  The walks of the exact laws' helpers for deeds. No statement is proved here.
-/
import Derived.Test.YtkejcajboneniabDoorT12f
namespace Go.Proofs.YtkejcajboneniabDoor
open Go.RowKit
set_option linter.unusedVariables false
set_option linter.unusedSimpArgs false

theorem results_bb {P : Program} {fn : Func} {p : Tmp} {ty : TypeId} (h : fn.results = #[.cell p ty]) (tmps : Array Value) (w : World) (g : Nat) (t : TypeId) (cs : Array Value) (fr : Nat × Nat) (d : TypeDesc)
    (hp : tmps.getD p undef = .pointer (some ⟨g, 0, none⟩)) (hg : w.heap[g]? = some (.cells cs t fr))
    (hu : P.underlying ty = some d) (hd : (match d with | .struct _ | .array _ _ => true | _ => false) = true) (hi : (P.info? ty).map (·.size) = some cs.size) :
    (results fn tmps).run P w = .ok (.agg cs) w := by
  have hp' : tmps[p]?.getD undef = .pointer (some ⟨g, 0, none⟩) := by simpa using hp
  simp [results, h, hp', asAddr, run_loadVar_row w g t ty cs fr d hg hu hd hi]

set_option maxHeartbeats 800000 in
theorem toDeed_any (a b : Int) (w : World) :
    Calls Tryd.prog 28 #[deed a b] w fun e w' => e = .returned (deed a b) ∧ Below w.heap.size w w' := by
  go_enter Tryd.func28, Tryd.ntmps28
  go_wp2
  have h1 := heap_alloc_new (w.alloc (.cells #[.int .i64 a, .int .i64 b] 59)) (.cells #[.int .i64 a, .int .i64 b] 42)
  rw [show (w.alloc (.cells #[.int .i64 a, .int .i64 b] 59)).heap.size = w.heap.size + 1 by simp] at h1
  have h2 := (Below.heap_alloc ((w.alloc (.cells #[.int .i64 a, .int .i64 b] 59)).alloc (.cells #[.int .i64 a, .int .i64 b] 42)) (.cells #[.int .i64 a, .int .i64 b] 42) (w.heap.size + 1) (by simp)).trans h1
  refine bodyPost_ret (results_bb rfl _ _ (w.heap.size + 1) _ _ _ _ rfl h2 Tryd.underlying42 rfl (by kernel_rfl)) rfl ?_
  exact ⟨rfl, (((Below.refl w.heap.size w).alloc (Nat.le_refl _) _).alloc (by simp) _).alloc (by simp; omega) _⟩

set_option maxHeartbeats 800000 in
theorem eqDeed_any (a b : Int × Int) (w : World) :
    Calls Tryd.prog 29 #[deed a.1 a.2, deed b.1 b.2] w fun e w' => e = .returned (.bool (decide (a = b))) ∧ Below w.heap.size w w' := by
  have HV := hid (show decide (a = b) = (decide (a.1 = b.1) && decide (a.2 = b.2)) from by rw [Bool.eq_iff_iff]; simp [Prod.ext_iff])
  by_cases h1 : a.1 = b.1
  · by_cases h2 : a.2 = b.2
    · have hq1 : (a.1 == b.1) = true := by simp [h1]
      have hq2 : (a.2 == b.2) = true := by simp [h2]
      go_enter Tryd.func29, Tryd.ntmps29
      go_wp2
      go_ret
      exact ⟨by rw [HV.out]; simp [h1, h2], ((Below.refl w.heap.size w).alloc (Nat.le_refl _) _).alloc (by simp) _⟩
    · have hq1 : (a.1 == b.1) = true := by simp [h1]
      have hq2 : (a.2 == b.2) = false := by simp [h2]
      go_enter Tryd.func29, Tryd.ntmps29
      go_wp2
      go_ret
      exact ⟨by rw [HV.out]; simp [h1, h2], ((Below.refl w.heap.size w).alloc (Nat.le_refl _) _).alloc (by simp) _⟩
  · have hq1 : (a.1 == b.1) = false := by simp [h1]
    go_enter Tryd.func29, Tryd.ntmps29
    go_wp2
    go_ret
    exact ⟨by rw [HV.out]; simp [h1], ((Below.refl w.heap.size w).alloc (Nat.le_refl _) _).alloc (by simp) _⟩
end Go.Proofs.YtkejcajboneniabDoor
