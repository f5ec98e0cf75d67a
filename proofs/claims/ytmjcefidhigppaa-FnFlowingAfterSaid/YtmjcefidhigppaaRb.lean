/-
  The statement 'for x := range seq { .. }' at the wide fence, as in Rg, its rounds left by 'break' as well. No function is named, and no statement is proved here.
-/
import Derived.RangeFuncNested
import Derived.RangeFuncBound
import Derived.RangeFuncCalls
import Derived.RangeFuncLeaves
import Derived.Shelf.Abstract
import Derived.Shelf.RegionOpen
import Derived.WalkKit
import Derived.OwnWalkIn
import Derived.TacticsInMore
import Derived.LoopNIn
import Derived.LoopIn
import Derived.RangeFuncBox
import Derived.Test.YtmjcefidhigppaaMem
namespace Go.Proofs.Ytmjcefidhigppaa
open Go.RowKit
set_option linter.unusedVariables false
set_option linter.unusedSimpArgs false

theorem boxed_putX {W : World} {B l : Nat} {t : TypeId} {v : Value} (h : Boxed W B t v) (o : Obj) (hne : B ≠ l) : Boxed (W.putObj l o) B t v := (World.putObj_heap_other hne).trans h
theorem below_putX {W W' : World} {B l : Nat} (h : Below B W W') (o : Obj) (hl : B ≤ l) (hB : B ≤ W'.heap.size) : Below B W (W'.putObj l o) := h.grown (grownBy_putObj' W' l o) hB (by intro k hk; cases hk; exact hl)

/-- How a round's body may be left: off its end; by 'return'; by 'break' (of the loop, or of one around it). The loop's record is busy there. -/
def roundEndX (l : Nat) (rc : LoopState → Option Code → Loop) (R : Ending → World → Prop) : Exit → Act → World → Prop
  | .normal, _, w3 => w3.heap[l]? = some (.loop (rc .busy none)) ∧ R (.returned (.bool true)) (w3.putObj l (.loop (rc .ready none)))
  | .ret, _, w3 => w3.heap[l]? = some (.loop (rc .busy none)) ∧ R (.returned (.bool false)) (w3.putObj l (.loop (rc .done (some .ret))))
  | .exit id, _, w3 => w3.heap[l]? = some (.loop (rc .busy none)) ∧ R (.returned (.bool false)) (w3.putObj l (.loop (rc .done (some (.exit id)))))
  | _, _, _ => False

/-- What is asked of a range over a function: its iterator, met by whatever the rounds do. -/
theorem range_bareX {P : Program} {g : Operand} {ps : Array Tmp} {assign body : Code} {Q : Exit → Act → World → Prop} {a : Act} {W0 : World} {n gf : Nat} {lb : Array Value}
    (hg : a.eval g = .func (.func gf) #[] lb) (eg : ∀ args w, (callFunc gf args).run P w = .ok (.enter gf args) w)
    (h : ∀ (rc : LoopState → Option Code → Loop) (W1 : World), W1.heap.size = W0.heap.size + 2 → Below W0.heap.size W0 W1 →
      W1.heap[W0.heap.size + 1]? = some (.loop (rc .ready none)) → W1.heap[W0.heap.size]? = some (.deferred (some [])) →
      (∀ (args : Array Value) (W : World) (R : Ending → World → Prop), args.size = ps.size → W.heap[W0.heap.size + 1]? = some (.loop (rc .ready none)) →
        (∃ (a₁ : Act) (w₁ : World), (∀ K : Act → World → Prop, K a₁ w₁ → assign.wpIn (Fence.wide.inRound (W0.heap.size + 1)) (n - 1 - 1) P (Exit.then K (fun _ _ _ => False))
            { tmps := (ps.zip args).foldl (fun t (p, v) => t.setIfInBounds p v) a.tmps, defers := [] } W) ∧
          w₁.heap[W0.heap.size + 1]? = some (.loop (rc .ready none)) ∧
          body.wpIn (Fence.wide.inRound (W0.heap.size + 1)) (n - 1 - 1) P (roundEndX (W0.heap.size + 1) rc R) a₁ (w₁.putObj (W0.heap.size + 1) (.loop (rc .busy none)))) →
        YieldAt Fence.wide (n - 1 - 1) P (W0.heap.size + 1) args W R) →
      CallsIn Fence.wide (n - 1) P gf (#[.func (.yield (W0.heap.size + 1)) #[] #[]] ++ lb) W1 fun e W' => (∃ v, e = .returned v) ∧
        ((W'.heap[W0.heap.size + 1]? = some (.loop (rc .ready none)) ∧ ∀ o, Q .normal { a with defers := { target := .collected W0.heap.size, args := #[] } :: a.defers } (W'.putObj (W0.heap.size + 1) o)) ∨
         (∃ cd, W'.heap[W0.heap.size + 1]? = some (.loop (rc .done (some cd))) ∧ ∀ o, cd.wpIn Fence.wide n P Q { a with defers := { target := .collected W0.heap.size, args := #[] } :: a.defers } (W'.putObj (W0.heap.size + 1) o)))) :
    (Code.rangeFunc g ps assign body).wpIn Fence.wide n P Q a W0 := by
  refine wpIn_rangeFunc ?_
  intro fn hfn
  rw [show Fence.wide.round = none from rfl]
  obtain ⟨rc, hrc⟩ : ∃ rc : LoopState → Option Code → Loop, rc = fun st pe => { state := st, pending := pe, fn := fn, tmps := a.tmps, params := ps, assign := assign, body := body, defers := W0.heap.size } := ⟨_, rfl⟩
  obtain ⟨W1, hW1⟩ : ∃ W1, (W0.alloc (.deferred (some []))).alloc (.loop (rc .ready none)) = W1 := ⟨_, rfl⟩
  have hsz : W1.heap.size = W0.heap.size + 2 := by rw [← hW1]; simp
  have hbw : Below W0.heap.size W0 W1 := by rw [← hW1]; exact ((Below.refl _ W0).alloc (Nat.le_refl _) _).alloc (by simp) _
  have hL1 : W1.heap[W0.heap.size + 1]? = some (.loop (rc .ready none)) := by
    rw [← hW1]; have := World.alloc_heap_new (W0.alloc (.deferred (some []))) (.loop (rc .ready none)); rwa [World.size_alloc] at this
  have hK1 : W1.heap[W0.heap.size]? = some (.deferred (some [])) := by
    rw [← hW1]; exact (Below.heap_alloc _ _ _ (by simp)).trans (World.alloc_heap_new W0 _)
  refine ⟨W0.heap.size + 1, [{ target := .collected W0.heap.size, args := #[] }], W1, { target := .fn (.func gf) lb, args := #[.func (.yield (W0.heap.size + 1)) #[] #[]] }, W1, gf,
    #[.func (.yield (W0.heap.size + 1)) #[] #[]] ++ lb, W1, ?_, ?_, (fun _ _ => trivial), ?_, (fun h => by cases h), ?_⟩
  · rw [← hW1, hrc]
    exact run_enterLoop_outer _ _ _ _ _
  · simp only [resolve, hg]
    simp [go_sem]
  · simp [invoke, go_sem, eg]
  · refine (h rc W1 hsz hbw hL1 hK1 ?_).mono ?_
    · rintro args W R hps hl ⟨a₁, w₁, hK, hl1, hB⟩
      have hy := run_yield (P := P) (args := args) hl (by rw [hrc]; exact hps)
      rw [hrc] at hy
      refine ⟨fn, _, assign, body, hy, roundIn_of_wpIn hfn (hK _ ?_)⟩
      refine ⟨_, run_beginRound hl1 (by rw [hrc]), ?_⟩
      have hB' : body.wpIn (Fence.wide.inRound (W0.heap.size + 1)) (n - 1 - 1) P (roundEndX (W0.heap.size + 1) rc R) a₁ (w₁.putObj (W0.heap.size + 1) (.loop { rc .ready none with state := .busy })) := by rw [hrc] at hB ⊢; exact hB
      refine wpIn_mono hB' ?_
      rintro e2 a2 w3 hq
      cases e2 with
      | normal =>
        obtain ⟨h3, hR⟩ := hq
        refine ⟨_, _, run_endRound (P := P) none h3, ?_⟩
        rw [hrc] at hR ⊢
        exact hR
      | ret =>
        obtain ⟨h3, hR⟩ := hq
        refine ⟨_, _, run_endRound (P := P) (some .ret) h3, ?_⟩
        rw [hrc] at hR ⊢
        exact hR
      | exit id =>
        obtain ⟨h3, hR⟩ := hq
        refine ⟨_, _, run_endRound (P := P) (some (.exit id)) h3, ?_⟩
        rw [hrc] at hR ⊢
        exact hR
      | goto t => exact hq.elim
      | panic c => exact hq.elim
      | outgrown => exact hq.elim
    · rintro e W2 ⟨⟨v, rfl⟩, (⟨hl, hq⟩ | ⟨cd, hl, hq⟩)⟩
      · have he := run_endLoop (P := P) hl (by rw [hrc]; simp)
        rw [show (rc .ready none).pending = none from by rw [hrc]] at he
        exact ⟨none, _, he, hq _⟩
      · have he := run_endLoop (P := P) hl (by rw [hrc]; simp)
        rw [show (rc .done (some cd)).pending = some cd from by rw [hrc]] at he
        exact ⟨some cd, _, he, hq _⟩
end Go.Proofs.Ytmjcefidhigppaa
