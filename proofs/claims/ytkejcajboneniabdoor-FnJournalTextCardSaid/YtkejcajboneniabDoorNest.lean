/-
  Words on rows of rows of ints of a call's own. No function is named, and no statement is proved here.
-/
import Derived.Test.YtkejcajboneniabDoorEx0
namespace Go.Proofs.YtkejcajboneniabDoor
open Go.RowKit
set_option linter.unusedVariables false
set_option linter.unusedSimpArgs false

theorem info_row : (Tryd.prog.info? 53).map (fun i => (i.zero, i.size, i.bytes)) = some (some (.slice none 0 0), 1, 24) := by kernel_rfl

/-- A slice of ints of one's own, at or above B, that reads as l. -/
def Row1 (w : World) (B : Nat) (v : Value) (l : List Int) : Prop := ∃ A n c, v = .slice A n c ∧ w.ownsRow B 3 1 (.slice A n c) n (ints l)
/-- The values vs are slices of ints of one's own that read as ls. -/
def Rows (w : World) (B : Nat) (vs : List Value) (ls : List (List Int)) : Prop := vs.length = ls.length ∧ ∀ (j : Nat) v l, vs[j]? = some v → ls[j]? = some l → Row1 w B v l

section
variable {w w' : World} {B : Nat} {vs : List Value} {ls : List (List Int)}
theorem Rows.nil (w : World) (B : Nat) : Rows w B [] [] := ⟨rfl, fun j v l h => by simp at h⟩
theorem Rows.keep (h : Rows w B vs ls) (hk : ∀ v n xs, w.ownsRow B 3 1 v n xs → w'.ownsRow B 3 1 v n xs) : Rows w' B vs ls :=
  ⟨h.1, fun j v l h1 h2 => by
    obtain ⟨A, n, c, e, ho⟩ := h.2 j v l h1 h2
    exact ⟨A, n, c, e, hk _ _ _ ho⟩⟩
theorem Rows.on (h : Rows w B vs ls) (hb : Below w.heap.size w w') : Rows w' B vs ls := h.keep fun _ _ _ ho => own_on ho hb
theorem Rows.onto (h : Rows w B vs ls) (hg : w.grownBy w' none) : Rows w' B vs ls := h.keep fun _ _ _ ho => own_kept_none ho hg
theorem Rows.mono {B' : Nat} (h : Rows w B vs ls) (hB : B' ≤ B) : Rows w B' vs ls := ⟨h.1, fun j v l h1 h2 => by
  obtain ⟨A, n, c, e, ho⟩ := h.2 j v l h1 h2
  exact ⟨A, n, c, e, own_mono ho hB⟩⟩
theorem Rows.snoc (h : Rows w B vs ls) {v : Value} {l : List Int} (hv : Row1 w B v l) : Rows w B (vs ++ [v]) (ls ++ [l]) := by
  refine ⟨by simp [h.1], fun j x y hx hy => ?_⟩
  by_cases hj : j < vs.length
  · rw [List.getElem?_append_left hj] at hx
    rw [List.getElem?_append_left (by have := h.1; omega)] at hy
    exact h.2 j x y hx hy
  · rw [List.getElem?_append_right (by omega)] at hx
    rw [List.getElem?_append_right (by have := h.1; omega), ← h.1] at hy
    by_cases h0 : j - vs.length = 0
    · rw [h0] at hx hy
      simp at hx hy
      subst hx; subst hy
      exact hv
    · simp [h0] at hx
theorem Rows.at (h : Rows w B vs ls) {j : Nat} {l : List Int} (hl : ls[j]? = some l) : ∃ A n c, vs[j]? = some (.slice A n c) ∧ w.ownsRow B 3 1 (.slice A n c) n (ints l) := by
  have hj : j < ls.length := (List.getElem?_eq_some_iff.1 hl).1
  have hv : vs[j]? = some (vs[j]'(by rw [h.1]; exact hj)) := List.getElem?_eq_getElem _
  obtain ⟨A, n, c, e, ho⟩ := h.2 j _ l hv hl
  exact ⟨A, n, c, by rw [hv, e], ho⟩
end

theorem cells_new (w : World) (cs : List Value) (t : TypeId) : ∀ (j : Nat) (u : Value), cs[j]? = some u → (w.alloc (.cells cs.toArray t)).cell? ((⟨w.heap.size, 0, none⟩ : Addr).add j) = some u := by
  intro j u hu
  have e : (⟨w.heap.size, 0, none⟩ : Addr).add j = ⟨w.heap.size, j, none⟩ := by
    unfold Addr.add
    by_cases h0 : j = 0 <;> simp [h0]
  rw [e, cell_of_row _ _ j _ _ _ (heap_alloc_new w _)]
  simpa using hu
theorem types_ne : ((3 : TypeId) = (53 : TypeId)) = False := by decide
/-- A row of ints and a row of slices lie in different blocks: their types differ. -/
theorem own_types {w : World} {B B2 n m : Nat} {v vo : Value} {xs ys : List Value} (h : w.ownsRow B 3 1 v n xs) (ho : w.ownsRow B2 53 1 vo m ys) : v.ownBlock = none ∨ v.ownBlock ≠ vo.ownBlock := by
  rcases h.2 with ⟨h1, _⟩ | ⟨g, cap, cur, h1, h2, h3, _⟩
  · left; rw [h1]; rfl
  · rcases ho.2 with ⟨k1, _⟩ | ⟨g2, cap2, cur2, k1, k2, k3, _⟩
    · right; rw [h1, k1]; simp [Value.ownBlock]
    · right
      rw [h1, k1]
      intro e
      have e' : g = g2 := by simpa [Value.ownBlock] using e
      subst e'
      rw [h3] at k3
      simp at k3
theorem own_beside {w w' : World} {B B2 n m : Nat} {v vo : Value} {xs ys : List Value} (h : w.ownsRow B 3 1 v n xs) (ho : w.ownsRow B2 53 1 vo m ys) (hg : w.grownBy w' vo.ownBlock) : w'.ownsRow B 3 1 v n xs := h.kept hg (own_types h ho)
theorem Rows.beside {w w' : World} {B B2 m : Nat} {vs : List Value} {ls : List (List Int)} {vo : Value} {ys : List Value} (h : Rows w B vs ls) (ho : w.ownsRow B2 53 1 vo m ys) (hg : w.grownBy w' vo.ownBlock) : Rows w' B vs ls :=
  h.keep fun _ _ _ hr => own_beside hr ho hg
end Go.Proofs.YtkejcajboneniabDoor
