/-
  Slices of bools that are read. No function is named, and no statement is proved here.
-/
import Derived.Test.YtdacjpaaffpfgaaMem
namespace Go.Proofs.Ytdacjpaaffpfgaa
open Go.RowKit
set_option linter.unusedVariables false
set_option linter.unusedSimpArgs false

/-- A slice of bools reads as list ts below block B. -/
def Sb (w : World) (B : Nat) (A : Option Addr) (n : Nat) (ts : List Bool) : Prop :=
  ts.length = n ∧ n ≤ maxLen ∧ (0 < n → ∃ b off, A = some ⟨b, off, none⟩ ∧ b < B ∧ ∀ j, j < n → w.cell? ⟨b, off + j, none⟩ = some (.bool (ts.getD j false)))
theorem Sb.keep {w w' : World} {B B' n : Nat} {A : Option Addr} {ts : List Bool} (h : Sb w B A n ts) (hB : B ≤ B') (hk : ∀ p : Addr, p.block < B → w'.cell? p = w.cell? p) : Sb w' B' A n ts := by
  refine ⟨h.1, h.2.1, fun h0 => ?_⟩
  obtain ⟨b, off, e, hb, hc⟩ := h.2.2 h0
  exact ⟨b, off, e, by omega, fun j hj => (hk _ hb).trans (hc j hj)⟩
theorem Sb.below {w w' : World} {B n : Nat} {A : Option Addr} {ts : List Bool} (h : Sb w B A n ts) (hb : Below B w w') : Sb w' B A n ts := h.keep (Nat.le_refl _) fun _ hp => hb.cell hp
theorem Sb.on {w w' : World} {n : Nat} {A : Option Addr} {ts : List Bool} (h : Sb w w.heap.size A n ts) (hb : Below w.heap.size w w') : Sb w' w'.heap.size A n ts := h.keep hb.size fun _ hp => hb.cell hp
def bitsV (l : List Bool) : List Value := l.map Value.bool
theorem Sb.of_own {w : World} {A : Option Addr} {n base c : Nat} {e : TypeId} {l : List Bool} (h : w.ownsRow base e 1 (.slice A n c) n (bitsV l)) : Sb w w.heap.size A n l := by
  have hl : l.length = n := by have := h.1; simpa [bitsV] using this
  rcases h.2 with ⟨h1, h2⟩ | ⟨g, cap, cur, hv, hbg, hgg, hnc, hcm, hcs, htake⟩
  · subst h2
    exact ⟨hl, by simp [maxLen], fun h0 => absurd h0 (by omega)⟩
  · injection hv with e1 e2 e3
    subst e1
    refine ⟨hl, by omega, fun h0 => ⟨g, 0, rfl, (Array.getElem?_eq_some_iff.1 hgg).1, fun j hj => ?_⟩⟩
    rw [cell_of_row w g (0 + j) _ _ _ hgg]
    have h1 : (cur.toList.take (n * 1))[j]? = cur.toList[j]? := by rw [List.getElem?_take]; simp [show j < n from hj]
    rw [htake] at h1
    have h2 : (bitsV l)[j]? = some (.bool (l.getD j false)) := by simp [bitsV, List.getD, hl, hj]
    rw [h2] at h1
    simpa using h1.symm
theorem take_bit {l : List Bool} {k : Nat} (h : k < l.length) : l.take (k + 1) = l.take k ++ [l.getD k false] := by
  rw [List.take_succ_eq_append_getElem h]; simp [List.getD, h]
/-- What the walk is told of a slice of bools that came in. -/
def IsBits (w : World) (a : Option Addr) (len cap : Nat) (B : Nat → Bool) : Prop :=
  (a = none ∧ len = 0 ∧ cap = 0) ∨ ∃ x, a = some x ∧ len ≤ cap ∧ cap ≤ maxLen ∧ ∀ i, i < cap → w.cell? (x.add i) = some (.bool (B i))
theorem Sb.of_row {w : World} {a : Option Addr} {n cap : Nat} {B : Nat → Bool} (h : IsBits w a n cap B) : Sb w w.heap.size a n ((List.range n).map B) := by
  rcases h with ⟨rfl, rfl, rfl⟩ | ⟨x, rfl, hl, hm, hc⟩
  · exact ⟨by simp, by simp [maxLen], fun h0 => by omega⟩
  · refine ⟨by simp, Nat.le_trans hl hm, fun hn => ?_⟩
    obtain ⟨b, off, spot⟩ := x
    have hc0 := hc 0 (by omega)
    have hspot : spot = none := by simpa [Addr.add] using World.cell?_spot hc0
    subst hspot
    have hcj : ∀ j, j < n → w.cell? ⟨b, off + j, none⟩ = some (.bool (((List.range n).map B).getD j false)) := fun j hj => by
      have := hc j (by omega)
      have e : (⟨b, off, none⟩ : Addr).add j = ⟨b, off + j, none⟩ := by
        unfold Addr.add
        by_cases h0 : j = 0 <;> simp [h0]
      rw [e] at this
      rw [this]
      simp [List.getD, hj]
    refine ⟨b, off, rfl, ?_, hcj⟩
    have h0 := hcj 0 hn
    rcases Nat.lt_or_ge b w.heap.size with hlt | hge
    · exact hlt
    · simp [World.cell?, Array.getElem?_eq_none hge] at h0
end Go.Proofs.Ytdacjpaaffpfgaa
