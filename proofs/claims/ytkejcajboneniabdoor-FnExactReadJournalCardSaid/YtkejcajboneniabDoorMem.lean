/-
  Words for memory that all walks of this seat use: a slice of int that reads as a list of integers, and what stays of it when the world grows. No statement is proved here.
-/
import Derived.WalkKit
import Derived.WalkSpells
import Derived.Deep.Draws
import Derived.OpenShut
namespace Go.Proofs.YtkejcajboneniabDoor
open Go.RowKit

theorem hid {p : Prop} (h : p) : Hid p := h

/-- Element k of a list; 0 past its end. Not to be unfolded by the walk. -/
def nth (l : List Int) (k : Nat) : Int := l.getD k 0

theorem nth_lt {l : List Int} {k : Nat} (h : k < l.length) : nth l k = l[k] := by simp [nth, List.getD, h]
theorem nth_ge {l : List Int} {k : Nat} (h : l.length ≤ k) : nth l k = 0 := by simp [nth, List.getD, List.getElem?_eq_none h]
theorem nth_append {a b : List Int} {k : Nat} (h : k < a.length) : nth (a ++ b) k = nth a k := by
  simp [nth, List.getD, List.getElem?_append_left h]
theorem take_nth {l : List Int} {k : Nat} (h : k < l.length) : l.take (k + 1) = l.take k ++ [nth l k] := by
  rw [List.take_succ_eq_append_getElem h, nth_lt h]

/-- The slice value '.slice A n c' reads as the list l in the world w, below block B. -/
def Sl (w : World) (B : Nat) (A : Option Addr) (n : Nat) (l : List Int) : Prop :=
  l.length = n ∧ n ≤ maxLen ∧ (0 < n → ∃ b off, A = some ⟨b, off, none⟩ ∧ b < B ∧ ∀ j, j < n → w.cell? ⟨b, off + j, none⟩ = some (.int .i64 (nth l j)))

section
variable {w w' : World} {B B' n : Nat} {A : Option Addr} {l : List Int}
theorem Sl.len (h : Sl w B A n l) : l.length = n := h.1
theorem Sl.max (h : Sl w B A n l) : n ≤ 9223372036854775807 := h.2.1
theorem Sl.nil (w : World) (B : Nat) : Sl w B none 0 [] := ⟨rfl, by simp [maxLen], fun h => absurd h (by omega)⟩
theorem Sl.keep (h : Sl w B A n l) (hB : B ≤ B') (hk : ∀ p : Addr, p.block < B → w'.cell? p = w.cell? p) : Sl w' B' A n l :=
  ⟨h.1, h.2.1, fun hn => by
    obtain ⟨b, off, e, hb, hc⟩ := h.2.2 hn
    exact ⟨b, off, e, by omega, fun j hj => (hk _ hb).trans (hc j hj)⟩⟩
theorem Sl.more (h : Sl w B A n l) (hB : B ≤ B') : Sl w B' A n l := h.keep hB fun _ _ => rfl
theorem Sl.below (h : Sl w B A n l) (hb : Below B w w') : Sl w' B A n l := h.keep (Nat.le_refl _) fun _ hp => hb.cell hp
/-- The slice in a later world, seen below that world's size. -/
theorem Sl.on (h : Sl w w.heap.size A n l) (hb : Below w.heap.size w w') : Sl w' w'.heap.size A n l := (h.below hb).more hb.size
theorem Sl.of_own {base : Nat} {c : Nat} {e : TypeId} (h : w.ownsRow base e 1 (.slice A n c) n (l.map (Value.int .i64))) : Sl w w.heap.size A n l := by
  have hl : l.length = n := by have := h.1; simpa using this
  rcases h.2 with ⟨h1, h2⟩ | ⟨g, cap, cur, hv, hb, hg, hnc, hcm, hs, ht⟩
  · injection h1 with h1 h3
    subst h1; subst h3
    obtain rfl := List.eq_nil_of_length_eq_zero hl
    exact Sl.nil _ _
  · injection hv with h1 h2 h3
    subst h1; subst h3
    refine ⟨hl, Nat.le_trans hnc hcm, fun hn => ⟨g, 0, rfl, ?_, fun j hj => ?_⟩⟩
    · rcases Nat.lt_or_ge g w.heap.size with hlt | hge
      · exact hlt
      · rw [Array.getElem?_eq_none hge] at hg; cases hg
    · rw [World.ownsRow.cellAt h (0 + j) (by omega)]
      simp [nth, List.getD, show j < l.length from by omega]
end

/-- A slice of ints that came in, in the frame's words. -/
theorem Sl.of_row {w : World} {a : Option Addr} {n cap : Nat} {zs : List Int}
    (h : (a = none ∧ n = 0 ∧ cap = 0 ∧ zs = []) ∨
      ∃ x, a = some x ∧ n ≤ cap ∧ cap ≤ maxLen ∧ zs.length = cap ∧ (∀ i, i < zs.length → w.cell? (x.add i) = some (.int .i64 (zs.getD i 0))) ∧ ∀ n ∈ zs, (Lit.int .i64 n).wf = true) :
    Sl w w.heap.size a n (zs.take n) ∧ ∀ x ∈ zs.take n, -9223372036854775808 ≤ x ∧ x ≤ 9223372036854775807 := by
  rcases h with ⟨rfl, rfl, rfl, rfl⟩ | ⟨x, rfl, hl, hm, hz, hc, hw⟩
  · exact ⟨Sl.nil _ _, by simp⟩
  · refine ⟨⟨by simp; omega, Nat.le_trans hl hm, fun hn => ?_⟩, fun y hy => bounds_i64 (hw y (List.mem_of_mem_take hy))⟩
    obtain ⟨b, off, spot⟩ := x
    have hc0 := hc 0 (by omega)
    have hspot : spot = none := by simpa [Addr.add] using World.cell?_spot hc0
    subst hspot
    have hcj : ∀ j, j < n → w.cell? ⟨b, off + j, none⟩ = some (.int .i64 (nth (zs.take n) j)) := fun j hj => by
      have := hc j (by omega)
      have e : (⟨b, off, none⟩ : Addr).add j = ⟨b, off + j, none⟩ := by
        unfold Addr.add
        by_cases h0 : j = 0 <;> simp [h0]
      rw [e] at this
      rw [this]
      simp [nth, List.getD, hj]
    refine ⟨b, off, rfl, ?_, hcj⟩
    have h0 := hcj 0 hn
    rcases Nat.lt_or_ge b w.heap.size with hlt | hge
    · exact hlt
    · simp [World.cell?, Array.getElem?_eq_none hge] at h0

/-- A slice of bytes that came in: each cell below its length is a byte. -/
def By (w : World) (B : Nat) (A : Option Addr) (n : Nat) : Prop :=
  n ≤ maxLen ∧ (0 < n → ∃ b off, A = some ⟨b, off, none⟩ ∧ b < B ∧ ∀ j, j < n → ∃ x : Int, 0 ≤ x ∧ x ≤ 255 ∧ w.cell? ⟨b, off + j, none⟩ = some (.int .u8 x))
theorem By.keep {w w' : World} {B B' n : Nat} {A : Option Addr} (h : By w B A n) (hB : B ≤ B') (hk : ∀ p : Addr, p.block < B → w'.cell? p = w.cell? p) : By w' B' A n :=
  ⟨h.1, fun hn => by
    obtain ⟨b, off, e, hb, hc⟩ := h.2 hn
    refine ⟨b, off, e, by omega, fun j hj => ?_⟩
    obtain ⟨x, h1, h2, h3⟩ := hc j hj
    exact ⟨x, h1, h2, (hk _ hb).trans h3⟩⟩
theorem By.below {w w' : World} {B n : Nat} {A : Option Addr} (h : By w B A n) (hb : Below B w w') : By w' B A n := h.keep (Nat.le_refl _) fun _ hp => hb.cell hp
theorem By.on {w w' : World} {n : Nat} {A : Option Addr} (h : By w w.heap.size A n) (hb : Below w.heap.size w w') : By w' w'.heap.size A n := h.keep hb.size fun _ hp => hb.cell hp
theorem By.of_row {w : World} {a : Option Addr} {n cap : Nat} {zs : List Int}
    (h : (a = none ∧ n = 0 ∧ cap = 0 ∧ zs = []) ∨
      ∃ x, a = some x ∧ n ≤ cap ∧ cap ≤ maxLen ∧ zs.length = cap ∧ (∀ i, i < zs.length → w.cell? (x.add i) = some (.int .u8 (zs.getD i 0))) ∧ ∀ n ∈ zs, (Lit.int .u8 n).wf = true) :
    By w w.heap.size a n := by
  rcases h with ⟨rfl, rfl, rfl, rfl⟩ | ⟨x, rfl, hl, hm, hz, hc, hw⟩
  · exact ⟨by simp [maxLen], fun h => absurd h (by omega)⟩
  · refine ⟨Nat.le_trans hl hm, fun hn => ?_⟩
    obtain ⟨b, off, spot⟩ := x
    have hc0 := hc 0 (by omega)
    have hspot : spot = none := by simpa [Addr.add] using World.cell?_spot hc0
    subst hspot
    have hcj : ∀ j, j < n → w.cell? ⟨b, off + j, none⟩ = some (.int .u8 (zs.getD j 0)) := fun j hj => by
      have := hc j (by omega)
      have e : (⟨b, off, none⟩ : Addr).add j = ⟨b, off + j, none⟩ := by
        unfold Addr.add
        by_cases h0 : j = 0 <;> simp [h0]
      rw [e] at this
      exact this
    refine ⟨b, off, rfl, ?_, fun j hj => ?_⟩
    · have h0 := hcj 0 hn
      rcases Nat.lt_or_ge b w.heap.size with hlt | hge
      · exact hlt
      · simp [World.cell?, Array.getElem?_eq_none hge] at h0
    · have hmem : zs.getD j 0 ∈ zs := by
        have hlt : j < zs.length := by omega
        simp [List.getD, hlt]
      have hbd := bounds_u8 (hw _ hmem)
      exact ⟨_, hbd.1, hbd.2, hcj j hj⟩

theorem row_cap {k : IntKind} {w : World} {a : Option Addr} {n cap : Nat} {zs : List Int}
    (h : (a = none ∧ n = 0 ∧ cap = 0 ∧ zs = []) ∨
      ∃ x, a = some x ∧ n ≤ cap ∧ cap ≤ maxLen ∧ zs.length = cap ∧ (∀ i, i < zs.length → w.cell? (x.add i) = some (.int k (zs.getD i 0))) ∧ ∀ n ∈ zs, (Lit.int k n).wf = true) : n ≤ cap := by
  rcases h with ⟨rfl, rfl, rfl, rfl⟩ | ⟨x, rfl, hl, _⟩
  · exact Nat.le_refl _
  · exact hl

theorem bcell {W w1 : World} (hb : Below W.heap.size W w1) : (∀ b o, b < W.heap.size → w1.cell? ⟨b, o, none⟩ = W.cell? ⟨b, o, none⟩) ∧ (∀ b o, b < W.heap.size → w1.frozen? ⟨b, o, none⟩ = W.frozen? ⟨b, o, none⟩) :=
  ⟨fun b o h => hb.cell (p := ⟨b, o, none⟩) h, fun b o h => hb.frozen (p := ⟨b, o, none⟩) h⟩
theorem below_drewN {B : Nat} {a w : World} (h : Below B a w) (n : Nat) : Below B a (w.drewN n) := ⟨h.os, h.tape, h.output, h.size, h.block⟩
theorem below_tr {w w1 w2 : World} (h : Below w.heap.size w w1) (k : Below w1.heap.size w1 w2) : Below w.heap.size w w2 := h.trans (k.mono h.size)
theorem grown_alloc (w : World) (o : Obj) (row : Option Nat) : w.grownBy (w.alloc o) row := ⟨rfl, rfl, rfl, by simp, fun k hk _ => Below.heap_alloc w o k hk⟩
theorem below_grown {w w' : World} (h : w.grownBy w' none) : Below w.heap.size w w' := ⟨h.os, h.tape, h.output, h.size, fun k hk => h.block k hk (by simp)⟩
theorem ret_bool {a b : Bool} (h : a = b) : Ending.returned (.bool a) = .returned (.bool b) := by rw [h]
theorem ret_int {k : IntKind} {a b : Int} (h : a = b) : Ending.returned (.int k a) = .returned (.int k b) := by rw [h]

end Go.Proofs.YtkejcajboneniabDoor
