/-
  Texts put together: Mem Ex0 ExE ExS ExM ExT ExA ExH C1a Dr DrO Sr S10 S10v. No statement is proved here.
-/
import Derived.WalkKit
import Derived.WalkSpells
import Derived.Deep.Draws
import Derived.OpenShut
import Derived.Test.YtkejcajboneniaaProg
import Derived.Maps.Range
import Derived.Maps.AppendAt
import Derived.Deep.QuietTactic
import Derived.BigQuiet
import Derived.IntWalk
import Derived.Laws.BitsAllLaws
import Derived.Laws.BitsLemmas
namespace Go.Proofs.Ytkejcajboneniaa
open Go.RowKit

theorem hid {p : Prop} (h : p) : Hid p := h

/-- Element k of a list; 0 past its end. Not to be unfolded by the walk. -/
def nth (l : List Int) (k : Nat) : Int := l.getD k 0

theorem nth_lt {l : List Int} {k : Nat} (h : k < l.length) : nth l k = l[k] := by simp [nth, List.getD, h]
theorem nth_ge {l : List Int} {k : Nat} (h : l.length ≤ k) : nth l k = 0 := by simp [nth, List.getD, List.getElem?_eq_none h]
theorem nth_append {a b : List Int} {k : Nat} (h : k < a.length) : nth (a ++ b) k = nth a k := by
  simp [nth, List.getD, List.getElem?_append_left h]
theorem take_nth {l : List Int} {k : Nat} (h : k < l.length) : l.take (k + 1) = l.take k ++ [nth l k] := by
  rw [List.take_succ_eq_append_getElem h, nth_lt h]

/-- The slice value '.slice A n c' reads as the list l in the world w, below block B. -/
def Sl (w : World) (B : Nat) (A : Option Addr) (n : Nat) (l : List Int) : Prop :=
  l.length = n ∧ n ≤ maxLen ∧ (0 < n → ∃ b off, A = some ⟨b, off, none⟩ ∧ b < B ∧ ∀ j, j < n → w.cell? ⟨b, off + j, none⟩ = some (.int .i64 (nth l j)))

section
variable {w w' : World} {B B' n : Nat} {A : Option Addr} {l : List Int}
theorem Sl.len (h : Sl w B A n l) : l.length = n := h.1
theorem Sl.max (h : Sl w B A n l) : n ≤ 9223372036854775807 := h.2.1
theorem Sl.nil (w : World) (B : Nat) : Sl w B none 0 [] := ⟨rfl, by simp [maxLen], fun h => absurd h (by omega)⟩
theorem Sl.keep (h : Sl w B A n l) (hB : B ≤ B') (hk : ∀ p : Addr, p.block < B → w'.cell? p = w.cell? p) : Sl w' B' A n l :=
  ⟨h.1, h.2.1, fun hn => by
    obtain ⟨b, off, e, hb, hc⟩ := h.2.2 hn
    exact ⟨b, off, e, by omega, fun j hj => (hk _ hb).trans (hc j hj)⟩⟩
theorem Sl.more (h : Sl w B A n l) (hB : B ≤ B') : Sl w B' A n l := h.keep hB fun _ _ => rfl
theorem Sl.below (h : Sl w B A n l) (hb : Below B w w') : Sl w' B A n l := h.keep (Nat.le_refl _) fun _ hp => hb.cell hp
/-- The slice in a later world, seen below that world's size. -/
theorem Sl.on (h : Sl w w.heap.size A n l) (hb : Below w.heap.size w w') : Sl w' w'.heap.size A n l := (h.below hb).more hb.size
theorem Sl.of_own {base : Nat} {c : Nat} {e : TypeId} (h : w.ownsRow base e 1 (.slice A n c) n (l.map (Value.int .i64))) : Sl w w.heap.size A n l := by
  have hl : l.length = n := by have := h.1; simpa using this
  rcases h.2 with ⟨h1, h2⟩ | ⟨g, cap, cur, hv, hb, hg, hnc, hcm, hs, ht⟩
  · injection h1 with h1 h3
    subst h1; subst h3
    obtain rfl := List.eq_nil_of_length_eq_zero hl
    exact Sl.nil _ _
  · injection hv with h1 h2 h3
    subst h1; subst h3
    refine ⟨hl, Nat.le_trans hnc hcm, fun hn => ⟨g, 0, rfl, ?_, fun j hj => ?_⟩⟩
    · rcases Nat.lt_or_ge g w.heap.size with hlt | hge
      · exact hlt
      · rw [Array.getElem?_eq_none hge] at hg; cases hg
    · rw [World.ownsRow.cellAt h (0 + j) (by omega)]
      simp [nth, List.getD, show j < l.length from by omega]
end

/-- A slice of ints that came in, in the frame's words. -/
theorem Sl.of_row {w : World} {a : Option Addr} {n cap : Nat} {zs : List Int}
    (h : (a = none ∧ n = 0 ∧ cap = 0 ∧ zs = []) ∨
      ∃ x, a = some x ∧ n ≤ cap ∧ cap ≤ maxLen ∧ zs.length = cap ∧ (∀ i, i < zs.length → w.cell? (x.add i) = some (.int .i64 (zs.getD i 0))) ∧ ∀ n ∈ zs, (Lit.int .i64 n).wf = true) :
    Sl w w.heap.size a n (zs.take n) ∧ ∀ x ∈ zs.take n, -9223372036854775808 ≤ x ∧ x ≤ 9223372036854775807 := by
  rcases h with ⟨rfl, rfl, rfl, rfl⟩ | ⟨x, rfl, hl, hm, hz, hc, hw⟩
  · exact ⟨Sl.nil _ _, by simp⟩
  · refine ⟨⟨by simp; omega, Nat.le_trans hl hm, fun hn => ?_⟩, fun y hy => bounds_i64 (hw y (List.mem_of_mem_take hy))⟩
    obtain ⟨b, off, spot⟩ := x
    have hc0 := hc 0 (by omega)
    have hspot : spot = none := by simpa [Addr.add] using World.cell?_spot hc0
    subst hspot
    have hcj : ∀ j, j < n → w.cell? ⟨b, off + j, none⟩ = some (.int .i64 (nth (zs.take n) j)) := fun j hj => by
      have := hc j (by omega)
      have e : (⟨b, off, none⟩ : Addr).add j = ⟨b, off + j, none⟩ := by
        unfold Addr.add
        by_cases h0 : j = 0 <;> simp [h0]
      rw [e] at this
      rw [this]
      simp [nth, List.getD, hj]
    refine ⟨b, off, rfl, ?_, hcj⟩
    have h0 := hcj 0 hn
    rcases Nat.lt_or_ge b w.heap.size with hlt | hge
    · exact hlt
    · simp [World.cell?, Array.getElem?_eq_none hge] at h0

/-- A slice of bytes that came in: each cell below its length is a byte. -/
def By (w : World) (B : Nat) (A : Option Addr) (n : Nat) : Prop :=
  n ≤ maxLen ∧ (0 < n → ∃ b off, A = some ⟨b, off, none⟩ ∧ b < B ∧ ∀ j, j < n → ∃ x : Int, 0 ≤ x ∧ x ≤ 255 ∧ w.cell? ⟨b, off + j, none⟩ = some (.int .u8 x))
theorem By.keep {w w' : World} {B B' n : Nat} {A : Option Addr} (h : By w B A n) (hB : B ≤ B') (hk : ∀ p : Addr, p.block < B → w'.cell? p = w.cell? p) : By w' B' A n :=
  ⟨h.1, fun hn => by
    obtain ⟨b, off, e, hb, hc⟩ := h.2 hn
    refine ⟨b, off, e, by omega, fun j hj => ?_⟩
    obtain ⟨x, h1, h2, h3⟩ := hc j hj
    exact ⟨x, h1, h2, (hk _ hb).trans h3⟩⟩
theorem By.below {w w' : World} {B n : Nat} {A : Option Addr} (h : By w B A n) (hb : Below B w w') : By w' B A n := h.keep (Nat.le_refl _) fun _ hp => hb.cell hp
theorem By.on {w w' : World} {n : Nat} {A : Option Addr} (h : By w w.heap.size A n) (hb : Below w.heap.size w w') : By w' w'.heap.size A n := h.keep hb.size fun _ hp => hb.cell hp
theorem By.of_row {w : World} {a : Option Addr} {n cap : Nat} {zs : List Int}
    (h : (a = none ∧ n = 0 ∧ cap = 0 ∧ zs = []) ∨
      ∃ x, a = some x ∧ n ≤ cap ∧ cap ≤ maxLen ∧ zs.length = cap ∧ (∀ i, i < zs.length → w.cell? (x.add i) = some (.int .u8 (zs.getD i 0))) ∧ ∀ n ∈ zs, (Lit.int .u8 n).wf = true) :
    By w w.heap.size a n := by
  rcases h with ⟨rfl, rfl, rfl, rfl⟩ | ⟨x, rfl, hl, hm, hz, hc, hw⟩
  · exact ⟨by simp [maxLen], fun h => absurd h (by omega)⟩
  · refine ⟨Nat.le_trans hl hm, fun hn => ?_⟩
    obtain ⟨b, off, spot⟩ := x
    have hc0 := hc 0 (by omega)
    have hspot : spot = none := by simpa [Addr.add] using World.cell?_spot hc0
    subst hspot
    have hcj : ∀ j, j < n → w.cell? ⟨b, off + j, none⟩ = some (.int .u8 (zs.getD j 0)) := fun j hj => by
      have := hc j (by omega)
      have e : (⟨b, off, none⟩ : Addr).add j = ⟨b, off + j, none⟩ := by
        unfold Addr.add
        by_cases h0 : j = 0 <;> simp [h0]
      rw [e] at this
      exact this
    refine ⟨b, off, rfl, ?_, fun j hj => ?_⟩
    · have h0 := hcj 0 hn
      rcases Nat.lt_or_ge b w.heap.size with hlt | hge
      · exact hlt
      · simp [World.cell?, Array.getElem?_eq_none hge] at h0
    · have hmem : zs.getD j 0 ∈ zs := by
        have hlt : j < zs.length := by omega
        simp [List.getD, hlt]
      have hbd := bounds_u8 (hw _ hmem)
      exact ⟨_, hbd.1, hbd.2, hcj j hj⟩

theorem row_cap {k : IntKind} {w : World} {a : Option Addr} {n cap : Nat} {zs : List Int}
    (h : (a = none ∧ n = 0 ∧ cap = 0 ∧ zs = []) ∨
      ∃ x, a = some x ∧ n ≤ cap ∧ cap ≤ maxLen ∧ zs.length = cap ∧ (∀ i, i < zs.length → w.cell? (x.add i) = some (.int k (zs.getD i 0))) ∧ ∀ n ∈ zs, (Lit.int k n).wf = true) : n ≤ cap := by
  rcases h with ⟨rfl, rfl, rfl, rfl⟩ | ⟨x, rfl, hl, _⟩
  · exact Nat.le_refl _
  · exact hl

theorem bcell {W w1 : World} (hb : Below W.heap.size W w1) : (∀ b o, b < W.heap.size → w1.cell? ⟨b, o, none⟩ = W.cell? ⟨b, o, none⟩) ∧ (∀ b o, b < W.heap.size → w1.frozen? ⟨b, o, none⟩ = W.frozen? ⟨b, o, none⟩) :=
  ⟨fun b o h => hb.cell (p := ⟨b, o, none⟩) h, fun b o h => hb.frozen (p := ⟨b, o, none⟩) h⟩
theorem below_drewN {B : Nat} {a w : World} (h : Below B a w) (n : Nat) : Below B a (w.drewN n) := ⟨h.os, h.tape, h.output, h.size, h.block⟩
theorem below_tr {w w1 w2 : World} (h : Below w.heap.size w w1) (k : Below w1.heap.size w1 w2) : Below w.heap.size w w2 := h.trans (k.mono h.size)
theorem grown_alloc (w : World) (o : Obj) (row : Option Nat) : w.grownBy (w.alloc o) row := ⟨rfl, rfl, rfl, by simp, fun k hk _ => Below.heap_alloc w o k hk⟩
theorem below_grown {w w' : World} (h : w.grownBy w' none) : Below w.heap.size w w' := ⟨h.os, h.tape, h.output, h.size, fun k hk => h.block k hk (by simp)⟩
theorem ret_bool {a b : Bool} (h : a = b) : Ending.returned (.bool a) = .returned (.bool b) := by rw [h]
theorem ret_int {k : IntKind} {a b : Int} (h : a = b) : Ending.returned (.int k a) = .returned (.int k b) := by rw [h]

end Go.Proofs.Ytkejcajboneniaa

namespace Go.Proofs.Ytkejcajboneniaa
open Go.RowKit
set_option linter.unusedVariables false
set_option linter.unusedSimpArgs false

theorem info_int : (Try.prog.info? 3).map (fun i => (i.zero, i.size, i.bytes)) = some (some (.int .i64 0), 1, 8) := by kernel_rfl

abbrev ints (l : List Int) : List Value := l.map (Value.int .i64)

def filled (l : List Int) (k n : Nat) : List Int := l.take k ++ List.replicate (n - k) 0
theorem filled_zero (l : List Int) (n : Nat) : filled l 0 n = List.replicate n 0 := by simp [filled]
theorem filled_all {l : List Int} {n : Nat} (h : l.length = n) : filled l n n = l := by simp [filled, List.take_of_length_le (Nat.le_of_eq h)]
theorem filled_step {l : List Int} {k n : Nat} (h : l.length = n) (hk : k < n) : (filled l k n).set k (nth l k) = filled l (k + 1) n := by
  unfold filled
  rw [List.set_append_right _ _ (by simp; omega), take_nth (by omega)]
  have : n - k = (n - (k + 1)) + 1 := by omega
  rw [this, List.replicate_succ]
  simp [Nat.min_eq_left (show k ≤ l.length by omega)]

theorem ints_set (l : List Int) (k : Nat) (x : Int) : (ints l).set k (.int .i64 x) = ints (l.set k x) := by simp [ints, List.map_set]
theorem madeInts (n : Nat) : (madeCells (Value.int .i64 0).cells (n * 1)).toList = ints (List.replicate n 0) := by
  simp only [madeCells, Value.cells, ints, List.map_replicate]
  apply List.ext_getElem?
  intro j
  by_cases h : j < n
  · simp [h, Nat.mod_one]
  · simp [show n ≤ j from by omega]

/-- What a row of ints that the call owns gives to a store: the cell is there, and is not frozen. -/
theorem own_cell {w : World} {base g n c j : Nat} {e : TypeId} {l : List Int} (h : w.ownsRow base e 1 (.slice (some ⟨g, 0, none⟩) n c) n (ints l)) (hl : l.length = n) (hj : j < n) :
    w.cell? ⟨g, j, none⟩ = some (.int .i64 (nth l j)) := by
  rw [h.cellAt j (by omega)]
  simp [nth, List.getD, show j < l.length from by omega]

def marks (k : Int) (n : Nat) : List Int := (List.range n).map fun (j : Nat) => k + j
theorem marks_len (k : Int) (n : Nat) : (marks k n).length = n := by simp [marks]
theorem nth_marks (k : Int) {n j : Nat} (h : j < n) : nth (marks k n) j = k + j := by simp [nth, marks, List.getD, h]

def marked (l : List Int) (k : Int) (i : Nat) : List Int := marks k i ++ l.drop i
theorem marked_zero (l : List Int) (k : Int) : marked l k 0 = l := by simp [marked, marks]
theorem marked_len {l : List Int} {k : Int} {i n : Nat} (h : l.length = n) (hi : i ≤ n) : (marked l k i).length = n := by simp [marked, marks]; omega
theorem marked_all {l : List Int} {k : Int} {n : Nat} (h : l.length = n) : marked l k n = marks k n := by simp [marked, List.drop_of_length_le (Nat.le_of_eq h)]
theorem marked_step {l : List Int} {k : Int} {i n : Nat} (h : l.length = n) (hi : i < n) : (marked l k i).set i (k + i) = marked l k (i + 1) := by
  unfold marked marks
  rw [List.set_append_right _ _ (by simp), List.range_succ, List.map_append, List.append_assoc]
  congr 1
  simp only [List.length_map, List.length_range, Nat.sub_self]
  rw [show l.drop i = l[i]'(by omega) :: l.drop (i + 1) from List.drop_eq_getElem_cons (by omega)]
  rfl

theorem own_on {w w' : World} {B n : Nat} {v : Value} {e : TypeId} {xs : List Value} (h : w.ownsRow B e 1 v n xs) (hb : Below w.heap.size w w') : w'.ownsRow B e 1 v n xs := by
  refine ⟨h.1, ?_⟩
  rcases h.2 with h2 | ⟨g, cap, cur, h1, h2, h3, h4⟩
  · exact .inl h2
  · refine .inr ⟨g, cap, cur, h1, h2, (hb.block g ?_).trans h3, h4⟩
    rcases Nat.lt_or_ge g w.heap.size with hlt | hge
    · exact hlt
    · rw [Array.getElem?_eq_none hge] at h3; cases h3
theorem own_lo {w : World} {B n : Nat} {v : Value} {e : TypeId} {xs : List Value} (h : w.ownsRow B e 1 v n xs) : ∀ k, v.ownBlock = some k → B ≤ k := fun k hk => (h.lt k hk).1
theorem own_hi {w : World} {B n : Nat} {v : Value} {e : TypeId} {xs : List Value} (h : w.ownsRow B e 1 v n xs) : ∀ k, v.ownBlock = some k → k < w.heap.size := fun k hk => (h.lt k hk).2
theorem own_apart {u v : Value} {lu hu lv hv : Nat} (h1 : ∀ k, u.ownBlock = some k → lu ≤ k) (h2 : ∀ k, u.ownBlock = some k → k < hu) (h3 : ∀ k, v.ownBlock = some k → lv ≤ k) (h4 : ∀ k, v.ownBlock = some k → k < hv)
    (h : hu ≤ lv ∨ hv ≤ lu) : u.ownBlock = none ∨ u.ownBlock ≠ v.ownBlock := by
  rcases hb : u.ownBlock with _ | k
  · exact .inl rfl
  · refine .inr fun e => ?_
    have a1 := h1 k hb
    have a2 := h2 k hb
    have a3 := h3 k e.symm
    have a4 := h4 k e.symm
    omega
theorem own_shape {W : World} {base : Nat} {e : TypeId} {size : Nat} {v : Value} {k : Nat} {xs : List Value} (h : W.ownsRow base e size v (k + 1) xs) : ∃ g cap, v = .slice (some ⟨g, 0, none⟩) (k + 1) cap ∧ base ≤ g ∧ g < W.heap.size := by
  rcases h.2 with ⟨_, h2⟩ | ⟨g, cap, cur, rfl, hb, hg, _⟩
  · omega
  · refine ⟨g, cap, rfl, hb, ?_⟩
    rcases Nat.lt_or_ge g W.heap.size with hlt | hge
    · exact hlt
    · rw [Array.getElem?_eq_none hge] at hg; cases hg

theorem own_mono {w : World} {base base' : Nat} {e : TypeId} {size : Nat} {v : Value} {n : Nat} {xs : List Value} (h : w.ownsRow base e size v n xs) (hb : base' ≤ base) : w.ownsRow base' e size v n xs := by
  refine ⟨h.1, ?_⟩
  rcases h.2 with h2 | ⟨g, cap, cur, h1, h2, h3⟩
  · exact .inl h2
  · exact .inr ⟨g, cap, cur, h1, Nat.le_trans hb h2, h3⟩

/-- From a row that the call owns, one element appended: as the law on append leaves it. -/
theorem pushed {w w1 w2 : World} {B i g : Nat} {l : List Int} {x : Int} {v v2 : Value} (hg : w.grownBy w1 (some g)) (hB : w.heap.size ≤ B) (hB1 : B ≤ w1.heap.size)
    (hv : v.ownBlock = none ∨ ∃ k, v.ownBlock = some k ∧ B ≤ k)
    (h2 : w2.ownsRow B 3 1 v2 (i + 1) (ints l ++ [.int .i64 x])) (hg2 : (w1.alloc (.cells #[.int .i64 x] 3)).grownBy w2 v.ownBlock) :
    ∃ A c, v2 = .slice A (i + 1) c ∧ w2.ownsRow B 3 1 (.slice A (i + 1) c) (i + 1) (ints (l ++ [x])) ∧ w.grownBy w2 (some g) := by
  obtain ⟨g2, c2, rfl, _, _⟩ := own_shape h2
  refine ⟨_, _, rfl, by simpa [ints] using h2, ?_⟩
  refine (World.grownBy.andThen (row' := none) hg (grown_alloc w1 _ none) (by simp)).andThen hg2 ?_
  intro j hj
  rcases hv with hv | ⟨k, hv, hk⟩
  · rw [hv] at hj; cases hj
  · rw [hv] at hj; cases hj; left; omega

/-- The same where nothing below B has changed. -/
theorem pushedB {w w1 w2 : World} {B i : Nat} {l : List Int} {x : Int} {v v2 : Value} (hg : Below w.heap.size w w1) (hB : w.heap.size ≤ B) (hB1 : B ≤ w1.heap.size)
    (hv : v.ownBlock = none ∨ ∃ k, v.ownBlock = some k ∧ B ≤ k)
    (h2 : w2.ownsRow B 3 1 v2 (i + 1) (ints l ++ [.int .i64 x])) (hg2 : (w1.alloc (.cells #[.int .i64 x] 3)).grownBy w2 v.ownBlock) :
    ∃ A c, v2 = .slice A (i + 1) c ∧ w2.ownsRow B 3 1 (.slice A (i + 1) c) (i + 1) (ints (l ++ [x])) ∧ Below w.heap.size w w2 := by
  obtain ⟨g2, c2, rfl, _, _⟩ := own_shape h2
  refine ⟨_, _, rfl, by simpa [ints] using h2, (hg.alloc hg.size _).grown hg2 (by have := hg.size; simp; omega) ?_⟩
  intro k hk
  rcases hv with hv | ⟨k', hv, hk'⟩
  · rw [hv] at hk; cases hk
  · rw [hv] at hk; cases hk; omega

theorem own_blk {w : World} {B n : Nat} {A : Option Addr} {c : Nat} {e : TypeId} {xs : List Value} (h : w.ownsRow B e 1 (.slice A n c) n xs) :
    (Value.slice A n c).ownBlock = none ∨ ∃ k, (Value.slice A n c).ownBlock = some k ∧ B ≤ k := by
  rcases hb : (Value.slice A n c).ownBlock with _ | k
  · exact .inl rfl
  · exact .inr ⟨k, rfl, (h.lt k hb).1⟩

/-- One element more, the new cell in a block of its own: all in one. -/
theorem own_kept_none {w w' : World} {B n : Nat} {v : Value} {e : TypeId} {xs : List Value} (h : w.ownsRow B e 1 v n xs) (hg : w.grownBy w' none) : w'.ownsRow B e 1 v n xs := by
  refine h.kept hg ?_
  rcases v.ownBlock with _ | k
  · exact .inl rfl
  · exact .inr (by simp)

/-- 'pushedB' over whatever bound. -/
theorem pushedC {w w1 w2 : World} {B i : Nat} {l : List Int} {x : Int} {v v2 : Value} (hg : Below B w w1) (hB1 : B ≤ w1.heap.size)
    (hv : v.ownBlock = none ∨ ∃ k, v.ownBlock = some k ∧ B ≤ k)
    (h2 : w2.ownsRow B 3 1 v2 (i + 1) (ints l ++ [.int .i64 x])) (hg2 : (w1.alloc (.cells #[.int .i64 x] 3)).grownBy w2 v.ownBlock) :
    ∃ A c, v2 = .slice A (i + 1) c ∧ w2.ownsRow B 3 1 (.slice A (i + 1) c) (i + 1) (ints (l ++ [x])) ∧ Below B w w2 := by
  obtain ⟨g2, c2, rfl, _, _⟩ := own_shape h2
  refine ⟨_, _, rfl, by simpa [ints] using h2, (hg.alloc hB1 _).grown hg2 (by simp; omega) ?_⟩
  intro k hk
  rcases hv with hv | ⟨k', hv, hk'⟩
  · rw [hv] at hk; cases hk
  · rw [hv] at hk; cases hk; omega

theorem own_ne {w : World} {B n g : Nat} {A : Option Addr} {c : Nat} {e : TypeId} {xs : List Value} (h : w.ownsRow B e 1 (.slice A n c) n xs) (hg : g < B) :
    (Value.slice A n c).ownBlock = none ∨ (Value.slice A n c).ownBlock ≠ some g := by
  rcases hb : (Value.slice A n c).ownBlock with _ | k
  · exact .inl rfl
  · right; have := (h.lt k hb).1; simp; omega

theorem Sl.cellsAt {w : World} {B n b off : Nat} {l : List Int} (h : Sl w B (some ⟨b, off, none⟩) n l) : ∀ j u, (ints l)[j]? = some u → w.cell? ((⟨b, off, none⟩ : Addr).add j) = some u := by
  intro j u hu
  have hl := h.len
  have hj : j < n := by
    rcases Nat.lt_or_ge j n with h1 | h1
    · exact h1
    · rw [List.getElem?_eq_none (by simpa [ints, hl] using h1)] at hu; cases hu
  obtain ⟨b', off', e, _, hc⟩ := h.2.2 (by omega)
  injection e with e
  injection e with e1 e2
  subst e1
  subst e2
  have e3 : (⟨b, off, none⟩ : Addr).add j = ⟨b, off + j, none⟩ := by
    unfold Addr.add
    by_cases h0 : j = 0 <;> simp [h0]
  rw [e3, hc j hj]
  rw [← hu]
  simp [ints, nth, List.getD, show j < l.length from by omega]
theorem Sl.atSome {w : World} {B n b off : Nat} {l : List Int} (h : Sl w B (some ⟨b, off, none⟩) n l) : ∀ (j : Nat) (a : Int), l[j]? = some a → w.cell? ⟨b, off + j, none⟩ = some (.int .i64 a) := by
  intro j a ha
  have hl := h.len
  have hj : j < n := by
    rcases Nat.lt_or_ge j n with h1 | h1
    · exact h1
    · rw [List.getElem?_eq_none (by omega)] at ha; cases ha
  obtain ⟨b', off', e, _, hc⟩ := h.2.2 (by omega)
  injection e with e
  injection e with e1 e2
  subst e1
  subst e2
  rw [hc j hj]
  simp [nth, List.getD, ha]
theorem ints_one (l : List Int) : ∀ u ∈ ints l, u.oneCell' = true := by simp [ints, Value.oneCell']
theorem own_shape1 {W : World} {base : Nat} {e : TypeId} {size : Nat} {v : Value} {m : Nat} {xs : List Value} (h : W.ownsRow base e size v m xs) (hm : 0 < m) : ∃ g cap, v = .slice (some ⟨g, 0, none⟩) m cap ∧ base ≤ g ∧ g < W.heap.size := by
  obtain ⟨k, rfl⟩ : ∃ k, m = k + 1 := ⟨m - 1, by omega⟩
  exact own_shape h

theorem results_tmp4 {fn : Func} {t u v x : Tmp} (h : fn.results = #[.tmp t, .tmp u, .tmp v, .tmp x]) (tmps : Array Value) (P : Program) (w : World) :
    (results fn tmps).run P w = .ok (.tuple #[tmps.getD t undef, tmps.getD u undef, tmps.getD v undef, tmps.getD x undef]) w := by simp [results, h]

end Go.Proofs.Ytkejcajboneniaa

namespace Go.Proofs.Ytkejcajboneniaa
open Go.RowKit
set_option linter.unusedVariables false
set_option linter.unusedSimpArgs false

set_option maxHeartbeats 800000 in
/-- laws.eqIntS: whether two lists are equal. -/
theorem eqIntS_any (A A2 : Option Addr) (n c n2 c2 : Nat) (l l2 : List Int) (w : World) (B B2 : Nat) (hs : Sl w B A n l) (hs2 : Sl w B2 A2 n2 l2) :
    Calls Try.prog 26 #[.slice A n c, .slice A2 n2 c2] w fun e w' => e = .returned (.bool (decide (l = l2))) ∧ ∃ m, w' = w.drewN m := by
  have hm := hs.max
  have hm2 := hs2.max
  have hl := hs.len
  have hl2 := hs2.len
  by_cases hne : n = n2
  · subst hne
    have HL := hid hl; clear hl
    have HL2 := hid hl2; clear hl2
    have e1 : ((n : Int) != (n : Int)) = false := by simp
    go_enter Try.func26, Try.ntmps26
    go_wp2
    go_loopw [5] (fun i wr => ∃ k m : Nat, k ≤ n ∧ i = .int .i64 k ∧ wr = w.drewN m ∧ l.take k = l2.take k) (fun i _ => n - (intOf i).toNat)
    case atStart => exact ⟨0, 0, Nat.zero_le _, rfl, rfl, rfl⟩
    case round =>
      obtain ⟨k, m, hk, rfl, rfl, htk⟩ := hrel
      have HT := hid htk; clear htk
      by_cases hlt : k < n
      · obtain ⟨b, off, rfl, _, hc⟩ := hs.2.2 (by omega)
        obtain ⟨b2, off2, rfl, _, hc2⟩ := hs2.2.2 (by omega)
        have hck := hc k hlt
        have hck2 := hc2 k hlt
        clear hc hc2
        have hlti : (k : Int) < (n : Int) := by omega
        have t1 := take_nth (l := l) (k := k) (by rw [HL.out]; exact hlt)
        have t2 := take_nth (l := l2) (k := k) (by rw [HL2.out]; exact hlt)
        have T1 := hid t1; clear t1
        have T2 := hid t2; clear t2
        by_cases heq : nth l k = nth l2 k
        · have HE := hid heq
          have heb : (nth l k != nth l2 k) = false := by simp [heq]
          have heb2 : (nth l k == nth l2 k) = true := by simp [heq]
          clear heq
          go_wp2
          go_quiet (fail)
          go_wp2
          go_roundw
          case rel => exact ⟨k + 1, _, by omega, by go_num, rfl, by rw [T1.out, T2.out, HT.out, HE.out]⟩
          case measure => simp [intOf]; omega
        · have heb : (nth l k != nth l2 k) = true := by simp [heq]
          have heb2 : (nth l k == nth l2 k) = false := by simp [heq]
          have HE := hid heq; clear heq
          go_wp2
          go_quiet (fail)
          go_wp2
          go_ret
          refine ⟨ret_bool ?_, _, World.drewN_drewN _ _ _⟩
          symm
          rw [decide_eq_false_iff_not]
          rintro rfl
          exact HE.out rfl
      · go_wp2
        go_ret
        refine ⟨ret_bool ?_, _, rfl⟩
        symm
        rw [decide_eq_true_iff]
        have := HT.out
        rwa [List.take_of_length_le (by rw [HL.out]; omega), List.take_of_length_le (by rw [HL2.out]; omega)] at this
  · have e1 : ((n : Int) != (n2 : Int)) = true := by simp; omega
    have e2 : ((n : Int) == (n2 : Int)) = false := by simp; omega
    have hfin : decide (l = l2) = false := by
      rw [decide_eq_false_iff_not]
      rintro rfl
      omega
    have HF := hid hfin; clear hfin hl hl2 hne
    go_enter Try.func26, Try.ntmps26
    go_wp2
    go_ret
    exact ⟨ret_bool HF.out.symm, 0, rfl⟩

theorem eqIntS_b (A A2 : Option Addr) (n c n2 c2 : Nat) (l l2 : List Int) (w : World) (B B2 : Nat) (hs : Sl w B A n l) (hs2 : Sl w B2 A2 n2 l2) :
    Calls Try.prog 26 #[.slice A n c, .slice A2 n2 c2] w fun e w' => e = .returned (.bool (decide (l = l2))) ∧ Below w.heap.size w w' :=
  (eqIntS_any A A2 n c n2 c2 l l2 w B B2 hs hs2).mono fun e w' ⟨h, m, hm⟩ => ⟨h, hm ▸ below_drewN (Below.refl _ _) m⟩
end Go.Proofs.Ytkejcajboneniaa

namespace Go.Proofs.Ytkejcajboneniaa
open Go.RowKit
set_option linter.unusedVariables false
set_option linter.unusedSimpArgs false

set_option maxHeartbeats 800000 in
/-- laws.sameInts: whether two lists are equal. -/
theorem sameInts_any (A A2 : Option Addr) (n c n2 c2 : Nat) (l l2 : List Int) (w : World) (B B2 : Nat) (hs : Sl w B A n l) (hs2 : Sl w B2 A2 n2 l2) :
    Calls Try.prog 24 #[.slice A n c, .slice A2 n2 c2] w fun e w' => e = .returned (.bool (decide (l = l2))) ∧ ∃ m, w' = w.drewN m := by
  have hm := hs.max
  have hm2 := hs2.max
  have hl := hs.len
  have hl2 := hs2.len
  by_cases hne : n = n2
  · subst hne
    have HL := hid hl; clear hl
    have HL2 := hid hl2; clear hl2
    have e1 : ((n : Int) != (n : Int)) = false := by simp
    go_enter Try.func24, Try.ntmps24
    go_wp2
    go_loopw [5] (fun i wr => ∃ k m : Nat, k ≤ n ∧ i = .int .i64 k ∧ wr = w.drewN m ∧ l.take k = l2.take k) (fun i _ => n - (intOf i).toNat)
    case atStart => exact ⟨0, 0, Nat.zero_le _, rfl, rfl, rfl⟩
    case round =>
      obtain ⟨k, m, hk, rfl, rfl, htk⟩ := hrel
      have HT := hid htk; clear htk
      by_cases hlt : k < n
      · obtain ⟨b, off, rfl, _, hc⟩ := hs.2.2 (by omega)
        obtain ⟨b2, off2, rfl, _, hc2⟩ := hs2.2.2 (by omega)
        have hck := hc k hlt
        have hck2 := hc2 k hlt
        clear hc hc2
        have hlti : (k : Int) < (n : Int) := by omega
        have t1 := take_nth (l := l) (k := k) (by rw [HL.out]; exact hlt)
        have t2 := take_nth (l := l2) (k := k) (by rw [HL2.out]; exact hlt)
        have T1 := hid t1; clear t1
        have T2 := hid t2; clear t2
        by_cases heq : nth l k = nth l2 k
        · have HE := hid heq
          have heb : (nth l k != nth l2 k) = false := by simp [heq]
          have heb2 : (nth l k == nth l2 k) = true := by simp [heq]
          clear heq
          go_wp2
          go_quiet (fail)
          go_wp2
          go_roundw
          case rel => exact ⟨k + 1, _, by omega, by go_num, rfl, by rw [T1.out, T2.out, HT.out, HE.out]⟩
          case measure => simp [intOf]; omega
        · have heb : (nth l k != nth l2 k) = true := by simp [heq]
          have heb2 : (nth l k == nth l2 k) = false := by simp [heq]
          have HE := hid heq; clear heq
          go_wp2
          go_quiet (fail)
          go_wp2
          go_ret
          refine ⟨ret_bool ?_, _, World.drewN_drewN _ _ _⟩
          symm
          rw [decide_eq_false_iff_not]
          rintro rfl
          exact HE.out rfl
      · go_wp2
        go_ret
        refine ⟨ret_bool ?_, _, rfl⟩
        symm
        rw [decide_eq_true_iff]
        have := HT.out
        rwa [List.take_of_length_le (by rw [HL.out]; omega), List.take_of_length_le (by rw [HL2.out]; omega)] at this
  · have e1 : ((n : Int) != (n2 : Int)) = true := by simp; omega
    have e2 : ((n : Int) == (n2 : Int)) = false := by simp; omega
    have hfin : decide (l = l2) = false := by
      rw [decide_eq_false_iff_not]
      rintro rfl
      omega
    have HF := hid hfin; clear hfin hl hl2 hne
    go_enter Try.func24, Try.ntmps24
    go_wp2
    go_ret
    exact ⟨ret_bool HF.out.symm, 0, rfl⟩


theorem sameInts_b (A A2 : Option Addr) (n c n2 c2 : Nat) (l l2 : List Int) (w : World) (B B2 : Nat) (hs : Sl w B A n l) (hs2 : Sl w B2 A2 n2 l2) :
    Calls Try.prog 24 #[.slice A n c, .slice A2 n2 c2] w fun e w' => e = .returned (.bool (decide (l = l2))) ∧ Below w.heap.size w w' :=
  (sameInts_any A A2 n c n2 c2 l l2 w B B2 hs hs2).mono fun e w' ⟨h, m, hm⟩ => ⟨h, hm ▸ below_drewN (Below.refl _ _) m⟩
end Go.Proofs.Ytkejcajboneniaa

namespace Go.Proofs.Ytkejcajboneniaa
open Go.RowKit
set_option linter.unusedVariables false
set_option linter.unusedSimpArgs false

set_option maxHeartbeats 800000 in
/-- laws.markIntS: writes k, k+1 .. into a row that the call owns. -/
theorem markIntS_any (A : Option Addr) (n c base : Nat) (l : List Int) (k0 : Int) (w : World) (ho : w.ownsRow base 3 1 (.slice A n c) n (ints l)) (hk0 : 0 ≤ k0) (hk1 : k0 + n ≤ 9223372036854775807) (hb : base ≤ w.heap.size) :
    Calls Try.prog 27 #[.slice A n c, .int .i64 k0] w fun e w' => e = .returned (.int .i64 (k0 + n)) ∧ w'.ownsRow base 3 1 (.slice A n c) n (ints (marks k0 n)) ∧ w.grownBy w' (Value.slice A n c).ownBlock := by
  have hl : l.length = n := by have := ho.1; simpa using this
  have HL := hid hl; clear hl
  go_enter Try.func27, Try.ntmps27
  go_wp2
  go_loopw [1, 5] (fun x i wr => ∃ k : Nat, k ≤ n ∧ i = .int .i64 k ∧ x = .int .i64 (k0 + k) ∧ wr.ownsRow base 3 1 (.slice A n c) n (ints (marked l k0 k)) ∧ w.grownBy wr (Value.slice A n c).ownBlock) (fun _ i _ => n - (intOf i).toNat)
  case atStart => exact ⟨0, Nat.zero_le _, rfl, by simp, by rw [marked_zero]; exact ho, World.grownBy.refl _ _⟩
  case round =>
    obtain ⟨k, hk, rfl, rfl, hown, hg⟩ := hrel
    by_cases hlt : k < n
    · have hown2 := hown
      rcases hown2.2 with ⟨h1, h2⟩ | ⟨g, cap, cur, hv, hbg, hgg, hnc, hcm, hsz, ht⟩
      · omega
      · injection hv with h1 h2 h3
        subst h1
        subst h3
        clear hown2 hgg ht hsz h2
        have hcell := own_cell hown (marked_len HL.out hk) hlt
        have hfz := hown.frozenAt k
        have hst := hown.stored k (.int .i64 (k0 + k))
        obtain ⟨hst1, hst2⟩ := hst
        rw [ints_set, marked_step HL.out hlt] at hst1
        have HS := hid hst1
        have HG := hid (hg.trans hst2)
        clear hst1 hst2 hown ho
        go_wp2
        go_roundw
        case rel => exact ⟨k + 1, by omega, by go_num, by go_num, HS.out, HG.out⟩
        case measure => simp [intOf]; omega
    · obtain rfl : k = n := by omega
      rw [marked_all HL.out] at hown
      have HO := hid hown; clear hown ho
      have HG := hid hg; clear hg
      go_wp2
      go_ret
      exact ⟨rfl, HO.out, HG.out⟩

set_option maxHeartbeats 800000 in
/-- laws.heldIntS: whether the marks are still there. -/
theorem heldIntS_any (A : Option Addr) (n c : Nat) (k0 : Int) (w : World) (B : Nat) (hs : Sl w B A n (marks k0 n)) (hk0 : 0 ≤ k0) (hk1 : k0 + n ≤ 9223372036854775807) :
    Calls Try.prog 55 #[.slice A n c, .int .i64 k0] w fun e w' => e = .returned (.int .i64 (k0 + n)) ∧ w = w' := by
  go_enter Try.func55, Try.ntmps55
  go_wp2
  go_loop [1, 5] (fun x i => ∃ k : Nat, k ≤ n ∧ i = .int .i64 k ∧ x = .int .i64 (k0 + k)) (fun _ i => n - (intOf i).toNat)
  case atStart => exact ⟨0, Nat.zero_le _, rfl, by simp⟩
  case round =>
    obtain ⟨k, hk, rfl, rfl⟩ := hrel
    by_cases hlt : k < n
    · obtain ⟨b, off, rfl, _, hc⟩ := hs.2.2 (by omega)
      have hck := hc k hlt
      rw [nth_marks _ hlt] at hck
      clear hc
      have e1 : (k0 + (k : Int) != k0 + (k : Int)) = false := by simp
      go_wp2
      go_round
      case rel => exact ⟨k + 1, by omega, by go_num, by go_num⟩
      case measure => simp [intOf]; omega
    · obtain rfl : k = n := by omega
      go_wp2
      go_ret
      exact ⟨rfl, rfl⟩

end Go.Proofs.Ytkejcajboneniaa

namespace Go.Proofs.Ytkejcajboneniaa
open Go.RowKit
set_option linter.unusedVariables false
set_option linter.unusedSimpArgs false

set_option maxHeartbeats 800000 in
/-- laws.toIntS: a copy in new memory. -/
theorem toIntS_any (A : Option Addr) (n c : Nat) (l : List Int) (w : World) (hs : Sl w w.heap.size A n l) (hn : n * 8 ≤ 140737488355328) :
    Calls Try.prog 25 #[.slice A n c] w fun e w' => ∃ g, e = .returned (.slice (some ⟨g, 0, none⟩) n n) ∧ w'.ownsRow w.heap.size 3 1 (.slice (some ⟨g, 0, none⟩) n n) n (ints l) ∧ Below w.heap.size w w' := by
  obtain ⟨i0, hi, hz0, hz1, hz2⟩ := info_parts info_int
  have hm := hs.max
  have hl := hs.len
  have HL := hid hl; clear hl
  go_enter Try.func25, Try.ntmps25
  go_wp2_with (refine wpList_make_full _ rfl (.tmp 6) (.tmp 6) 23 rfl w.heap.size 3 i0 _ 1 Try.underlying23 hi hz0 hz1 .i64 .i64 n n n rfl rfl rfl rfl (by rw [hz2]; omega) (by simp only [maxLen]; omega) (Nat.le_refl _) ?_; intro w1 hown1 hg1)
  rw [madeInts, ← filled_zero l n] at hown1
  have hbw : Below w.heap.size w w1 := (Below.refl _ _).grown hg1 (Nat.le_refl _) (by simp)
  clear hg1 hi hz0 hz1 hz2
  go_loopw [4] (fun i wr => ∃ k : Nat, k ≤ n ∧ i = .int .i64 k ∧ wr.ownsRow w.heap.size 3 1 (.slice (some ⟨w.heap.size, 0, none⟩) n n) n (ints (filled l k n)) ∧ Below w.heap.size w wr) (fun i _ => n - (intOf i).toNat)
  case atStart => exact ⟨0, Nat.zero_le _, rfl, hown1, hbw⟩
  case round =>
    obtain ⟨k, hk, rfl, hown, hb⟩ := hrel
    by_cases hlt : k < n
    · have hcell := own_cell hown (by have := hown.1; simpa using this) hlt
      have hfz := hown.frozenAt k
      obtain ⟨b, off, rfl, hbl, hc⟩ := (hs.below hb).2.2 (by omega)
      have hck := hc k hlt
      have hst := (hown.stored k (.int .i64 (nth l k))).1
      rw [ints_set, filled_step HL.out hlt] at hst
      have HS := hid hst
      clear hst hown hc hown1
      go_wp2
      go_roundw
      case rel => exact ⟨k + 1, by omega, by go_num, HS.out, hb.setCell (Nat.le_refl _) _⟩
      case measure => simp [intOf]; omega
    · obtain rfl : k = n := by omega
      rw [filled_all HL.out] at hown
      have HO := hid hown; clear hown hown1
      go_wp2
      go_ret
      exact ⟨_, rfl, HO.out, hb⟩

end Go.Proofs.Ytkejcajboneniaa

namespace Go.Proofs.Ytkejcajboneniaa
open Go.RowKit
set_option linter.unusedVariables false
set_option linter.unusedSimpArgs false

theorem asc_nth {l : List Int} (h : l.Pairwise (· < ·)) {j : Nat} (hj : j + 1 < l.length) : nth l j < nth l (j + 1) := by
  rw [nth_lt (by omega), nth_lt hj]
  exact List.pairwise_iff_getElem.1 h j (j + 1) (by omega) hj (by omega)

end Go.Proofs.Ytkejcajboneniaa

namespace Go.Proofs.Ytkejcajboneniaa
open Go.RowKit
set_option linter.unusedVariables false
set_option linter.unusedSimpArgs false

end Go.Proofs.Ytkejcajboneniaa

namespace Go.Proofs.Ytkejcajboneniaa
open Go.RowKit
set_option linter.unusedVariables false
set_option linter.unusedSimpArgs false

/-- All numbers are in lo..hi. -/
def allIn (l : List Int) (lo hi : Int) : Bool := l.all fun x => decide (lo ≤ x ∧ x ≤ hi)
theorem allIn_snoc (l : List Int) (x lo hi : Int) : allIn (l ++ [x]) lo hi = (allIn l lo hi && decide (lo ≤ x ∧ x ≤ hi)) := by simp [allIn]
theorem allIn_take_false {l : List Int} {lo hi : Int} {k : Nat} (h : allIn (l.take k) lo hi = false) : allIn l lo hi = false := by
  rw [← List.take_append_drop k l]; unfold allIn at *; rw [List.all_append, h]; rfl

def within (n lo hi : Int) : Bool := decide (lo ≤ n ∧ n ≤ hi)

set_option maxHeartbeats 400000 in
theorem statesOk_any (s : Int) (w : World) :
    Calls Try.prog 69 #[.int .i64 s] w fun e w' => e = .returned (.bool (within s 1 4)) ∧ w = w' := by
  by_cases h1 : 1 ≤ s
  · go_enter Try.func69, Try.ntmps69
    go_wp2
    go_ret
    exact ⟨ret_bool (by simp [within, h1]), rfl⟩
  · have h1' : decide (1 ≤ s) = false := by simpa using h1
    go_enter Try.func69, Try.ntmps69
    go_wp2
    go_ret
    exact ⟨ret_bool (by simp [within]; omega), rfl⟩

set_option maxHeartbeats 400000 in
theorem l1In_any (n lo hi : Int) (w : World) :
    Calls Try.prog 68 #[.int .i64 n, .int .i64 lo, .int .i64 hi] w fun e w' => e = .returned (.bool (within n lo hi)) ∧ w = w' := by
  by_cases h1 : lo ≤ n
  · go_enter Try.func68, Try.ntmps68
    go_wp2
    go_ret
    exact ⟨ret_bool (by simp [within, h1]), rfl⟩
  · have h1' : decide (lo ≤ n) = false := by simpa using h1
    go_enter Try.func68, Try.ntmps68
    go_wp2
    go_ret
    exact ⟨ret_bool (by simp [within]; omega), rfl⟩

set_option maxHeartbeats 400000 in
theorem allWithin_any (A : Option Addr) (n c : Nat) (l : List Int) (lo hi : Int) (w : World) (B : Nat) (hs : Sl w B A n l) :
    Calls Try.prog 53 #[.slice A n c, .int .i64 lo, .int .i64 hi] w fun e w' => e = .returned (.bool (allIn l lo hi)) ∧ w = w' := by
  have hm := hs.max
  go_enter Try.func53, Try.ntmps53
  go_wp2
  go_loop [11] (fun i => ∃ k : Nat, k ≤ n ∧ i = .int .i64 k ∧ allIn (l.take k) lo hi = true) (fun i => n - (intOf i).toNat)
  case atStart => exact ⟨0, Nat.zero_le _, rfl, rfl⟩
  case round =>
    obtain ⟨k, hk, rfl, hall⟩ := hrel
    have HA := hid hall; clear hall
    have hlen := hs.len
    have HL := hid hlen; clear hlen
    by_cases hlt : k < n
    · obtain ⟨b, off, rfl, _, hc⟩ := hs.2.2 (by omega)
      have hck := hc k hlt
      clear hc
      by_cases h1 : nth l k < lo
      · go_wp2
        go_ret
        refine ⟨ret_bool ?_, rfl⟩
        symm
        apply allIn_take_false (k := k + 1)
        rw [take_nth (by rw [HL.out]; exact hlt), allIn_snoc]; simp; omega
      · by_cases h2 : hi < nth l k
        · have h1' : decide (nth l k < lo) = false := by simpa using h1
          go_wp2
          go_ret
          refine ⟨ret_bool ?_, rfl⟩
          symm
          apply allIn_take_false (k := k + 1)
          rw [take_nth (by rw [HL.out]; exact hlt), allIn_snoc]; simp; omega
        · have h1' : decide (nth l k < lo) = false := by simpa using h1
          have h2' : decide (hi < nth l k) = false := by simpa using h2
          go_wp2
          go_round
          case rel => exact ⟨k + 1, by omega, by go_num, by rw [take_nth (by rw [HL.out]; exact hlt), allIn_snoc, HA.out]; simp; omega⟩
          case measure => simp [intOf]; omega
    · go_wp2
      go_ret
      refine ⟨ret_bool ?_, rfl⟩
      have := HA.out
      rw [List.take_of_length_le (by rw [HL.out]; omega)] at this
      exact this.symm

/-- A row of 1..40 machines, each in 0..states less 1, for states in 1..4. -/
def cellsOk (l : List Int) (s : Int) : Bool := within s 1 4 && (decide (1 ≤ l.length) && (decide (l.length ≤ 40) && allIn l 0 (s - 1)))

theorem within_iff {n lo hi : Int} : within n lo hi = true ↔ lo ≤ n ∧ n ≤ hi := by simp [within]

set_option maxHeartbeats 800000 in
theorem cellsOk_any (A : Option Addr) (n c : Nat) (l : List Int) (s : Int) (w : World) (B : Nat) (hs : Sl w B A n l) :
    Calls Try.prog 45 #[.slice A n c, .int .i64 s] w fun e w' => e = .returned (.bool (cellsOk l s)) ∧ w = w' := by
  have hm := hs.max
  have hl := hs.len
  have HL := hid hl; clear hl
  by_cases h1 : within s 1 4 = true
  · have hb := within_iff.1 h1
    obtain ⟨hb1, hb2⟩ := hb
    by_cases h2 : 1 ≤ n
    · by_cases h3 : n ≤ 40
      · go_enter Try.func45, Try.ntmps45
        go_wp2_with (first | (go_at_call 69; refine (statesOk_any _ _).mono ?_; rintro e w' ⟨rfl, rfl⟩) | (go_at_call 53; refine (allWithin_any _ _ _ l _ _ _ _ hs).mono ?_; rintro e w' ⟨rfl, rfl⟩))
        go_ret
        exact ⟨ret_bool (by unfold cellsOk; rw [h1, HL.out]; simp [h2, h3]), rfl⟩
      · have h3' : decide ((n : Int) ≤ 40) = false := by simp; omega
        go_enter Try.func45, Try.ntmps45
        go_wp2_with (first | (go_at_call 69; refine (statesOk_any _ _).mono ?_; rintro e w' ⟨rfl, rfl⟩) | (go_at_call 53; refine (allWithin_any _ _ _ l _ _ _ _ hs).mono ?_; rintro e w' ⟨rfl, rfl⟩))
        go_ret
        exact ⟨ret_bool (by unfold cellsOk; rw [h1, HL.out]; simp [h3]), rfl⟩
    · have h2' : decide (1 ≤ (n : Int)) = false := by simp; omega
      go_enter Try.func45, Try.ntmps45
      go_wp2_with (first | (go_at_call 69; refine (statesOk_any _ _).mono ?_; rintro e w' ⟨rfl, rfl⟩) | (go_at_call 53; refine (allWithin_any _ _ _ l _ _ _ _ hs).mono ?_; rintro e w' ⟨rfl, rfl⟩))
      go_ret
      exact ⟨ret_bool (by unfold cellsOk; rw [h1, HL.out]; simp [show n = 0 from by omega]), rfl⟩
  · have h1' : within s 1 4 = false := by simpa using h1
    go_enter Try.func45, Try.ntmps45
    go_wp2_with (first | (go_at_call 69; refine (statesOk_any _ _).mono ?_; rintro e w' ⟨rfl, rfl⟩) | (go_at_call 53; refine (allWithin_any _ _ _ l _ _ _ _ hs).mono ?_; rintro e w' ⟨rfl, rfl⟩))
    go_ret
    exact ⟨ret_bool (by unfold cellsOk; rw [h1']; rfl), rfl⟩

/-- A literal slice of ints. -/
theorem Sl.lit (w : World) (e : TypeId) (l : List Int) (hl : l.length ≤ 1000000) : Sl (w.alloc (.cells (l.map (Value.int .i64)).toArray e)) (w.heap.size + 1) (some ⟨w.heap.size, 0, none⟩) l.length l := by
  have h := World.ownsRow_lit (base := w.heap.size) (e := e) (size := 1) w (l.map (Value.int .i64)).toArray l.length (Nat.le_refl _) (by simp only [maxLen]; omega) (by simp)
  have h2 := Sl.of_own (c := l.length) (l := l) (by simpa using h)
  simpa using h2

set_option maxHeartbeats 800000 in
theorem alive_any (w : World) :
    Calls Try.prog 14 #[] w fun e w' => e = .returned (.bool true) ∧ Below w.heap.size w w' := by
  have c1 : cellsOk [1] 2 = true := by decide
  have c2 : cellsOk [2] 2 = false := by decide
  have hL1 : Sl (w.alloc (.cells #[.int .i64 1] 3)) (w.heap.size + 1) (some ⟨w.heap.size, 0, none⟩) 1 [1] := by simpa using Sl.lit w 3 [1] (by decide)
  have hL2 : Sl ((w.alloc (.cells #[.int .i64 1] 3)).alloc (.cells #[.int .i64 2] 3)) (w.heap.size + 1 + 1) (some ⟨w.heap.size + 1, 0, none⟩) 1 [2] := by simpa using Sl.lit (w.alloc (.cells #[.int .i64 1] 3)) 3 [2] (by decide)
  go_enter Try.func14, Try.ntmps14
  go_wp2_with fail
  refine (cellsOk_any _ _ _ [1] 2 _ _ hL1).mono ?_
  rintro e w1 ⟨rfl, rfl⟩
  go_wp2_with fail
  refine (cellsOk_any _ _ _ [2] 2 _ _ hL2).mono ?_
  rintro e w1 ⟨rfl, rfl⟩
  go_wp2
  go_ret
  exact ⟨rfl, ((Below.refl _ _).alloc (Nat.le_refl _) _).alloc (by simp) _⟩
end Go.Proofs.Ytkejcajboneniaa

namespace Go.Proofs.Ytkejcajboneniaa
open Go.RowKit
set_option linter.unusedVariables false
set_option linter.unusedSimpArgs false

/-- Block g is a reader: a slice of at most 2000 bytes that lies below it, and a place of at most P. -/
def Rd (w : World) (g : Nat) (P : Nat) : Prop :=
  ∃ (A : Option Addr) (n c p : Nat), w.heap[g]? = some (.cells #[.slice A n c, .int .i64 p] 91 (0, 0)) ∧ By w g A n ∧ n ≤ 2000 ∧ p ≤ P

theorem Rd.lt {w : World} {g P : Nat} (h : Rd w g P) : g < w.heap.size := by
  obtain ⟨A, n, c, p, h, _⟩ := h
  rcases Nat.lt_or_ge g w.heap.size with hlt | hge
  · exact hlt
  · rw [Array.getElem?_eq_none hge] at h; cases h
theorem Rd.more {w : World} {g P P' : Nat} (h : Rd w g P) (hp : P ≤ P') : Rd w g P' := by
  obtain ⟨A, n, c, p, h1, h2, h3, h4⟩ := h
  exact ⟨A, n, c, p, h1, h2, h3, by omega⟩
theorem Rd.keep {w w' : World} {g P : Nat} (h : Rd w g P) (hk : ∀ k, k ≤ g → w'.heap[k]? = w.heap[k]?) : Rd w' g P := by
  obtain ⟨A, n, c, p, h1, h2, h3, h4⟩ := h
  exact ⟨A, n, c, p, (hk g (Nat.le_refl _)).trans h1, h2.keep (Nat.le_refl _) (fun q hq => World.cell?_of_block (hk q.block (by omega))), h3, h4⟩
/-- The reader stays where only newer blocks, and those at most, have changed. -/
theorem Rd.below {w w' : World} {g P B : Nat} (h : Rd w g P) (hb : Below B w w') (hg : g < B) : Rd w' g P := h.keep fun k hk => hb.block k (by omega)
theorem Rd.grown {w w' : World} {g P : Nat} {row : Option Nat} (h : Rd w g P) (hb : w.grownBy w' row) (hr : ∀ k, row = some k → g < k) : Rd w' g P :=
  h.keep fun k hk => hb.block k (by have := h.lt; omega) (fun e => by have := hr k e.symm; omega)

set_option maxHeartbeats 800000 in
theorem open_any (A : Option Addr) (n c : Nat) (w : World) (hs : By w w.heap.size A n) (hc : n ≤ c) :
    Calls Try.prog 43 #[.slice A n c] w fun e w' => ∃ g, e = .returned (.pointer (some ⟨g, 0, none⟩)) ∧ Rd w' g 0 ∧ w.heap.size ≤ g ∧ Below w.heap.size w w' := by
  have hm : n ≤ 9223372036854775807 := hs.1
  by_cases hbig : 2000 < n
  · go_enter Try.func43, Try.ntmps43
    go_wp2
    go_ret
    refine ⟨_, rfl, ⟨A, 2000, c, 0, heap_alloc_new w _, ⟨by simp [maxLen], fun hn => ?_⟩, by omega, Nat.le_refl _⟩, Nat.le_refl _, (Below.refl _ _).alloc (Nat.le_refl _) _⟩
    obtain ⟨b, off, e, hb, hcell⟩ := hs.2 (by omega)
    refine ⟨b, off, e, hb, fun j hj => ?_⟩
    obtain ⟨x, h1, h2, h3⟩ := hcell j (by omega)
    exact ⟨x, h1, h2, (World.cell?_alloc_lt w _ _ hb).trans h3⟩
  · go_enter Try.func43, Try.ntmps43
    go_wp2
    go_ret
    refine ⟨_, rfl, ⟨A, n, c, 0, heap_alloc_new w _, hs.keep (Nat.le_refl _) (fun q hq => World.cell?_alloc_lt w _ q hq), by omega, Nat.le_refl _⟩, Nat.le_refl _, (Below.refl _ _).alloc (Nat.le_refl _) _⟩

theorem ofInt_nn (a : Nat) (ha : a < 9223372036854775808) : (BitVec.ofInt 64 (a : Int)).toNat = a := by
  rw [BitVec.ofInt_natCast, BitVec.toNat_ofNat]; exact Nat.mod_eq_of_lt (by omega)
theorem xor_nn {a b : Int} (ha : 0 ≤ a) (ha' : a < 9223372036854775808) (hb : 0 ≤ b) (hb' : b < 9223372036854775808) : 0 ≤ bits .xor .i64 a b := by
  obtain ⟨a, rfl⟩ := Int.eq_ofNat_of_zero_le ha
  obtain ⟨b, rfl⟩ := Int.eq_ofNat_of_zero_le hb
  have hx : a ^^^ b < 2 ^ 63 := Nat.xor_lt_two_pow (by omega) (by omega)
  show 0 ≤ IntKind.i64.wrap ((BitVec.ofInt 64 (a : Int) ^^^ BitVec.ofInt 64 (b : Int)).toNat : Int)
  rw [BitVec.toNat_xor, ofInt_nn a (by omega), ofInt_nn b (by omega), IntKind.wrap_i64]
  omega
theorem grown_drewN {a w : World} {row : Option Nat} (h : a.grownBy w row) (n : Nat) : a.grownBy (w.drewN n) row := ⟨h.os, h.tape, h.output, h.size, h.block⟩

set_option maxHeartbeats 1600000 in
theorem pick_any (g P : Nat) (m : Int) (w : World) (hr : Rd w g P) (hP : P < 1000000) (hm : 1 ≤ m) (hm2 : m ≤ 1000000) :
    Calls Try.prog 67 #[.pointer (some ⟨g, 0, none⟩), .int .i64 m] w fun e w' => ∃ x : Int, e = .returned (.int .i64 x) ∧ 0 ≤ x ∧ x < m ∧ Rd w' g (P + 1) ∧ w.grownBy w' (some g) := by
  have hglt := hr.lt
  obtain ⟨A, n, c, p, hg, hb, hn, hp⟩ := hr
  have hc0 : w.cell? ⟨g, 0, none⟩ = some (.slice A n c) := cell_of_row w g 0 _ _ _ hg
  have hc1 : w.cell? ⟨g, 1, none⟩ = some (.int .i64 p) := cell_of_row w g 1 _ _ _ hg
  have hf1 : w.frozen? ⟨g, 1, none⟩ = false := frozen_of_row w g 1 _ _ hg
  have hg1 : (w.setCell ⟨g, 1, none⟩ (.int .i64 (p + 1))).heap[g]? = some (.cells #[.slice A n c, .int .i64 (p + 1)] 91 (0, 0)) := heap_setCell_same w g 1 _ _ _ hg
  have hgr : w.grownBy (w.setCell ⟨g, 1, none⟩ (.int .i64 (p + 1))) (some g) := ⟨rfl, rfl, rfl, by simp, fun k _ hk => heap_setCell_other w ⟨g, 1, none⟩ k _ (fun e => hk (by simp [e]))⟩
  have hrd : Rd (w.setCell ⟨g, 1, none⟩ (.int .i64 (p + 1))) g (P + 1) :=
    ⟨A, n, c, p + 1, hg1, hb.keep (Nat.le_refl _) (fun q hq => World.cell?_setCell_other w _ _ _ (fun e => by subst e; simp at hq)), hn, by omega⟩
  clear hg1 hg
  by_cases h0 : n = 0
  · subst h0
    have e1 : decide (m < 1) = false := by simp; omega
    go_enter Try.func67, Try.ntmps67
    go_wp2
    go_ret
    exact ⟨0, rfl, Int.le_refl _, by omega, hrd, hgr⟩
  · have e1 : decide (m < 1) = false := by simp; omega
    have e2 : ((n : Int) == 0) = false := by simp; omega
    obtain ⟨b, off, rfl, hbg, hcell⟩ := hb.2 (by omega)
    by_cases hlt : p < n
    · obtain ⟨x, hx0, hx1, hx2⟩ := hcell p hlt
      have hx3 : (w.setCell ⟨g, 1, none⟩ (.int .i64 (p + 1))).cell? ⟨b, off + p, none⟩ = some (.int .u8 x) := (World.cell?_setCell_other w _ _ _ (fun e => by injection e with e; omega)).trans hx2
      clear hcell
      go_enter Try.func67, Try.ntmps67
      go_wp2
      go_ret
      exact ⟨_, rfl, Int.emod_nonneg _ (by omega), Int.emod_lt_of_pos _ (by omega), hrd, hgr⟩
    · have hn1 : 1 ≤ n := by omega
      obtain ⟨i1, hi1⟩ : ∃ i1 : Nat, p % n = i1 := ⟨_, rfl⟩
      obtain ⟨i2, hi2⟩ : ∃ i2 : Nat, (p * 7 + 3) % n = i2 := ⟨_, rfl⟩
      obtain ⟨q, hq⟩ : ∃ q : Nat, p / n = q := ⟨_, rfl⟩
      have hb1 : i1 < n := by rw [← hi1]; exact Nat.mod_lt _ (by omega)
      have hb2 : i2 < n := by rw [← hi2]; exact Nat.mod_lt _ (by omega)
      have hb3 : q ≤ p := by rw [← hq]; exact Nat.div_le_self _ _
      obtain ⟨x, hx0, hx1, hx2⟩ := hcell _ hb1
      obtain ⟨y, hy0, hy1, hy2⟩ := hcell _ hb2
      have hx3 : (w.setCell ⟨g, 1, none⟩ (.int .i64 (p + 1))).cell? ⟨b, off + i1, none⟩ = some (.int .u8 x) := (World.cell?_setCell_other w _ _ _ (fun e => by injection e with e; omega)).trans hx2
      have hy3 : (w.setCell ⟨g, 1, none⟩ (.int .i64 (p + 1))).cell? ⟨b, off + i2, none⟩ = some (.int .u8 y) := (World.cell?_setCell_other w _ _ _ (fun e => by injection e with e; omega)).trans hy2
      have k1 : IntKind.i64.wrap (x * 131) = x * 131 := IntWalk.i64_in _ (by omega)
      have k2 : IntKind.i64.wrap (y * 1117) = y * 1117 := IntWalk.i64_in _ (by omega)
      have k3 : IntKind.i64.wrap (x * 131 + y * 1117) = x * 131 + y * 1117 := IntWalk.i64_in _ (by omega)
      have k4 : IntKind.i64.wrap ((p : Int) * 29) = (p : Int) * 29 := IntWalk.i64_in _ (by omega)
      have k5 : IntKind.i64.wrap (x * 131 + y * 1117 + (p : Int) * 29) = x * 131 + y * 1117 + (p : Int) * 29 := IntWalk.i64_in _ (by omega)
      have k6 : IntKind.i64.wrap ((q : Int) * 53) = (q : Int) * 53 := IntWalk.i64_in _ (by omega)
      have k7 : IntKind.i64.wrap (x * 131 + y * 1117 + (p : Int) * 29 + (q : Int) * 53) = x * 131 + y * 1117 + (p : Int) * 29 + (q : Int) * 53 := IntWalk.i64_in _ (by omega)
      have k8 : IntKind.i64.wrap ((p : Int) * 7) = (p : Int) * 7 := IntWalk.i64_in _ (by omega)
      have k9 : IntKind.i64.wrap ((p : Int) * 7 + 3) = (p : Int) * 7 + 3 := IntWalk.i64_in _ (by omega)
      have k10 : IntKind.i64.wrap (x : Int) = x := IntWalk.i64_in _ (by omega)
      have k11 : IntKind.i64.wrap (y : Int) = y := IntWalk.i64_in _ (by omega)
      have k12 : IntKind.i64.wrap (q : Int) = q := IntWalk.i64_in _ (by omega)
      have m1 : ((p : Int).tmod (n : Int)) = (i1 : Int) := by rw [← hi1]; rfl
      have m2 : (((p : Int) * 7 + 3).tmod (n : Int)) = (i2 : Int) := by rw [← hi2]; rfl
      have m3 : ((p : Int).tdiv (n : Int)) = (q : Int) := by rw [← hq]; rfl
      have m4 : ((p : Int) % (n : Int)) = (i1 : Int) := by rw [← hi1]; rfl
      have m5 : (((p : Int) * 7 + 3) % (n : Int)) = (i2 : Int) := by rw [← hi2]; rfl
      have m6 : ((p : Int) / (n : Int)) = (q : Int) := by rw [← hq]; rfl
      have hb1' : (i1 : Int) < (n : Int) := by omega
      have hb2' : (i2 : Int) < (n : Int) := by omega
      clear hcell hx2 hy2 hi1 hi2 hq
      go_enter Try.func67, Try.ntmps67
      go_wp2
      go_quiet (fail)
      clear k1 k2 k3 k4 k5 k6 k7 k8 k9 k10 k11 k12 m1 m2 m3 m4 m5 m6
      obtain ⟨X, hX⟩ : ∃ X : Int, x * 131 + y * 1117 + (p : Int) * 29 + (q : Int) * 53 = X := ⟨_, rfl⟩
      rw [hX]
      have hX0 : 0 ≤ X := by omega
      have hX1 : X ≤ 1000000000 := by omega
      clear hX hx3 hy3
      go_wp2
      go_ret
      exact ⟨_, rfl, Int.tmod_nonneg _ (xor_nn hX0 (by omega) (by omega) (by omega)), Int.tmod_lt_of_pos _ (by omega), hrd.keep (fun _ _ => rfl), grown_drewN hgr _⟩
theorem rd_push {w1 w2 : World} {g P B : Nat} {o : Obj} {v : Value} (hr : Rd w1 g P) (hg : (w1.alloc o).grownBy w2 v.ownBlock) (hv : v.ownBlock = none ∨ ∃ k, v.ownBlock = some k ∧ B ≤ k) (hB : g < B) : Rd w2 g P :=
  (hr.below ((Below.refl w1.heap.size w1).alloc (Nat.le_refl _) _) hr.lt).grown hg (by
    intro k hk
    rcases hv with h | ⟨k', h, hk'⟩
    · rw [h] at hk; cases hk
    · rw [h] at hk; cases hk; omega)
end Go.Proofs.Ytkejcajboneniaa

namespace Go.Proofs.Ytkejcajboneniaa
open Go.RowKit
set_option linter.unusedVariables false
set_option linter.unusedSimpArgs false

set_option maxHeartbeats 800000 in
theorem odd_any (g P : Nat) (m : Int) (w : World) (hr : Rd w g P) (hP : P < 1000000) (hm : 1 ≤ m) (hm2 : m ≤ 1000000) :
    Calls Try.prog 64 #[.pointer (some ⟨g, 0, none⟩), .int .i64 m] w fun e w' => ∃ b : Bool, e = .returned (.bool b) ∧ Rd w' g (P + 1) ∧ w.grownBy w' (some g) := by
  have e1 : decide (0 < m) = true := by simp; omega
  go_enter Try.func64, Try.ntmps64
  go_wp2_with (go_at_call 67; refine (pick_any g P m _ hr hP hm hm2).mono ?_; rintro e w1 ⟨x, rfl, hx0, hx1, hr1, hg1⟩)
  go_ret
  exact ⟨_, rfl, hr1, hg1⟩

end Go.Proofs.Ytkejcajboneniaa

namespace Go.Proofs.Ytkejcajboneniaa
open Go.RowKit
set_option linter.unusedVariables false
set_option linter.unusedSimpArgs false

def bitsOk (l : List Int) : Bool := allIn l 0 1 && within l.length 1 16
theorem bitsOk_iff {l : List Int} : bitsOk l = true ↔ (∀ x ∈ l, x = 0 ∨ x = 1) ∧ 1 ≤ l.length ∧ l.length ≤ 16 := by
  simp only [bitsOk, allIn, within, Bool.and_eq_true, List.all_eq_true, decide_eq_true_eq]
  constructor
  · rintro ⟨h1, h2⟩
    exact ⟨fun x hx => by have := h1 x hx; omega, by omega⟩
  · rintro ⟨h1, h2⟩
    exact ⟨fun x hx => by have := h1 x hx; omega, by omega⟩
theorem bit_nth {l : List Int} (h : ∀ x ∈ l, x = 0 ∨ x = 1) (k : Nat) : nth l k = 0 ∨ nth l k = 1 := by
  by_cases hk : k < l.length
  · rw [nth_lt hk]; exact h _ (List.getElem_mem hk)
  · rw [nth_ge (by omega)]; exact .inl rfl

/-- How many are 1. -/
def ones (l : List Int) : Nat := l.countP fun x => x == 1
theorem ones_le (l : List Int) : ones l ≤ l.length := List.countP_le_length
theorem ones_take {l : List Int} {k : Nat} (h : k < l.length) : ones (l.take (k + 1)) = ones (l.take k) + (if nth l k = 1 then 1 else 0) := by
  unfold ones
  rw [take_nth h, List.countP_append]
  by_cases hx : nth l k = 1
  · simp [hx]
  · simp [hx]

/-- Each place of a ring from that on its left, itself, and that on its right. -/
def ringL (f : Int → Int → Int → Int) (l : List Int) : List Int :=
  (List.range l.length).map fun k => f (nth l ((k + l.length - 1) % l.length)) (nth l k) (nth l ((k + 1) % l.length))
theorem ringL_len (f : Int → Int → Int → Int) (l : List Int) : (ringL f l).length = l.length := by simp [ringL]
theorem nth_ringL {f : Int → Int → Int → Int} {l : List Int} {k : Nat} (h : k < l.length) :
    nth (ringL f l) k = f (nth l ((k + l.length - 1) % l.length)) (nth l k) (nth l ((k + 1) % l.length)) := by simp [nth, ringL, List.getD, h]
theorem list_ext {a b : List Int} (hl : a.length = b.length) (h : ∀ k, k < a.length → nth a k = nth b k) : a = b := by
  apply List.ext_getElem hl
  intro k h1 h2
  have := h k h1
  rwa [nth_lt h1, nth_lt h2] at this

/-- A ring as a number: bit k is place k. -/
def code : List Int → Nat
  | [] => 0
  | x :: t => (if x = 1 then 1 else 0) + 2 * code t
theorem code_lt : ∀ l : List Int, code l < 2 ^ l.length
  | [] => by simp [code]
  | x :: t => by
    have h := code_lt t
    simp only [code, List.length_cons, Nat.pow_succ]
    split <;> omega
theorem code_bit : ∀ (l : List Int) (k : Nat), (code l).testBit k = decide (nth l k = 1)
  | [], k => by simp [code, nth]
  | x :: t, 0 => by
    simp only [code, Nat.testBit_zero, nth, List.getD, List.getElem?_cons_zero, Option.getD_some]
    split
    · simp_all
    · simp_all
  | x :: t, k + 1 => by
    have h := code_bit t k
    have e : ((if x = 1 then 1 else 0) + 2 * code t) / 2 = code t := by split <;> omega
    simp only [code, Nat.testBit_succ, e, h]
    simp [nth]
theorem code_inj {a b : List Int} (ha : ∀ x ∈ a, x = 0 ∨ x = 1) (hb : ∀ x ∈ b, x = 0 ∨ x = 1) (hl : a.length = b.length) (h : code a = code b) : a = b := by
  refine list_ext hl fun k hk => ?_
  have h1 := code_bit a k
  have h2 := code_bit b k
  rw [h, h2] at h1
  rcases bit_nth ha k with e1 | e1 <;> rcases bit_nth hb k with e2 | e2 <;> simp_all

/-- Ones of a number, up to so many bits. -/
def pop : Nat → Nat → Nat
  | 0, _ => 0
  | f + 1, x => Nat.land x 1 + pop f (Nat.shiftRight x 1)
theorem pop_zero : ∀ n, pop n 0 = 0
  | 0 => rfl
  | n + 1 => by
    have h : Nat.shiftRight 0 1 = 0 := rfl
    rw [pop, h, pop_zero n]; rfl
theorem pop_split : ∀ (a b x : Nat), pop (a + b) x = pop a x + pop b (x >>> a)
  | 0, b, x => by simp [pop]
  | a + 1, b, x => by
    rw [show a + 1 + b = a + b + 1 by omega, pop, pop, pop_split a b]
    have : Nat.shiftRight x 1 >>> a = x >>> (a + 1) := by
      show x >>> 1 >>> a = _
      rw [← Nat.shiftRight_add, Nat.add_comm]
    rw [this]; omega
theorem pop_mod : ∀ (a x : Nat), pop a x = pop a (x % 2 ^ a)
  | 0, _ => rfl
  | a + 1, x => by
    have e1 : Nat.land (x % 2 ^ (a + 1)) 1 = Nat.land x 1 := by
      show x % 2 ^ (a + 1) &&& 1 = x &&& 1
      rw [Nat.and_one_is_mod, Nat.and_one_is_mod, Nat.pow_succ, Nat.mul_comm]
      exact Nat.mod_mul_right_mod x 2 (2 ^ a)
    have e2 : Nat.shiftRight (x % 2 ^ (a + 1)) 1 = Nat.shiftRight x 1 % 2 ^ a := by
      show (x % 2 ^ (a + 1)) >>> 1 = x >>> 1 % 2 ^ a
      rw [Nat.shiftRight_succ, Nat.shiftRight_zero, Nat.shiftRight_succ, Nat.shiftRight_zero, Nat.pow_succ, Nat.mul_comm]
      exact Nat.mod_mul_right_div_self x 2 (2 ^ a)
    rw [pop, pop, e1, e2, ← pop_mod a]
/-- Ones of four bits, from a table. -/
def nib (x : Nat) : Nat := Nat.land (Nat.shiftRight 0x4332322132212110 (Nat.mul 4 (Nat.land x 15))) 15
theorem nib_pop (x : Nat) : nib x = pop 4 x := by
  have h : ∀ y, y < 16 → nib y = pop 4 y := by decide
  have e : Nat.land x 15 = x % 16 := Nat.and_two_pow_sub_one_eq_mod x 4
  have e' : Nat.land (x % 16) 15 = x % 16 := (Nat.and_two_pow_sub_one_eq_mod (x % 16) 4).trans (Nat.mod_mod _ _)
  have h1 : nib x = nib (x % 16) := by unfold nib; rw [e, e']
  rw [h1, h _ (Nat.mod_lt _ (by omega)), pop_mod 4 x]
def pop16 (x : Nat) : Nat := nib x + (nib (Nat.shiftRight x 4) + (nib (Nat.shiftRight x 8) + nib (Nat.shiftRight x 12)))
theorem pop16_pop {n x : Nat} (hn : n ≤ 16) (hx : x < 2 ^ n) : pop16 x = pop n x := by
  have h1 : pop 16 x = pop16 x := by
    unfold pop16
    rw [nib_pop, nib_pop, nib_pop, nib_pop, show (16 : Nat) = 4 + (4 + (4 + 4)) from rfl, pop_split, pop_split, pop_split]
    have s1 : x >>> 4 >>> 4 = Nat.shiftRight x 8 := by rw [← Nat.shiftRight_add]; rfl
    have s2 : x >>> 4 >>> 4 >>> 4 = Nat.shiftRight x 12 := by rw [← Nat.shiftRight_add, ← Nat.shiftRight_add]; rfl
    rw [s2, s1]; rfl
  have h2 : pop 16 x = pop n x := by
    rw [show (16 : Nat) = n + (16 - n) by omega, pop_split, Nat.shiftRight_eq_zero x n hx, pop_zero, Nat.add_zero]
  rw [← h1, h2]
theorem code_pop : ∀ l : List Int, pop l.length (code l) = ones l
  | [] => rfl
  | x :: t => by
    have h := code_pop t
    have e1 : Nat.land ((if x = 1 then 1 else 0) + 2 * code t) 1 = if x = 1 then 1 else 0 := by
      show ((if x = 1 then 1 else 0) + 2 * code t) &&& 1 = _
      rw [Nat.and_one_is_mod]; split <;> omega
    have e2 : Nat.shiftRight ((if x = 1 then 1 else 0) + 2 * code t) 1 = code t := by
      show ((if x = 1 then 1 else 0) + 2 * code t) >>> 1 = _
      rw [Nat.shiftRight_succ, Nat.shiftRight_zero]; split <;> omega
    simp only [List.length_cons, pop, code, e1, e2, h, ones, List.countP_cons]
    by_cases hx : x = 1
    · simp [hx]; omega
    · simp [hx]

/-- Sums of integers. -/
def sumR (f : Nat → Int) : Nat → Int
  | 0 => 0
  | k + 1 => sumR f k + f k
theorem sumR_congr {f g : Nat → Int} : ∀ {n : Nat}, (∀ k, k < n → f k = g k) → sumR f n = sumR g n
  | 0, _ => rfl
  | n + 1, h => by simp only [sumR]; rw [sumR_congr (n := n) fun k hk => h k (by omega), h n (by omega)]
theorem sumR_le {f g : Nat → Int} : ∀ {n : Nat}, (∀ k, k < n → f k ≤ g k) → sumR f n ≤ sumR g n
  | 0, _ => Int.le_refl _
  | n + 1, h => by
    simp only [sumR]
    have h1 := sumR_le (n := n) fun k hk => h k (by omega)
    have h2 := h n (by omega)
    omega
theorem sumR_add (f g : Nat → Int) : ∀ n, sumR (fun k => f k + g k) n = sumR f n + sumR g n
  | 0 => rfl
  | n + 1 => by simp only [sumR]; rw [sumR_add f g n]; omega
theorem sumR_sub (f g : Nat → Int) : ∀ n, sumR (fun k => f k - g k) n = sumR f n - sumR g n
  | 0 => rfl
  | n + 1 => by simp only [sumR]; rw [sumR_sub f g n]; omega
theorem sumR_one (n : Nat) : sumR (fun _ => 1) n = n := by
  induction n with
  | zero => rfl
  | succ n ih => simp only [sumR]; rw [ih]; omega
theorem sumR_first (f : Nat → Int) : ∀ n, sumR f (n + 1) = f 0 + sumR (fun k => f (k + 1)) n
  | 0 => by simp [sumR]
  | n + 1 => by rw [sumR, sumR_first f n, sumR]; omega
/-- All round the ring from the next place on it is the same sum. -/
theorem sumR_next (f : Nat → Int) (n : Nat) : sumR (fun k => f ((k + 1) % n)) n = sumR f n := by
  cases n with
  | zero => rfl
  | succ n =>
    rw [sumR_first f n, sumR, Nat.mod_self, sumR_congr (g := fun k => f (k + 1)) fun k hk => by rw [Nat.mod_eq_of_lt (by omega)]]
    omega
theorem sumR_prev (f : Nat → Int) (n : Nat) : sumR (fun k => f ((k + n - 1) % n)) n = sumR f n := by
  rw [← sumR_next (fun k => f ((k + n - 1) % n)) n]
  refine sumR_congr fun k hk => ?_
  congr 1
  by_cases h : k + 1 = n
  · rw [h, Nat.mod_self, Nat.mod_eq_of_lt (by omega)]; omega
  · rw [Nat.mod_eq_of_lt (show k + 1 < n by omega), show k + 1 + n - 1 = k + n by omega, Nat.add_mod_right, Nat.mod_eq_of_lt hk]
theorem sumR_rev (f : Nat → Int) : ∀ n, sumR (fun k => f (n - 1 - k)) n = sumR f n
  | 0 => rfl
  | n + 1 => by
    rw [sumR_first, sumR]
    rw [sumR_congr (g := fun k => f (n - 1 - k)) fun k hk => by congr 1; omega, sumR_rev f n]
    simp
    omega
theorem ones_sum {l : List Int} (hl : ∀ x ∈ l, x = 0 ∨ x = 1) : (ones l : Int) = sumR (nth l) l.length := by
  have h : ∀ k, k ≤ l.length → (ones (l.take k) : Int) = sumR (nth l) k := by
    intro k
    induction k with
    | zero => intro _; simp [ones, sumR]
    | succ k ih =>
      intro hk
      rw [ones_take (by omega), sumR, ← ih (by omega)]
      rcases bit_nth hl k with h | h <;> simp [h]
  have h2 := h l.length (Nat.le_refl _)
  rwa [List.take_length] at h2

/-- All numbers of so many bits. -/
def all2 : Nat → (Nat → Bool) → Nat → Bool
  | 0, p, x => p x
  | k + 1, p, x => all2 k p (2 * x) && all2 k p (2 * x + 1)
theorem all2_at {p : Nat → Bool} : ∀ (k x y : Nat), all2 k p x = true → 2 ^ k * x ≤ y → y < 2 ^ k * (x + 1) → p y = true
  | 0, x, y, h, h1, h2 => by
    simp at h1 h2
    obtain rfl : y = x := by omega
    exact h
  | k + 1, x, y, h, h1, h2 => by
    simp only [all2, Bool.and_eq_true] at h
    rw [Nat.pow_succ] at h1 h2
    have e1 : 2 ^ k * (2 * x) = 2 ^ k * 2 * x := by rw [Nat.mul_assoc]
    have e2 : 2 ^ k * (2 * x + 1) = 2 ^ k * 2 * x + 2 ^ k := by rw [Nat.mul_add, e1, Nat.mul_one]
    have e3 : 2 ^ k * (2 * x + 1 + 1) = 2 ^ k * 2 * (x + 1) := by rw [Nat.mul_assoc]; congr 1
    by_cases hy : y < 2 ^ k * 2 * x + 2 ^ k
    · exact all2_at k (2 * x) y h.1 (by omega) (by omega)
    · exact all2_at k (2 * x + 1) y h.2 (by omega) (by omega)
theorem all2_lt {p : Nat → Bool} {k y : Nat} (h : all2 k p 0 = true) (hy : y < 2 ^ k) : p y = true := all2_at k 0 y h (by simp) (by simpa using hy)

def msk (n : Nat) : Nat := 2 ^ n - 1
/-- Place k becomes what k + 1 was. -/
def rotR (n x : Nat) : Nat := Nat.lor (Nat.shiftRight x 1) (Nat.shiftLeft (Nat.land x 1) (n - 1))
/-- Place k becomes what k - 1 was. -/
def rotL (n x : Nat) : Nat := Nat.land (Nat.lor (Nat.shiftLeft x 1) (Nat.shiftRight x (n - 1))) (msk n)
theorem bit_out {n x k : Nat} (h : x < 2 ^ n) (hk : n ≤ k) : x.testBit k = false := Nat.testBit_lt_two_pow (Nat.lt_of_lt_of_le h (Nat.pow_le_pow_right (by omega) hk))
theorem one_bit (j : Nat) : Nat.testBit 1 j = decide (j = 0) := by
  have h := Nat.testBit_two_pow (n := 0) (m := j)
  rw [Nat.pow_zero] at h
  rw [h]
  by_cases hj : j = 0 <;> simp [hj, eq_comm]
theorem rotR_bit {n x : Nat} (hn : 1 ≤ n) (hx : x < 2 ^ n) (k : Nat) : (rotR n x).testBit k = (decide (k < n) && x.testBit ((k + 1) % n)) := by
  show (x >>> 1 ||| (x &&& 1) <<< (n - 1)).testBit k = _
  rw [Nat.testBit_or, Nat.testBit_shiftRight, Nat.testBit_shiftLeft, Nat.testBit_and, one_bit]
  by_cases h1 : k + 1 < n
  · rw [Nat.mod_eq_of_lt h1]
    simp [show ¬ n - 1 ≤ k by omega, show k < n by omega, Nat.add_comm]
  · by_cases h2 : k + 1 = n
    · rw [h2, Nat.mod_self, bit_out hx (by omega)]
      simp [show n - 1 = k by omega, show k < n by omega]
    · rw [bit_out hx (by omega)]
      simp [show n - 1 ≤ k by omega, show ¬ k < n by omega, show k - (n - 1) ≠ 0 by omega]
theorem rotL_bit {n x : Nat} (hn : 1 ≤ n) (hx : x < 2 ^ n) (k : Nat) : (rotL n x).testBit k = (decide (k < n) && x.testBit ((k + n - 1) % n)) := by
  show ((x <<< 1 ||| x >>> (n - 1)) &&& (2 ^ n - 1)).testBit k = _
  rw [Nat.testBit_and, Nat.testBit_two_pow_sub_one, Nat.testBit_or, Nat.testBit_shiftRight, Nat.testBit_shiftLeft, Bool.and_comm]
  by_cases hk : k < n
  · simp only [hk, decide_true, Bool.true_and]
    by_cases h1 : 1 ≤ k
    · rw [show (k + n - 1) % n = k - 1 from by rw [show k + n - 1 = k - 1 + n by omega, Nat.add_mod_right, Nat.mod_eq_of_lt (by omega)], bit_out hx (show n ≤ n - 1 + k by omega)]
      simp [h1]
    · obtain rfl : k = 0 := by omega
      rw [show (0 + n - 1) % n = n - 1 from by rw [Nat.mod_eq_of_lt (by omega)]; omega]
      simp
  · simp [hk]
theorem msk_bit (n k : Nat) : (msk n).testBit k = decide (k < n) := Nat.testBit_two_pow_sub_one ..
end Go.Proofs.Ytkejcajboneniaa

namespace Go.Proofs.Ytkejcajboneniaa
open Go.RowKit
set_option linter.unusedVariables false
set_option linter.unusedSimpArgs false

def sumF (a _x b : Int) : Int := (a + b) % 2
/-- A ring after a step. -/
def sumL (l : List Int) : List Int := ringL sumF l
/-- Each machine the sum of those so many places away. -/
def farL (a : Nat) (l : List Int) : List Int := (List.range l.length).map fun k => (nth l ((k + a) % l.length) + nth l ((k + l.length - a % l.length) % l.length)) % 2
def sumI : Nat → List Int → List Int
  | 0, l => l
  | k + 1, l => sumL (sumI k l)
theorem sumL_len (l : List Int) : (sumL l).length = l.length := ringL_len _ l
theorem farL_len (a : Nat) (l : List Int) : (farL a l).length = l.length := by simp [farL]
theorem sumI_len : ∀ (k : Nat) (l : List Int), (sumI k l).length = l.length
  | 0, _ => rfl
  | k + 1, l => by rw [sumI, sumL_len, sumI_len k l]
theorem sumI_add (a : Nat) : ∀ (b : Nat) (l : List Int), sumI (b + a) l = sumI b (sumI a l)
  | 0, l => by rw [Nat.zero_add, sumI]
  | b + 1, l => by rw [show b + 1 + a = (b + a) + 1 from by omega, sumI, sumI_add a b l, sumI]
theorem nmod {u v n : Nat} (c : Int) (h : (u : Int) - v = n * c) : u % n = v % n := by
  have : (u : Int) % n = (v : Int) % n := by
    rw [Int.emod_eq_emod_iff_emod_sub_eq_zero, h, Int.mul_emod_right]
  exact_mod_cast this
theorem idx_back {k n a : Nat} (h : k < n) : (k + n - a % n) % n = (k + a * (n - 1)) % n := by
  obtain ⟨m, rfl⟩ : ∃ m, n = m + 1 := ⟨n - 1, by omega⟩
  have h1 := Nat.div_add_mod a (m + 1)
  have h2 := Nat.mod_lt a (show m + 1 > 0 by omega)
  obtain ⟨q, hq⟩ : ∃ q, a / (m + 1) = q := ⟨_, rfl⟩
  obtain ⟨r, hr⟩ : ∃ r, a % (m + 1) = r := ⟨_, rfl⟩
  rw [hr] at h2 ⊢
  rw [hq, hr] at h1
  refine nmod (1 + q - a) ?_
  have e : ((k + (m + 1) - r : Nat) : Int) = k + m + 1 - r := by omega
  rw [e]
  simp only [Nat.add_sub_cancel]
  push_cast
  grind
/-- A ring's machine at any number. -/
def rg (l : List Int) (i : Nat) : Int := nth l (i % l.length)
theorem rg_lt {l : List Int} {k : Nat} (h : k < l.length) : rg l k = nth l k := by unfold rg; rw [Nat.mod_eq_of_lt h]
theorem rg_eq {l : List Int} {i j : Nat} (c : Int) (h : (i : Int) - j = l.length * c) : rg l i = rg l j := by unfold rg; rw [nmod c h]
theorem rg_mod (l : List Int) (i : Nat) : rg l (i % l.length) = rg l i := by unfold rg; rw [Nat.mod_mod]
theorem rg_mod_add (l : List Int) (i j : Nat) : rg l (i % l.length + j) = rg l (i + j) := by unfold rg; rw [Nat.mod_add_mod]
theorem nth_far {l : List Int} {a k : Nat} (h : k < l.length) : nth (farL a l) k = (rg l (k + a) + rg l (k + a * (l.length - 1))) % 2 := by
  have e : nth (farL a l) k = (nth l ((k + a) % l.length) + nth l ((k + l.length - a % l.length) % l.length)) % 2 := by simp [nth, farL, List.getD, h]
  rw [e, idx_back h]
  rfl
theorem rg_far {l : List Int} (h0 : 0 < l.length) (a i : Nat) : rg (farL a l) i = (rg l (i + a) + rg l (i + a * (l.length - 1))) % 2 := by
  rw [show rg (farL a l) i = nth (farL a l) (i % l.length) from by unfold rg; rw [farL_len], nth_far (Nat.mod_lt _ h0), rg_mod_add, rg_mod_add]
theorem rg_ext {a b : List Int} (hl : a.length = b.length) (h : ∀ i, i < a.length → rg a i = rg b i) : a = b :=
  list_ext hl fun k hk => by rw [← rg_lt hk, ← rg_lt (by rw [← hl]; exact hk)]; exact h k hk
theorem far_twice {l : List Int} (h0 : 0 < l.length) (a : Nat) : farL a (farL a l) = farL (2 * a) l := by
  refine rg_ext (by simp only [farL_len]) fun i hi => ?_
  rw [rg_far (by rw [farL_len]; exact h0), farL_len, rg_far h0, rg_far h0, rg_far h0]
  obtain ⟨m, hm⟩ : ∃ m, l.length = m + 1 := ⟨l.length - 1, by omega⟩
  have e1 : rg l (i + a + a * (l.length - 1)) = rg l i := rg_eq a (by rw [hm]; simp only [Nat.add_sub_cancel]; push_cast; grind)
  have e2 : rg l (i + a * (l.length - 1) + a) = rg l i := rg_eq a (by rw [hm]; simp only [Nat.add_sub_cancel]; push_cast; grind)
  rw [e1, e2, show i + a + a = i + 2 * a from by omega, show i + a * (l.length - 1) + a * (l.length - 1) = i + 2 * a * (l.length - 1) from by rw [Nat.mul_assoc, Nat.two_mul]; omega]
  omega
theorem far_one {l : List Int} (h0 : 0 < l.length) : farL 1 l = sumL l := by
  refine list_ext (by rw [farL_len, sumL_len]) fun k hk => ?_
  rw [farL_len] at hk
  rw [nth_far hk, show nth (sumL l) k = sumF (nth l ((k + l.length - 1) % l.length)) (nth l k) (nth l ((k + 1) % l.length)) from nth_ringL hk]
  unfold sumF
  have e : rg l (k + 1 * (l.length - 1)) = nth l ((k + l.length - 1) % l.length) := by
    unfold rg
    rw [show k + 1 * (l.length - 1) = k + l.length - 1 from by omega]
  rw [e, Int.add_comm]
  rfl
theorem far_pow : ∀ (j : Nat) {l : List Int}, 0 < l.length → farL (2 ^ j) l = sumI (2 ^ j) l
  | 0, l, h0 => by rw [Nat.pow_zero, far_one h0]; rfl
  | j + 1, l, h0 => by
    rw [show 2 ^ (j + 1) = 2 * 2 ^ j from by rw [Nat.pow_succ]; omega, ← far_twice h0, far_pow j (by rw [farL_len]; exact h0), far_pow j h0, ← sumI_add]
    congr 1
    omega
theorem sumL_bits {l : List Int} : ∀ x ∈ sumL l, x = 0 ∨ x = 1 := by
  intro x hx
  simp only [sumL, ringL, List.mem_map] at hx
  obtain ⟨k, _, rfl⟩ := hx
  unfold sumF
  omega
theorem sumL_ok {l : List Int} (h : bitsOk l = true) : bitsOk (sumL l) = true := by
  rw [bitsOk_iff] at h ⊢
  exact ⟨sumL_bits, by rw [sumL_len]; exact h.2⟩
theorem sumI_ok {l : List Int} (h : bitsOk l = true) : ∀ k, bitsOk (sumI k l) = true
  | 0 => h
  | k + 1 => sumL_ok (sumI_ok h k)

/-- The model's walk by halves: after so many of them. -/
theorem half_step {S j : Nat} (h : S / 2 ^ j % 2 = 1) {l : List Int} (h0 : 0 < l.length) : farL (2 ^ j) (sumI (S % 2 ^ j) l) = sumI (S % 2 ^ (j + 1)) l := by
  rw [far_pow j (by rw [sumI_len]; exact h0), ← sumI_add]
  congr 1
  rw [Nat.pow_succ, Nat.mod_mul, h]
  omega
theorem half_keep {S j : Nat} (h : S / 2 ^ j % 2 = 0) : S % 2 ^ (j + 1) = S % 2 ^ j := by
  rw [Nat.pow_succ, Nat.mod_mul, h]
  omega

theorem sumR_mod2 (f : Nat → Int) : ∀ n, sumR (fun k => f k % 2) n % 2 = sumR f n % 2
  | 0 => rfl
  | n + 1 => by
    have h := sumR_mod2 f n
    simp only [sumR]
    omega
theorem nth_sumL {l : List Int} {k : Nat} (h : k < l.length) : nth (sumL l) k = (nth l ((k + l.length - 1) % l.length) + nth l ((k + 1) % l.length)) % 2 := nth_ringL h
theorem ones_even {l : List Int} (hl : ∀ x ∈ l, x = 0 ∨ x = 1) : ones (sumL l) % 2 = 0 := by
  have h1 := ones_sum (l := sumL l) sumL_bits
  have h2 : sumR (nth (sumL l)) (sumL l).length = sumR (fun k => (nth l ((k + l.length - 1) % l.length) + nth l ((k + 1) % l.length)) % 2) l.length := by
    rw [sumL_len]
    exact sumR_congr fun k hk => nth_ringL hk
  have h3 := sumR_mod2 (fun k => nth l ((k + l.length - 1) % l.length) + nth l ((k + 1) % l.length)) l.length
  rw [sumR_add (fun k => nth l ((k + l.length - 1) % l.length)), sumR_prev, sumR_next (nth l)] at h3
  rw [h2] at h1
  omega

theorem mod_nextS {n k : Nat} (h : k < n) : n - 1 - (k + 1) % n = (n - 1 - k + n - 1) % n := by
  rcases Nat.lt_or_ge (k + 1) n with h1 | h1
  · rw [Nat.mod_eq_of_lt h1, show n - 1 - k + n - 1 = (n - 1 - (k + 1)) + n from by omega, Nat.add_mod_right, Nat.mod_eq_of_lt (by omega)]
  · rw [show k + 1 = n from by omega, Nat.mod_self, show n - 1 - k + n - 1 = n - 1 from by omega, Nat.mod_eq_of_lt (by omega)]; omega
theorem mod_prevS {n k : Nat} (h : k < n) : n - 1 - (k + n - 1) % n = (n - 1 - k + 1) % n := by
  rcases Nat.eq_zero_or_pos k with rfl | h1
  · rw [show 0 + n - 1 = n - 1 from by omega, Nat.mod_eq_of_lt (show n - 1 < n by omega), show n - 1 - 0 + 1 = n from by omega, Nat.mod_self]; omega
  · rw [show k + n - 1 = (k - 1) + n from by omega, Nat.add_mod_right, Nat.mod_eq_of_lt (show k - 1 < n by omega), Nat.mod_eq_of_lt (show n - 1 - k + 1 < n by omega)]; omega
theorem nth_revS {l : List Int} {k : Nat} (h : k < l.length) : nth l.reverse k = nth l (l.length - 1 - k) := by
  rw [nth_lt (by simpa using h), nth_lt (by omega), List.getElem_reverse]
theorem sum_rev (l : List Int) : sumL l.reverse = (sumL l).reverse := by
  refine list_ext (by simp [sumL_len]) fun k hk => ?_
  rw [sumL_len, List.length_reverse] at hk
  have h0 : 0 < l.length := by omega
  rw [nth_sumL (by rw [List.length_reverse]; exact hk), List.length_reverse, nth_revS (Nat.mod_lt _ h0), nth_revS (Nat.mod_lt _ h0), nth_revS (l := sumL l) (by rw [sumL_len]; exact hk), sumL_len,
    nth_sumL (by omega), mod_nextS hk, mod_prevS hk, Int.add_comm]

/-- Two rows added. -/
def addL (a b : List Int) : List Int := (List.range a.length).map fun k => (nth a k + nth b k) % 2
theorem addL_len (a b : List Int) : (addL a b).length = a.length := by simp [addL]
theorem nth_addL {a b : List Int} {k : Nat} (h : k < a.length) : nth (addL a b) k = (nth a k + nth b k) % 2 := by simp [nth, addL, List.getD, h]
theorem addL_bits {a b : List Int} : ∀ x ∈ addL a b, x = 0 ∨ x = 1 := by
  intro x hx
  simp only [addL, List.mem_map] at hx
  obtain ⟨k, _, rfl⟩ := hx
  omega
theorem add_comm' {a b : List Int} (h : a.length = b.length) : addL a b = addL b a := by
  refine list_ext (by rw [addL_len, addL_len, h]) fun k hk => ?_
  rw [addL_len] at hk
  rw [nth_addL hk, nth_addL (by rw [← h]; exact hk), Int.add_comm]
theorem add_self {a : List Int} : ones (addL a a) = 0 := by
  unfold ones
  rw [List.countP_eq_zero]
  intro x hx
  simp only [addL, List.mem_map] at hx
  obtain ⟨k, _, rfl⟩ := hx
  simp
  omega
theorem add_sum {a b : List Int} (h : a.length = b.length) : sumL (addL a b) = addL (sumL a) (sumL b) := by
  refine list_ext (by simp only [sumL_len, addL_len]) fun k hk => ?_
  rw [sumL_len, addL_len] at hk
  have h0 : 0 < a.length := by omega
  rw [nth_sumL (by rw [addL_len]; exact hk), addL_len, nth_addL (Nat.mod_lt _ h0), nth_addL (Nat.mod_lt _ h0), nth_addL (a := sumL a) (by rw [sumL_len]; exact hk), nth_sumL hk, nth_sumL (by rw [← h]; exact hk), ← h]
  omega
theorem ones_add {a b : List Int} (ha : ∀ x ∈ a, x = 0 ∨ x = 1) (hb : ∀ x ∈ b, x = 0 ∨ x = 1) (h : a.length = b.length) : ones (addL a b) ≤ ones a + ones b := by
  have h1 := ones_sum (l := addL a b) addL_bits
  have h2 := ones_sum ha
  have h3 := ones_sum hb
  rw [addL_len, sumR_congr (fun k hk => nth_addL hk)] at h1
  rw [← h] at h3
  have h4 : sumR (fun k => (nth a k + nth b k) % 2) a.length ≤ sumR (fun k => nth a k + nth b k) a.length := sumR_le fun k hk => by
    have := bit_nth ha k
    have := bit_nth hb k
    omega
  rw [sumR_add] at h4
  omega

/-- After n steps first as after a lesser number m. -/
def againAt (l : List Int) (n m : Nat) : Prop := m < n ∧ sumI n l = sumI m l ∧ ∀ i j, i < j → j < n → sumI i l ≠ sumI j l
theorem again_one {l : List Int} {n m n' m' : Nat} (h : againAt l n m) (h' : againAt l n' m') : n = n' ∧ m = m' := by
  obtain ⟨a1, a2, a3⟩ := h
  obtain ⟨b1, b2, b3⟩ := h'
  have e : n = n' := by
    rcases Nat.lt_trichotomy n n' with h | h | h
    · exact absurd a2.symm (b3 m n a1 h)
    · exact h
    · exact absurd b2.symm (a3 m' n' b1 h)
  subst e
  refine ⟨rfl, ?_⟩
  rcases Nat.lt_trichotomy m m' with h | h | h
  · exact absurd (a2.symm.trans b2) (a3 m m' h b1)
  · exact h
  · exact absurd (b2.symm.trans a2) (a3 m' m h a1)
theorem holes : ∀ (N : Nat) (f : Nat → Nat), (∀ i, i ≤ N → f i < N) → ∃ i j, i < j ∧ j ≤ N ∧ f i = f j
  | 0, f, h => absurd (h 0 (Nat.le_refl 0)) (by omega)
  | N + 1, f, h => by
    by_cases hd : ∃ i, i ≤ N ∧ f i = f (N + 1)
    · obtain ⟨i, hi, he⟩ := hd
      exact ⟨i, N + 1, by omega, Nat.le_refl _, he⟩
    · have hn : ∀ i, i ≤ N → f i ≠ f (N + 1) := fun i hi he => hd ⟨i, hi, he⟩
      have hl := h (N + 1) (Nat.le_refl _)
      obtain ⟨i, j, hij, hj, he⟩ := holes N (fun i => if f i = N then f (N + 1) else f i) (fun i hi => by
        have h1 := h i (by omega)
        have h2 := hn i hi
        show (if f i = N then f (N + 1) else f i) < N
        split <;> omega)
      refine ⟨i, j, hij, by omega, ?_⟩
      have h1 := hn i (by omega)
      have h2 := hn j hj
      split at he <;> split at he <;> omega
theorem codes_eq {a b : List Int} (ha : bitsOk a = true) (hb : bitsOk b = true) (hl : a.length = b.length) (h : code a = code b) : a = b := code_inj (bitsOk_iff.1 ha).1 (bitsOk_iff.1 hb).1 hl h
/-- Some number of steps leads to what has been. -/
theorem again_there {l : List Int} (h : bitsOk l = true) : ∃ i j, i < j ∧ j ≤ 2 ^ l.length ∧ sumI i l = sumI j l := by
  obtain ⟨i, j, h1, h2, h3⟩ := holes (2 ^ l.length) (fun k => code (sumI k l)) (fun k _ => by
    have := code_lt (sumI k l)
    rwa [sumI_len] at this)
  exact ⟨i, j, h1, h2, codes_eq (sumI_ok h i) (sumI_ok h j) (by rw [sumI_len, sumI_len]) h3⟩
/-- As long as all are apart, there are not too many. -/
theorem apart_few {l : List Int} (h : bitsOk l = true) {n : Nat} (ha : ∀ i j, i < j → j < n → sumI i l ≠ sumI j l) : n ≤ 2 ^ l.length := by
  rcases Nat.lt_or_ge (2 ^ l.length) n with hlt | hge
  · obtain ⟨i, j, h1, h2, h3⟩ := again_there h
    exact absurd h3 (ha i j h1 (by omega))
  · exact hge
theorem again_ex {l : List Int} (h : bitsOk l = true) : ∃ n m, againAt l n m ∧ n ≤ 2 ^ l.length := by
  have H : ∀ k, k ≤ 2 ^ l.length → (∃ n m, againAt l n m ∧ n ≤ 2 ^ l.length) ∨ ∀ i j, i < j → j < k + 1 → sumI i l ≠ sumI j l := by
    intro k
    induction k with
    | zero => exact fun _ => .inr fun i j h1 h2 => by omega
    | succ k ih =>
      intro hk
      rcases ih (by omega) with h1 | h1
      · exact .inl h1
      · by_cases hd : ∃ i, i < k + 1 ∧ sumI i l = sumI (k + 1) l
        · obtain ⟨i, hi, he⟩ := hd
          exact .inl ⟨k + 1, i, ⟨hi, he.symm, h1⟩, hk⟩
        · refine .inr fun i j hij hj => ?_
          rcases Nat.lt_or_ge j (k + 1) with h2 | h2
          · exact h1 i j hij h2
          · obtain rfl : j = k + 1 := by omega
            exact fun he => hd ⟨i, hij, he⟩
  rcases H _ (Nat.le_refl _) with h1 | h1
  · exact h1
  · have := apart_few h h1
    omega

/-- Twice any number of places goes all round a ring of an odd number of machines. -/
theorem odd_round {n : Nat} (ho : n % 2 = 1) {g : Nat → Int} (hg : ∀ k, g (k + n) = g k) (h2 : ∀ k, g (k + 2) = g k) (k : Nat) : g k = g 0 := by
  have ev : ∀ j, g (2 * j) = g 0 := by
    intro j
    induction j with
    | zero => rfl
    | succ j ih => rw [show 2 * (j + 1) = 2 * j + 2 from by omega, h2, ih]
  rcases Nat.mod_two_eq_zero_or_one k with h | h
  · rw [show k = 2 * (k / 2) from by omega]; exact ev _
  · rw [← hg k, show k + n = 2 * ((k + n) / 2) from by omega]; exact ev _
theorem sum_one_to_one {a b : List Int} (hl : a.length = b.length) (ho : a.length % 2 = 1) (ha : ∀ x ∈ a, x = 0 ∨ x = 1) (hb : ∀ x ∈ b, x = 0 ∨ x = 1) (hea : ones a % 2 = 0) (heb : ones b % 2 = 0) (h : sumL a = sumL b) : a = b := by
  have h0 : 0 < a.length := by omega
  have hz : ∀ i, (rg a (i + 1) + rg a (i + 1 * (a.length - 1))) % 2 = (rg b (i + 1) + rg b (i + 1 * (a.length - 1))) % 2 := fun i => by
    rw [← rg_far h0, far_one h0, h, ← far_one (by omega), rg_far (by omega), ← hl]
  have hba := fun i => bit_nth ha (i % a.length)
  have hbb := fun i => bit_nth hb (i % b.length)
  have pa : ∀ k, rg a (k + a.length) = rg a k := fun k => by unfold rg; rw [Nat.add_mod_right]
  have pb : ∀ k, rg b (k + a.length) = rg b k := fun k => by unfold rg; rw [hl, Nat.add_mod_right]
  have h2 : ∀ k, (rg a (k + 2) + rg b (k + 2)) % 2 = (rg a k + rg b k) % 2 := fun k => by
    have h3 := hz (k + 1)
    rw [show k + 1 + 1 = k + 2 from rfl, show k + 1 + 1 * (a.length - 1) = k + a.length from by omega, pa, pb] at h3
    have := hba (k + 2); have := hba k; have := hbb (k + 2); have := hbb k
    unfold rg at *
    omega
  have hc := odd_round ho (g := fun k => (rg a k + rg b k) % 2) (fun k => by rw [pa, pb]) h2
  have s1 := ones_sum ha
  have s2 := ones_sum hb
  rw [← hl] at s2
  have s3 := sumR_mod2 (fun k => nth a k + nth b k) a.length
  rw [sumR_add (nth a) (nth b)] at s3
  by_cases hd : (rg a 0 + rg b 0) % 2 = 0
  · refine rg_ext hl fun i hi => ?_
    have h4 := hc i
    simp only [hd] at h4
    have := hba i; have := hbb i
    unfold rg at *
    omega
  · have h5 : sumR (fun k => (nth a k + nth b k) % 2) a.length = sumR (fun _ => 1) a.length := sumR_congr fun k hk => by
      have h4 := hc k
      rw [rg_lt hk, rg_lt (by rw [← hl]; exact hk)] at h4
      omega
    rw [h5, sumR_one] at s3
    omega
theorem again_odd {l : List Int} (h : bitsOk l = true) (ho : l.length % 2 = 1) {n m : Nat} (ha : againAt l n m) : m ≤ 1 := by
  rcases Nat.lt_or_ge 1 m with hm | hm
  · obtain ⟨a1, a2, a3⟩ := ha
    obtain ⟨p, rfl⟩ : ∃ p, m = p + 2 := ⟨m - 2, by omega⟩
    obtain ⟨q, rfl⟩ : ∃ q, n = q + 2 := ⟨n - 2, by omega⟩
    have e : sumI (q + 1) l = sumI (p + 1) l :=
      sum_one_to_one (by rw [sumI_len, sumI_len]) (by rw [sumI_len]; exact ho) (bitsOk_iff.1 (sumI_ok h _)).1 (bitsOk_iff.1 (sumI_ok h _)).1 (ones_even (bitsOk_iff.1 (sumI_ok h _)).1) (ones_even (bitsOk_iff.1 (sumI_ok h _)).1) a2
    exact absurd e.symm (a3 (p + 1) (q + 1) (by omega) (by omega))
  · exact hm
theorem ones_none {l : List Int} (h : ∀ k, k < l.length → nth l k = 0) : ones l = 0 := by
  unfold ones
  rw [List.countP_eq_zero]
  intro x hx
  obtain ⟨k, hk, rfl⟩ := List.getElem_of_mem hx
  have := h k hk
  rw [nth_lt hk] at this
  simp [this]
theorem pow_rest {l : List Int} {j : Nat} (h0 : 0 < l.length) (hj : l.length ∣ 2 * 2 ^ j) : ones (sumI (2 ^ j) l) = 0 := by
  refine ones_none fun k hk => ?_
  rw [sumI_len] at hk
  rw [← far_pow j h0, nth_far hk]
  obtain ⟨c, hc⟩ := hj
  obtain ⟨m, hm⟩ : ∃ m, l.length = m + 1 := ⟨l.length - 1, by omega⟩
  have e : rg l (k + 2 ^ j) = rg l (k + 2 ^ j * (l.length - 1)) := rg_eq ((c : Int) - 2 ^ j) (by
    rw [hm] at hc ⊢
    simp only [Nat.add_sub_cancel]
    have hc2 : (2 : Int) * 2 ^ j = ((m : Int) + 1) * c := by exact_mod_cast hc
    push_cast
    grind)
  rw [e]
  omega
theorem rest_1248 {l : List Int} (h : l.length = 1 ∨ l.length = 2 ∨ l.length = 4 ∨ l.length = 8) : ones (sumI ((l.length + 1) / 2) l) = 0 := by
  rcases h with h | h | h | h
  · rw [h]; exact pow_rest (j := 0) (by omega) (by rw [h]; exact ⟨2, rfl⟩)
  · rw [h]; exact pow_rest (j := 0) (by omega) (by rw [h]; exact ⟨1, rfl⟩)
  · rw [h]; exact pow_rest (j := 1) (by omega) (by rw [h]; exact ⟨1, rfl⟩)
  · rw [h]; exact pow_rest (j := 2) (by omega) (by rw [h]; exact ⟨1, rfl⟩)

/-- The first number of steps less than n after which the row was as after n. -/
def seekM (l : List Int) (n : Nat) : Option Nat := (List.range n).find? fun m => decide (sumI n l = sumI m l)
def seekN (l : List Int) : Nat → Nat → Nat × Nat
  | 0, n => (n, 0)
  | f + 1, n => match seekM l n with
    | some m => (n, m)
    | none => seekN l f (n + 1)
/-- What ComesAgain gives. -/
def comesN (l : List Int) : Int := if bitsOk l = true then ((seekN l 70000 1).1 : Int) else -1
def comesM (l : List Int) : Int := if bitsOk l = true then ((seekN l 70000 1).2 : Int) else -1
theorem seekM_at {l : List Int} {n m : Nat} (h : againAt l n m) : seekM l n = some m := by
  obtain ⟨h1, h2, h3⟩ := h
  unfold seekM
  rw [List.find?_eq_some_iff_getElem]
  refine ⟨by simpa using h2, m, by simpa using h1, by simp, fun j hj => ?_⟩
  simp only [List.getElem_range, Bool.not_eq_true', decide_eq_false_iff_not]
  intro e
  exact h3 j m hj h1 (e.symm.trans h2)
theorem seekM_none {l : List Int} {n : Nat} (h : ∀ i, i < n → sumI i l ≠ sumI n l) : seekM l n = none := by
  unfold seekM
  rw [List.find?_eq_none]
  intro x hx e
  exact h x (by simpa using hx) (by simpa using (of_decide_eq_true e).symm)
theorem seekN_at {l : List Int} {n m : Nat} (h : againAt l n m) : ∀ (f k : Nat), k ≤ n → n < k + f → seekN l f k = (n, m)
  | 0, k, h1, h2 => by omega
  | f + 1, k, h1, h2 => by
    rcases Nat.lt_or_ge k n with h3 | h3
    · rw [seekN, seekM_none (fun i hi => h.2.2 i k hi h3)]
      exact seekN_at h f (k + 1) (by omega) (by omega)
    · obtain rfl : k = n := by omega
      rw [seekN, seekM_at h]
theorem pow16 {n : Nat} (h : n ≤ 16) : 2 ^ n ≤ 65536 := by
  have := Nat.pow_le_pow_right (show 0 < 2 by omega) h
  simpa using this
theorem comes_at {l : List Int} (h : bitsOk l = true) {n m : Nat} (ha : againAt l n m) : comesN l = n ∧ comesM l = m := by
  have h2 := pow16 (bitsOk_iff.1 h).2.2
  have h3 := apart_few h ha.2.2
  have e := seekN_at ha 70000 1 (by have := ha.1; omega) (by omega)
  unfold comesN comesM
  rw [if_pos h, if_pos h, e]
  exact ⟨rfl, rfl⟩
theorem comes_ex {l : List Int} (h : bitsOk l = true) : ∃ n m : Nat, comesN l = n ∧ comesM l = m ∧ againAt l n m ∧ n ≤ 65536 := by
  obtain ⟨n, m, ha, hn⟩ := again_ex h
  have h2 := pow16 (bitsOk_iff.1 h).2.2
  exact ⟨n, m, (comes_at h ha).1, (comes_at h ha).2, ha, by omega⟩
theorem comes_no {l : List Int} (h : bitsOk l = false) : comesN l = -1 ∧ comesM l = -1 := by unfold comesN comesM; rw [h]; exact ⟨rfl, rfl⟩
/-- Two rows are the same at the first k places. -/
def sameTo (a b : List Int) (k : Nat) : Bool := (List.range k).all fun q => nth a q == nth b q
theorem sameTo_succ (a b : List Int) (k : Nat) : sameTo a b (k + 1) = (sameTo a b k && (nth a k == nth b k)) := by
  unfold sameTo
  rw [List.range_succ, List.all_append]
  simp
theorem sameTo_all {a b : List Int} {n : Nat} (ha : a.length = n) (hb : b.length = n) : sameTo a b n = true ↔ a = b := by
  unfold sameTo
  rw [List.all_eq_true]
  constructor
  · intro h
    refine list_ext (by rw [ha, hb]) fun k hk => ?_
    have := h k (by rw [List.mem_range, ← ha]; exact hk)
    simpa using this
  · rintro rfl k _
    simp
end Go.Proofs.Ytkejcajboneniaa

namespace Go.Proofs.Ytkejcajboneniaa
open Go.RowKit
set_option linter.unusedVariables false
set_option linter.unusedSimpArgs false

/-- The first k machines as a number, the lowest bit for the first machine. -/
def pb (l : List Int) : Nat → Nat
  | 0 => 0
  | k + 1 => pb l k ||| (if nth l k = 1 then 2 ^ k else 0)
theorem pb_bit (l : List Int) (k j : Nat) : (pb l k).testBit j = (decide (j < k) && decide (nth l j = 1)) := by
  induction k with
  | zero => simp [pb]
  | succ k ih =>
    rw [pb, Nat.testBit_or, ih]
    by_cases h : nth l k = 1
    · rw [if_pos h, Nat.testBit_two_pow]
      by_cases hjk : k = j
      · subst hjk; simp [h]
      · have : (j < k + 1) = (j < k) := by apply propext; omega
        simp [hjk, this]
    · rw [if_neg h, Nat.zero_testBit, Bool.or_false]
      by_cases hjk : k = j
      · subst hjk; simp [h]
      · have : (j < k + 1) = (j < k) := by apply propext; omega
        simp [this]
theorem pb_lt (l : List Int) (k : Nat) : pb l k < 2 ^ k := by
  apply Nat.lt_pow_two_of_testBit
  intro i hi
  rw [pb_bit]
  simp; omega
/-- A number is that of a list, bit by bit. -/
theorem pb_eq {x n : Nat} {l : List Int} (hx : x < 2 ^ n) (h : ∀ j, j < n → x.testBit j = decide (nth l j = 1)) : x = pb l n := by
  apply Nat.eq_of_testBit_eq
  intro j
  rw [pb_bit]
  by_cases hj : j < n
  · rw [h j hj]; simp [hj]
  · rw [Nat.testBit_lt_two_pow (Nat.lt_of_lt_of_le hx (Nat.pow_le_pow_right (by omega) (by omega)))]; simp [hj]
theorem pb_inj {l m : List Int} {n : Nat} (hl : l.length = n) (hm : m.length = n) (bl : ∀ x ∈ l, x = 0 ∨ x = 1) (bm : ∀ x ∈ m, x = 0 ∨ x = 1) (h : pb l n = pb m n) : l = m := by
  refine list_ext (by omega) fun k hk => ?_
  have hb := congrArg (Nat.testBit · k) h
  simp only [pb_bit] at hb
  have h1 := bit_nth bl k
  have h2 := bit_nth bm k
  rw [show decide (k < n) = true by simp; omega, Bool.true_and, Bool.true_and, decide_eq_decide] at hb
  omega
/-- Place k as a program may give it. -/
theorem pb_at {l : List Int} {n k : Nat} (hb : ∀ x ∈ l, x = 0 ∨ x = 1) (hk : k < n) : ((pb l n / 2 ^ k &&& 1 : Nat) : Int) = nth l k := by
  have h : pb l n / 2 ^ k &&& 1 = if (pb l n).testBit k then 1 else 0 := by
    rw [Nat.and_one_is_mod, Nat.testBit_eq_decide_div_mod_eq]
    by_cases h : pb l n / 2 ^ k % 2 = 1 <;> simp [h]; omega
  rw [h, pb_bit]
  rcases bit_nth hb k with e | e <;> simp [e, hk]

/-- Turned by a places: each bit from as many places to the left; from as many to the right. -/
def turnL (x n a : Nat) : Nat := (x * 2 ^ a &&& (2 ^ n - 1)) ||| x / 2 ^ (n - a)
def turnR (x n a : Nat) : Nat := x / 2 ^ a ||| (x * 2 ^ (n - a) &&& (2 ^ n - 1))
theorem turnL_bit {x n a j : Nat} (hx : x < 2 ^ n) (ha : a < n) (hj : j < n) : (turnL x n a).testBit j = x.testBit ((j + n - a) % n) := by
  unfold turnL
  rw [Nat.testBit_or, Nat.testBit_and, Nat.testBit_two_pow_sub_one, Nat.mul_comm, Nat.testBit_two_pow_mul, Nat.testBit_div_two_pow]
  have hhi : ∀ i, n ≤ i → x.testBit i = false := fun i hi => Nat.testBit_lt_two_pow (Nat.lt_of_lt_of_le hx (Nat.pow_le_pow_right (by omega) hi))
  by_cases h : a ≤ j
  · rw [show j + n - a = (j - a) + n by omega, Nat.add_mod_right, Nat.mod_eq_of_lt (by omega), hhi (j + (n - a)) (by omega)]
    simp [h, hj]
  · rw [Nat.mod_eq_of_lt (by omega)]
    simp [h, show j + (n - a) = j + n - a by omega]
theorem turnR_bit {x n a j : Nat} (hx : x < 2 ^ n) (ha : a < n) (hj : j < n) : (turnR x n a).testBit j = x.testBit ((j + a) % n) := by
  unfold turnR
  rw [Nat.testBit_or, Nat.testBit_and, Nat.testBit_two_pow_sub_one, Nat.mul_comm, Nat.testBit_two_pow_mul, Nat.testBit_div_two_pow]
  have hhi : ∀ i, n ≤ i → x.testBit i = false := fun i hi => Nat.testBit_lt_two_pow (Nat.lt_of_lt_of_le hx (Nat.pow_le_pow_right (by omega) hi))
  by_cases h : j + a < n
  · rw [Nat.mod_eq_of_lt h]
    simp [show ¬ n - a ≤ j by omega]
  · rw [show j + a = (j + a - n) + n by omega, Nat.add_mod_right, Nat.mod_eq_of_lt (by omega)]
    rw [hhi (j + a - n + n) (by omega)]
    simp [show n - a ≤ j by omega, hj, show j - (n - a) = j + a - n by omega]
theorem turnL_lt {x n a : Nat} (hx : x < 2 ^ n) (ha : a ≤ n) : turnL x n a < 2 ^ n :=
  Nat.or_lt_two_pow (Nat.and_lt_two_pow _ (by have := Nat.two_pow_pos n; omega)) (Nat.lt_of_le_of_lt (Nat.div_le_self _ _) hx)
theorem turnR_lt {x n a : Nat} (hx : x < 2 ^ n) (ha : a ≤ n) : turnR x n a < 2 ^ n :=
  Nat.or_lt_two_pow (Nat.lt_of_le_of_lt (Nat.div_le_self _ _) hx) (Nat.and_lt_two_pow _ (by have := Nat.two_pow_pos n; omega))
theorem pb_left {l : List Int} {n a j : Nat} (ha : a < n) (hj : j < n) : (turnL (pb l n) n a).testBit j = decide (nth l ((j + n - a) % n) = 1) := by
  rw [turnL_bit (pb_lt l n) ha hj, pb_bit]
  simp [Nat.mod_lt _ (show 0 < n by omega)]
theorem pb_right {l : List Int} {n a j : Nat} (ha : a < n) (hj : j < n) : (turnR (pb l n) n a).testBit j = decide (nth l ((j + a) % n) = 1) := by
  rw [turnR_bit (pb_lt l n) ha hj, pb_bit]
  simp [Nat.mod_lt _ (show 0 < n by omega)]
/-- The sum of those so many places away, as numbers. -/
theorem pb_far {l : List Int} {n : Nat} (hl : l.length = n) (h0 : 0 < n) (hb : ∀ x ∈ l, x = 0 ∨ x = 1) (a : Nat) : turnL (pb l n) n (a % n) ^^^ turnR (pb l n) n (a % n) = pb (farL a l) n := by
  have ha := Nat.mod_lt a h0
  refine pb_eq (Nat.xor_lt_two_pow (turnL_lt (pb_lt l n) (by omega)) (turnR_lt (pb_lt l n) (by omega))) fun j hj => ?_
  rw [Nat.testBit_xor, pb_left ha hj, pb_right ha hj]
  have hn : nth (farL a l) j = (nth l ((j + a) % n) + nth l ((j + n - a % n) % n)) % 2 := by
    subst hl
    simp [nth, farL, List.getD, hj]
  rw [hn, Nat.add_mod_mod]
  rcases bit_nth hb ((j + a) % n) with e1 | e1 <;> rcases bit_nth hb ((j + n - a % n) % n) with e2 | e2 <;> rw [e1, e2] <;> decide
theorem pb_sum {l : List Int} {n : Nat} (hl : l.length = n) (h0 : 0 < n) (hb : ∀ x ∈ l, x = 0 ∨ x = 1) : turnL (pb l n) n (1 % n) ^^^ turnR (pb l n) n (1 % n) = pb (sumL l) n := by
  rw [pb_far hl h0 hb 1, far_one (by omega)]
/-- Any ring that is told place by place. -/
theorem pb_ring {f : Int → Int → Int → Int} {l : List Int} {n y : Nat} (hl : l.length = n) (hy : y < 2 ^ n) (h : ∀ j, j < n → y.testBit j = decide (f (nth l ((j + n - 1) % n)) (nth l j) (nth l ((j + 1) % n)) = 1)) : y = pb (ringL f l) n :=
  pb_eq hy fun j hj => by rw [h j hj, nth_ringL (by omega), hl]
/-- The sum of two rows. -/
theorem pb_add {a b : List Int} {n : Nat} (ha : a.length = n) (hba : ∀ x ∈ a, x = 0 ∨ x = 1) (hbb : ∀ x ∈ b, x = 0 ∨ x = 1) : pb a n ^^^ pb b n = pb (addL a b) n := by
  refine pb_eq (Nat.xor_lt_two_pow (pb_lt a n) (pb_lt b n)) fun j hj => ?_
  rw [Nat.testBit_xor, pb_bit, pb_bit, nth_addL (by omega)]
  rcases bit_nth hba j with e1 | e1 <;> rcases bit_nth hbb j with e2 | e2 <;> rw [e1, e2] <;> simp [hj]
/-- How many are 1, bit by bit. -/
theorem pb_ones (l : List Int) : ∀ k, k ≤ l.length → ones (l.take k) = (List.range k).countP fun j => (pb l l.length).testBit j
  | 0, _ => rfl
  | k + 1, h => by
    rw [ones_take (by omega), pb_ones l k (by omega), List.range_succ, List.countP_append, List.countP_singleton, pb_bit]
    simp [show k < l.length by omega]
end Go.Proofs.Ytkejcajboneniaa
