/-
  Texts put together: Mem Ex0 Nest C1a C1 S7 Sr S10 Dr DrO ExM ExS ExE NestX ExT S7v S10v Rb Rg. No statement is proved here.
-/
import Derived.WalkKit
import Derived.WalkSpells
import Derived.Deep.Draws
import Derived.OpenShut
import Derived.Test.YtkejcajboneniabGreatDoorProg
import Derived.Maps.Range
import Derived.Maps.AppendAt
import Derived.Deep.QuietTactic
import Derived.BigQuiet
import Derived.IntWalk
import Derived.Laws.BitsAllLaws
import Derived.Laws.BitsLemmas
import Derived.Deep.RegionHeld3
import Derived.RangeFuncNested
import Derived.RangeFuncBound
import Derived.RangeFuncCalls
import Derived.RangeFuncLeaves
import Derived.Shelf.Abstract
import Derived.Shelf.RegionOpen
import Derived.OwnWalkIn
import Derived.TacticsInMore
import Derived.LoopNIn
import Derived.LoopIn
import Derived.RangeFuncBox
set_option linter.unusedVariables false
set_option linter.unusedSimpArgs false
namespace Go.Proofs.YtkejcajboneniabGreatDoor
open Go.RowKit

theorem hid {p : Prop} (h : p) : Hid p := h

/-- Element k of a list; 0 past its end. Not to be unfolded by the walk. -/
def nth (l : List Int) (k : Nat) : Int := l.getD k 0

theorem nth_lt {l : List Int} {k : Nat} (h : k < l.length) : nth l k = l[k] := by simp [nth, List.getD, h]
theorem nth_ge {l : List Int} {k : Nat} (h : l.length ≤ k) : nth l k = 0 := by simp [nth, List.getD, List.getElem?_eq_none h]
theorem take_nth {l : List Int} {k : Nat} (h : k < l.length) : l.take (k + 1) = l.take k ++ [nth l k] := by
  rw [List.take_succ_eq_append_getElem h, nth_lt h]

/-- The slice value '.slice A n c' reads as the list l in the world w, below block B. -/
def Sl (w : World) (B : Nat) (A : Option Addr) (n : Nat) (l : List Int) : Prop :=
  l.length = n ∧ n ≤ maxLen ∧ (0 < n → ∃ b off, A = some ⟨b, off, none⟩ ∧ b < B ∧ ∀ j, j < n → w.cell? ⟨b, off + j, none⟩ = some (.int .i64 (nth l j)))

section
variable {w w' : World} {B B' n : Nat} {A : Option Addr} {l : List Int}
theorem Sl.len (h : Sl w B A n l) : l.length = n := h.1
theorem Sl.max (h : Sl w B A n l) : n ≤ 9223372036854775807 := h.2.1
theorem Sl.nil (w : World) (B : Nat) : Sl w B none 0 [] := ⟨rfl, by simp [maxLen], fun h => absurd h (by omega)⟩
theorem Sl.keep (h : Sl w B A n l) (hB : B ≤ B') (hk : ∀ p : Addr, p.block < B → w'.cell? p = w.cell? p) : Sl w' B' A n l :=
  ⟨h.1, h.2.1, fun hn => by
    obtain ⟨b, off, e, hb, hc⟩ := h.2.2 hn
    exact ⟨b, off, e, by omega, fun j hj => (hk _ hb).trans (hc j hj)⟩⟩
theorem Sl.more (h : Sl w B A n l) (hB : B ≤ B') : Sl w B' A n l := h.keep hB fun _ _ => rfl
theorem Sl.below (h : Sl w B A n l) (hb : Below B w w') : Sl w' B A n l := h.keep (Nat.le_refl _) fun _ hp => hb.cell hp
/-- The slice in a later world, seen below that world's size. -/
theorem Sl.on (h : Sl w w.heap.size A n l) (hb : Below w.heap.size w w') : Sl w' w'.heap.size A n l := (h.below hb).more hb.size
theorem Sl.of_own {base : Nat} {c : Nat} {e : TypeId} (h : w.ownsRow base e 1 (.slice A n c) n (l.map (Value.int .i64))) : Sl w w.heap.size A n l := by
  have hl : l.length = n := by have := h.1; simpa using this
  rcases h.2 with ⟨h1, h2⟩ | ⟨g, cap, cur, hv, hb, hg, hnc, hcm, hs, ht⟩
  · injection h1 with h1 h3
    subst h1; subst h3
    obtain rfl := List.eq_nil_of_length_eq_zero hl
    exact Sl.nil _ _
  · injection hv with h1 h2 h3
    subst h1; subst h3
    refine ⟨hl, Nat.le_trans hnc hcm, fun hn => ⟨g, 0, rfl, ?_, fun j hj => ?_⟩⟩
    · rcases Nat.lt_or_ge g w.heap.size with hlt | hge
      · exact hlt
      · rw [Array.getElem?_eq_none hge] at hg; cases hg
    · rw [World.ownsRow.cellAt h (0 + j) (by omega)]
      simp [nth, List.getD, show j < l.length from by omega]
end

/-- A slice of bytes that came in: each cell below its length is a byte. -/
def By (w : World) (B : Nat) (A : Option Addr) (n : Nat) : Prop :=
  n ≤ maxLen ∧ (0 < n → ∃ b off, A = some ⟨b, off, none⟩ ∧ b < B ∧ ∀ j, j < n → ∃ x : Int, 0 ≤ x ∧ x ≤ 255 ∧ w.cell? ⟨b, off + j, none⟩ = some (.int .u8 x))
theorem By.keep {w w' : World} {B B' n : Nat} {A : Option Addr} (h : By w B A n) (hB : B ≤ B') (hk : ∀ p : Addr, p.block < B → w'.cell? p = w.cell? p) : By w' B' A n :=
  ⟨h.1, fun hn => by
    obtain ⟨b, off, e, hb, hc⟩ := h.2 hn
    refine ⟨b, off, e, by omega, fun j hj => ?_⟩
    obtain ⟨x, h1, h2, h3⟩ := hc j hj
    exact ⟨x, h1, h2, (hk _ hb).trans h3⟩⟩
theorem By.below {w w' : World} {B n : Nat} {A : Option Addr} (h : By w B A n) (hb : Below B w w') : By w' B A n := h.keep (Nat.le_refl _) fun _ hp => hb.cell hp
theorem By.on {w w' : World} {n : Nat} {A : Option Addr} (h : By w w.heap.size A n) (hb : Below w.heap.size w w') : By w' w'.heap.size A n := h.keep hb.size fun _ hp => hb.cell hp
theorem below_drewN {B : Nat} {a w : World} (h : Below B a w) (n : Nat) : Below B a (w.drewN n) := ⟨h.os, h.tape, h.output, h.size, h.block⟩
theorem below_tr {w w1 w2 : World} (h : Below w.heap.size w w1) (k : Below w1.heap.size w1 w2) : Below w.heap.size w w2 := h.trans (k.mono h.size)
theorem grown_alloc (w : World) (o : Obj) (row : Option Nat) : w.grownBy (w.alloc o) row := ⟨rfl, rfl, rfl, by simp, fun k hk _ => Below.heap_alloc w o k hk⟩
theorem below_grown {w w' : World} (h : w.grownBy w' none) : Below w.heap.size w w' := ⟨h.os, h.tape, h.output, h.size, fun k hk => h.block k hk (by simp)⟩
theorem ret_bool {a b : Bool} (h : a = b) : Ending.returned (.bool a) = .returned (.bool b) := by rw [h]
theorem ret_int {k : IntKind} {a b : Int} (h : a = b) : Ending.returned (.int k a) = .returned (.int k b) := by rw [h]

end Go.Proofs.YtkejcajboneniabGreatDoor
namespace Go.Proofs.YtkejcajboneniabGreatDoor
open Go.RowKit

theorem info_int : (Tryz.prog.info? 3).map (fun i => (i.zero, i.size, i.bytes)) = some (some (.int .i64 0), 1, 8) := by kernel_rfl

abbrev ints (l : List Int) : List Value := l.map (Value.int .i64)

def filled (l : List Int) (k n : Nat) : List Int := l.take k ++ List.replicate (n - k) 0
theorem filled_zero (l : List Int) (n : Nat) : filled l 0 n = List.replicate n 0 := by simp [filled]
theorem filled_all {l : List Int} {n : Nat} (h : l.length = n) : filled l n n = l := by simp [filled, List.take_of_length_le (Nat.le_of_eq h)]
theorem filled_step {l : List Int} {k n : Nat} (h : l.length = n) (hk : k < n) : (filled l k n).set k (nth l k) = filled l (k + 1) n := by
  unfold filled
  rw [List.set_append_right _ _ (by simp; omega), take_nth (by omega)]
  have : n - k = (n - (k + 1)) + 1 := by omega
  rw [this, List.replicate_succ]
  simp [Nat.min_eq_left (show k ≤ l.length by omega)]

theorem ints_set (l : List Int) (k : Nat) (x : Int) : (ints l).set k (.int .i64 x) = ints (l.set k x) := by simp [ints, List.map_set]
theorem madeInts (n : Nat) : (madeCells (Value.int .i64 0).cells (n * 1)).toList = ints (List.replicate n 0) := by
  simp only [madeCells, Value.cells, ints, List.map_replicate]
  apply List.ext_getElem?
  intro j
  by_cases h : j < n
  · simp [h, Nat.mod_one]
  · simp [show n ≤ j from by omega]

/-- What a row of ints that the call owns gives to a store: the cell is there, and is not frozen. -/
theorem own_cell {w : World} {base g n c j : Nat} {e : TypeId} {l : List Int} (h : w.ownsRow base e 1 (.slice (some ⟨g, 0, none⟩) n c) n (ints l)) (hl : l.length = n) (hj : j < n) :
    w.cell? ⟨g, j, none⟩ = some (.int .i64 (nth l j)) := by
  rw [h.cellAt j (by omega)]
  simp [nth, List.getD, show j < l.length from by omega]

def marks (k : Int) (n : Nat) : List Int := (List.range n).map fun (j : Nat) => k + j
theorem marks_len (k : Int) (n : Nat) : (marks k n).length = n := by simp [marks]
theorem nth_marks (k : Int) {n j : Nat} (h : j < n) : nth (marks k n) j = k + j := by simp [nth, marks, List.getD, h]

def marked (l : List Int) (k : Int) (i : Nat) : List Int := marks k i ++ l.drop i
theorem marked_zero (l : List Int) (k : Int) : marked l k 0 = l := by simp [marked, marks]
theorem marked_len {l : List Int} {k : Int} {i n : Nat} (h : l.length = n) (hi : i ≤ n) : (marked l k i).length = n := by simp [marked, marks]; omega
theorem marked_all {l : List Int} {k : Int} {n : Nat} (h : l.length = n) : marked l k n = marks k n := by simp [marked, List.drop_of_length_le (Nat.le_of_eq h)]
theorem marked_step {l : List Int} {k : Int} {i n : Nat} (h : l.length = n) (hi : i < n) : (marked l k i).set i (k + i) = marked l k (i + 1) := by
  unfold marked marks
  rw [List.set_append_right _ _ (by simp), List.range_succ, List.map_append, List.append_assoc]
  congr 1
  simp only [List.length_map, List.length_range, Nat.sub_self]
  rw [show l.drop i = l[i]'(by omega) :: l.drop (i + 1) from List.drop_eq_getElem_cons (by omega)]
  rfl

theorem own_on {w w' : World} {B n : Nat} {v : Value} {e : TypeId} {xs : List Value} (h : w.ownsRow B e 1 v n xs) (hb : Below w.heap.size w w') : w'.ownsRow B e 1 v n xs := by
  refine ⟨h.1, ?_⟩
  rcases h.2 with h2 | ⟨g, cap, cur, h1, h2, h3, h4⟩
  · exact .inl h2
  · refine .inr ⟨g, cap, cur, h1, h2, (hb.block g ?_).trans h3, h4⟩
    rcases Nat.lt_or_ge g w.heap.size with hlt | hge
    · exact hlt
    · rw [Array.getElem?_eq_none hge] at h3; cases h3
theorem own_lo {w : World} {B n : Nat} {v : Value} {e : TypeId} {xs : List Value} (h : w.ownsRow B e 1 v n xs) : ∀ k, v.ownBlock = some k → B ≤ k := fun k hk => (h.lt k hk).1
theorem own_hi {w : World} {B n : Nat} {v : Value} {e : TypeId} {xs : List Value} (h : w.ownsRow B e 1 v n xs) : ∀ k, v.ownBlock = some k → k < w.heap.size := fun k hk => (h.lt k hk).2
theorem own_shape {W : World} {base : Nat} {e : TypeId} {size : Nat} {v : Value} {k : Nat} {xs : List Value} (h : W.ownsRow base e size v (k + 1) xs) : ∃ g cap, v = .slice (some ⟨g, 0, none⟩) (k + 1) cap ∧ base ≤ g ∧ g < W.heap.size := by
  rcases h.2 with ⟨_, h2⟩ | ⟨g, cap, cur, rfl, hb, hg, _⟩
  · omega
  · refine ⟨g, cap, rfl, hb, ?_⟩
    rcases Nat.lt_or_ge g W.heap.size with hlt | hge
    · exact hlt
    · rw [Array.getElem?_eq_none hge] at hg; cases hg

theorem own_mono {w : World} {base base' : Nat} {e : TypeId} {size : Nat} {v : Value} {n : Nat} {xs : List Value} (h : w.ownsRow base e size v n xs) (hb : base' ≤ base) : w.ownsRow base' e size v n xs := by
  refine ⟨h.1, ?_⟩
  rcases h.2 with h2 | ⟨g, cap, cur, h1, h2, h3⟩
  · exact .inl h2
  · exact .inr ⟨g, cap, cur, h1, Nat.le_trans hb h2, h3⟩

/-- From a row that the call owns, one element appended: as the law on append leaves it. -/
theorem pushed {w w1 w2 : World} {B i g : Nat} {l : List Int} {x : Int} {v v2 : Value} (hg : w.grownBy w1 (some g)) (hB : w.heap.size ≤ B) (hB1 : B ≤ w1.heap.size)
    (hv : v.ownBlock = none ∨ ∃ k, v.ownBlock = some k ∧ B ≤ k)
    (h2 : w2.ownsRow B 3 1 v2 (i + 1) (ints l ++ [.int .i64 x])) (hg2 : (w1.alloc (.cells #[.int .i64 x] 3)).grownBy w2 v.ownBlock) :
    ∃ A c, v2 = .slice A (i + 1) c ∧ w2.ownsRow B 3 1 (.slice A (i + 1) c) (i + 1) (ints (l ++ [x])) ∧ w.grownBy w2 (some g) := by
  obtain ⟨g2, c2, rfl, _, _⟩ := own_shape h2
  refine ⟨_, _, rfl, by simpa [ints] using h2, ?_⟩
  refine (World.grownBy.andThen (row' := none) hg (grown_alloc w1 _ none) (by simp)).andThen hg2 ?_
  intro j hj
  rcases hv with hv | ⟨k, hv, hk⟩
  · rw [hv] at hj; cases hj
  · rw [hv] at hj; cases hj; left; omega

/-- The same where nothing below B has changed. -/
theorem pushedB {w w1 w2 : World} {B i : Nat} {l : List Int} {x : Int} {v v2 : Value} (hg : Below w.heap.size w w1) (hB : w.heap.size ≤ B) (hB1 : B ≤ w1.heap.size)
    (hv : v.ownBlock = none ∨ ∃ k, v.ownBlock = some k ∧ B ≤ k)
    (h2 : w2.ownsRow B 3 1 v2 (i + 1) (ints l ++ [.int .i64 x])) (hg2 : (w1.alloc (.cells #[.int .i64 x] 3)).grownBy w2 v.ownBlock) :
    ∃ A c, v2 = .slice A (i + 1) c ∧ w2.ownsRow B 3 1 (.slice A (i + 1) c) (i + 1) (ints (l ++ [x])) ∧ Below w.heap.size w w2 := by
  obtain ⟨g2, c2, rfl, _, _⟩ := own_shape h2
  refine ⟨_, _, rfl, by simpa [ints] using h2, (hg.alloc hg.size _).grown hg2 (by have := hg.size; simp; omega) ?_⟩
  intro k hk
  rcases hv with hv | ⟨k', hv, hk'⟩
  · rw [hv] at hk; cases hk
  · rw [hv] at hk; cases hk; omega

theorem own_blk {w : World} {B n : Nat} {A : Option Addr} {c : Nat} {e : TypeId} {xs : List Value} (h : w.ownsRow B e 1 (.slice A n c) n xs) :
    (Value.slice A n c).ownBlock = none ∨ ∃ k, (Value.slice A n c).ownBlock = some k ∧ B ≤ k := by
  rcases hb : (Value.slice A n c).ownBlock with _ | k
  · exact .inl rfl
  · exact .inr ⟨k, rfl, (h.lt k hb).1⟩

/-- One element more, the new cell in a block of its own: all in one. -/
theorem own_kept_none {w w' : World} {B n : Nat} {v : Value} {e : TypeId} {xs : List Value} (h : w.ownsRow B e 1 v n xs) (hg : w.grownBy w' none) : w'.ownsRow B e 1 v n xs := by
  refine h.kept hg ?_
  rcases v.ownBlock with _ | k
  · exact .inl rfl
  · exact .inr (by simp)

theorem own_ne {w : World} {B n g : Nat} {A : Option Addr} {c : Nat} {e : TypeId} {xs : List Value} (h : w.ownsRow B e 1 (.slice A n c) n xs) (hg : g < B) :
    (Value.slice A n c).ownBlock = none ∨ (Value.slice A n c).ownBlock ≠ some g := by
  rcases hb : (Value.slice A n c).ownBlock with _ | k
  · exact .inl rfl
  · right; have := (h.lt k hb).1; simp; omega

theorem Sl.cellsAt {w : World} {B n b off : Nat} {l : List Int} (h : Sl w B (some ⟨b, off, none⟩) n l) : ∀ j u, (ints l)[j]? = some u → w.cell? ((⟨b, off, none⟩ : Addr).add j) = some u := by
  intro j u hu
  have hl := h.len
  have hj : j < n := by
    rcases Nat.lt_or_ge j n with h1 | h1
    · exact h1
    · rw [List.getElem?_eq_none (by simpa [ints, hl] using h1)] at hu; cases hu
  obtain ⟨b', off', e, _, hc⟩ := h.2.2 (by omega)
  injection e with e
  injection e with e1 e2
  subst e1
  subst e2
  have e3 : (⟨b, off, none⟩ : Addr).add j = ⟨b, off + j, none⟩ := by
    unfold Addr.add
    by_cases h0 : j = 0 <;> simp [h0]
  rw [e3, hc j hj]
  rw [← hu]
  simp [ints, nth, List.getD, show j < l.length from by omega]
theorem ints_one (l : List Int) : ∀ u ∈ ints l, u.oneCell' = true := by simp [ints, Value.oneCell']
theorem own_shape1 {W : World} {base : Nat} {e : TypeId} {size : Nat} {v : Value} {m : Nat} {xs : List Value} (h : W.ownsRow base e size v m xs) (hm : 0 < m) : ∃ g cap, v = .slice (some ⟨g, 0, none⟩) m cap ∧ base ≤ g ∧ g < W.heap.size := by
  obtain ⟨k, rfl⟩ : ∃ k, m = k + 1 := ⟨m - 1, by omega⟩
  exact own_shape h

end Go.Proofs.YtkejcajboneniabGreatDoor
namespace Go.Proofs.YtkejcajboneniabGreatDoor
open Go.RowKit

theorem info_row : (Tryz.prog.info? 28).map (fun i => (i.zero, i.size, i.bytes)) = some (some (.slice none 0 0), 1, 24) := by kernel_rfl

/-- A slice of ints of one's own, at or above B, that reads as l. -/
def Row1 (w : World) (B : Nat) (v : Value) (l : List Int) : Prop := ∃ A n c, v = .slice A n c ∧ w.ownsRow B 3 1 (.slice A n c) n (ints l)
/-- The values vs are slices of ints of one's own that read as ls. -/
def Rows (w : World) (B : Nat) (vs : List Value) (ls : List (List Int)) : Prop := vs.length = ls.length ∧ ∀ (j : Nat) v l, vs[j]? = some v → ls[j]? = some l → Row1 w B v l

section
variable {w w' : World} {B : Nat} {vs : List Value} {ls : List (List Int)}
theorem Rows.nil (w : World) (B : Nat) : Rows w B [] [] := ⟨rfl, fun j v l h => by simp at h⟩
theorem Rows.keep (h : Rows w B vs ls) (hk : ∀ v n xs, w.ownsRow B 3 1 v n xs → w'.ownsRow B 3 1 v n xs) : Rows w' B vs ls :=
  ⟨h.1, fun j v l h1 h2 => by
    obtain ⟨A, n, c, e, ho⟩ := h.2 j v l h1 h2
    exact ⟨A, n, c, e, hk _ _ _ ho⟩⟩
theorem Rows.on (h : Rows w B vs ls) (hb : Below w.heap.size w w') : Rows w' B vs ls := h.keep fun _ _ _ ho => own_on ho hb
theorem Rows.onto (h : Rows w B vs ls) (hg : w.grownBy w' none) : Rows w' B vs ls := h.keep fun _ _ _ ho => own_kept_none ho hg
theorem Rows.mono {B' : Nat} (h : Rows w B vs ls) (hB : B' ≤ B) : Rows w B' vs ls := ⟨h.1, fun j v l h1 h2 => by
  obtain ⟨A, n, c, e, ho⟩ := h.2 j v l h1 h2
  exact ⟨A, n, c, e, own_mono ho hB⟩⟩
theorem Rows.snoc (h : Rows w B vs ls) {v : Value} {l : List Int} (hv : Row1 w B v l) : Rows w B (vs ++ [v]) (ls ++ [l]) := by
  refine ⟨by simp [h.1], fun j x y hx hy => ?_⟩
  by_cases hj : j < vs.length
  · rw [List.getElem?_append_left hj] at hx
    rw [List.getElem?_append_left (by have := h.1; omega)] at hy
    exact h.2 j x y hx hy
  · rw [List.getElem?_append_right (by omega)] at hx
    rw [List.getElem?_append_right (by have := h.1; omega), ← h.1] at hy
    by_cases h0 : j - vs.length = 0
    · rw [h0] at hx hy
      simp at hx hy
      subst hx; subst hy
      exact hv
    · simp [h0] at hx
theorem Rows.at (h : Rows w B vs ls) {j : Nat} {l : List Int} (hl : ls[j]? = some l) : ∃ A n c, vs[j]? = some (.slice A n c) ∧ w.ownsRow B 3 1 (.slice A n c) n (ints l) := by
  have hj : j < ls.length := (List.getElem?_eq_some_iff.1 hl).1
  have hv : vs[j]? = some (vs[j]'(by rw [h.1]; exact hj)) := List.getElem?_eq_getElem _
  obtain ⟨A, n, c, e, ho⟩ := h.2 j _ l hv hl
  exact ⟨A, n, c, by rw [hv, e], ho⟩
end

theorem cells_new (w : World) (cs : List Value) (t : TypeId) : ∀ (j : Nat) (u : Value), cs[j]? = some u → (w.alloc (.cells cs.toArray t)).cell? ((⟨w.heap.size, 0, none⟩ : Addr).add j) = some u := by
  intro j u hu
  have e : (⟨w.heap.size, 0, none⟩ : Addr).add j = ⟨w.heap.size, j, none⟩ := by
    unfold Addr.add
    by_cases h0 : j = 0 <;> simp [h0]
  rw [e, cell_of_row _ _ j _ _ _ (heap_alloc_new w _)]
  simpa using hu
/-- A row of ints and a row of slices lie in different blocks: their types differ. -/
theorem own_types {w : World} {B B2 n m : Nat} {v vo : Value} {xs ys : List Value} (h : w.ownsRow B 3 1 v n xs) (ho : w.ownsRow B2 28 1 vo m ys) : v.ownBlock = none ∨ v.ownBlock ≠ vo.ownBlock := by
  rcases h.2 with ⟨h1, _⟩ | ⟨g, cap, cur, h1, h2, h3, _⟩
  · left; rw [h1]; rfl
  · rcases ho.2 with ⟨k1, _⟩ | ⟨g2, cap2, cur2, k1, k2, k3, _⟩
    · right; rw [h1, k1]; simp [Value.ownBlock]
    · right
      rw [h1, k1]
      intro e
      have e' : g = g2 := by simpa [Value.ownBlock] using e
      subst e'
      rw [h3] at k3
      simp at k3
theorem own_beside {w w' : World} {B B2 n m : Nat} {v vo : Value} {xs ys : List Value} (h : w.ownsRow B 3 1 v n xs) (ho : w.ownsRow B2 28 1 vo m ys) (hg : w.grownBy w' vo.ownBlock) : w'.ownsRow B 3 1 v n xs := h.kept hg (own_types h ho)
theorem Rows.beside {w w' : World} {B B2 m : Nat} {vs : List Value} {ls : List (List Int)} {vo : Value} {ys : List Value} (h : Rows w B vs ls) (ho : w.ownsRow B2 28 1 vo m ys) (hg : w.grownBy w' vo.ownBlock) : Rows w' B vs ls :=
  h.keep fun _ _ _ hr => own_beside hr ho hg
end Go.Proofs.YtkejcajboneniabGreatDoor
namespace Go.Proofs.YtkejcajboneniabGreatDoor
open Go.RowKit

/-- All numbers are in lo..hi. -/
def allIn (l : List Int) (lo hi : Int) : Bool := l.all fun x => decide (lo ≤ x ∧ x ≤ hi)
theorem allIn_snoc (l : List Int) (x lo hi : Int) : allIn (l ++ [x]) lo hi = (allIn l lo hi && decide (lo ≤ x ∧ x ≤ hi)) := by simp [allIn]
theorem allIn_take_false {l : List Int} {lo hi : Int} {k : Nat} (h : allIn (l.take k) lo hi = false) : allIn l lo hi = false := by
  rw [← List.take_append_drop k l]; unfold allIn at *; rw [List.all_append, h]; rfl

def within (n lo hi : Int) : Bool := decide (lo ≤ n ∧ n ≤ hi)

set_option maxHeartbeats 400000 in
theorem statesOk_any (s : Int) (w : World) :
    Calls Tryz.prog 106 #[.int .i64 s] w fun e w' => e = .returned (.bool (within s 1 4)) ∧ w = w' := by
  by_cases h1 : 1 ≤ s
  · go_enter Tryz.func106, Tryz.ntmps106
    go_wp2
    go_ret
    exact ⟨ret_bool (by simp [within, h1]), rfl⟩
  · have h1' : decide (1 ≤ s) = false := by simpa using h1
    go_enter Tryz.func106, Tryz.ntmps106
    go_wp2
    go_ret
    exact ⟨ret_bool (by simp [within]; omega), rfl⟩

set_option maxHeartbeats 400000 in
theorem l1In_any (n lo hi : Int) (w : World) :
    Calls Tryz.prog 97 #[.int .i64 n, .int .i64 lo, .int .i64 hi] w fun e w' => e = .returned (.bool (within n lo hi)) ∧ w = w' := by
  by_cases h1 : lo ≤ n
  · go_enter Tryz.func97, Tryz.ntmps97
    go_wp2
    go_ret
    exact ⟨ret_bool (by simp [within, h1]), rfl⟩
  · have h1' : decide (lo ≤ n) = false := by simpa using h1
    go_enter Tryz.func97, Tryz.ntmps97
    go_wp2
    go_ret
    exact ⟨ret_bool (by simp [within]; omega), rfl⟩

set_option maxHeartbeats 400000 in
theorem allWithin_any (A : Option Addr) (n c : Nat) (l : List Int) (lo hi : Int) (w : World) (B : Nat) (hs : Sl w B A n l) :
    Calls Tryz.prog 107 #[.slice A n c, .int .i64 lo, .int .i64 hi] w fun e w' => e = .returned (.bool (allIn l lo hi)) ∧ w = w' := by
  have hm := hs.max
  go_enter Tryz.func107, Tryz.ntmps107
  go_wp2
  go_loop [11] (fun i => ∃ k : Nat, k ≤ n ∧ i = .int .i64 k ∧ allIn (l.take k) lo hi = true) (fun i => n - (intOf i).toNat)
  case atStart => exact ⟨0, Nat.zero_le _, rfl, rfl⟩
  case round =>
    obtain ⟨k, hk, rfl, hall⟩ := hrel
    have HA := hid hall; clear hall
    have hlen := hs.len
    have HL := hid hlen; clear hlen
    by_cases hlt : k < n
    · obtain ⟨b, off, rfl, _, hc⟩ := hs.2.2 (by omega)
      have hck := hc k hlt
      clear hc
      by_cases h1 : nth l k < lo
      · go_wp2
        go_ret
        refine ⟨ret_bool ?_, rfl⟩
        symm
        apply allIn_take_false (k := k + 1)
        rw [take_nth (by rw [HL.out]; exact hlt), allIn_snoc]; simp; omega
      · by_cases h2 : hi < nth l k
        · have h1' : decide (nth l k < lo) = false := by simpa using h1
          go_wp2
          go_ret
          refine ⟨ret_bool ?_, rfl⟩
          symm
          apply allIn_take_false (k := k + 1)
          rw [take_nth (by rw [HL.out]; exact hlt), allIn_snoc]; simp; omega
        · have h1' : decide (nth l k < lo) = false := by simpa using h1
          have h2' : decide (hi < nth l k) = false := by simpa using h2
          go_wp2
          go_round
          case rel => exact ⟨k + 1, by omega, by go_num, by rw [take_nth (by rw [HL.out]; exact hlt), allIn_snoc, HA.out]; simp; omega⟩
          case measure => simp [intOf]; omega
    · go_wp2
      go_ret
      refine ⟨ret_bool ?_, rfl⟩
      have := HA.out
      rw [List.take_of_length_le (by rw [HL.out]; omega)] at this
      exact this.symm

/-- A row of 1..40 machines, each in 0..states less 1, for states in 1..4. -/
def cellsOk (l : List Int) (s : Int) : Bool := within s 1 4 && (decide (1 ≤ l.length) && (decide (l.length ≤ 40) && allIn l 0 (s - 1)))

theorem within_iff {n lo hi : Int} : within n lo hi = true ↔ lo ≤ n ∧ n ≤ hi := by simp [within]

set_option maxHeartbeats 800000 in
theorem cellsOk_any (A : Option Addr) (n c : Nat) (l : List Int) (s : Int) (w : World) (B : Nat) (hs : Sl w B A n l) :
    Calls Tryz.prog 60 #[.slice A n c, .int .i64 s] w fun e w' => e = .returned (.bool (cellsOk l s)) ∧ w = w' := by
  have hm := hs.max
  have hl := hs.len
  have HL := hid hl; clear hl
  by_cases h1 : within s 1 4 = true
  · have hb := within_iff.1 h1
    obtain ⟨hb1, hb2⟩ := hb
    by_cases h2 : 1 ≤ n
    · by_cases h3 : n ≤ 40
      · go_enter Tryz.func60, Tryz.ntmps60
        go_wp2_with (first | (go_at_call 106; refine (statesOk_any _ _).mono ?_; rintro e w' ⟨rfl, rfl⟩) | (go_at_call 107; refine (allWithin_any _ _ _ l _ _ _ _ hs).mono ?_; rintro e w' ⟨rfl, rfl⟩))
        go_ret
        exact ⟨ret_bool (by unfold cellsOk; rw [h1, HL.out]; simp [h2, h3]), rfl⟩
      · have h3' : decide ((n : Int) ≤ 40) = false := by simp; omega
        go_enter Tryz.func60, Tryz.ntmps60
        go_wp2_with (first | (go_at_call 106; refine (statesOk_any _ _).mono ?_; rintro e w' ⟨rfl, rfl⟩) | (go_at_call 107; refine (allWithin_any _ _ _ l _ _ _ _ hs).mono ?_; rintro e w' ⟨rfl, rfl⟩))
        go_ret
        exact ⟨ret_bool (by unfold cellsOk; rw [h1, HL.out]; simp [h3]), rfl⟩
    · have h2' : decide (1 ≤ (n : Int)) = false := by simp; omega
      go_enter Tryz.func60, Tryz.ntmps60
      go_wp2_with (first | (go_at_call 106; refine (statesOk_any _ _).mono ?_; rintro e w' ⟨rfl, rfl⟩) | (go_at_call 107; refine (allWithin_any _ _ _ l _ _ _ _ hs).mono ?_; rintro e w' ⟨rfl, rfl⟩))
      go_ret
      exact ⟨ret_bool (by unfold cellsOk; rw [h1, HL.out]; simp [show n = 0 from by omega]), rfl⟩
  · have h1' : within s 1 4 = false := by simpa using h1
    go_enter Tryz.func60, Tryz.ntmps60
    go_wp2_with (first | (go_at_call 106; refine (statesOk_any _ _).mono ?_; rintro e w' ⟨rfl, rfl⟩) | (go_at_call 107; refine (allWithin_any _ _ _ l _ _ _ _ hs).mono ?_; rintro e w' ⟨rfl, rfl⟩))
    go_ret
    exact ⟨ret_bool (by unfold cellsOk; rw [h1']; rfl), rfl⟩

/-- A literal slice of ints. -/
theorem Sl.lit (w : World) (e : TypeId) (l : List Int) (hl : l.length ≤ 1000000) : Sl (w.alloc (.cells (l.map (Value.int .i64)).toArray e)) (w.heap.size + 1) (some ⟨w.heap.size, 0, none⟩) l.length l := by
  have h := World.ownsRow_lit (base := w.heap.size) (e := e) (size := 1) w (l.map (Value.int .i64)).toArray l.length (Nat.le_refl _) (by simp only [maxLen]; omega) (by simp)
  have h2 := Sl.of_own (c := l.length) (l := l) (by simpa using h)
  simpa using h2

set_option maxHeartbeats 800000 in
theorem alive_any (w : World) :
    Calls Tryz.prog 19 #[] w fun e w' => e = .returned (.bool true) ∧ Below w.heap.size w w' := by
  have c1 : cellsOk [1] 2 = true := by decide
  have c2 : cellsOk [2] 2 = false := by decide
  have hL1 : Sl (w.alloc (.cells #[.int .i64 1] 3)) (w.heap.size + 1) (some ⟨w.heap.size, 0, none⟩) 1 [1] := by simpa using Sl.lit w 3 [1] (by decide)
  have hL2 : Sl ((w.alloc (.cells #[.int .i64 1] 3)).alloc (.cells #[.int .i64 2] 3)) (w.heap.size + 1 + 1) (some ⟨w.heap.size + 1, 0, none⟩) 1 [2] := by simpa using Sl.lit (w.alloc (.cells #[.int .i64 1] 3)) 3 [2] (by decide)
  go_enter Tryz.func19, Tryz.ntmps19
  go_wp2_with fail
  refine (cellsOk_any _ _ _ [1] 2 _ _ hL1).mono ?_
  rintro e w1 ⟨rfl, rfl⟩
  go_wp2_with fail
  refine (cellsOk_any _ _ _ [2] 2 _ _ hL2).mono ?_
  rintro e w1 ⟨rfl, rfl⟩
  go_wp2
  go_ret
  exact ⟨rfl, ((Below.refl _ _).alloc (Nat.le_refl _) _).alloc (by simp) _⟩
end Go.Proofs.YtkejcajboneniabGreatDoor
namespace Go.Proofs.YtkejcajboneniabGreatDoor
open Go.RowKit

set_option maxHeartbeats 800000 in
/-- The model's CellsOk: its states may be any number, for 'states less 1' wraps at the least one alone, where no cell fits. -/
theorem specCellsOk_in (A : Option Addr) (n c : Nat) (l : List Int) (s : Int) (w : World) (B : Nat) (hs : Sl w B A n l) (hlo : -9223372036854775807 ≤ s) (hhi : s ≤ 9223372036854775807) :
    Calls Tryz.prog 131 #[.slice A n c, .int .i64 s] w fun e w' => e = .returned (.bool (cellsOk l s)) ∧ w = w' := by
  have hm := hs.max
  have hl := hs.len
  have HL := hid hl; clear hl
  go_enter Tryz.func131, Tryz.ntmps131
  go_wp2
  go_loop [5] (fun i => ∃ k : Nat, k ≤ n ∧ i = .int .i64 k ∧ allIn (l.take k) 0 (s - 1) = true) (fun i => n - (intOf i).toNat)
  case atStart => exact ⟨0, Nat.zero_le _, rfl, rfl⟩
  case round =>
    obtain ⟨k, hk, rfl, hall⟩ := hrel
    have HA := hid hall; clear hall
    by_cases hlt : k < n
    · obtain ⟨b, off, rfl, _, hc⟩ := hs.2.2 (by omega)
      have hck := hc k hlt
      clear hc
      by_cases h1 : within (nth l k) 0 (s - 1) = true
      · go_wp2_with (go_at_call 97; refine (l1In_any _ _ _ _).mono ?_; rintro e w' ⟨rfl, rfl⟩)
        go_round
        case rel => exact ⟨k + 1, by omega, by go_num, by rw [take_nth (by rw [HL.out]; exact hlt), allIn_snoc, HA.out]; exact h1⟩
        case measure => simp [intOf]; omega
      · have h1' : within (nth l k) 0 (s - 1) = false := by simpa using h1
        go_wp2_with (go_at_call 97; refine (l1In_any _ _ _ _).mono ?_; rintro e w' ⟨rfl, rfl⟩)
        go_ret
        refine ⟨ret_bool ?_, rfl⟩
        have : allIn l 0 (s - 1) = false := by
          apply allIn_take_false (k := k + 1)
          rw [take_nth (by rw [HL.out]; exact hlt), allIn_snoc, HA.out]; exact h1'
        simp [cellsOk, this]
    · have hA : allIn l 0 (s - 1) = true := by have := HA.out; rwa [List.take_of_length_le (by rw [HL.out]; omega)] at this
      have HA2 := hid hA; clear hA
      by_cases h1 : within (n : Int) 1 40 = true
      · go_wp2_with (go_at_call 97; refine (l1In_any _ _ _ _).mono ?_; rintro e w' ⟨rfl, rfl⟩)
        go_ret
        refine ⟨ret_bool ?_, rfl⟩
        have := within_iff.1 h1
        simp [cellsOk, HA2.out, HL.out, show 1 ≤ n from by omega, show n ≤ 40 from by omega]
      · have h1' : within (n : Int) 1 40 = false := by simpa using h1
        go_wp2_with (go_at_call 97; refine (l1In_any _ _ _ _).mono ?_; rintro e w' ⟨rfl, rfl⟩)
        go_ret
        refine ⟨ret_bool ?_, rfl⟩
        simp [within] at h1'
        simp [cellsOk, HA2.out, HL.out]; intro _ h; omega

set_option maxHeartbeats 800000 in
theorem specCellsOk_least (A : Option Addr) (n c : Nat) (l : List Int) (s : Int) (w : World) (B : Nat) (hs : Sl w B A n l) (hlo : s < 1) :
    Calls Tryz.prog 131 #[.slice A n c, .int .i64 s] w fun e w' => e = .returned (.bool (cellsOk l s)) ∧ w = w' := by
  have hm := hs.max
  have hfin : cellsOk l s = false := by simp [cellsOk, within]; intro h; omega
  have h0 : within s 1 4 = false := by simp [within]; intro h; omega
  have HF := hid hfin; clear hfin
  go_enter Tryz.func131, Tryz.ntmps131
  go_wp2
  go_loop [5] (fun i => ∃ k : Nat, k ≤ n ∧ i = .int .i64 k) (fun i => n - (intOf i).toNat)
  case atStart => exact ⟨0, Nat.zero_le _, rfl⟩
  case round =>
    obtain ⟨k, hk, rfl⟩ := hrel
    by_cases hlt : k < n
    · obtain ⟨b, off, rfl, _, hc⟩ := hs.2.2 (by omega)
      have hck := hc k hlt
      clear hc
      by_cases h1 : within (nth l k) 0 (wrap64 (s - 1)) = true
      · have h2 : ∀ e, Calls Tryz.prog 97 #[.int .i64 (nth l k), .int .i64 0, .int .i64 e] w fun e' w' => e' = .returned (.bool (within (nth l k) 0 e)) ∧ w = w' := fun e => l1In_any _ _ _ _
        have H2 := hid h2; clear h2
        go_wp2_with (go_at_call 97; refine (H2.out _).mono ?_; rintro e w' ⟨rfl, rfl⟩)
        all_goals first
          | (go_round
             case rel => exact ⟨k + 1, by omega, by go_num⟩
             case measure => simp [intOf]; omega)
          | (go_ret
             exact ⟨ret_bool (by rw [HF.out]), rfl⟩)
      · have h1' : within (nth l k) 0 (wrap64 (s - 1)) = false := by simpa using h1
        go_wp2_with (go_at_call 97; refine (l1In_any _ _ _ _).mono ?_; rintro e w' ⟨rfl, rfl⟩)
        all_goals first
          | (go_ret
             exact ⟨ret_bool (by rw [HF.out]), rfl⟩)
          | (go_round
             case rel => exact ⟨k + 1, by omega, by go_num⟩
             case measure => simp [intOf]; omega)
    · by_cases h1 : within (n : Int) 1 40 = true
      · go_wp2_with (go_at_call 97; refine (l1In_any _ _ _ _).mono ?_; rintro e w' ⟨rfl, rfl⟩)
        go_ret
        exact ⟨ret_bool (by rw [HF.out]), rfl⟩
      · have h1' : within (n : Int) 1 40 = false := by simpa using h1
        go_wp2_with (go_at_call 97; refine (l1In_any _ _ _ _).mono ?_; rintro e w' ⟨rfl, rfl⟩)
        go_ret
        exact ⟨ret_bool (by rw [HF.out]), rfl⟩

theorem specCellsOk_any (A : Option Addr) (n c : Nat) (l : List Int) (s : Int) (w : World) (B : Nat) (hs : Sl w B A n l) (hhi : s ≤ 9223372036854775807) :
    Calls Tryz.prog 131 #[.slice A n c, .int .i64 s] w fun e w' => e = .returned (.bool (cellsOk l s)) ∧ w = w' := by
  by_cases h : s < 1
  · exact specCellsOk_least A n c l s w B hs h
  · exact specCellsOk_in A n c l s w B hs (by omega) hhi

end Go.Proofs.YtkejcajboneniabGreatDoor
namespace Go.Proofs.YtkejcajboneniabGreatDoor
open Go.RowKit

/-- What a machine does as most of three do. -/
def voteAt (l : List Int) (k : Nat) : Int := (nth l k + nth l (k - 1) + nth l (min (k + 1) (l.length - 1))) / 2
def voteL (l : List Int) : List Int := (List.range l.length).map (voteAt l)
def bitsL (l : List Int) : Prop := ∀ x ∈ l, x = 0 ∨ x = 1
theorem voteL_len (l : List Int) : (voteL l).length = l.length := by simp [voteL]
theorem nth_vote {l : List Int} {k : Nat} (h : k < l.length) : nth (voteL l) k = voteAt l k := by simp [nth, voteL, List.getD, h]
theorem bits_nth {l : List Int} (h : bitsL l) (k : Nat) : nth l k = 0 ∨ nth l k = 1 := by
  unfold nth
  by_cases hk : k < l.length
  · rw [List.getD, List.getElem?_eq_getElem hk]; exact h _ (List.getElem_mem hk)
  · rw [List.getD, List.getElem?_eq_none (by omega)]; exact .inl rfl
theorem vote_bits {l : List Int} (h : bitsL l) : bitsL (voteL l) := by
  intro x hx
  simp only [voteL, List.mem_map] at hx
  obtain ⟨k, _, rfl⟩ := hx
  have h1 := bits_nth h k
  have h2 := bits_nth h (k - 1)
  have h3 := bits_nth h (min (k + 1) (l.length - 1))
  unfold voteAt
  omega
theorem list_ext7 {l m : List Int} (hl : l.length = m.length) (h : ∀ k, k < l.length → nth l k = nth m k) : l = m := by
  refine List.ext_getElem hl fun k h1 h2 => ?_
  have := h k h1
  simpa [nth, List.getD, h1, h2] using this
/-- A machine agrees with a neighbour, or is at an end. -/
def firmAt (l : List Int) (k : Nat) : Bool := decide (k = 0 ∨ k = l.length - 1 ∨ nth l (k - 1) = nth l k ∨ nth l (k + 1) = nth l k)
theorem firm_iff {l : List Int} {k : Nat} : firmAt l k = true ↔ (k = 0 ∨ k = l.length - 1 ∨ nth l (k - 1) = nth l k ∨ nth l (k + 1) = nth l k) := by simp [firmAt]
theorem vote_firm {l : List Int} (hb : bitsL l) {k : Nat} (hk : k < l.length) : (voteAt l k = nth l k) ↔ firmAt l k = true := by
  rw [firm_iff]
  have h1 := bits_nth hb k
  have h2 := bits_nth hb (k - 1)
  unfold voteAt
  by_cases h0 : k = 0
  · subst h0
    have h3 := bits_nth hb (min (0 + 1) (l.length - 1))
    simp only [Nat.zero_sub] at *
    constructor
    · intro _; exact .inl trivial
    · intro _; omega
  · by_cases hl : k = l.length - 1
    · rw [show min (k + 1) (l.length - 1) = k by omega]
      constructor
      · intro _; exact .inr (.inl hl)
      · intro _; omega
    · rw [show min (k + 1) (l.length - 1) = k + 1 by omega]
      have h3 := bits_nth hb (k + 1)
      omega
theorem firm_stays {l : List Int} (hb : bitsL l) {k : Nat} (hk : k < l.length) (hf : firmAt l k = true) : firmAt (voteL l) k = true := by
  have hv := (vote_firm hb hk).2 hf
  rw [firm_iff] at hf ⊢
  rw [voteL_len]
  by_cases h0 : k = 0
  · exact .inl h0
  by_cases hl : k = l.length - 1
  · exact .inr (.inl hl)
  rcases hf with h | h | h | h
  · exact .inl h
  · exact .inr (.inl h)
  · right; right; left
    have hp : firmAt l (k - 1) = true := by
      rw [firm_iff]; right; right; right
      rw [show k - 1 + 1 = k by omega]; exact h.symm
    have hvp := (vote_firm hb (show k - 1 < l.length by omega)).2 hp
    rw [nth_vote hk, nth_vote (by omega), hv, hvp]; exact h
  · right; right; right
    have hp : firmAt l (k + 1) = true := by
      rw [firm_iff]; right; right; left
      rw [Nat.add_sub_cancel]; exact h.symm
    have hvp := (vote_firm hb (show k + 1 < l.length by omega)).2 hp
    rw [nth_vote hk, nth_vote (by omega), hv, hvp]; exact h
theorem vote_next {l : List Int} (hb : bitsL l) {k : Nat} (hk : k + 1 < l.length) (hf : firmAt l k = true) : firmAt (voteL l) (k + 1) = true := by
  by_cases hg : firmAt l (k + 1) = true
  · exact firm_stays hb hk hg
  · have hv := (vote_firm hb (show k < l.length by omega)).2 hf
    have hw : ¬ voteAt l (k + 1) = nth l (k + 1) := fun h => hg ((vote_firm hb hk).1 h)
    have hbv := bits_nth (vote_bits hb) (k + 1)
    rw [nth_vote hk] at hbv
    have b1 := bits_nth hb (k + 1)
    have b2 := bits_nth hb k
    have hne : ¬ nth l k = nth l (k + 1) := fun h => hg (by rw [firm_iff]; right; right; left; rw [Nat.add_sub_cancel]; exact h)
    rw [firm_iff]; right; right; left
    rw [Nat.add_sub_cancel, nth_vote hk, nth_vote (by omega), hv]
    omega
theorem vote_prev {l : List Int} (hb : bitsL l) {k : Nat} (hk : k + 1 < l.length) (hf : firmAt l (k + 1) = true) : firmAt (voteL l) k = true := by
  by_cases hg : firmAt l k = true
  · exact firm_stays hb (by omega) hg
  · have hv := (vote_firm hb hk).2 hf
    have hw : ¬ voteAt l k = nth l k := fun h => hg ((vote_firm hb (by omega)).1 h)
    have hbv := bits_nth (vote_bits hb) k
    rw [nth_vote (by omega)] at hbv
    have b1 := bits_nth hb (k + 1)
    have b2 := bits_nth hb k
    have hne : ¬ nth l (k + 1) = nth l k := fun h => hg (by rw [firm_iff]; right; right; right; exact h)
    rw [firm_iff]; right; right; right
    rw [nth_vote hk, nth_vote (by omega), hv]
    omega
theorem vote_same {l : List Int} (hb : bitsL l) : voteL l = l ↔ ∀ k, k < l.length → firmAt l k = true := by
  constructor
  · intro h k hk
    refine (vote_firm hb hk).1 ?_
    rw [← nth_vote hk, h]
  · intro h
    refine list_ext7 (voteL_len l) fun k hk => ?_
    rw [voteL_len] at hk
    rw [nth_vote hk]
    exact (vote_firm hb hk).2 (h k hk)
def voteN : Nat → List Int → List Int
  | 0, l => l
  | s + 1, l => voteN s (voteL l)
theorem voteN_succ : ∀ (s : Nat) (l : List Int), voteN (s + 1) l = voteL (voteN s l)
  | 0, _ => rfl
  | s + 1, l => by rw [voteN, voteN_succ s (voteL l)]; rfl
theorem voteN_len : ∀ (s : Nat) (l : List Int), (voteN s l).length = l.length
  | 0, _ => rfl
  | s + 1, l => by rw [voteN, voteN_len s, voteL_len]
theorem voteN_bits {l : List Int} (h : bitsL l) (s : Nat) : bitsL (voteN s l) := by
  induction s with
  | zero => exact h
  | succ s ih => rw [voteN_succ]; exact vote_bits ih
theorem voteN_firm {l : List Int} (hb : bitsL l) (s : Nat) : ∀ k, k < l.length → (k ≤ s ∨ l.length - 1 - s ≤ k) → firmAt (voteN s l) k = true := by
  induction s with
  | zero =>
    intro k hk h
    rw [firm_iff, voteN]
    rcases h with h | h
    · exact .inl (by omega)
    · exact .inr (.inl (by omega))
  | succ s ih =>
    intro k hk h
    rw [voteN_succ]
    have hb' := voteN_bits hb s
    have hl := voteN_len s l
    by_cases h1 : k ≤ s ∨ l.length - 1 - s ≤ k
    · exact firm_stays hb' (by rw [hl]; exact hk) (ih k hk h1)
    · rcases h with h | h
      · have e : k = s + 1 := by omega
        subst e
        exact vote_next hb' (by rw [hl]; omega) (ih s (by omega) (.inl (by omega)))
      · exact vote_prev hb' (by rw [hl]; omega) (ih (k + 1) (by omega) (.inr (by omega)))
/-- After half as many steps as machines nothing changes any more. -/
theorem voteN_still {l : List Int} (hb : bitsL l) {s : Nat} (h : l.length ≤ 2 * s + 2) : voteL (voteN s l) = voteN s l := by
  rw [vote_same (voteN_bits hb s)]
  intro k hk
  rw [voteN_len] at hk
  exact voteN_firm hb s k hk (by omega)
def oppL (l : List Int) : List Int := l.map fun x => 1 - x
theorem nth_opp {l : List Int} {k : Nat} (h : k < l.length) : nth (oppL l) k = 1 - nth l k := by simp [nth, oppL, List.getD, h]
/-- The least number of steps after which nothing changes. -/
def settled (l : List Int) (s : Nat) : Prop := voteL (voteN s l) = voteN s l ∧ ∀ j, j < s → voteL (voteN j l) ≠ voteN j l
def settleL (l : List Int) : Nat := ((List.range 64).find? fun s => decide (voteL (voteN s l) = voteN s l)).getD 0
theorem settle_eq {l : List Int} {s : Nat} (h : settled l s) (hs : s < 64) : settleL l = s := by
  have : (List.range 64).find? (fun s => decide (voteL (voteN s l) = voteN s l)) = some s := by
    rw [List.find?_range_eq_some]
    exact ⟨by simpa using h.1, by simpa using hs, fun j hj => by simpa using h.2 j hj⟩
  unfold settleL
  rw [this]
  rfl
end Go.Proofs.YtkejcajboneniabGreatDoor
namespace Go.Proofs.YtkejcajboneniabGreatDoor
open Go.RowKit

def bitsOk (l : List Int) : Bool := allIn l 0 1 && within l.length 1 16
theorem bitsOk_iff {l : List Int} : bitsOk l = true ↔ (∀ x ∈ l, x = 0 ∨ x = 1) ∧ 1 ≤ l.length ∧ l.length ≤ 16 := by
  simp only [bitsOk, allIn, within, Bool.and_eq_true, List.all_eq_true, decide_eq_true_eq]
  constructor
  · rintro ⟨h1, h2⟩
    exact ⟨fun x hx => by have := h1 x hx; omega, by omega⟩
  · rintro ⟨h1, h2⟩
    exact ⟨fun x hx => by have := h1 x hx; omega, by omega⟩
theorem bit_nth {l : List Int} (h : ∀ x ∈ l, x = 0 ∨ x = 1) (k : Nat) : nth l k = 0 ∨ nth l k = 1 := by
  by_cases hk : k < l.length
  · rw [nth_lt hk]; exact h _ (List.getElem_mem hk)
  · rw [nth_ge (by omega)]; exact .inl rfl

/-- How many are 1. -/
def ones (l : List Int) : Nat := l.countP fun x => x == 1
theorem ones_le (l : List Int) : ones l ≤ l.length := List.countP_le_length
theorem ones_take {l : List Int} {k : Nat} (h : k < l.length) : ones (l.take (k + 1)) = ones (l.take k) + (if nth l k = 1 then 1 else 0) := by
  unfold ones
  rw [take_nth h, List.countP_append]
  by_cases hx : nth l k = 1
  · simp [hx]
  · simp [hx]

/-- Each place of a ring from that on its left, itself, and that on its right. -/
def ringL (f : Int → Int → Int → Int) (l : List Int) : List Int :=
  (List.range l.length).map fun k => f (nth l ((k + l.length - 1) % l.length)) (nth l k) (nth l ((k + 1) % l.length))
theorem ringL_len (f : Int → Int → Int → Int) (l : List Int) : (ringL f l).length = l.length := by simp [ringL]
theorem nth_ringL {f : Int → Int → Int → Int} {l : List Int} {k : Nat} (h : k < l.length) :
    nth (ringL f l) k = f (nth l ((k + l.length - 1) % l.length)) (nth l k) (nth l ((k + 1) % l.length)) := by simp [nth, ringL, List.getD, h]
theorem list_ext {a b : List Int} (hl : a.length = b.length) (h : ∀ k, k < a.length → nth a k = nth b k) : a = b := by
  apply List.ext_getElem hl
  intro k h1 h2
  have := h k h1
  rwa [nth_lt h1, nth_lt h2] at this

/-- A ring as a number: bit k is place k. -/
def code : List Int → Nat
  | [] => 0
  | x :: t => (if x = 1 then 1 else 0) + 2 * code t
theorem code_lt : ∀ l : List Int, code l < 2 ^ l.length
  | [] => by simp [code]
  | x :: t => by
    have h := code_lt t
    simp only [code, List.length_cons, Nat.pow_succ]
    split <;> omega
theorem code_bit : ∀ (l : List Int) (k : Nat), (code l).testBit k = decide (nth l k = 1)
  | [], k => by simp [code, nth]
  | x :: t, 0 => by
    simp only [code, Nat.testBit_zero, nth, List.getD, List.getElem?_cons_zero, Option.getD_some]
    split
    · simp_all
    · simp_all
  | x :: t, k + 1 => by
    have h := code_bit t k
    have e : ((if x = 1 then 1 else 0) + 2 * code t) / 2 = code t := by split <;> omega
    simp only [code, Nat.testBit_succ, e, h]
    simp [nth]
/-- Ones of a number, up to so many bits. -/
def pop : Nat → Nat → Nat
  | 0, _ => 0
  | f + 1, x => Nat.land x 1 + pop f (Nat.shiftRight x 1)
theorem pop_zero : ∀ n, pop n 0 = 0
  | 0 => rfl
  | n + 1 => by
    have h : Nat.shiftRight 0 1 = 0 := rfl
    rw [pop, h, pop_zero n]; rfl
theorem pop_split : ∀ (a b x : Nat), pop (a + b) x = pop a x + pop b (x >>> a)
  | 0, b, x => by simp [pop]
  | a + 1, b, x => by
    rw [show a + 1 + b = a + b + 1 by omega, pop, pop, pop_split a b]
    have : Nat.shiftRight x 1 >>> a = x >>> (a + 1) := by
      show x >>> 1 >>> a = _
      rw [← Nat.shiftRight_add, Nat.add_comm]
    rw [this]; omega
theorem pop_mod : ∀ (a x : Nat), pop a x = pop a (x % 2 ^ a)
  | 0, _ => rfl
  | a + 1, x => by
    have e1 : Nat.land (x % 2 ^ (a + 1)) 1 = Nat.land x 1 := by
      show x % 2 ^ (a + 1) &&& 1 = x &&& 1
      rw [Nat.and_one_is_mod, Nat.and_one_is_mod, Nat.pow_succ, Nat.mul_comm]
      exact Nat.mod_mul_right_mod x 2 (2 ^ a)
    have e2 : Nat.shiftRight (x % 2 ^ (a + 1)) 1 = Nat.shiftRight x 1 % 2 ^ a := by
      show (x % 2 ^ (a + 1)) >>> 1 = x >>> 1 % 2 ^ a
      rw [Nat.shiftRight_succ, Nat.shiftRight_zero, Nat.shiftRight_succ, Nat.shiftRight_zero, Nat.pow_succ, Nat.mul_comm]
      exact Nat.mod_mul_right_div_self x 2 (2 ^ a)
    rw [pop, pop, e1, e2, ← pop_mod a]
/-- Ones of four bits, from a table. -/
def nib (x : Nat) : Nat := Nat.land (Nat.shiftRight 0x4332322132212110 (Nat.mul 4 (Nat.land x 15))) 15
theorem nib_pop (x : Nat) : nib x = pop 4 x := by
  have h : ∀ y, y < 16 → nib y = pop 4 y := by decide
  have e : Nat.land x 15 = x % 16 := Nat.and_two_pow_sub_one_eq_mod x 4
  have e' : Nat.land (x % 16) 15 = x % 16 := (Nat.and_two_pow_sub_one_eq_mod (x % 16) 4).trans (Nat.mod_mod _ _)
  have h1 : nib x = nib (x % 16) := by unfold nib; rw [e, e']
  rw [h1, h _ (Nat.mod_lt _ (by omega)), pop_mod 4 x]
def pop16 (x : Nat) : Nat := nib x + (nib (Nat.shiftRight x 4) + (nib (Nat.shiftRight x 8) + nib (Nat.shiftRight x 12)))
theorem pop16_pop {n x : Nat} (hn : n ≤ 16) (hx : x < 2 ^ n) : pop16 x = pop n x := by
  have h1 : pop 16 x = pop16 x := by
    unfold pop16
    rw [nib_pop, nib_pop, nib_pop, nib_pop, show (16 : Nat) = 4 + (4 + (4 + 4)) from rfl, pop_split, pop_split, pop_split]
    have s1 : x >>> 4 >>> 4 = Nat.shiftRight x 8 := by rw [← Nat.shiftRight_add]; rfl
    have s2 : x >>> 4 >>> 4 >>> 4 = Nat.shiftRight x 12 := by rw [← Nat.shiftRight_add, ← Nat.shiftRight_add]; rfl
    rw [s2, s1]; rfl
  have h2 : pop 16 x = pop n x := by
    rw [show (16 : Nat) = n + (16 - n) by omega, pop_split, Nat.shiftRight_eq_zero x n hx, pop_zero, Nat.add_zero]
  rw [← h1, h2]
theorem code_pop : ∀ l : List Int, pop l.length (code l) = ones l
  | [] => rfl
  | x :: t => by
    have h := code_pop t
    have e1 : Nat.land ((if x = 1 then 1 else 0) + 2 * code t) 1 = if x = 1 then 1 else 0 := by
      show ((if x = 1 then 1 else 0) + 2 * code t) &&& 1 = _
      rw [Nat.and_one_is_mod]; split <;> omega
    have e2 : Nat.shiftRight ((if x = 1 then 1 else 0) + 2 * code t) 1 = code t := by
      show ((if x = 1 then 1 else 0) + 2 * code t) >>> 1 = _
      rw [Nat.shiftRight_succ, Nat.shiftRight_zero]; split <;> omega
    simp only [List.length_cons, pop, code, e1, e2, h, ones, List.countP_cons]
    by_cases hx : x = 1
    · simp [hx]; omega
    · simp [hx]

/-- Sums of integers. -/
def sumR (f : Nat → Int) : Nat → Int
  | 0 => 0
  | k + 1 => sumR f k + f k
theorem sumR_congr {f g : Nat → Int} : ∀ {n : Nat}, (∀ k, k < n → f k = g k) → sumR f n = sumR g n
  | 0, _ => rfl
  | n + 1, h => by simp only [sumR]; rw [sumR_congr (n := n) fun k hk => h k (by omega), h n (by omega)]
theorem sumR_le {f g : Nat → Int} : ∀ {n : Nat}, (∀ k, k < n → f k ≤ g k) → sumR f n ≤ sumR g n
  | 0, _ => Int.le_refl _
  | n + 1, h => by
    simp only [sumR]
    have h1 := sumR_le (n := n) fun k hk => h k (by omega)
    have h2 := h n (by omega)
    omega
theorem sumR_add (f g : Nat → Int) : ∀ n, sumR (fun k => f k + g k) n = sumR f n + sumR g n
  | 0 => rfl
  | n + 1 => by simp only [sumR]; rw [sumR_add f g n]; omega
theorem sumR_sub (f g : Nat → Int) : ∀ n, sumR (fun k => f k - g k) n = sumR f n - sumR g n
  | 0 => rfl
  | n + 1 => by simp only [sumR]; rw [sumR_sub f g n]; omega
theorem sumR_one (n : Nat) : sumR (fun _ => 1) n = n := by
  induction n with
  | zero => rfl
  | succ n ih => simp only [sumR]; rw [ih]; omega
theorem sumR_first (f : Nat → Int) : ∀ n, sumR f (n + 1) = f 0 + sumR (fun k => f (k + 1)) n
  | 0 => by simp [sumR]
  | n + 1 => by rw [sumR, sumR_first f n, sumR]; omega
/-- All round the ring from the next place on it is the same sum. -/
theorem sumR_next (f : Nat → Int) (n : Nat) : sumR (fun k => f ((k + 1) % n)) n = sumR f n := by
  cases n with
  | zero => rfl
  | succ n =>
    rw [sumR_first f n, sumR, Nat.mod_self, sumR_congr (g := fun k => f (k + 1)) fun k hk => by rw [Nat.mod_eq_of_lt (by omega)]]
    omega
theorem sumR_prev (f : Nat → Int) (n : Nat) : sumR (fun k => f ((k + n - 1) % n)) n = sumR f n := by
  rw [← sumR_next (fun k => f ((k + n - 1) % n)) n]
  refine sumR_congr fun k hk => ?_
  congr 1
  by_cases h : k + 1 = n
  · rw [h, Nat.mod_self, Nat.mod_eq_of_lt (by omega)]; omega
  · rw [Nat.mod_eq_of_lt (show k + 1 < n by omega), show k + 1 + n - 1 = k + n by omega, Nat.add_mod_right, Nat.mod_eq_of_lt hk]
theorem ones_sum {l : List Int} (hl : ∀ x ∈ l, x = 0 ∨ x = 1) : (ones l : Int) = sumR (nth l) l.length := by
  have h : ∀ k, k ≤ l.length → (ones (l.take k) : Int) = sumR (nth l) k := by
    intro k
    induction k with
    | zero => intro _; simp [ones, sumR]
    | succ k ih =>
      intro hk
      rw [ones_take (by omega), sumR, ← ih (by omega)]
      rcases bit_nth hl k with h | h <;> simp [h]
  have h2 := h l.length (Nat.le_refl _)
  rwa [List.take_length] at h2

/-- All numbers of so many bits. -/
def all2 : Nat → (Nat → Bool) → Nat → Bool
  | 0, p, x => p x
  | k + 1, p, x => all2 k p (2 * x) && all2 k p (2 * x + 1)
theorem all2_at {p : Nat → Bool} : ∀ (k x y : Nat), all2 k p x = true → 2 ^ k * x ≤ y → y < 2 ^ k * (x + 1) → p y = true
  | 0, x, y, h, h1, h2 => by
    simp at h1 h2
    obtain rfl : y = x := by omega
    exact h
  | k + 1, x, y, h, h1, h2 => by
    simp only [all2, Bool.and_eq_true] at h
    rw [Nat.pow_succ] at h1 h2
    have e1 : 2 ^ k * (2 * x) = 2 ^ k * 2 * x := by rw [Nat.mul_assoc]
    have e2 : 2 ^ k * (2 * x + 1) = 2 ^ k * 2 * x + 2 ^ k := by rw [Nat.mul_add, e1, Nat.mul_one]
    have e3 : 2 ^ k * (2 * x + 1 + 1) = 2 ^ k * 2 * (x + 1) := by rw [Nat.mul_assoc]; congr 1
    by_cases hy : y < 2 ^ k * 2 * x + 2 ^ k
    · exact all2_at k (2 * x) y h.1 (by omega) (by omega)
    · exact all2_at k (2 * x + 1) y h.2 (by omega) (by omega)
theorem all2_lt {p : Nat → Bool} {k y : Nat} (h : all2 k p 0 = true) (hy : y < 2 ^ k) : p y = true := all2_at k 0 y h (by simp) (by simpa using hy)

def msk (n : Nat) : Nat := 2 ^ n - 1
/-- Place k becomes what k + 1 was. -/
def rotR (n x : Nat) : Nat := Nat.lor (Nat.shiftRight x 1) (Nat.shiftLeft (Nat.land x 1) (n - 1))
/-- Place k becomes what k - 1 was. -/
def rotL (n x : Nat) : Nat := Nat.land (Nat.lor (Nat.shiftLeft x 1) (Nat.shiftRight x (n - 1))) (msk n)
theorem bit_out {n x k : Nat} (h : x < 2 ^ n) (hk : n ≤ k) : x.testBit k = false := Nat.testBit_lt_two_pow (Nat.lt_of_lt_of_le h (Nat.pow_le_pow_right (by omega) hk))
theorem one_bit (j : Nat) : Nat.testBit 1 j = decide (j = 0) := by
  have h := Nat.testBit_two_pow (n := 0) (m := j)
  rw [Nat.pow_zero] at h
  rw [h]
  by_cases hj : j = 0 <;> simp [hj, eq_comm]
theorem rotR_bit {n x : Nat} (hn : 1 ≤ n) (hx : x < 2 ^ n) (k : Nat) : (rotR n x).testBit k = (decide (k < n) && x.testBit ((k + 1) % n)) := by
  show (x >>> 1 ||| (x &&& 1) <<< (n - 1)).testBit k = _
  rw [Nat.testBit_or, Nat.testBit_shiftRight, Nat.testBit_shiftLeft, Nat.testBit_and, one_bit]
  by_cases h1 : k + 1 < n
  · rw [Nat.mod_eq_of_lt h1]
    simp [show ¬ n - 1 ≤ k by omega, show k < n by omega, Nat.add_comm]
  · by_cases h2 : k + 1 = n
    · rw [h2, Nat.mod_self, bit_out hx (by omega)]
      simp [show n - 1 = k by omega, show k < n by omega]
    · rw [bit_out hx (by omega)]
      simp [show n - 1 ≤ k by omega, show ¬ k < n by omega, show k - (n - 1) ≠ 0 by omega]
theorem rotL_bit {n x : Nat} (hn : 1 ≤ n) (hx : x < 2 ^ n) (k : Nat) : (rotL n x).testBit k = (decide (k < n) && x.testBit ((k + n - 1) % n)) := by
  show ((x <<< 1 ||| x >>> (n - 1)) &&& (2 ^ n - 1)).testBit k = _
  rw [Nat.testBit_and, Nat.testBit_two_pow_sub_one, Nat.testBit_or, Nat.testBit_shiftRight, Nat.testBit_shiftLeft, Bool.and_comm]
  by_cases hk : k < n
  · simp only [hk, decide_true, Bool.true_and]
    by_cases h1 : 1 ≤ k
    · rw [show (k + n - 1) % n = k - 1 from by rw [show k + n - 1 = k - 1 + n by omega, Nat.add_mod_right, Nat.mod_eq_of_lt (by omega)], bit_out hx (show n ≤ n - 1 + k by omega)]
      simp [h1]
    · obtain rfl : k = 0 := by omega
      rw [show (0 + n - 1) % n = n - 1 from by rw [Nat.mod_eq_of_lt (by omega)]; omega]
      simp
  · simp [hk]
theorem msk_bit (n k : Nat) : (msk n).testBit k = decide (k < n) := Nat.testBit_two_pow_sub_one ..
end Go.Proofs.YtkejcajboneniabGreatDoor
namespace Go.Proofs.YtkejcajboneniabGreatDoor
open Go.RowKit

def sumF (a _x b : Int) : Int := (a + b) % 2
/-- A ring after a step. -/
def sumL (l : List Int) : List Int := ringL sumF l
/-- Each machine the sum of those so many places away. -/
def farL (a : Nat) (l : List Int) : List Int := (List.range l.length).map fun k => (nth l ((k + a) % l.length) + nth l ((k + l.length - a % l.length) % l.length)) % 2
def sumI : Nat → List Int → List Int
  | 0, l => l
  | k + 1, l => sumL (sumI k l)
theorem sumL_len (l : List Int) : (sumL l).length = l.length := ringL_len _ l
theorem farL_len (a : Nat) (l : List Int) : (farL a l).length = l.length := by simp [farL]
theorem sumI_len : ∀ (k : Nat) (l : List Int), (sumI k l).length = l.length
  | 0, _ => rfl
  | k + 1, l => by rw [sumI, sumL_len, sumI_len k l]
theorem sumI_add (a : Nat) : ∀ (b : Nat) (l : List Int), sumI (b + a) l = sumI b (sumI a l)
  | 0, l => by rw [Nat.zero_add, sumI]
  | b + 1, l => by rw [show b + 1 + a = (b + a) + 1 from by omega, sumI, sumI_add a b l, sumI]
theorem nmod {u v n : Nat} (c : Int) (h : (u : Int) - v = n * c) : u % n = v % n := by
  have : (u : Int) % n = (v : Int) % n := by
    rw [Int.emod_eq_emod_iff_emod_sub_eq_zero, h, Int.mul_emod_right]
  exact_mod_cast this
theorem idx_back {k n a : Nat} (h : k < n) : (k + n - a % n) % n = (k + a * (n - 1)) % n := by
  obtain ⟨m, rfl⟩ : ∃ m, n = m + 1 := ⟨n - 1, by omega⟩
  have h1 := Nat.div_add_mod a (m + 1)
  have h2 := Nat.mod_lt a (show m + 1 > 0 by omega)
  obtain ⟨q, hq⟩ : ∃ q, a / (m + 1) = q := ⟨_, rfl⟩
  obtain ⟨r, hr⟩ : ∃ r, a % (m + 1) = r := ⟨_, rfl⟩
  rw [hr] at h2 ⊢
  rw [hq, hr] at h1
  refine nmod (1 + q - a) ?_
  have e : ((k + (m + 1) - r : Nat) : Int) = k + m + 1 - r := by omega
  rw [e]
  simp only [Nat.add_sub_cancel]
  push_cast
  grind
/-- A ring's machine at any number. -/
def rg (l : List Int) (i : Nat) : Int := nth l (i % l.length)
theorem rg_lt {l : List Int} {k : Nat} (h : k < l.length) : rg l k = nth l k := by unfold rg; rw [Nat.mod_eq_of_lt h]
theorem rg_eq {l : List Int} {i j : Nat} (c : Int) (h : (i : Int) - j = l.length * c) : rg l i = rg l j := by unfold rg; rw [nmod c h]
theorem rg_mod_add (l : List Int) (i j : Nat) : rg l (i % l.length + j) = rg l (i + j) := by unfold rg; rw [Nat.mod_add_mod]
theorem nth_far {l : List Int} {a k : Nat} (h : k < l.length) : nth (farL a l) k = (rg l (k + a) + rg l (k + a * (l.length - 1))) % 2 := by
  have e : nth (farL a l) k = (nth l ((k + a) % l.length) + nth l ((k + l.length - a % l.length) % l.length)) % 2 := by simp [nth, farL, List.getD, h]
  rw [e, idx_back h]
  rfl
theorem rg_far {l : List Int} (h0 : 0 < l.length) (a i : Nat) : rg (farL a l) i = (rg l (i + a) + rg l (i + a * (l.length - 1))) % 2 := by
  rw [show rg (farL a l) i = nth (farL a l) (i % l.length) from by unfold rg; rw [farL_len], nth_far (Nat.mod_lt _ h0), rg_mod_add, rg_mod_add]
theorem rg_ext {a b : List Int} (hl : a.length = b.length) (h : ∀ i, i < a.length → rg a i = rg b i) : a = b :=
  list_ext hl fun k hk => by rw [← rg_lt hk, ← rg_lt (by rw [← hl]; exact hk)]; exact h k hk
theorem far_twice {l : List Int} (h0 : 0 < l.length) (a : Nat) : farL a (farL a l) = farL (2 * a) l := by
  refine rg_ext (by simp only [farL_len]) fun i hi => ?_
  rw [rg_far (by rw [farL_len]; exact h0), farL_len, rg_far h0, rg_far h0, rg_far h0]
  obtain ⟨m, hm⟩ : ∃ m, l.length = m + 1 := ⟨l.length - 1, by omega⟩
  have e1 : rg l (i + a + a * (l.length - 1)) = rg l i := rg_eq a (by rw [hm]; simp only [Nat.add_sub_cancel]; push_cast; grind)
  have e2 : rg l (i + a * (l.length - 1) + a) = rg l i := rg_eq a (by rw [hm]; simp only [Nat.add_sub_cancel]; push_cast; grind)
  rw [e1, e2, show i + a + a = i + 2 * a from by omega, show i + a * (l.length - 1) + a * (l.length - 1) = i + 2 * a * (l.length - 1) from by rw [Nat.mul_assoc, Nat.two_mul]; omega]
  omega
theorem far_one {l : List Int} (h0 : 0 < l.length) : farL 1 l = sumL l := by
  refine list_ext (by rw [farL_len, sumL_len]) fun k hk => ?_
  rw [farL_len] at hk
  rw [nth_far hk, show nth (sumL l) k = sumF (nth l ((k + l.length - 1) % l.length)) (nth l k) (nth l ((k + 1) % l.length)) from nth_ringL hk]
  unfold sumF
  have e : rg l (k + 1 * (l.length - 1)) = nth l ((k + l.length - 1) % l.length) := by
    unfold rg
    rw [show k + 1 * (l.length - 1) = k + l.length - 1 from by omega]
  rw [e, Int.add_comm]
  rfl
theorem far_pow : ∀ (j : Nat) {l : List Int}, 0 < l.length → farL (2 ^ j) l = sumI (2 ^ j) l
  | 0, l, h0 => by rw [Nat.pow_zero, far_one h0]; rfl
  | j + 1, l, h0 => by
    rw [show 2 ^ (j + 1) = 2 * 2 ^ j from by rw [Nat.pow_succ]; omega, ← far_twice h0, far_pow j (by rw [farL_len]; exact h0), far_pow j h0, ← sumI_add]
    congr 1
    omega
theorem sumL_bits {l : List Int} : ∀ x ∈ sumL l, x = 0 ∨ x = 1 := by
  intro x hx
  simp only [sumL, ringL, List.mem_map] at hx
  obtain ⟨k, _, rfl⟩ := hx
  unfold sumF
  omega
theorem sumL_ok {l : List Int} (h : bitsOk l = true) : bitsOk (sumL l) = true := by
  rw [bitsOk_iff] at h ⊢
  exact ⟨sumL_bits, by rw [sumL_len]; exact h.2⟩
theorem sumI_ok {l : List Int} (h : bitsOk l = true) : ∀ k, bitsOk (sumI k l) = true
  | 0 => h
  | k + 1 => sumL_ok (sumI_ok h k)

/-- The model's walk by halves: after so many of them. -/
theorem half_step {S j : Nat} (h : S / 2 ^ j % 2 = 1) {l : List Int} (h0 : 0 < l.length) : farL (2 ^ j) (sumI (S % 2 ^ j) l) = sumI (S % 2 ^ (j + 1)) l := by
  rw [far_pow j (by rw [sumI_len]; exact h0), ← sumI_add]
  congr 1
  rw [Nat.pow_succ, Nat.mod_mul, h]
  omega
theorem half_keep {S j : Nat} (h : S / 2 ^ j % 2 = 0) : S % 2 ^ (j + 1) = S % 2 ^ j := by
  rw [Nat.pow_succ, Nat.mod_mul, h]
  omega

end Go.Proofs.YtkejcajboneniabGreatDoor
namespace Go.Proofs.YtkejcajboneniabGreatDoor
open Go.RowKit

/-- Block g is a reader: a slice of at most 2000 bytes that lies below it, and a place of at most P. -/
def Rd (w : World) (g : Nat) (P : Nat) : Prop :=
  ∃ (A : Option Addr) (n c p : Nat), w.heap[g]? = some (.cells #[.slice A n c, .int .i64 p] 105 (0, 0)) ∧ By w g A n ∧ n ≤ 2000 ∧ p ≤ P

theorem Rd.lt {w : World} {g P : Nat} (h : Rd w g P) : g < w.heap.size := by
  obtain ⟨A, n, c, p, h, _⟩ := h
  rcases Nat.lt_or_ge g w.heap.size with hlt | hge
  · exact hlt
  · rw [Array.getElem?_eq_none hge] at h; cases h
theorem Rd.more {w : World} {g P P' : Nat} (h : Rd w g P) (hp : P ≤ P') : Rd w g P' := by
  obtain ⟨A, n, c, p, h1, h2, h3, h4⟩ := h
  exact ⟨A, n, c, p, h1, h2, h3, by omega⟩
theorem Rd.keep {w w' : World} {g P : Nat} (h : Rd w g P) (hk : ∀ k, k ≤ g → w'.heap[k]? = w.heap[k]?) : Rd w' g P := by
  obtain ⟨A, n, c, p, h1, h2, h3, h4⟩ := h
  exact ⟨A, n, c, p, (hk g (Nat.le_refl _)).trans h1, h2.keep (Nat.le_refl _) (fun q hq => World.cell?_of_block (hk q.block (by omega))), h3, h4⟩
/-- The reader stays where only newer blocks, and those at most, have changed. -/
theorem Rd.below {w w' : World} {g P B : Nat} (h : Rd w g P) (hb : Below B w w') (hg : g < B) : Rd w' g P := h.keep fun k hk => hb.block k (by omega)
theorem Rd.grown {w w' : World} {g P : Nat} {row : Option Nat} (h : Rd w g P) (hb : w.grownBy w' row) (hr : ∀ k, row = some k → g < k) : Rd w' g P :=
  h.keep fun k hk => hb.block k (by have := h.lt; omega) (fun e => by have := hr k e.symm; omega)

set_option maxHeartbeats 800000 in
theorem open_any (A : Option Addr) (n c : Nat) (w : World) (hs : By w w.heap.size A n) (hc : n ≤ c) :
    Calls Tryz.prog 39 #[.slice A n c] w fun e w' => ∃ g, e = .returned (.pointer (some ⟨g, 0, none⟩)) ∧ Rd w' g 0 ∧ w.heap.size ≤ g ∧ Below w.heap.size w w' := by
  have hm : n ≤ 9223372036854775807 := hs.1
  by_cases hbig : 2000 < n
  · go_enter Tryz.func39, Tryz.ntmps39
    go_wp2
    go_ret
    refine ⟨_, rfl, ⟨A, 2000, c, 0, heap_alloc_new w _, ⟨by simp [maxLen], fun hn => ?_⟩, by omega, Nat.le_refl _⟩, Nat.le_refl _, (Below.refl _ _).alloc (Nat.le_refl _) _⟩
    obtain ⟨b, off, e, hb, hcell⟩ := hs.2 (by omega)
    refine ⟨b, off, e, hb, fun j hj => ?_⟩
    obtain ⟨x, h1, h2, h3⟩ := hcell j (by omega)
    exact ⟨x, h1, h2, (World.cell?_alloc_lt w _ _ hb).trans h3⟩
  · go_enter Tryz.func39, Tryz.ntmps39
    go_wp2
    go_ret
    refine ⟨_, rfl, ⟨A, n, c, 0, heap_alloc_new w _, hs.keep (Nat.le_refl _) (fun q hq => World.cell?_alloc_lt w _ q hq), by omega, Nat.le_refl _⟩, Nat.le_refl _, (Below.refl _ _).alloc (Nat.le_refl _) _⟩

theorem ofInt_nn (a : Nat) (ha : a < 9223372036854775808) : (BitVec.ofInt 64 (a : Int)).toNat = a := by
  rw [BitVec.ofInt_natCast, BitVec.toNat_ofNat]; exact Nat.mod_eq_of_lt (by omega)
theorem xor_nn {a b : Int} (ha : 0 ≤ a) (ha' : a < 9223372036854775808) (hb : 0 ≤ b) (hb' : b < 9223372036854775808) : 0 ≤ bits .xor .i64 a b := by
  obtain ⟨a, rfl⟩ := Int.eq_ofNat_of_zero_le ha
  obtain ⟨b, rfl⟩ := Int.eq_ofNat_of_zero_le hb
  have hx : a ^^^ b < 2 ^ 63 := Nat.xor_lt_two_pow (by omega) (by omega)
  show 0 ≤ IntKind.i64.wrap ((BitVec.ofInt 64 (a : Int) ^^^ BitVec.ofInt 64 (b : Int)).toNat : Int)
  rw [BitVec.toNat_xor, ofInt_nn a (by omega), ofInt_nn b (by omega), IntKind.wrap_i64]
  omega
theorem grown_drewN {a w : World} {row : Option Nat} (h : a.grownBy w row) (n : Nat) : a.grownBy (w.drewN n) row := ⟨h.os, h.tape, h.output, h.size, h.block⟩

set_option maxHeartbeats 1600000 in
theorem pick_any (g P : Nat) (m : Int) (w : World) (hr : Rd w g P) (hP : P < 1000000) (hm : 1 ≤ m) (hm2 : m ≤ 1000000) :
    Calls Tryz.prog 42 #[.pointer (some ⟨g, 0, none⟩), .int .i64 m] w fun e w' => ∃ x : Int, e = .returned (.int .i64 x) ∧ 0 ≤ x ∧ x < m ∧ Rd w' g (P + 1) ∧ w.grownBy w' (some g) := by
  have hglt := hr.lt
  obtain ⟨A, n, c, p, hg, hb, hn, hp⟩ := hr
  have hc0 : w.cell? ⟨g, 0, none⟩ = some (.slice A n c) := cell_of_row w g 0 _ _ _ hg
  have hc1 : w.cell? ⟨g, 1, none⟩ = some (.int .i64 p) := cell_of_row w g 1 _ _ _ hg
  have hf1 : w.frozen? ⟨g, 1, none⟩ = false := frozen_of_row w g 1 _ _ hg
  have hg1 : (w.setCell ⟨g, 1, none⟩ (.int .i64 (p + 1))).heap[g]? = some (.cells #[.slice A n c, .int .i64 (p + 1)] 105 (0, 0)) := heap_setCell_same w g 1 _ _ _ hg
  have hgr : w.grownBy (w.setCell ⟨g, 1, none⟩ (.int .i64 (p + 1))) (some g) := ⟨rfl, rfl, rfl, by simp, fun k _ hk => heap_setCell_other w ⟨g, 1, none⟩ k _ (fun e => hk (by simp [e]))⟩
  have hrd : Rd (w.setCell ⟨g, 1, none⟩ (.int .i64 (p + 1))) g (P + 1) :=
    ⟨A, n, c, p + 1, hg1, hb.keep (Nat.le_refl _) (fun q hq => World.cell?_setCell_other w _ _ _ (fun e => by subst e; simp at hq)), hn, by omega⟩
  clear hg1 hg
  by_cases h0 : n = 0
  · subst h0
    have e1 : decide (m < 1) = false := by simp; omega
    go_enter Tryz.func42, Tryz.ntmps42
    go_wp2
    go_ret
    exact ⟨0, rfl, Int.le_refl _, by omega, hrd, hgr⟩
  · have e1 : decide (m < 1) = false := by simp; omega
    have e2 : ((n : Int) == 0) = false := by simp; omega
    obtain ⟨b, off, rfl, hbg, hcell⟩ := hb.2 (by omega)
    by_cases hlt : p < n
    · obtain ⟨x, hx0, hx1, hx2⟩ := hcell p hlt
      have hx3 : (w.setCell ⟨g, 1, none⟩ (.int .i64 (p + 1))).cell? ⟨b, off + p, none⟩ = some (.int .u8 x) := (World.cell?_setCell_other w _ _ _ (fun e => by injection e with e; omega)).trans hx2
      clear hcell
      go_enter Tryz.func42, Tryz.ntmps42
      go_wp2
      go_ret
      exact ⟨_, rfl, Int.emod_nonneg _ (by omega), Int.emod_lt_of_pos _ (by omega), hrd, hgr⟩
    · have hn1 : 1 ≤ n := by omega
      obtain ⟨i1, hi1⟩ : ∃ i1 : Nat, p % n = i1 := ⟨_, rfl⟩
      obtain ⟨i2, hi2⟩ : ∃ i2 : Nat, (p * 7 + 3) % n = i2 := ⟨_, rfl⟩
      obtain ⟨q, hq⟩ : ∃ q : Nat, p / n = q := ⟨_, rfl⟩
      have hb1 : i1 < n := by rw [← hi1]; exact Nat.mod_lt _ (by omega)
      have hb2 : i2 < n := by rw [← hi2]; exact Nat.mod_lt _ (by omega)
      have hb3 : q ≤ p := by rw [← hq]; exact Nat.div_le_self _ _
      obtain ⟨x, hx0, hx1, hx2⟩ := hcell _ hb1
      obtain ⟨y, hy0, hy1, hy2⟩ := hcell _ hb2
      have hx3 : (w.setCell ⟨g, 1, none⟩ (.int .i64 (p + 1))).cell? ⟨b, off + i1, none⟩ = some (.int .u8 x) := (World.cell?_setCell_other w _ _ _ (fun e => by injection e with e; omega)).trans hx2
      have hy3 : (w.setCell ⟨g, 1, none⟩ (.int .i64 (p + 1))).cell? ⟨b, off + i2, none⟩ = some (.int .u8 y) := (World.cell?_setCell_other w _ _ _ (fun e => by injection e with e; omega)).trans hy2
      have k1 : IntKind.i64.wrap (x * 131) = x * 131 := IntWalk.i64_in _ (by omega)
      have k2 : IntKind.i64.wrap (y * 1117) = y * 1117 := IntWalk.i64_in _ (by omega)
      have k3 : IntKind.i64.wrap (x * 131 + y * 1117) = x * 131 + y * 1117 := IntWalk.i64_in _ (by omega)
      have k4 : IntKind.i64.wrap ((p : Int) * 29) = (p : Int) * 29 := IntWalk.i64_in _ (by omega)
      have k5 : IntKind.i64.wrap (x * 131 + y * 1117 + (p : Int) * 29) = x * 131 + y * 1117 + (p : Int) * 29 := IntWalk.i64_in _ (by omega)
      have k6 : IntKind.i64.wrap ((q : Int) * 53) = (q : Int) * 53 := IntWalk.i64_in _ (by omega)
      have k7 : IntKind.i64.wrap (x * 131 + y * 1117 + (p : Int) * 29 + (q : Int) * 53) = x * 131 + y * 1117 + (p : Int) * 29 + (q : Int) * 53 := IntWalk.i64_in _ (by omega)
      have k8 : IntKind.i64.wrap ((p : Int) * 7) = (p : Int) * 7 := IntWalk.i64_in _ (by omega)
      have k9 : IntKind.i64.wrap ((p : Int) * 7 + 3) = (p : Int) * 7 + 3 := IntWalk.i64_in _ (by omega)
      have k10 : IntKind.i64.wrap (x : Int) = x := IntWalk.i64_in _ (by omega)
      have k11 : IntKind.i64.wrap (y : Int) = y := IntWalk.i64_in _ (by omega)
      have k12 : IntKind.i64.wrap (q : Int) = q := IntWalk.i64_in _ (by omega)
      have m1 : ((p : Int).tmod (n : Int)) = (i1 : Int) := by rw [← hi1]; rfl
      have m2 : (((p : Int) * 7 + 3).tmod (n : Int)) = (i2 : Int) := by rw [← hi2]; rfl
      have m3 : ((p : Int).tdiv (n : Int)) = (q : Int) := by rw [← hq]; rfl
      have m4 : ((p : Int) % (n : Int)) = (i1 : Int) := by rw [← hi1]; rfl
      have m5 : (((p : Int) * 7 + 3) % (n : Int)) = (i2 : Int) := by rw [← hi2]; rfl
      have m6 : ((p : Int) / (n : Int)) = (q : Int) := by rw [← hq]; rfl
      have hb1' : (i1 : Int) < (n : Int) := by omega
      have hb2' : (i2 : Int) < (n : Int) := by omega
      clear hcell hx2 hy2 hi1 hi2 hq
      go_enter Tryz.func42, Tryz.ntmps42
      go_wp2
      go_quiet (fail)
      clear k1 k2 k3 k4 k5 k6 k7 k8 k9 k10 k11 k12 m1 m2 m3 m4 m5 m6
      obtain ⟨X, hX⟩ : ∃ X : Int, x * 131 + y * 1117 + (p : Int) * 29 + (q : Int) * 53 = X := ⟨_, rfl⟩
      rw [hX]
      have hX0 : 0 ≤ X := by omega
      have hX1 : X ≤ 1000000000 := by omega
      clear hX hx3 hy3
      go_wp2
      go_ret
      exact ⟨_, rfl, Int.tmod_nonneg _ (xor_nn hX0 (by omega) (by omega) (by omega)), Int.tmod_lt_of_pos _ (by omega), hrd.keep (fun _ _ => rfl), grown_drewN hgr _⟩
end Go.Proofs.YtkejcajboneniabGreatDoor
namespace Go.Proofs.YtkejcajboneniabGreatDoor
open Go.RowKit

set_option maxHeartbeats 800000 in
theorem odd_any (g P : Nat) (m : Int) (w : World) (hr : Rd w g P) (hP : P < 1000000) (hm : 1 ≤ m) (hm2 : m ≤ 1000000) :
    Calls Tryz.prog 48 #[.pointer (some ⟨g, 0, none⟩), .int .i64 m] w fun e w' => ∃ b : Bool, e = .returned (.bool b) ∧ Rd w' g (P + 1) ∧ w.grownBy w' (some g) := by
  have e1 : decide (0 < m) = true := by simp; omega
  go_enter Tryz.func48, Tryz.ntmps48
  go_wp2_with (go_at_call 42; refine (pick_any g P m _ hr hP hm hm2).mono ?_; rintro e w1 ⟨x, rfl, hx0, hx1, hr1, hg1⟩)
  go_ret
  exact ⟨_, rfl, hr1, hg1⟩

end Go.Proofs.YtkejcajboneniabGreatDoor
namespace Go.Proofs.YtkejcajboneniabGreatDoor
open Go.RowKit

set_option maxHeartbeats 800000 in
/-- laws.markIntS: writes k, k+1 .. into a row that the call owns. -/
theorem markIntS_any (A : Option Addr) (n c base : Nat) (l : List Int) (k0 : Int) (w : World) (ho : w.ownsRow base 3 1 (.slice A n c) n (ints l)) (hk0 : 0 ≤ k0) (hk1 : k0 + n ≤ 9223372036854775807) (hb : base ≤ w.heap.size) :
    Calls Tryz.prog 85 #[.slice A n c, .int .i64 k0] w fun e w' => e = .returned (.int .i64 (k0 + n)) ∧ w'.ownsRow base 3 1 (.slice A n c) n (ints (marks k0 n)) ∧ w.grownBy w' (Value.slice A n c).ownBlock := by
  have hl : l.length = n := by have := ho.1; simpa using this
  have HL := hid hl; clear hl
  go_enter Tryz.func85, Tryz.ntmps85
  go_wp2
  go_loopw [1, 5] (fun x i wr => ∃ k : Nat, k ≤ n ∧ i = .int .i64 k ∧ x = .int .i64 (k0 + k) ∧ wr.ownsRow base 3 1 (.slice A n c) n (ints (marked l k0 k)) ∧ w.grownBy wr (Value.slice A n c).ownBlock) (fun _ i _ => n - (intOf i).toNat)
  case atStart => exact ⟨0, Nat.zero_le _, rfl, by simp, by rw [marked_zero]; exact ho, World.grownBy.refl _ _⟩
  case round =>
    obtain ⟨k, hk, rfl, rfl, hown, hg⟩ := hrel
    by_cases hlt : k < n
    · have hown2 := hown
      rcases hown2.2 with ⟨h1, h2⟩ | ⟨g, cap, cur, hv, hbg, hgg, hnc, hcm, hsz, ht⟩
      · omega
      · injection hv with h1 h2 h3
        subst h1
        subst h3
        clear hown2 hgg ht hsz h2
        have hcell := own_cell hown (marked_len HL.out hk) hlt
        have hfz := hown.frozenAt k
        have hst := hown.stored k (.int .i64 (k0 + k))
        obtain ⟨hst1, hst2⟩ := hst
        rw [ints_set, marked_step HL.out hlt] at hst1
        have HS := hid hst1
        have HG := hid (hg.trans hst2)
        clear hst1 hst2 hown ho
        go_wp2
        go_roundw
        case rel => exact ⟨k + 1, by omega, by go_num, by go_num, HS.out, HG.out⟩
        case measure => simp [intOf]; omega
    · obtain rfl : k = n := by omega
      rw [marked_all HL.out] at hown
      have HO := hid hown; clear hown ho
      have HG := hid hg; clear hg
      go_wp2
      go_ret
      exact ⟨rfl, HO.out, HG.out⟩

set_option maxHeartbeats 800000 in
/-- laws.heldIntS: whether the marks are still there. -/
theorem heldIntS_any (A : Option Addr) (n c : Nat) (k0 : Int) (w : World) (B : Nat) (hs : Sl w B A n (marks k0 n)) (hk0 : 0 ≤ k0) (hk1 : k0 + n ≤ 9223372036854775807) :
    Calls Tryz.prog 87 #[.slice A n c, .int .i64 k0] w fun e w' => e = .returned (.int .i64 (k0 + n)) ∧ w = w' := by
  go_enter Tryz.func87, Tryz.ntmps87
  go_wp2
  go_loop [1, 5] (fun x i => ∃ k : Nat, k ≤ n ∧ i = .int .i64 k ∧ x = .int .i64 (k0 + k)) (fun _ i => n - (intOf i).toNat)
  case atStart => exact ⟨0, Nat.zero_le _, rfl, by simp⟩
  case round =>
    obtain ⟨k, hk, rfl, rfl⟩ := hrel
    by_cases hlt : k < n
    · obtain ⟨b, off, rfl, _, hc⟩ := hs.2.2 (by omega)
      have hck := hc k hlt
      rw [nth_marks _ hlt] at hck
      clear hc
      have e1 : (k0 + (k : Int) != k0 + (k : Int)) = false := by simp
      go_wp2
      go_round
      case rel => exact ⟨k + 1, by omega, by go_num, by go_num⟩
      case measure => simp [intOf]; omega
    · obtain rfl : k = n := by omega
      go_wp2
      go_ret
      exact ⟨rfl, rfl⟩

end Go.Proofs.YtkejcajboneniabGreatDoor
namespace Go.Proofs.YtkejcajboneniabGreatDoor
open Go.RowKit

set_option maxHeartbeats 800000 in
/-- laws.sameInts: whether two lists are equal. -/
theorem sameInts_any (A A2 : Option Addr) (n c n2 c2 : Nat) (l l2 : List Int) (w : World) (B B2 : Nat) (hs : Sl w B A n l) (hs2 : Sl w B2 A2 n2 l2) :
    Calls Tryz.prog 58 #[.slice A n c, .slice A2 n2 c2] w fun e w' => e = .returned (.bool (decide (l = l2))) ∧ ∃ m, w' = w.drewN m := by
  have hm := hs.max
  have hm2 := hs2.max
  have hl := hs.len
  have hl2 := hs2.len
  by_cases hne : n = n2
  · subst hne
    have HL := hid hl; clear hl
    have HL2 := hid hl2; clear hl2
    have e1 : ((n : Int) != (n : Int)) = false := by simp
    go_enter Tryz.func58, Tryz.ntmps58
    go_wp2
    go_loopw [5] (fun i wr => ∃ k m : Nat, k ≤ n ∧ i = .int .i64 k ∧ wr = w.drewN m ∧ l.take k = l2.take k) (fun i _ => n - (intOf i).toNat)
    case atStart => exact ⟨0, 0, Nat.zero_le _, rfl, rfl, rfl⟩
    case round =>
      obtain ⟨k, m, hk, rfl, rfl, htk⟩ := hrel
      have HT := hid htk; clear htk
      by_cases hlt : k < n
      · obtain ⟨b, off, rfl, _, hc⟩ := hs.2.2 (by omega)
        obtain ⟨b2, off2, rfl, _, hc2⟩ := hs2.2.2 (by omega)
        have hck := hc k hlt
        have hck2 := hc2 k hlt
        clear hc hc2
        have hlti : (k : Int) < (n : Int) := by omega
        have t1 := take_nth (l := l) (k := k) (by rw [HL.out]; exact hlt)
        have t2 := take_nth (l := l2) (k := k) (by rw [HL2.out]; exact hlt)
        have T1 := hid t1; clear t1
        have T2 := hid t2; clear t2
        by_cases heq : nth l k = nth l2 k
        · have HE := hid heq
          have heb : (nth l k != nth l2 k) = false := by simp [heq]
          have heb2 : (nth l k == nth l2 k) = true := by simp [heq]
          clear heq
          go_wp2
          go_quiet (fail)
          go_wp2
          go_roundw
          case rel => exact ⟨k + 1, _, by omega, by go_num, rfl, by rw [T1.out, T2.out, HT.out, HE.out]⟩
          case measure => simp [intOf]; omega
        · have heb : (nth l k != nth l2 k) = true := by simp [heq]
          have heb2 : (nth l k == nth l2 k) = false := by simp [heq]
          have HE := hid heq; clear heq
          go_wp2
          go_quiet (fail)
          go_wp2
          go_ret
          refine ⟨ret_bool ?_, _, World.drewN_drewN _ _ _⟩
          symm
          rw [decide_eq_false_iff_not]
          rintro rfl
          exact HE.out rfl
      · go_wp2
        go_ret
        refine ⟨ret_bool ?_, _, rfl⟩
        symm
        rw [decide_eq_true_iff]
        have := HT.out
        rwa [List.take_of_length_le (by rw [HL.out]; omega), List.take_of_length_le (by rw [HL2.out]; omega)] at this
  · have e1 : ((n : Int) != (n2 : Int)) = true := by simp; omega
    have e2 : ((n : Int) == (n2 : Int)) = false := by simp; omega
    have hfin : decide (l = l2) = false := by
      rw [decide_eq_false_iff_not]
      rintro rfl
      omega
    have HF := hid hfin; clear hfin hl hl2 hne
    go_enter Tryz.func58, Tryz.ntmps58
    go_wp2
    go_ret
    exact ⟨ret_bool HF.out.symm, 0, rfl⟩


end Go.Proofs.YtkejcajboneniabGreatDoor
namespace Go.Proofs.YtkejcajboneniabGreatDoor
open Go.RowKit

set_option maxHeartbeats 800000 in
/-- laws.eqIntS: whether two lists are equal. -/
theorem eqIntS_any (A A2 : Option Addr) (n c n2 c2 : Nat) (l l2 : List Int) (w : World) (B B2 : Nat) (hs : Sl w B A n l) (hs2 : Sl w B2 A2 n2 l2) :
    Calls Tryz.prog 83 #[.slice A n c, .slice A2 n2 c2] w fun e w' => e = .returned (.bool (decide (l = l2))) ∧ ∃ m, w' = w.drewN m := by
  have hm := hs.max
  have hm2 := hs2.max
  have hl := hs.len
  have hl2 := hs2.len
  by_cases hne : n = n2
  · subst hne
    have HL := hid hl; clear hl
    have HL2 := hid hl2; clear hl2
    have e1 : ((n : Int) != (n : Int)) = false := by simp
    go_enter Tryz.func83, Tryz.ntmps83
    go_wp2
    go_loopw [5] (fun i wr => ∃ k m : Nat, k ≤ n ∧ i = .int .i64 k ∧ wr = w.drewN m ∧ l.take k = l2.take k) (fun i _ => n - (intOf i).toNat)
    case atStart => exact ⟨0, 0, Nat.zero_le _, rfl, rfl, rfl⟩
    case round =>
      obtain ⟨k, m, hk, rfl, rfl, htk⟩ := hrel
      have HT := hid htk; clear htk
      by_cases hlt : k < n
      · obtain ⟨b, off, rfl, _, hc⟩ := hs.2.2 (by omega)
        obtain ⟨b2, off2, rfl, _, hc2⟩ := hs2.2.2 (by omega)
        have hck := hc k hlt
        have hck2 := hc2 k hlt
        clear hc hc2
        have hlti : (k : Int) < (n : Int) := by omega
        have t1 := take_nth (l := l) (k := k) (by rw [HL.out]; exact hlt)
        have t2 := take_nth (l := l2) (k := k) (by rw [HL2.out]; exact hlt)
        have T1 := hid t1; clear t1
        have T2 := hid t2; clear t2
        by_cases heq : nth l k = nth l2 k
        · have HE := hid heq
          have heb : (nth l k != nth l2 k) = false := by simp [heq]
          have heb2 : (nth l k == nth l2 k) = true := by simp [heq]
          clear heq
          go_wp2
          go_quiet (fail)
          go_wp2
          go_roundw
          case rel => exact ⟨k + 1, _, by omega, by go_num, rfl, by rw [T1.out, T2.out, HT.out, HE.out]⟩
          case measure => simp [intOf]; omega
        · have heb : (nth l k != nth l2 k) = true := by simp [heq]
          have heb2 : (nth l k == nth l2 k) = false := by simp [heq]
          have HE := hid heq; clear heq
          go_wp2
          go_quiet (fail)
          go_wp2
          go_ret
          refine ⟨ret_bool ?_, _, World.drewN_drewN _ _ _⟩
          symm
          rw [decide_eq_false_iff_not]
          rintro rfl
          exact HE.out rfl
      · go_wp2
        go_ret
        refine ⟨ret_bool ?_, _, rfl⟩
        symm
        rw [decide_eq_true_iff]
        have := HT.out
        rwa [List.take_of_length_le (by rw [HL.out]; omega), List.take_of_length_le (by rw [HL2.out]; omega)] at this
  · have e1 : ((n : Int) != (n2 : Int)) = true := by simp; omega
    have e2 : ((n : Int) == (n2 : Int)) = false := by simp; omega
    have hfin : decide (l = l2) = false := by
      rw [decide_eq_false_iff_not]
      rintro rfl
      omega
    have HF := hid hfin; clear hfin hl hl2 hne
    go_enter Tryz.func83, Tryz.ntmps83
    go_wp2
    go_ret
    exact ⟨ret_bool HF.out.symm, 0, rfl⟩

theorem eqIntS_b (A A2 : Option Addr) (n c n2 c2 : Nat) (l l2 : List Int) (w : World) (B B2 : Nat) (hs : Sl w B A n l) (hs2 : Sl w B2 A2 n2 l2) :
    Calls Tryz.prog 83 #[.slice A n c, .slice A2 n2 c2] w fun e w' => e = .returned (.bool (decide (l = l2))) ∧ Below w.heap.size w w' :=
  (eqIntS_any A A2 n c n2 c2 l l2 w B B2 hs hs2).mono fun e w' ⟨h, m, hm⟩ => ⟨h, hm ▸ below_drewN (Below.refl _ _) m⟩
end Go.Proofs.YtkejcajboneniabGreatDoor
namespace Go.Proofs.YtkejcajboneniabGreatDoor
open Go.RowKit

theorem outer_len {w : World} {B m c : Nat} {A : Option Addr} {vs : List Value} (h : w.ownsRow B 28 1 (.slice A m c) m vs) : vs.length = m := by have := h.1; omega
/-- No two of the values lie in one block. -/
def Apart (vs : List Value) : Prop := ∀ (i j : Nat) u v, vs[i]? = some u → vs[j]? = some v → i ≠ j → u.ownBlock = none ∨ u.ownBlock ≠ v.ownBlock
def sumTo (lens : List Nat) (i : Nat) : Nat := (lens.take i).sum
theorem sumTo_succ {lens : List Nat} {i : Nat} (h : i < lens.length) : sumTo lens (i + 1) = sumTo lens i + lens[i] := by
  unfold sumTo
  rw [List.take_succ_eq_append_getElem h, List.sum_append]
  simp
theorem sumTo_le (lens : List Nat) (i : Nat) : sumTo lens i ≤ lens.sum := by
  unfold sumTo
  have h := List.sum_append (l₁ := lens.take i) (l₂ := lens.drop i)
  rw [List.take_append_drop] at h
  omega
/-- The numbers k0, k0 + 1 .. over rows of these lengths. -/
def mkL (k0 : Int) (lens : List Nat) : List (List Int) := (List.range lens.length).map fun i => marks (k0 + (sumTo lens i : Int)) (lens.getD i 0)
theorem mkL_len (k0 : Int) (lens : List Nat) : (mkL k0 lens).length = lens.length := by simp [mkL]
theorem mkL_at {k0 : Int} {lens : List Nat} {i : Nat} (h : i < lens.length) : (mkL k0 lens)[i]? = some (marks (k0 + (sumTo lens i : Int)) (lens[i])) := by
  simp [mkL, h]
/-- The first i rows marked. -/
def partMk (k0 : Int) (ls : List (List Int)) (i : Nat) : List (List Int) := (mkL k0 (ls.map List.length)).take i ++ ls.drop i
theorem partMk_zero (k0 : Int) (ls : List (List Int)) : partMk k0 ls 0 = ls := by simp [partMk]
theorem partMk_all {k0 : Int} {ls : List (List Int)} {m : Nat} (h : ls.length = m) : partMk k0 ls m = mkL k0 (ls.map List.length) := by
  unfold partMk
  rw [List.drop_of_length_le (by omega), List.take_of_length_le (by rw [mkL_len]; simp; omega), List.append_nil]
theorem partMk_at {k0 : Int} {ls : List (List Int)} {i : Nat} (h : i < ls.length) : (partMk k0 ls i)[i]? = some (ls[i]) := by
  unfold partMk
  rw [List.getElem?_append_right (by simp [mkL_len]; omega)]
  simp [mkL_len, Nat.min_eq_left (Nat.le_of_lt h), h]
theorem partMk_set {k0 : Int} {ls : List (List Int)} {i : Nat} (h : i < ls.length) : (partMk k0 ls i).set i (marks (k0 + (sumTo (ls.map List.length) i : Int)) (ls[i]).length) = partMk k0 ls (i + 1) := by
  have hl : i < (mkL k0 (ls.map List.length)).length := by rw [mkL_len]; simpa using h
  have hm := mkL_at (k0 := k0) (lens := ls.map List.length) (i := i) (by simpa using h)
  unfold partMk
  rw [List.set_append_right _ _ (by simp; omega), List.take_succ_eq_append_getElem hl, List.append_assoc]
  congr 1
  have h0 : i - ((mkL k0 (ls.map List.length)).take i).length = 0 := by simp; omega
  rw [h0, show ls.drop i = ls[i] :: ls.drop (i + 1) from List.drop_eq_getElem_cons h]
  rw [List.getElem?_eq_getElem hl] at hm
  injection hm with hm
  rw [hm, List.set_cons_zero, List.getElem_map]
  rfl
theorem Rows.set {w w' : World} {B i : Nat} {vs : List Value} {ls : List (List Int)} {u : Value} {l : List Int} (h : Rows w B vs ls) (hu : vs[i]? = some u) (hap : Apart vs) (hg : w.grownBy w' u.ownBlock) (hr : Row1 w' B u l) : Rows w' B vs (ls.set i l) := by
  refine ⟨by simp [h.1], fun j v l2 hv hl => ?_⟩
  by_cases e : i = j
  · subst e
    rw [hu] at hv
    injection hv with hv
    subst hv
    have hi : i < ls.length := by
      have := (List.getElem?_eq_some_iff.1 hu).1
      have := h.1
      omega
    rw [List.getElem?_set_self hi] at hl
    injection hl with hl
    subst hl
    exact hr
  · rw [List.getElem?_set_ne e] at hl
    obtain ⟨A, n, c, ev, ho⟩ := h.2 j v l2 hv hl
    have ha := hap j i v u hv hu (fun h => e h.symm)
    rw [ev] at ha
    exact ⟨A, n, c, ev, ho.kept hg ha⟩
theorem own_types' {w : World} {B B2 n m : Nat} {v vo : Value} {xs ys : List Value} (h : w.ownsRow B 3 1 v n xs) (ho : w.ownsRow B2 28 1 vo m ys) : vo.ownBlock = none ∨ vo.ownBlock ≠ v.ownBlock := by
  rcases own_types h ho with h1 | h1
  · rcases hb : vo.ownBlock with _ | k
    · exact .inl rfl
    · right; rw [h1]; simp
  · exact .inr fun e => h1 e.symm

end Go.Proofs.YtkejcajboneniabGreatDoor
namespace Go.Proofs.YtkejcajboneniabGreatDoor
open Go.RowKit

set_option maxHeartbeats 800000 in
/-- laws.toIntS: a copy in new memory. -/
theorem toIntS_any (A : Option Addr) (n c : Nat) (l : List Int) (w : World) (hs : Sl w w.heap.size A n l) (hn : n * 8 ≤ 140737488355328) :
    Calls Tryz.prog 81 #[.slice A n c] w fun e w' => ∃ g, e = .returned (.slice (some ⟨g, 0, none⟩) n n) ∧ w'.ownsRow w.heap.size 3 1 (.slice (some ⟨g, 0, none⟩) n n) n (ints l) ∧ Below w.heap.size w w' := by
  obtain ⟨i0, hi, hz0, hz1, hz2⟩ := info_parts info_int
  have hm := hs.max
  have hl := hs.len
  have HL := hid hl; clear hl
  go_enter Tryz.func81, Tryz.ntmps81
  go_wp2_with (refine wpList_make_full _ rfl (.tmp 6) (.tmp 6) 28 rfl w.heap.size 3 i0 _ 1 Tryz.underlying28 hi hz0 hz1 .i64 .i64 n n n rfl rfl rfl rfl (by rw [hz2]; omega) (by simp only [maxLen]; omega) (Nat.le_refl _) ?_; intro w1 hown1 hg1)
  rw [madeInts, ← filled_zero l n] at hown1
  have hbw : Below w.heap.size w w1 := (Below.refl _ _).grown hg1 (Nat.le_refl _) (by simp)
  clear hg1 hi hz0 hz1 hz2
  go_loopw [4] (fun i wr => ∃ k : Nat, k ≤ n ∧ i = .int .i64 k ∧ wr.ownsRow w.heap.size 3 1 (.slice (some ⟨w.heap.size, 0, none⟩) n n) n (ints (filled l k n)) ∧ Below w.heap.size w wr) (fun i _ => n - (intOf i).toNat)
  case atStart => exact ⟨0, Nat.zero_le _, rfl, hown1, hbw⟩
  case round =>
    obtain ⟨k, hk, rfl, hown, hb⟩ := hrel
    by_cases hlt : k < n
    · have hcell := own_cell hown (by have := hown.1; simpa using this) hlt
      have hfz := hown.frozenAt k
      obtain ⟨b, off, rfl, hbl, hc⟩ := (hs.below hb).2.2 (by omega)
      have hck := hc k hlt
      have hst := (hown.stored k (.int .i64 (nth l k))).1
      rw [ints_set, filled_step HL.out hlt] at hst
      have HS := hid hst
      clear hst hown hc hown1
      go_wp2
      go_roundw
      case rel => exact ⟨k + 1, by omega, by go_num, HS.out, hb.setCell (Nat.le_refl _) _⟩
      case measure => simp [intOf]; omega
    · obtain rfl : k = n := by omega
      rw [filled_all HL.out] at hown
      have HO := hid hown; clear hown hown1
      go_wp2
      go_ret
      exact ⟨_, rfl, HO.out, hb⟩

end Go.Proofs.YtkejcajboneniabGreatDoor
namespace Go.Proofs.YtkejcajboneniabGreatDoor
open Go.RowKit

/-- The first k machines as a number, the lowest bit for the first machine. -/
def pk (l : List Int) : Nat → Nat
  | 0 => 0
  | k + 1 => pk l k ||| (if nth l k = 1 then 2 ^ k else 0)
theorem pk_bit (l : List Int) (k j : Nat) : (pk l k).testBit j = (decide (j < k) && decide (nth l j = 1)) := by
  induction k with
  | zero => simp [pk]
  | succ k ih =>
    rw [pk, Nat.testBit_or, ih]
    by_cases h : nth l k = 1
    · rw [if_pos h, Nat.testBit_two_pow]
      by_cases hjk : k = j
      · subst hjk; simp [h]
      · have : (j < k + 1) = (j < k) := by apply propext; omega
        simp [hjk, this]
    · rw [if_neg h, Nat.zero_testBit, Bool.or_false]
      by_cases hjk : k = j
      · subst hjk; simp [h]
      · have : (j < k + 1) = (j < k) := by apply propext; omega
        simp [this]
theorem pk_lt (l : List Int) (k : Nat) : pk l k < 2 ^ k := by
  apply Nat.lt_pow_two_of_testBit
  intro i hi
  rw [pk_bit]
  simp; omega
theorem pk_inj {l m : List Int} {n : Nat} (hl : l.length = n) (hm : m.length = n) (bl : bitsL l) (bm : bitsL m) (h : pk l n = pk m n) : l = m := by
  refine list_ext7 (by omega) fun k hk => ?_
  have hb := congrArg (Nat.testBit · k) h
  simp only [pk_bit] at hb
  have h1 := bits_nth bl k
  have h2 := bits_nth bm k
  rw [show decide (k < n) = true by simp; omega, Bool.true_and, Bool.true_and, decide_eq_decide] at hb
  omega

/-- What each machine hears from the left, from the right, and what it votes. -/
def fromL (x n : Nat) : Nat := (x * 2 &&& (2 ^ n - 1)) ||| (x &&& 1)
def fromR (x n : Nat) : Nat := (x / 2) ||| (x &&& 2 ^ (n - 1))
def votedB (x n : Nat) : Nat := ((fromL x n &&& x) ||| (x &&& fromR x n)) ||| (fromL x n &&& fromR x n)
def firmB (x n : Nat) : Nat := (2 ^ n - 1) &&& ((2 ^ 64 - 1) ^^^ ((x ^^^ fromL x n) &&& (x ^^^ fromR x n)))
theorem fromL_bit (l : List Int) {n : Nat} (hn : 1 ≤ n) (j : Nat) : (fromL (pk l n) n).testBit j = (decide (j < n) && decide (nth l (j - 1) = 1)) := by
  unfold fromL
  rw [Nat.testBit_or, Nat.testBit_and, Nat.testBit_and, Nat.testBit_two_pow_sub_one, show (1 : Nat) = 2 ^ 0 from rfl, Nat.testBit_two_pow, show pk l n * 2 = 2 ^ 1 * pk l n by omega, Nat.testBit_two_pow_mul, pk_bit, pk_bit]
  rcases j with _ | j
  · simp
  · have h1 : ¬ (0 = j + 1) := by omega
    have h2 : (1 ≤ j + 1) = True := by simp
    simp only [h1, h2, decide_true, decide_false, Bool.and_false, Bool.or_false, Bool.true_and, Nat.add_sub_cancel]
    by_cases h : j + 1 < n
    · simp [h, show j < n by omega]
    · simp [h]
theorem fromR_bit (l : List Int) {n : Nat} (hn : 1 ≤ n) (j : Nat) : (fromR (pk l n) n).testBit j = (decide (j < n) && decide (nth l (min (j + 1) (n - 1)) = 1)) := by
  unfold fromR
  rw [Nat.testBit_or, Nat.testBit_and, Nat.testBit_two_pow, Nat.testBit_div_two, pk_bit, pk_bit]
  by_cases h : j + 1 < n
  · have h1 : ¬ (n - 1 = j) := by omega
    simp [h, h1, show j < n by omega, show min (j + 1) (n - 1) = j + 1 by omega]
  · by_cases h2 : n - 1 = j
    · subst h2
      simp [h, show min (n - 1 + 1) (n - 1) = n - 1 by omega]
    · simp [h, h2, show ¬ j < n by omega]
theorem voted_pk {l : List Int} {n : Nat} (hl : l.length = n) (hn : 1 ≤ n) (hb : bitsL l) : votedB (pk l n) n = pk (voteL l) n := by
  apply Nat.eq_of_testBit_eq
  intro j
  unfold votedB
  rw [Nat.testBit_or, Nat.testBit_or, Nat.testBit_and, Nat.testBit_and, Nat.testBit_and, fromL_bit l hn, fromR_bit l hn, pk_bit, pk_bit]
  by_cases h : j < n
  · rw [nth_vote (by omega)]
    unfold voteAt
    rw [hl]
    simp only [h, decide_true, Bool.true_and]
    rcases bits_nth hb j with e1 | e1 <;> rcases bits_nth hb (j - 1) with e2 | e2 <;> rcases bits_nth hb (min (j + 1) (n - 1)) with e3 | e3 <;> rw [e1, e2, e3] <;> decide
  · simp [h]
theorem opposed_pk {l : List Int} {n : Nat} (hl : l.length = n) (hb : bitsL l) : pk l n ^^^ (2 ^ n - 1) = pk (oppL l) n := by
  apply Nat.eq_of_testBit_eq
  intro j
  rw [Nat.testBit_xor, Nat.testBit_two_pow_sub_one, pk_bit, pk_bit]
  by_cases h : j < n
  · rw [nth_opp (by omega)]
    simp only [h, decide_true, Bool.true_and]
    rcases bits_nth hb j with e1 | e1 <;> rw [e1] <;> decide
  · simp [h]
theorem firm_bit {l : List Int} {n : Nat} (hl : l.length = n) (hn : 1 ≤ n) (h40 : n ≤ 40) (hb : bitsL l) (j : Nat) : (firmB (pk l n) n).testBit j = (decide (j < n) && firmAt l j) := by
  unfold firmB
  rw [Nat.testBit_and, Nat.testBit_xor, Nat.testBit_and, Nat.testBit_xor, Nat.testBit_xor, Nat.testBit_two_pow_sub_one, Nat.testBit_two_pow_sub_one, fromL_bit l hn, fromR_bit l hn, pk_bit]
  by_cases h : j < n
  · simp only [h, decide_true, Bool.true_and, show (j < 64) = True by simp; omega, Bool.true_xor]
    rw [Bool.eq_iff_iff, firm_iff, hl]
    by_cases h0 : j = 0
    · subst h0; simp
    · by_cases h1 : j = n - 1
      · rw [show min (j + 1) (n - 1) = j by omega]; simp [h1]
      · rw [show min (j + 1) (n - 1) = j + 1 by omega]
        rcases bits_nth hb j with e1 | e1 <;> rcases bits_nth hb (j - 1) with e2 | e2 <;> rcases bits_nth hb (j + 1) with e3 | e3 <;> rw [e1, e2, e3] <;> simp [h0, h1]
  · simp [h]
/-- Place k as the program gives it. -/
theorem pk_at {l : List Int} {n k : Nat} (hb : bitsL l) (hk : k < n) : ((pk l n / 2 ^ k &&& 1 : Nat) : Int) = nth l k := by
  have h : pk l n / 2 ^ k &&& 1 = if (pk l n).testBit k then 1 else 0 := by
    rw [Nat.and_one_is_mod, Nat.testBit_eq_decide_div_mod_eq]
    by_cases h : pk l n / 2 ^ k % 2 = 1 <;> simp [h]; omega
  rw [h, pk_bit]
  rcases bits_nth hb k with e | e <;> simp [e, hk]
theorem fromL_lt {x n : Nat} (h : x < 2 ^ n) : fromL x n < 2 ^ n :=
  Nat.or_lt_two_pow (Nat.and_lt_two_pow _ (by have := Nat.two_pow_pos n; omega)) (Nat.lt_of_le_of_lt Nat.and_le_left h)
theorem fromR_lt {x n : Nat} (h : x < 2 ^ n) : fromR x n < 2 ^ n :=
  Nat.or_lt_two_pow (by omega) (Nat.lt_of_le_of_lt Nat.and_le_left h)
end Go.Proofs.YtkejcajboneniabGreatDoor
namespace Go.Proofs.YtkejcajboneniabGreatDoor
open Go.RowKit

/-- The first k machines as a number, the lowest bit for the first machine. -/
def pb (l : List Int) : Nat → Nat
  | 0 => 0
  | k + 1 => pb l k ||| (if nth l k = 1 then 2 ^ k else 0)
theorem pb_bit (l : List Int) (k j : Nat) : (pb l k).testBit j = (decide (j < k) && decide (nth l j = 1)) := by
  induction k with
  | zero => simp [pb]
  | succ k ih =>
    rw [pb, Nat.testBit_or, ih]
    by_cases h : nth l k = 1
    · rw [if_pos h, Nat.testBit_two_pow]
      by_cases hjk : k = j
      · subst hjk; simp [h]
      · have : (j < k + 1) = (j < k) := by apply propext; omega
        simp [hjk, this]
    · rw [if_neg h, Nat.zero_testBit, Bool.or_false]
      by_cases hjk : k = j
      · subst hjk; simp [h]
      · have : (j < k + 1) = (j < k) := by apply propext; omega
        simp [this]
theorem pb_lt (l : List Int) (k : Nat) : pb l k < 2 ^ k := by
  apply Nat.lt_pow_two_of_testBit
  intro i hi
  rw [pb_bit]
  simp; omega
/-- A number is that of a list, bit by bit. -/
theorem pb_eq {x n : Nat} {l : List Int} (hx : x < 2 ^ n) (h : ∀ j, j < n → x.testBit j = decide (nth l j = 1)) : x = pb l n := by
  apply Nat.eq_of_testBit_eq
  intro j
  rw [pb_bit]
  by_cases hj : j < n
  · rw [h j hj]; simp [hj]
  · rw [Nat.testBit_lt_two_pow (Nat.lt_of_lt_of_le hx (Nat.pow_le_pow_right (by omega) (by omega)))]; simp [hj]
/-- Turned by a places: each bit from as many places to the left; from as many to the right. -/
def turnL (x n a : Nat) : Nat := (x * 2 ^ a &&& (2 ^ n - 1)) ||| x / 2 ^ (n - a)
def turnR (x n a : Nat) : Nat := x / 2 ^ a ||| (x * 2 ^ (n - a) &&& (2 ^ n - 1))
theorem turnL_bit {x n a j : Nat} (hx : x < 2 ^ n) (ha : a < n) (hj : j < n) : (turnL x n a).testBit j = x.testBit ((j + n - a) % n) := by
  unfold turnL
  rw [Nat.testBit_or, Nat.testBit_and, Nat.testBit_two_pow_sub_one, Nat.mul_comm, Nat.testBit_two_pow_mul, Nat.testBit_div_two_pow]
  have hhi : ∀ i, n ≤ i → x.testBit i = false := fun i hi => Nat.testBit_lt_two_pow (Nat.lt_of_lt_of_le hx (Nat.pow_le_pow_right (by omega) hi))
  by_cases h : a ≤ j
  · rw [show j + n - a = (j - a) + n by omega, Nat.add_mod_right, Nat.mod_eq_of_lt (by omega), hhi (j + (n - a)) (by omega)]
    simp [h, hj]
  · rw [Nat.mod_eq_of_lt (by omega)]
    simp [h, show j + (n - a) = j + n - a by omega]
theorem turnR_bit {x n a j : Nat} (hx : x < 2 ^ n) (ha : a < n) (hj : j < n) : (turnR x n a).testBit j = x.testBit ((j + a) % n) := by
  unfold turnR
  rw [Nat.testBit_or, Nat.testBit_and, Nat.testBit_two_pow_sub_one, Nat.mul_comm, Nat.testBit_two_pow_mul, Nat.testBit_div_two_pow]
  have hhi : ∀ i, n ≤ i → x.testBit i = false := fun i hi => Nat.testBit_lt_two_pow (Nat.lt_of_lt_of_le hx (Nat.pow_le_pow_right (by omega) hi))
  by_cases h : j + a < n
  · rw [Nat.mod_eq_of_lt h]
    simp [show ¬ n - a ≤ j by omega]
  · rw [show j + a = (j + a - n) + n by omega, Nat.add_mod_right, Nat.mod_eq_of_lt (by omega)]
    rw [hhi (j + a - n + n) (by omega)]
    simp [show n - a ≤ j by omega, hj, show j - (n - a) = j + a - n by omega]
theorem turnL_lt {x n a : Nat} (hx : x < 2 ^ n) (ha : a ≤ n) : turnL x n a < 2 ^ n :=
  Nat.or_lt_two_pow (Nat.and_lt_two_pow _ (by have := Nat.two_pow_pos n; omega)) (Nat.lt_of_le_of_lt (Nat.div_le_self _ _) hx)
theorem turnR_lt {x n a : Nat} (hx : x < 2 ^ n) (ha : a ≤ n) : turnR x n a < 2 ^ n :=
  Nat.or_lt_two_pow (Nat.lt_of_le_of_lt (Nat.div_le_self _ _) hx) (Nat.and_lt_two_pow _ (by have := Nat.two_pow_pos n; omega))
theorem pb_left {l : List Int} {n a j : Nat} (ha : a < n) (hj : j < n) : (turnL (pb l n) n a).testBit j = decide (nth l ((j + n - a) % n) = 1) := by
  rw [turnL_bit (pb_lt l n) ha hj, pb_bit]
  simp [Nat.mod_lt _ (show 0 < n by omega)]
theorem pb_right {l : List Int} {n a j : Nat} (ha : a < n) (hj : j < n) : (turnR (pb l n) n a).testBit j = decide (nth l ((j + a) % n) = 1) := by
  rw [turnR_bit (pb_lt l n) ha hj, pb_bit]
  simp [Nat.mod_lt _ (show 0 < n by omega)]
/-- The sum of those so many places away, as numbers. -/
theorem pb_far {l : List Int} {n : Nat} (hl : l.length = n) (h0 : 0 < n) (hb : ∀ x ∈ l, x = 0 ∨ x = 1) (a : Nat) : turnL (pb l n) n (a % n) ^^^ turnR (pb l n) n (a % n) = pb (farL a l) n := by
  have ha := Nat.mod_lt a h0
  refine pb_eq (Nat.xor_lt_two_pow (turnL_lt (pb_lt l n) (by omega)) (turnR_lt (pb_lt l n) (by omega))) fun j hj => ?_
  rw [Nat.testBit_xor, pb_left ha hj, pb_right ha hj]
  have hn : nth (farL a l) j = (nth l ((j + a) % n) + nth l ((j + n - a % n) % n)) % 2 := by
    subst hl
    simp [nth, farL, List.getD, hj]
  rw [hn, Nat.add_mod_mod]
  rcases bit_nth hb ((j + a) % n) with e1 | e1 <;> rcases bit_nth hb ((j + n - a % n) % n) with e2 | e2 <;> rw [e1, e2] <;> decide
/-- Any ring that is told place by place. -/
theorem pb_ring {f : Int → Int → Int → Int} {l : List Int} {n y : Nat} (hl : l.length = n) (hy : y < 2 ^ n) (h : ∀ j, j < n → y.testBit j = decide (f (nth l ((j + n - 1) % n)) (nth l j) (nth l ((j + 1) % n)) = 1)) : y = pb (ringL f l) n :=
  pb_eq hy fun j hj => by rw [h j hj, nth_ringL (by omega), hl]
end Go.Proofs.YtkejcajboneniabGreatDoor
namespace Go.Proofs.YtkejcajboneniabGreatDoor
open Go.RowKit

theorem boxed_putX {W : World} {B l : Nat} {t : TypeId} {v : Value} (h : Boxed W B t v) (o : Obj) (hne : B ≠ l) : Boxed (W.putObj l o) B t v := (World.putObj_heap_other hne).trans h
theorem below_putX {W W' : World} {B l : Nat} (h : Below B W W') (o : Obj) (hl : B ≤ l) (hB : B ≤ W'.heap.size) : Below B W (W'.putObj l o) := h.grown (grownBy_putObj' W' l o) hB (by intro k hk; cases hk; exact hl)

/-- How a round's body may be left: off its end; by 'return'; by 'break' (of the loop, or of one around it). The loop's record is busy there. -/
def roundEndX (l : Nat) (rc : LoopState → Option Code → Loop) (R : Ending → World → Prop) : Exit → Act → World → Prop
  | .normal, _, w3 => w3.heap[l]? = some (.loop (rc .busy none)) ∧ R (.returned (.bool true)) (w3.putObj l (.loop (rc .ready none)))
  | .ret, _, w3 => w3.heap[l]? = some (.loop (rc .busy none)) ∧ R (.returned (.bool false)) (w3.putObj l (.loop (rc .done (some .ret))))
  | .exit id, _, w3 => w3.heap[l]? = some (.loop (rc .busy none)) ∧ R (.returned (.bool false)) (w3.putObj l (.loop (rc .done (some (.exit id)))))
  | _, _, _ => False

/-- What is asked of a range over a function: its iterator, met by whatever the rounds do. -/
theorem range_bareX {P : Program} {g : Operand} {ps : Array Tmp} {assign body : Code} {Q : Exit → Act → World → Prop} {a : Act} {W0 : World} {n gf : Nat} {lb : Array Value}
    (hg : a.eval g = .func (.func gf) #[] lb) (eg : ∀ args w, (callFunc gf args).run P w = .ok (.enter gf args) w)
    (h : ∀ (rc : LoopState → Option Code → Loop) (W1 : World), W1.heap.size = W0.heap.size + 2 → Below W0.heap.size W0 W1 →
      W1.heap[W0.heap.size + 1]? = some (.loop (rc .ready none)) → W1.heap[W0.heap.size]? = some (.deferred (some [])) →
      (∀ (args : Array Value) (W : World) (R : Ending → World → Prop), args.size = ps.size → W.heap[W0.heap.size + 1]? = some (.loop (rc .ready none)) →
        (∃ (a₁ : Act) (w₁ : World), (∀ K : Act → World → Prop, K a₁ w₁ → assign.wpIn (Fence.wide.inRound (W0.heap.size + 1)) (n - 1 - 1) P (Exit.then K (fun _ _ _ => False))
            { tmps := (ps.zip args).foldl (fun t (p, v) => t.setIfInBounds p v) a.tmps, defers := [] } W) ∧
          w₁.heap[W0.heap.size + 1]? = some (.loop (rc .ready none)) ∧
          body.wpIn (Fence.wide.inRound (W0.heap.size + 1)) (n - 1 - 1) P (roundEndX (W0.heap.size + 1) rc R) a₁ (w₁.putObj (W0.heap.size + 1) (.loop (rc .busy none)))) →
        YieldAt Fence.wide (n - 1 - 1) P (W0.heap.size + 1) args W R) →
      CallsIn Fence.wide (n - 1) P gf (#[.func (.yield (W0.heap.size + 1)) #[] #[]] ++ lb) W1 fun e W' => (∃ v, e = .returned v) ∧
        ((W'.heap[W0.heap.size + 1]? = some (.loop (rc .ready none)) ∧ ∀ o, Q .normal { a with defers := { target := .collected W0.heap.size, args := #[] } :: a.defers } (W'.putObj (W0.heap.size + 1) o)) ∨
         (∃ cd, W'.heap[W0.heap.size + 1]? = some (.loop (rc .done (some cd))) ∧ ∀ o, cd.wpIn Fence.wide n P Q { a with defers := { target := .collected W0.heap.size, args := #[] } :: a.defers } (W'.putObj (W0.heap.size + 1) o)))) :
    (Code.rangeFunc g ps assign body).wpIn Fence.wide n P Q a W0 := by
  refine wpIn_rangeFunc ?_
  intro fn hfn
  rw [show Fence.wide.round = none from rfl]
  obtain ⟨rc, hrc⟩ : ∃ rc : LoopState → Option Code → Loop, rc = fun st pe => { state := st, pending := pe, fn := fn, tmps := a.tmps, params := ps, assign := assign, body := body, defers := W0.heap.size } := ⟨_, rfl⟩
  obtain ⟨W1, hW1⟩ : ∃ W1, (W0.alloc (.deferred (some []))).alloc (.loop (rc .ready none)) = W1 := ⟨_, rfl⟩
  have hsz : W1.heap.size = W0.heap.size + 2 := by rw [← hW1]; simp
  have hbw : Below W0.heap.size W0 W1 := by rw [← hW1]; exact ((Below.refl _ W0).alloc (Nat.le_refl _) _).alloc (by simp) _
  have hL1 : W1.heap[W0.heap.size + 1]? = some (.loop (rc .ready none)) := by
    rw [← hW1]; have := World.alloc_heap_new (W0.alloc (.deferred (some []))) (.loop (rc .ready none)); rwa [World.size_alloc] at this
  have hK1 : W1.heap[W0.heap.size]? = some (.deferred (some [])) := by
    rw [← hW1]; exact (Below.heap_alloc _ _ _ (by simp)).trans (World.alloc_heap_new W0 _)
  refine ⟨W0.heap.size + 1, [{ target := .collected W0.heap.size, args := #[] }], W1, { target := .fn (.func gf) lb, args := #[.func (.yield (W0.heap.size + 1)) #[] #[]] }, W1, gf,
    #[.func (.yield (W0.heap.size + 1)) #[] #[]] ++ lb, W1, ?_, ?_, (fun _ _ => trivial), ?_, (fun h => by cases h), ?_⟩
  · rw [← hW1, hrc]
    exact run_enterLoop_outer _ _ _ _ _
  · simp only [resolve, hg]
    simp [go_sem]
  · simp [invoke, go_sem, eg]
  · refine (h rc W1 hsz hbw hL1 hK1 ?_).mono ?_
    · rintro args W R hps hl ⟨a₁, w₁, hK, hl1, hB⟩
      have hy := run_yield (P := P) (args := args) hl (by rw [hrc]; exact hps)
      rw [hrc] at hy
      refine ⟨fn, _, assign, body, hy, roundIn_of_wpIn hfn (hK _ ?_)⟩
      refine ⟨_, run_beginRound hl1 (by rw [hrc]), ?_⟩
      have hB' : body.wpIn (Fence.wide.inRound (W0.heap.size + 1)) (n - 1 - 1) P (roundEndX (W0.heap.size + 1) rc R) a₁ (w₁.putObj (W0.heap.size + 1) (.loop { rc .ready none with state := .busy })) := by rw [hrc] at hB ⊢; exact hB
      refine wpIn_mono hB' ?_
      rintro e2 a2 w3 hq
      cases e2 with
      | normal =>
        obtain ⟨h3, hR⟩ := hq
        refine ⟨_, _, run_endRound (P := P) none h3, ?_⟩
        rw [hrc] at hR ⊢
        exact hR
      | ret =>
        obtain ⟨h3, hR⟩ := hq
        refine ⟨_, _, run_endRound (P := P) (some .ret) h3, ?_⟩
        rw [hrc] at hR ⊢
        exact hR
      | exit id =>
        obtain ⟨h3, hR⟩ := hq
        refine ⟨_, _, run_endRound (P := P) (some (.exit id)) h3, ?_⟩
        rw [hrc] at hR ⊢
        exact hR
      | goto t => exact hq.elim
      | panic c => exact hq.elim
      | outgrown => exact hq.elim
    · rintro e W2 ⟨⟨v, rfl⟩, (⟨hl, hq⟩ | ⟨cd, hl, hq⟩)⟩
      · have he := run_endLoop (P := P) hl (by rw [hrc]; simp)
        rw [show (rc .ready none).pending = none from by rw [hrc]] at he
        exact ⟨none, _, he, hq _⟩
      · have he := run_endLoop (P := P) hl (by rw [hrc]; simp)
        rw [show (rc .done (some cd)).pending = some cd from by rw [hrc]] at he
        exact ⟨some cd, _, he, hq _⟩
end Go.Proofs.YtkejcajboneniabGreatDoor
namespace Go.Proofs.YtkejcajboneniabGreatDoor
open Go.RowKit

/-- How a round's body may be left: off its end; by 'return'. The loop's record is busy there. -/
def roundEnd (l : Nat) (rc : LoopState → Option Code → Loop) (R : Ending → World → Prop) : Exit → Act → World → Prop
  | .normal, _, w3 => w3.heap[l]? = some (.loop (rc .busy none)) ∧ R (.returned (.bool true)) (w3.putObj l (.loop (rc .ready none)))
  | .ret, _, w3 => w3.heap[l]? = some (.loop (rc .busy none)) ∧ R (.returned (.bool false)) (w3.putObj l (.loop (rc .done (some .ret))))
  | _, _, _ => False

/-- What is asked of a range over a function: its iterator, met by whatever the rounds do. -/
theorem range_bare {P : Program} {g : Operand} {ps : Array Tmp} {assign body : Code} {Q : Exit → Act → World → Prop} {a : Act} {W0 : World} {n gf : Nat} {lb : Array Value}
    (hg : a.eval g = .func (.func gf) #[] lb) (eg : ∀ args w, (callFunc gf args).run P w = .ok (.enter gf args) w)
    (h : ∀ (rc : LoopState → Option Code → Loop) (W1 : World), W1.heap.size = W0.heap.size + 2 → Below W0.heap.size W0 W1 →
      W1.heap[W0.heap.size + 1]? = some (.loop (rc .ready none)) → W1.heap[W0.heap.size]? = some (.deferred (some [])) →
      (∀ (args : Array Value) (W : World) (R : Ending → World → Prop), args.size = ps.size → W.heap[W0.heap.size + 1]? = some (.loop (rc .ready none)) →
        (∃ (a₁ : Act) (w₁ : World), (∀ K : Act → World → Prop, K a₁ w₁ → assign.wpIn (Fence.wide.inRound (W0.heap.size + 1)) (n - 1 - 1) P (Exit.then K (fun _ _ _ => False))
            { tmps := (ps.zip args).foldl (fun t (p, v) => t.setIfInBounds p v) a.tmps, defers := [] } W) ∧
          w₁.heap[W0.heap.size + 1]? = some (.loop (rc .ready none)) ∧
          body.wpIn (Fence.wide.inRound (W0.heap.size + 1)) (n - 1 - 1) P (roundEnd (W0.heap.size + 1) rc R) a₁ (w₁.putObj (W0.heap.size + 1) (.loop (rc .busy none)))) →
        YieldAt Fence.wide (n - 1 - 1) P (W0.heap.size + 1) args W R) →
      CallsIn Fence.wide (n - 1) P gf (#[.func (.yield (W0.heap.size + 1)) #[] #[]] ++ lb) W1 fun e W' => (∃ v, e = .returned v) ∧
        ((W'.heap[W0.heap.size + 1]? = some (.loop (rc .ready none)) ∧ ∀ o, Q .normal { a with defers := { target := .collected W0.heap.size, args := #[] } :: a.defers } (W'.putObj (W0.heap.size + 1) o)) ∨
         (W'.heap[W0.heap.size + 1]? = some (.loop (rc .done (some .ret))) ∧ ∀ o, Code.ret.wpIn Fence.wide n P Q { a with defers := { target := .collected W0.heap.size, args := #[] } :: a.defers } (W'.putObj (W0.heap.size + 1) o)))) :
    (Code.rangeFunc g ps assign body).wpIn Fence.wide n P Q a W0 := by
  refine wpIn_rangeFunc ?_
  intro fn hfn
  rw [show Fence.wide.round = none from rfl]
  obtain ⟨rc, hrc⟩ : ∃ rc : LoopState → Option Code → Loop, rc = fun st pe => { state := st, pending := pe, fn := fn, tmps := a.tmps, params := ps, assign := assign, body := body, defers := W0.heap.size } := ⟨_, rfl⟩
  obtain ⟨W1, hW1⟩ : ∃ W1, (W0.alloc (.deferred (some []))).alloc (.loop (rc .ready none)) = W1 := ⟨_, rfl⟩
  have hsz : W1.heap.size = W0.heap.size + 2 := by rw [← hW1]; simp
  have hbw : Below W0.heap.size W0 W1 := by rw [← hW1]; exact ((Below.refl _ W0).alloc (Nat.le_refl _) _).alloc (by simp) _
  have hL1 : W1.heap[W0.heap.size + 1]? = some (.loop (rc .ready none)) := by
    rw [← hW1]; have := World.alloc_heap_new (W0.alloc (.deferred (some []))) (.loop (rc .ready none)); rwa [World.size_alloc] at this
  have hK1 : W1.heap[W0.heap.size]? = some (.deferred (some [])) := by
    rw [← hW1]; exact (Below.heap_alloc _ _ _ (by simp)).trans (World.alloc_heap_new W0 _)
  refine ⟨W0.heap.size + 1, [{ target := .collected W0.heap.size, args := #[] }], W1, { target := .fn (.func gf) lb, args := #[.func (.yield (W0.heap.size + 1)) #[] #[]] }, W1, gf,
    #[.func (.yield (W0.heap.size + 1)) #[] #[]] ++ lb, W1, ?_, ?_, (fun _ _ => trivial), ?_, (fun h => by cases h), ?_⟩
  · rw [← hW1, hrc]
    exact run_enterLoop_outer _ _ _ _ _
  · simp only [resolve, hg]
    simp [go_sem]
  · simp [invoke, go_sem, eg]
  · refine (h rc W1 hsz hbw hL1 hK1 ?_).mono ?_
    · rintro args W R hps hl ⟨a₁, w₁, hK, hl1, hB⟩
      have hy := run_yield (P := P) (args := args) hl (by rw [hrc]; exact hps)
      rw [hrc] at hy
      refine ⟨fn, _, assign, body, hy, roundIn_of_wpIn hfn (hK _ ?_)⟩
      refine ⟨_, run_beginRound hl1 (by rw [hrc]), ?_⟩
      have hB' : body.wpIn (Fence.wide.inRound (W0.heap.size + 1)) (n - 1 - 1) P (roundEnd (W0.heap.size + 1) rc R) a₁ (w₁.putObj (W0.heap.size + 1) (.loop { rc .ready none with state := .busy })) := by rw [hrc] at hB ⊢; exact hB
      refine wpIn_mono hB' ?_
      rintro e2 a2 w3 hq
      cases e2 with
      | normal =>
        obtain ⟨h3, hR⟩ := hq
        refine ⟨_, _, run_endRound (P := P) none h3, ?_⟩
        rw [hrc] at hR ⊢
        exact hR
      | ret =>
        obtain ⟨h3, hR⟩ := hq
        refine ⟨_, _, run_endRound (P := P) (some .ret) h3, ?_⟩
        rw [hrc] at hR ⊢
        exact hR
      | exit id => exact hq.elim
      | goto t => exact hq.elim
      | panic c => exact hq.elim
      | outgrown => exact hq.elim
    · rintro e W2 ⟨⟨v, rfl⟩, (⟨hl, hq⟩ | ⟨hl, hq⟩)⟩
      · have he := run_endLoop (P := P) hl (by rw [hrc]; simp)
        rw [show (rc .ready none).pending = none from by rw [hrc]] at he
        exact ⟨none, _, he, hq _⟩
      · have he := run_endLoop (P := P) hl (by rw [hrc]; simp)
        rw [show (rc .done (some .ret)).pending = some .ret from by rw [hrc]] at he
        exact ⟨some .ret, _, he, hq _⟩
end Go.Proofs.YtkejcajboneniabGreatDoor
