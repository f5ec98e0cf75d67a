/-
  Words on rows of ints of a call's own, for all walks of this seat; no function is named, and no statement is proved here.
-/
import Derived.Test.YtkejcajboneniabDoorProg
import Derived.Test.YtkejcajboneniabDoorMem
import Derived.Maps.Range
import Derived.Maps.AppendAt
import Derived.Deep.QuietTactic
import Derived.BigQuiet
namespace Go.Proofs.YtkejcajboneniabDoor
open Go.RowKit
set_option linter.unusedVariables false
set_option linter.unusedSimpArgs false

theorem info_int : (Tryd.prog.info? 3).map (fun i => (i.zero, i.size, i.bytes)) = some (some (.int .i64 0), 1, 8) := by kernel_rfl

abbrev ints (l : List Int) : List Value := l.map (Value.int .i64)

def filled (l : List Int) (k n : Nat) : List Int := l.take k ++ List.replicate (n - k) 0
theorem filled_zero (l : List Int) (n : Nat) : filled l 0 n = List.replicate n 0 := by simp [filled]
theorem filled_all {l : List Int} {n : Nat} (h : l.length = n) : filled l n n = l := by simp [filled, List.take_of_length_le (Nat.le_of_eq h)]
theorem filled_step {l : List Int} {k n : Nat} (h : l.length = n) (hk : k < n) : (filled l k n).set k (nth l k) = filled l (k + 1) n := by
  unfold filled
  rw [List.set_append_right _ _ (by simp; omega), take_nth (by omega)]
  have : n - k = (n - (k + 1)) + 1 := by omega
  rw [this, List.replicate_succ]
  simp [Nat.min_eq_left (show k ≤ l.length by omega)]

theorem ints_set (l : List Int) (k : Nat) (x : Int) : (ints l).set k (.int .i64 x) = ints (l.set k x) := by simp [ints, List.map_set]
theorem madeInts (n : Nat) : (madeCells (Value.int .i64 0).cells (n * 1)).toList = ints (List.replicate n 0) := by
  simp only [madeCells, Value.cells, ints, List.map_replicate]
  apply List.ext_getElem?
  intro j
  by_cases h : j < n
  · simp [h, Nat.mod_one]
  · simp [show n ≤ j from by omega]

/-- What a row of ints that the call owns gives to a store: the cell is there, and is not frozen. -/
theorem own_cell {w : World} {base g n c j : Nat} {e : TypeId} {l : List Int} (h : w.ownsRow base e 1 (.slice (some ⟨g, 0, none⟩) n c) n (ints l)) (hl : l.length = n) (hj : j < n) :
    w.cell? ⟨g, j, none⟩ = some (.int .i64 (nth l j)) := by
  rw [h.cellAt j (by omega)]
  simp [nth, List.getD, show j < l.length from by omega]

def marks (k : Int) (n : Nat) : List Int := (List.range n).map fun (j : Nat) => k + j
theorem marks_len (k : Int) (n : Nat) : (marks k n).length = n := by simp [marks]
theorem nth_marks (k : Int) {n j : Nat} (h : j < n) : nth (marks k n) j = k + j := by simp [nth, marks, List.getD, h]

def marked (l : List Int) (k : Int) (i : Nat) : List Int := marks k i ++ l.drop i
theorem marked_zero (l : List Int) (k : Int) : marked l k 0 = l := by simp [marked, marks]
theorem marked_len {l : List Int} {k : Int} {i n : Nat} (h : l.length = n) (hi : i ≤ n) : (marked l k i).length = n := by simp [marked, marks]; omega
theorem marked_all {l : List Int} {k : Int} {n : Nat} (h : l.length = n) : marked l k n = marks k n := by simp [marked, List.drop_of_length_le (Nat.le_of_eq h)]
theorem marked_step {l : List Int} {k : Int} {i n : Nat} (h : l.length = n) (hi : i < n) : (marked l k i).set i (k + i) = marked l k (i + 1) := by
  unfold marked marks
  rw [List.set_append_right _ _ (by simp), List.range_succ, List.map_append, List.append_assoc]
  congr 1
  simp only [List.length_map, List.length_range, Nat.sub_self]
  rw [show l.drop i = l[i]'(by omega) :: l.drop (i + 1) from List.drop_eq_getElem_cons (by omega)]
  rfl

theorem own_on {w w' : World} {B n : Nat} {v : Value} {e : TypeId} {xs : List Value} (h : w.ownsRow B e 1 v n xs) (hb : Below w.heap.size w w') : w'.ownsRow B e 1 v n xs := by
  refine ⟨h.1, ?_⟩
  rcases h.2 with h2 | ⟨g, cap, cur, h1, h2, h3, h4⟩
  · exact .inl h2
  · refine .inr ⟨g, cap, cur, h1, h2, (hb.block g ?_).trans h3, h4⟩
    rcases Nat.lt_or_ge g w.heap.size with hlt | hge
    · exact hlt
    · rw [Array.getElem?_eq_none hge] at h3; cases h3
theorem own_lo {w : World} {B n : Nat} {v : Value} {e : TypeId} {xs : List Value} (h : w.ownsRow B e 1 v n xs) : ∀ k, v.ownBlock = some k → B ≤ k := fun k hk => (h.lt k hk).1
theorem own_hi {w : World} {B n : Nat} {v : Value} {e : TypeId} {xs : List Value} (h : w.ownsRow B e 1 v n xs) : ∀ k, v.ownBlock = some k → k < w.heap.size := fun k hk => (h.lt k hk).2
theorem own_apart {u v : Value} {lu hu lv hv : Nat} (h1 : ∀ k, u.ownBlock = some k → lu ≤ k) (h2 : ∀ k, u.ownBlock = some k → k < hu) (h3 : ∀ k, v.ownBlock = some k → lv ≤ k) (h4 : ∀ k, v.ownBlock = some k → k < hv)
    (h : hu ≤ lv ∨ hv ≤ lu) : u.ownBlock = none ∨ u.ownBlock ≠ v.ownBlock := by
  rcases hb : u.ownBlock with _ | k
  · exact .inl rfl
  · refine .inr fun e => ?_
    have a1 := h1 k hb
    have a2 := h2 k hb
    have a3 := h3 k e.symm
    have a4 := h4 k e.symm
    omega
theorem own_shape {W : World} {base : Nat} {e : TypeId} {size : Nat} {v : Value} {k : Nat} {xs : List Value} (h : W.ownsRow base e size v (k + 1) xs) : ∃ g cap, v = .slice (some ⟨g, 0, none⟩) (k + 1) cap ∧ base ≤ g ∧ g < W.heap.size := by
  rcases h.2 with ⟨_, h2⟩ | ⟨g, cap, cur, rfl, hb, hg, _⟩
  · omega
  · refine ⟨g, cap, rfl, hb, ?_⟩
    rcases Nat.lt_or_ge g W.heap.size with hlt | hge
    · exact hlt
    · rw [Array.getElem?_eq_none hge] at hg; cases hg

theorem own_mono {w : World} {base base' : Nat} {e : TypeId} {size : Nat} {v : Value} {n : Nat} {xs : List Value} (h : w.ownsRow base e size v n xs) (hb : base' ≤ base) : w.ownsRow base' e size v n xs := by
  refine ⟨h.1, ?_⟩
  rcases h.2 with h2 | ⟨g, cap, cur, h1, h2, h3⟩
  · exact .inl h2
  · exact .inr ⟨g, cap, cur, h1, Nat.le_trans hb h2, h3⟩

/-- From a row that the call owns, one element appended: as the law on append leaves it. -/
theorem pushed {w w1 w2 : World} {B i g : Nat} {l : List Int} {x : Int} {v v2 : Value} (hg : w.grownBy w1 (some g)) (hB : w.heap.size ≤ B) (hB1 : B ≤ w1.heap.size)
    (hv : v.ownBlock = none ∨ ∃ k, v.ownBlock = some k ∧ B ≤ k)
    (h2 : w2.ownsRow B 3 1 v2 (i + 1) (ints l ++ [.int .i64 x])) (hg2 : (w1.alloc (.cells #[.int .i64 x] 3)).grownBy w2 v.ownBlock) :
    ∃ A c, v2 = .slice A (i + 1) c ∧ w2.ownsRow B 3 1 (.slice A (i + 1) c) (i + 1) (ints (l ++ [x])) ∧ w.grownBy w2 (some g) := by
  obtain ⟨g2, c2, rfl, _, _⟩ := own_shape h2
  refine ⟨_, _, rfl, by simpa [ints] using h2, ?_⟩
  refine (World.grownBy.andThen (row' := none) hg (grown_alloc w1 _ none) (by simp)).andThen hg2 ?_
  intro j hj
  rcases hv with hv | ⟨k, hv, hk⟩
  · rw [hv] at hj; cases hj
  · rw [hv] at hj; cases hj; left; omega

/-- The same where nothing below B has changed. -/
theorem pushedB {w w1 w2 : World} {B i : Nat} {l : List Int} {x : Int} {v v2 : Value} (hg : Below w.heap.size w w1) (hB : w.heap.size ≤ B) (hB1 : B ≤ w1.heap.size)
    (hv : v.ownBlock = none ∨ ∃ k, v.ownBlock = some k ∧ B ≤ k)
    (h2 : w2.ownsRow B 3 1 v2 (i + 1) (ints l ++ [.int .i64 x])) (hg2 : (w1.alloc (.cells #[.int .i64 x] 3)).grownBy w2 v.ownBlock) :
    ∃ A c, v2 = .slice A (i + 1) c ∧ w2.ownsRow B 3 1 (.slice A (i + 1) c) (i + 1) (ints (l ++ [x])) ∧ Below w.heap.size w w2 := by
  obtain ⟨g2, c2, rfl, _, _⟩ := own_shape h2
  refine ⟨_, _, rfl, by simpa [ints] using h2, (hg.alloc hg.size _).grown hg2 (by have := hg.size; simp; omega) ?_⟩
  intro k hk
  rcases hv with hv | ⟨k', hv, hk'⟩
  · rw [hv] at hk; cases hk
  · rw [hv] at hk; cases hk; omega

theorem own_blk {w : World} {B n : Nat} {A : Option Addr} {c : Nat} {e : TypeId} {xs : List Value} (h : w.ownsRow B e 1 (.slice A n c) n xs) :
    (Value.slice A n c).ownBlock = none ∨ ∃ k, (Value.slice A n c).ownBlock = some k ∧ B ≤ k := by
  rcases hb : (Value.slice A n c).ownBlock with _ | k
  · exact .inl rfl
  · exact .inr ⟨k, rfl, (h.lt k hb).1⟩

/-- One element more, the new cell in a block of its own: all in one. -/
theorem own_kept_none {w w' : World} {B n : Nat} {v : Value} {e : TypeId} {xs : List Value} (h : w.ownsRow B e 1 v n xs) (hg : w.grownBy w' none) : w'.ownsRow B e 1 v n xs := by
  refine h.kept hg ?_
  rcases v.ownBlock with _ | k
  · exact .inl rfl
  · exact .inr (by simp)

/-- 'pushedB' over whatever bound. -/
theorem pushedC {w w1 w2 : World} {B i : Nat} {l : List Int} {x : Int} {v v2 : Value} (hg : Below B w w1) (hB1 : B ≤ w1.heap.size)
    (hv : v.ownBlock = none ∨ ∃ k, v.ownBlock = some k ∧ B ≤ k)
    (h2 : w2.ownsRow B 3 1 v2 (i + 1) (ints l ++ [.int .i64 x])) (hg2 : (w1.alloc (.cells #[.int .i64 x] 3)).grownBy w2 v.ownBlock) :
    ∃ A c, v2 = .slice A (i + 1) c ∧ w2.ownsRow B 3 1 (.slice A (i + 1) c) (i + 1) (ints (l ++ [x])) ∧ Below B w w2 := by
  obtain ⟨g2, c2, rfl, _, _⟩ := own_shape h2
  refine ⟨_, _, rfl, by simpa [ints] using h2, (hg.alloc hB1 _).grown hg2 (by simp; omega) ?_⟩
  intro k hk
  rcases hv with hv | ⟨k', hv, hk'⟩
  · rw [hv] at hk; cases hk
  · rw [hv] at hk; cases hk; omega

theorem own_ne {w : World} {B n g : Nat} {A : Option Addr} {c : Nat} {e : TypeId} {xs : List Value} (h : w.ownsRow B e 1 (.slice A n c) n xs) (hg : g < B) :
    (Value.slice A n c).ownBlock = none ∨ (Value.slice A n c).ownBlock ≠ some g := by
  rcases hb : (Value.slice A n c).ownBlock with _ | k
  · exact .inl rfl
  · right; have := (h.lt k hb).1; simp; omega

theorem Sl.cellsAt {w : World} {B n b off : Nat} {l : List Int} (h : Sl w B (some ⟨b, off, none⟩) n l) : ∀ j u, (ints l)[j]? = some u → w.cell? ((⟨b, off, none⟩ : Addr).add j) = some u := by
  intro j u hu
  have hl := h.len
  have hj : j < n := by
    rcases Nat.lt_or_ge j n with h1 | h1
    · exact h1
    · rw [List.getElem?_eq_none (by simpa [ints, hl] using h1)] at hu; cases hu
  obtain ⟨b', off', e, _, hc⟩ := h.2.2 (by omega)
  injection e with e
  injection e with e1 e2
  subst e1
  subst e2
  have e3 : (⟨b, off, none⟩ : Addr).add j = ⟨b, off + j, none⟩ := by
    unfold Addr.add
    by_cases h0 : j = 0 <;> simp [h0]
  rw [e3, hc j hj]
  rw [← hu]
  simp [ints, nth, List.getD, show j < l.length from by omega]
theorem Sl.atSome {w : World} {B n b off : Nat} {l : List Int} (h : Sl w B (some ⟨b, off, none⟩) n l) : ∀ (j : Nat) (a : Int), l[j]? = some a → w.cell? ⟨b, off + j, none⟩ = some (.int .i64 a) := by
  intro j a ha
  have hl := h.len
  have hj : j < n := by
    rcases Nat.lt_or_ge j n with h1 | h1
    · exact h1
    · rw [List.getElem?_eq_none (by omega)] at ha; cases ha
  obtain ⟨b', off', e, _, hc⟩ := h.2.2 (by omega)
  injection e with e
  injection e with e1 e2
  subst e1
  subst e2
  rw [hc j hj]
  simp [nth, List.getD, ha]
theorem ints_one (l : List Int) : ∀ u ∈ ints l, u.oneCell' = true := by simp [ints, Value.oneCell']
theorem own_shape1 {W : World} {base : Nat} {e : TypeId} {size : Nat} {v : Value} {m : Nat} {xs : List Value} (h : W.ownsRow base e size v m xs) (hm : 0 < m) : ∃ g cap, v = .slice (some ⟨g, 0, none⟩) m cap ∧ base ≤ g ∧ g < W.heap.size := by
  obtain ⟨k, rfl⟩ : ∃ k, m = k + 1 := ⟨m - 1, by omega⟩
  exact own_shape h

theorem results_tmp4 {fn : Func} {t u v x : Tmp} (h : fn.results = #[.tmp t, .tmp u, .tmp v, .tmp x]) (tmps : Array Value) (P : Program) (w : World) :
    (results fn tmps).run P w = .ok (.tuple #[tmps.getD t undef, tmps.getD u undef, tmps.getD v undef, tmps.getD x undef]) w := by simp [results, h]

end Go.Proofs.YtkejcajboneniabDoor
