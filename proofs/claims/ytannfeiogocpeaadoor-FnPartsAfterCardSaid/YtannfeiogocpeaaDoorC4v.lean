/-
  The walk of the program's halved: a row after one round more. No statement is proved here.
-/
import Derived.Test.YtannfeiogocpeaaDoorC4w
import Derived.Test.YtannfeiogocpeaaDoorC3k
import Derived.Test.YtannfeiogocpeaaDoorNest
import Derived.Deep.QuietTactic
import Derived.BigQuiet
import Derived.Deep.RegionWith
import Derived.BigRegion
import Derived.RangeFuncBox
namespace Go.Proofs.YtannfeiogocpeaaDoor
open Go.RowKit
set_option linter.unusedVariables false
set_option linter.unusedSimpArgs false

theorem info_part : (Tryd.prog.info? 56).map (fun i => (i.zero, i.size, i.bytes)) = some (some (.agg #[.int .i64 0, .int .i64 0]), 2, 16) := by kernel_rfl

/-- The cells of a row of parts. -/
def pcells (l : List (Int × Int)) : List Value := l.flatMap fun p => [.int .i64 p.1, .int .i64 p.2]
theorem pcells_len (l : List (Int × Int)) : (pcells l).length = l.length * 2 := by
  induction l with
  | nil => rfl
  | cons a l ih => simp only [pcells, List.flatMap_cons, List.length_append, List.length_cons, List.length_nil] at ih ⊢; omega
theorem pcells_snoc (l l2 : List (Int × Int)) : pcells (l ++ l2) = pcells l ++ pcells l2 := by simp [pcells]
theorem pcells_at {l : List (Int × Int)} : ∀ {j : Nat} (h : j < l.length), (pcells l)[j * 2]? = some (.int .i64 (l[j]).1) ∧ (pcells l)[j * 2 + 1]? = some (.int .i64 (l[j]).2) := by
  induction l with
  | nil => intro j h; simp at h
  | cons a l ih =>
    intro j h
    cases j with
    | zero => simp [pcells]
    | succ j =>
      have := ih (j := j) (by simpa using h)
      simp only [pcells, List.flatMap_cons] at this ⊢
      rw [List.getElem?_append_right (by simp; omega), List.getElem?_append_right (by simp; omega)]
      simp only [List.length_cons, List.length_nil, List.getElem_cons_succ]
      rw [show (j + 1) * 2 - (0 + 1 + 1) = j * 2 from by omega, show (j + 1) * 2 + 1 - (0 + 1 + 1) = j * 2 + 1 from by omega]
      exact this

/-- A slice of parts that reads as ps, below block B. -/
def PS (w : World) (B : Nat) (A : Option Addr) (m : Nat) (ps : List (Int × Int)) : Prop :=
  ps.length = m ∧ m ≤ 64 ∧ (0 < m → ∃ g, A = some ⟨g, 0, none⟩ ∧ g < B ∧ ∀ j (h : j < ps.length), w.cell? ⟨g, j * 2, none⟩ = some (.int .i64 (ps[j]).1) ∧ w.cell? ⟨g, j * 2 + 1, none⟩ = some (.int .i64 (ps[j]).2))
theorem PS.below {w w' : World} {B m : Nat} {A : Option Addr} {ps : List (Int × Int)} (h : PS w B A m ps) (hb : Below B w w') : PS w' B A m ps :=
  ⟨h.1, h.2.1, fun hm => by
    obtain ⟨g, e, hg, hc⟩ := h.2.2 hm
    exact ⟨g, e, hg, fun j hj => ⟨(hb.cell (p := ⟨g, j * 2, none⟩) hg).trans (hc j hj).1, (hb.cell (p := ⟨g, j * 2 + 1, none⟩) hg).trans (hc j hj).2⟩⟩⟩
theorem PS.more {w : World} {B B' m : Nat} {A : Option Addr} {ps : List (Int × Int)} (h : PS w B A m ps) (hB : B ≤ B') : PS w B' A m ps :=
  ⟨h.1, h.2.1, fun hm => by
    obtain ⟨g, e, hg, hc⟩ := h.2.2 hm
    exact ⟨g, e, by omega, hc⟩⟩
theorem PS.of_own {w : World} {base m c : Nat} {A : Option Addr} {ps : List (Int × Int)} {e : TypeId} (h : w.ownsRow base e 2 (.slice A m c) m (pcells ps)) (hm : m ≤ 64) : PS w w.heap.size A m ps := by
  have h1 := h.1
  rw [pcells_len] at h1
  refine ⟨by omega, hm, fun h0 => ?_⟩
  obtain ⟨m', rfl⟩ : ∃ q, m = q + 1 := ⟨m - 1, by omega⟩
  obtain ⟨g, cg, hs, _, hlt⟩ := own_shape h
  injection hs with e1 e2 e3
  subst e1
  exact ⟨g, rfl, hlt, fun j hj => ⟨by rw [h.cellAt _ (by omega)]; exact (pcells_at hj).1, by rw [h.cellAt _ (by omega)]; exact (pcells_at hj).2⟩⟩

theorem with_int (t : Nat) (p : Int) (w : World) (ht : t < 2 ^ 40) (h0 : 0 ≤ p) (hp : p < 40) :
    Calls Tryd.prog 56 #[.int .u64 t, .int .i64 p] w fun e w' => e = .returned (.int .u64 ((t ||| 2 ^ p.toNat : Nat) : Int)) ∧ w = w' := by
  obtain ⟨q, rfl⟩ : ∃ q : Nat, p = q := Int.eq_ofNat_of_zero_le h0
  rw [Int.toNat_natCast]
  exact with_any t q w ht (by omega)

/-- A variable of two cells. -/
def Box2 (W : World) (B : Nat) (t : TypeId) (v u : Value) : Prop := W.heap[B]? = some (.cells #[v, u] t (0, 0))
section
variable {W W' : World} {B : Nat} {t : TypeId} {v u : Value}
theorem Box2.lt (h : Box2 W B t v u) : B < W.heap.size := (Array.getElem?_eq_some_iff.1 h).1
theorem Box2.cell0 (h : Box2 W B t v u) : W.cell? ⟨B, 0, none⟩ = some v := by simp [World.cell?, show W.heap[B]? = _ from h]
theorem Box2.cell1 (h : Box2 W B t v u) : W.cell? ⟨B, 1, none⟩ = some u := by simp [World.cell?, show W.heap[B]? = _ from h]
theorem Box2.frozen (h : Box2 W B t v u) (o : Nat) : W.frozen? ⟨B, o, none⟩ = false := by simp [World.frozen?, show W.heap[B]? = _ from h]
theorem Box2.kept {row : Option Nat} (h : Box2 W B t v u) (hg : W.grownBy W' row) (hne : some B ≠ row) : Box2 W' B t v u := (hg.block B h.lt hne).trans h
theorem Box2.below {n : Nat} (h : Box2 W B t v u) (hb : Below n W W') (hn : B < n) : Box2 W' B t v u := (hb.block B hn).trans h
theorem Box2.put (h : Box2 W B t v u) {l : Nat} (o : Obj) (hne : B ≠ l) : Box2 (W.putObj l o) B t v u := (World.putObj_heap_other hne).trans h
theorem Box2.set0 (h : Box2 W B t v u) (x : Value) : Box2 (W.setCell ⟨B, 0, none⟩ x) B t x u := by
  simpa [Box2] using heap_setCell_same W B 0 #[v, u] (t) x h
theorem Box2.set1 (h : Box2 W B t v u) (x : Value) : Box2 (W.setCell ⟨B, 1, none⟩ x) B t v x := by
  simpa [Box2] using heap_setCell_same W B 1 #[v, u] (t) x h
theorem Box2.other (h : Box2 W B t v u) {b o : Nat} (x : Value) (hne : B ≠ b) : Box2 (W.setCell ⟨b, o, none⟩ x) B t v u := (heap_setCell_other W ⟨b, o, none⟩ _ x (by simpa using hne)).trans h
theorem Box2.new (W : World) (t : TypeId) (v u : Value) : Box2 (W.alloc (.cells #[v, u] t)) W.heap.size t v u := World.alloc_heap_new W _
end
theorem ownS_none {w w' : World} {B s n : Nat} {v : Value} {e : TypeId} {xs : List Value} (h : w.ownsRow B e s v n xs) (hg : w.grownBy w' none) : w'.ownsRow B e s v n xs := by
  refine h.kept hg ?_
  rcases v.ownBlock with _ | k
  · exact .inl rfl
  · exact .inr (by simp)
theorem ownS_on {w w' : World} {B s n : Nat} {v : Value} {e : TypeId} {xs : List Value} (h : w.ownsRow B e s v n xs) (hb : Below w.heap.size w w') : w'.ownsRow B e s v n xs := by
  refine ⟨h.1, ?_⟩
  rcases h.2 with h2 | ⟨g, cap, cur, h1, h2, h3, h4⟩
  · exact .inl h2
  · exact .inr ⟨g, cap, cur, h1, h2, (hb.block g (Array.getElem?_eq_some_iff.1 h3).1).trans h3, h4⟩
theorem ownS_mono {w : World} {B B' s n : Nat} {v : Value} {e : TypeId} {xs : List Value} (h : w.ownsRow B e s v n xs) (hB : B' ≤ B) : w.ownsRow B' e s v n xs := by
  refine ⟨h.1, ?_⟩
  rcases h.2 with h2 | ⟨g, cap, cur, h1, h2, h3⟩
  · exact .inl h2
  · exact .inr ⟨g, cap, cur, h1, by omega, h3⟩
/-- A row of one's own behind a store into another block, or another block's turn. -/
theorem ownS_off {w w' : World} {B s n b : Nat} {v : Value} {e : TypeId} {xs : List Value} (h : w.ownsRow B e s v n xs) (hg : w.grownBy w' (some b)) (hb : b < B) : w'.ownsRow B e s v n xs := by
  refine h.kept hg ?_
  rcases hv : v.ownBlock with _ | k
  · exact .inl rfl
  · exact .inr fun e' => by
      have := (h.lt k hv).1
      injection e' with e'
      omega
theorem grown_set (W : World) (b o : Nat) (v : Value) : W.grownBy (W.setCell ⟨b, o, none⟩ v) (some b) :=
  ⟨rfl, rfl, rfl, (KeepsWalks.setCell W _ v).size, fun k _ hk => Below.heap_setCell _ _ _ k (fun e => hk (by rw [e]))⟩
theorem split_lt {p : Int × Int} (h : p.1 < p.2) : split1 p = [(p.1, p.1 + (p.2 - p.1) / 2), (p.2 - (p.2 - p.1) / 2, p.2)] := by unfold split1; rw [if_neg (by omega)]

/-- What MiddlesOf hands over, both ends of it. -/
theorem middles_ends {w : World} {B m c : Nat} {A : Option Addr} {d : Int} (h : w.ownsRow B 3 1 (.slice A m c) m (ints (middles d))) (h1 : 1 ≤ d) (h2 : d ≤ 40) :
    ∃ g j, A = some ⟨g, 0, none⟩ ∧ m = j + 1 ∧ j ≤ 1 ∧ w.cell? ⟨g, 0, none⟩ = some (.int .i64 (d / 2)) ∧ w.cell? ⟨g, j, none⟩ = some (.int .i64 (d - d / 2)) := by
  have hw : within d 1 40 = true := by simp [within]; omega
  by_cases he : d % 2 = 0
  · have hm : middles d = [d / 2] := by unfold middles; rw [if_pos hw, if_pos he]
    rw [hm] at h
    have hl := h.1
    obtain rfl : m = 1 := by simpa using hl.symm
    obtain ⟨g, cg, hs, _, _⟩ := own_shape h
    injection hs with e1 e2 e3
    subst e1
    have hc := own_cell h rfl (show 0 < 1 by omega)
    rw [show nth [d / 2] 0 = d / 2 from rfl] at hc
    exact ⟨g, 0, rfl, rfl, by omega, hc, by rw [hc]; congr 2; omega⟩
  · have hm : middles d = [d / 2, d / 2 + 1] := by unfold middles; rw [if_pos hw, if_neg he]
    rw [hm] at h
    have hl := h.1
    obtain rfl : m = 2 := by simpa using hl.symm
    obtain ⟨g, cg, hs, _, _⟩ := own_shape h
    injection hs with e1 e2 e3
    subst e1
    have hc := own_cell h rfl (show 0 < 2 by omega)
    have hc1 := own_cell h rfl (show 1 < 2 by omega)
    rw [show nth [d / 2, d / 2 + 1] 0 = d / 2 from rfl] at hc
    rw [show nth [d / 2, d / 2 + 1] 1 = d / 2 + 1 from rfl] at hc1
    exact ⟨g, 1, rfl, rfl, by omega, hc, by rw [hc1]; congr 2; omega⟩
end Go.Proofs.YtannfeiogocpeaaDoor
