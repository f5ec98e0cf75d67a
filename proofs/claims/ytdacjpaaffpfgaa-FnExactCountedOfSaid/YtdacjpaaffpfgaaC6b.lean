/-
  Words for counters as values, as two rows that are read, and as two rows of one's own. No function is named, and no statement is proved here.
-/
import Derived.Test.YtdacjpaaffpfgaaC1a
import Derived.Test.YtdacjpaaffpfgaaEx0
import Derived.Test.YtdacjpaaffpfgaaS6
namespace Go.Proofs.Ytdacjpaaffpfgaa
open Go.RowKit
set_option linter.unusedVariables false
set_option linter.unusedSimpArgs false

/-- A counter as a value. -/
abbrev ctr (A : Option Addr) (n c : Nat) (A2 : Option Addr) (n2 c2 : Nat) : Value := .agg #[.slice A n c, .slice A2 n2 c2]
def okB (p : Int × Int) : Bool := within p.1 0 1 && (within p.2 0 1 && !decide (p.1 + p.2 = 2))
/-- What CounterOk tells. -/
def ctrOk (D C : List Int) : Bool := within D.length 1 8 && (decide (C.length = D.length) && (D.zip C).all okB)
theorem okB_iff {p : Int × Int} : okB p = true ↔ okP p := by
  simp only [okB, okP, within, Bool.and_eq_true, decide_eq_true_eq, Bool.not_eq_true', decide_eq_false_iff_not]
  omega
theorem ctrOk_iff {D C : List Int} : ctrOk D C = true ↔ (1 ≤ D.length ∧ D.length ≤ 8) ∧ C.length = D.length ∧ okL (D.zip C) := by
  simp only [ctrOk, Bool.and_eq_true, decide_eq_true_eq, within, List.all_eq_true, okB_iff, okL]
  constructor
  · rintro ⟨⟨h1, h2⟩, h3, h4⟩; exact ⟨by omega, h3, h4⟩
  · rintro ⟨h1, h3, h4⟩; exact ⟨by omega, h3, h4⟩
theorem zip_fst {D C : List Int} (h : C.length = D.length) : (D.zip C).map Prod.fst = D := List.map_fst_zip (by omega)
theorem zip_snd {D C : List Int} (h : C.length = D.length) : (D.zip C).map Prod.snd = C := List.map_snd_zip (by omega)
theorem zip_of (l : Cnt) : (l.map Prod.fst).zip (l.map Prod.snd) = l := by
  induction l with
  | nil => rfl
  | cons p r ih => simp only [List.map_cons, List.zip_cons_cons, ih]
theorem ctrOk_of {l : Cnt} (h1 : 1 ≤ l.length) (h8 : l.length ≤ 8) (h : okL l) : ctrOk (l.map Prod.fst) (l.map Prod.snd) = true := by
  rw [ctrOk_iff]
  exact ⟨by simp; omega, by simp, by rw [zip_of]; exact h⟩
theorem nth_fst {l : Cnt} {k : Nat} (h : k < l.length) : nth (l.map Prod.fst) k = (l[k]).1 := by simp [nth, List.getD, h]
theorem nth_snd {l : Cnt} {k : Nat} (h : k < l.length) : nth (l.map Prod.snd) k = (l[k]).2 := by simp [nth, List.getD, h]

/-- Two rows of one's own that share no memory. -/
structure Ctr (w : World) (B : Nat) (A : Option Addr) (n c : Nat) (A2 : Option Addr) (n2 c2 : Nat) (D C : List Int) : Prop where
  d : w.ownsRow B 3 1 (.slice A n c) n (ints D)
  e : w.ownsRow B 3 1 (.slice A2 n2 c2) n2 (ints C)
  ap : ∀ k, (Value.slice A n c).ownBlock = some k → (Value.slice A2 n2 c2).ownBlock ≠ some k
theorem Ctr.on {w w' : World} {B : Nat} {A A2 : Option Addr} {n c n2 c2 : Nat} {D C : List Int} (h : Ctr w B A n c A2 n2 c2 D C) (hb : Below w.heap.size w w') : Ctr w' B A n c A2 n2 c2 D C := ⟨own_on h.d hb, own_on h.e hb, h.ap⟩
theorem Ctr.mono {w : World} {B B' : Nat} {A A2 : Option Addr} {n c n2 c2 : Nat} {D C : List Int} (h : Ctr w B A n c A2 n2 c2 D C) (hb : B' ≤ B) : Ctr w B' A n c A2 n2 c2 D C := ⟨own_mono h.d hb, own_mono h.e hb, h.ap⟩
theorem Ctr.none (w : World) (B : Nat) : Ctr w B Option.none 0 0 Option.none 0 0 [] [] := ⟨World.ownsRow_nil _ _ _ _, World.ownsRow_nil _ _ _ _, fun k hk => by simp [Value.ownBlock] at hk⟩
theorem Ctr.lenD {w : World} {B : Nat} {A A2 : Option Addr} {n c n2 c2 : Nat} {D C : List Int} (h : Ctr w B A n c A2 n2 c2 D C) : D.length = n := by have := h.d.1; simpa using this
theorem Ctr.lenC {w : World} {B : Nat} {A A2 : Option Addr} {n c n2 c2 : Nat} {D C : List Int} (h : Ctr w B A n c A2 n2 c2 D C) : C.length = n2 := by have := h.e.1; simpa using this
end Go.Proofs.Ytdacjpaaffpfgaa
