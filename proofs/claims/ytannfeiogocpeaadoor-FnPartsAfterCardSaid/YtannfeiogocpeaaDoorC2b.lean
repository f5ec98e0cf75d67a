/-
  Words for signals as values and in memory. No function is named, and no statement is proved here.
-/
import Derived.Test.YtannfeiogocpeaaDoorC1a
import Derived.Test.YtannfeiogocpeaaDoorEx0
import Derived.Test.YtannfeiogocpeaaDoorS2
namespace Go.Proofs.YtannfeiogocpeaaDoor
open Go.RowKit
set_option linter.unusedVariables false
set_option linter.unusedSimpArgs false

/-- A signal as a value. -/
abbrev sig (f e : Int) : Value := .agg #[.int .i64 f, .int .i64 e]
theorem sigOk_within (f e last : Int) : sigOk f e last = (within last 1 40 && (within f 0 last && (within e 1 9 || within e (-9) (-1)))) := rfl

theorem start_bd {f e last : Int} (h : sigOk f e last = true) : 0 ≤ starts f e last ∧ starts f e last ≤ 80 := by
  have h' := sigOk_iff.1 h
  unfold starts
  split <;> omega

/-- Two boxed signals in a later world. -/
structure Two (w wr : World) (f e g d : Int) : Prop where
  a0 : wr.cell? ⟨w.heap.size, 0, none⟩ = some (.int .i64 f)
  a1 : wr.cell? ⟨w.heap.size, 1, none⟩ = some (.int .i64 e)
  b0 : wr.cell? ⟨w.heap.size + 1, 0, none⟩ = some (.int .i64 g)
  b1 : wr.cell? ⟨w.heap.size + 1, 1, none⟩ = some (.int .i64 d)
  hg : w.grownBy wr none
theorem Two.on {w w1 w2 : World} {f e g d : Int} (h : Two w w1 f e g d) (hg : w1.grownBy w2 none) : Two w w2 f e g d :=
  ⟨hg.cell h.a0 (by simp), hg.cell h.a1 (by simp), hg.cell h.b0 (by simp), hg.cell h.b1 (by simp), h.hg.trans hg⟩
theorem drew_grown (w : World) : w.grownBy w.drew none := ⟨rfl, rfl, rfl, Nat.le_refl _, fun _ _ _ => rfl⟩

/-- A boxed signal in a later world. -/
structure One (w wr : World) (f e : Int) : Prop where
  a0 : wr.cell? ⟨w.heap.size, 0, none⟩ = some (.int .i64 f)
  a1 : wr.cell? ⟨w.heap.size, 1, none⟩ = some (.int .i64 e)
  hg : w.grownBy wr none
  hs : w.heap.size + 1 ≤ wr.heap.size
theorem One.on {w w1 w2 : World} {f e : Int} (h : One w w1 f e) (hg : w1.grownBy w2 none) : One w w2 f e :=
  ⟨hg.cell h.a0 (by simp), hg.cell h.a1 (by simp), h.hg.trans hg, Nat.le_trans h.hs hg.size⟩
theorem One.onRow {w w1 w2 : World} {f e : Int} {row : Option Nat} (h : One w w1 f e) (hg : w1.grownBy w2 row) (hr : ∀ k, row = some k → w.heap.size + 1 ≤ k) : One w w2 f e :=
  ⟨hg.cell h.a0 (by intro h'; have := hr w.heap.size h'.symm; omega), hg.cell h.a1 (by intro h'; have := hr w.heap.size h'.symm; omega), h.hg.andThen hg (fun k hk => .inl (by have := hr k hk; omega)), Nat.le_trans h.hs hg.size⟩
theorem below_one {w w1 : World} {f e : Int} (h : One w w1 f e) : Below w.heap.size w w1 := below_grown h.hg
end Go.Proofs.YtannfeiogocpeaaDoor
