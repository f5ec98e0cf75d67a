/-
  The program's tables: what the cells that it reads hold, and that they go on. Where no table is reached, nothing is asked. No statement is proved here.
-/
import Derived.Test.YtannfeiogocpeaaDoorProg
import Derived.Lib.LaidTab
import Derived.WalkKit
import Derived.Below
namespace Go.Proofs.YtannfeiogocpeaaDoor
open Go.RowKit
set_option linter.unusedVariables false
set_option linter.unusedSimpArgs false

/-- The cells of the tables that are read. -/
structure Tabs (w : World) : Prop where
  c2 : w.cell? ⟨0, 2, none⟩ = some (.int .i64 3)
  c3 : w.cell? ⟨0, 3, none⟩ = some (.int .i64 5)
  c4 : w.cell? ⟨0, 4, none⟩ = some (.int .i64 7)
  c5 : w.cell? ⟨0, 5, none⟩ = some (.int .i64 9)
theorem Tabs.on {w w' : World} (h : Tabs w) (hg : w.grownBy w' none) : Tabs w' :=
  ⟨hg.cell h.c2 (by simp), hg.cell h.c3 (by simp), hg.cell h.c4 (by simp), hg.cell h.c5 (by simp)⟩
theorem Tabs.lt {w : World} (h : Tabs w) : 0 < w.heap.size := by
  rcases Nat.lt_or_ge 0 w.heap.size with h' | h'
  · exact h'
  · have := h.c2
    simp [World.cell?, Array.getElem?_eq_none h'] at this
theorem Tabs.below {w w' : World} (h : Tabs w) (hb : Below w.heap.size w w') : Tabs w' :=
  ⟨(hb.cell h.lt).trans h.c2, (hb.cell h.lt).trans h.c3, (hb.cell h.lt).trans h.c4, (hb.cell h.lt).trans h.c5⟩
theorem tab0_name : Tryd.prog.globalNamed "loop.example/rowmachines/impl.slowForParts" = some 0 := by kernel_rfl
theorem tab0 {W : World} {rest : List (String × DataW Unit)} (h : laidMet Tryd.prog (("loop.example/rowmachines/impl.slowForParts", Lib.tabData .i64 [0, 0, 3, 5, 7, 9]) :: rest) W) : Lib.TabIs Tryd.prog W "loop.example/rowmachines/impl.slowForParts" .i64 [0, 0, 3, 5, 7, 9] :=
  Lib.tabIs_of_head tab0_name (show (Tryd.prog.globals[0]?).map (·.type) = some 72 by kernel_rfl) Tryd.underlying72 Tryd.underlying3 (by kernel_rfl) (by kernel_rfl) h
theorem Tabs.of {W : World} (h : Lib.TabIs Tryd.prog W "loop.example/rowmachines/impl.slowForParts" .i64 [0, 0, 3, 5, 7, 9]) : Tabs W :=
  ⟨h.cell tab0_name 2 (by decide), h.cell tab0_name 3 (by decide), h.cell tab0_name 4 (by decide), h.cell tab0_name 5 (by decide)⟩
end Go.Proofs.YtannfeiogocpeaaDoor
