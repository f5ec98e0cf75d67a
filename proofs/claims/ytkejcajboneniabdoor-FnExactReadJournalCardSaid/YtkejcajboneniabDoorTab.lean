/-
  The program's tables: what the cells that it reads hold, and that they go on. Where no table is reached, nothing is asked. No statement is proved here.
-/
import Derived.Test.YtkejcajboneniabDoorProg
import Derived.Lib.LaidTab
import Derived.Lib.TrailingZeros
import Derived.Stop.LaidErr
import Derived.WalkKit
import Derived.Below
namespace Go.Proofs.YtkejcajboneniabDoor
open Go.RowKit
set_option linter.unusedVariables false
set_option linter.unusedSimpArgs false

/-- The cells of the tables that are read. -/
structure Tabs (w : World) : Prop where
theorem Tabs.on {w w' : World} (h : Tabs w) (hg : w.grownBy w' none) : Tabs w' :=
  ⟨⟩
theorem Tabs.below {w w' : World} (h : Tabs w) (hb : Below w.heap.size w w') : Tabs w' :=
  ⟨⟩
theorem Tabs.triv (w : World) : Tabs w := ⟨⟩
/-- The library's table of the lowest bits. -/
structure TabsZ (w : World) : Prop where
  z : ∀ j, j < 64 → w.cell? ⟨6, j, none⟩ = some (.int .u8 (Lib.deBruijn64tab.getD j 0))
theorem TabsZ.on {w w' : World} (h : TabsZ w) (hg : w.grownBy w' none) : TabsZ w' := ⟨fun j hj => hg.cell (h.z j hj) (by simp)⟩
theorem TabsZ.lt {w : World} (h : TabsZ w) : 6 < w.heap.size := by
  rcases Nat.lt_or_ge 6 w.heap.size with h' | h'
  · exact h'
  · have := h.z 0 (by decide)
    simp [World.cell?, Array.getElem?_eq_none h'] at this
theorem TabsZ.below {w w' : World} (h : TabsZ w) (hb : Below w.heap.size w w') : TabsZ w' := ⟨fun j hj => (hb.cell h.lt).trans (h.z j hj)⟩
def zTab : List Int := [0, 1, 56, 2, 57, 49, 28, 3, 61, 58, 42, 50, 38, 29, 17, 4, 62, 47, 59, 36, 45, 43, 51, 22, 53, 39, 33, 30, 24, 18, 12, 5, 63, 55, 48, 27, 60, 41, 37, 16, 46, 35, 44, 21, 52, 32, 23, 11, 54, 26, 40, 15, 34, 20, 31, 10, 25, 14, 19, 9, 13, 8, 7, 6]
theorem zTab_at : ∀ j, j < 64 → zTab.getD j 0 = ((Lib.deBruijn64tab.getD j 0 : Nat) : Int) := by decide +kernel
theorem tabZ_name : Tryd.prog.globalNamed "math/bits.deBruijn64tab" = some 6 := by kernel_rfl
theorem tabZ {W : World} {rest : List (String × DataW Unit)} (h : laidMet Tryd.prog (("math/bits.deBruijn64tab", Lib.tabData .u8 zTab) :: rest) W) : Lib.TabIs Tryd.prog W "math/bits.deBruijn64tab" .u8 zTab :=
  Lib.tabIs_of_head tabZ_name (show (Tryd.prog.globals[6]?).map (·.type) = some 115 by kernel_rfl) Tryd.underlying115 Tryd.underlying5 (by kernel_rfl) (by kernel_rfl) h
theorem TabsZ.of {W : World} (h : Lib.TabIs Tryd.prog W "math/bits.deBruijn64tab" .u8 zTab) : TabsZ W := ⟨fun j hj => by rw [← zTab_at j hj]; exact h.cell tabZ_name j hj⟩
/-- Both tables. -/
structure Tabs2 (w : World) : Prop where
  t : Tabs w
  z : TabsZ w
theorem Tabs2.on {w w' : World} (h : Tabs2 w) (hg : w.grownBy w' none) : Tabs2 w' := ⟨h.t.on hg, h.z.on hg⟩
theorem Tabs2.below {w w' : World} (h : Tabs2 w) (hb : Below w.heap.size w w') : Tabs2 w' := ⟨h.t.below hb, h.z.below hb⟩
theorem Tabs2.of {W : World} (h : TabsZ W) (k : Tabs W) : Tabs2 W := ⟨k, h⟩
end Go.Proofs.YtkejcajboneniabDoor
