/-
  NARROWER THAN 'FOR EVERY INPUT', by the rows' own cells (each row's printed sentence says how): FnPartAt: laid · FnMiddleAt: laid · FnMiddlesOf: laid · FnExactPartAt: laid · FnExactMiddleAt: laid · FnExactMiddlesOf: laid.
  DERIVED. THE GIVEN ROWS OF THIS SEAT. 6 by the template 'for every input the law returns true; each argument reads behind the call as it read before'; 0 by the template 'total and deterministic' (their statements: YtempgjbbgkacjaaDoorTotals.lean).
  GIVEN WITH THE SEED: the statements are not yours to turn. If you find one false, say at which input.
  Laid BY PROGRAM, IN A SANDBOX (cutbox-rows.mjs): the forced cells as the released guide's own fill.sh prints them over the translation c5b82d8ed234704b… (all of the seat's roots in one cut). By AI agents, Wed Nov 11 2026. No macro, syntax, notation, axiom, sorry.
-/
import Derived.Test.YtempgjbbgkacjaaDoorChecked
import GoSem.Claim
import GoSem.ClaimJoined
import GoSem.ClaimMapViews
import Derived.JoinedTies
import Derived.KernelRfl
namespace Go.Proofs.YtempgjbbgkacjaaDoor
/- THE CELL 'sum', in the pinned program and in every row, IS THE sha256 OF THE DUMP (.gsa) THAT YtempgjbbgkacjaaDoorProg.lean LOADS. Nothing in Lean hashes anything: it is a label: what it is worth is what the hold of that sum in a sandbox is worth. -/
noncomputable def Tryd.pinned : Pinned := { name := "ytempgjbbgkacjaadoor", sum := "c5b82d8ed234704be161e888970fc9e00a8aceb4ca768e00775638506f2631c2", checked := Tryd.checked }
namespace Rows
def none {H : Type} : Left H := { results := [], args := [] }

/- WHAT THE LISTED PACKAGE-LEVEL VARIABLES READ AS WHEN THE CALL BEGINS. Each datum BY PROGRAM (the guide's laid-datum.mjs) off the statement by which the dump's own 'gosem.cut.vars' lays the variable. In a bare row this is a premise. The card (YtempgjbbgkacjaaDoorCards.lean) ties it to the program's text. -/
def laid_loop_example_rowmachines_impl_slowForParts {H : Type} : DataW H := .agg [.lit (.int .i64 0), .lit (.int .i64 0), .lit (.int .i64 3), .lit (.int .i64 5), .lit (.int .i64 7), .lit (.int .i64 9)]

/-- 'laws.FnPartAt': WHATEVER THE INPUT: true; the input reads as it did. -/
def fnPartAtSpec : ChangeSpec := { name := "fnPartAt", vars := ["loop.example/rowmachines/impl.slowForParts"], fn := fun _ => fun
  | [d, g1] => { results := [.lit (.bool true)], args := [d], vars := [g1] }
  | _ => none }
def fnPartAtRow : OpenClaim := { program := "ytempgjbbgkacjaadoor", sum := "c5b82d8ed234704be161e888970fc9e00a8aceb4ca768e00775638506f2631c2", func := "loop.example/rowmachines/laws.FnPartAt", spec := "fnPartAt", unfollowed := true, recurses := true, named := ["loop.example/rowmachines/impl.slowForParts"], apart := false, laid := [("loop.example/rowmachines/impl.slowForParts", laid_loop_example_rowmachines_impl_slowForParts)] }
def FnPartAtSaid : Prop := fnPartAtRow.holds Tryd.pinned (OpenSpec.ofChange fnPartAtSpec)

/-- ITS FALSE NEIGHBOUR: 'it returns false'. Refute it at one input. -/
def fnPartAtWrong : ChangeSpec := { name := "fnPartAt", vars := ["loop.example/rowmachines/impl.slowForParts"], fn := fun _ => fun
  | [d, g1] => { results := [.lit (.bool false)], args := [d], vars := [g1] }
  | _ => none }
def FnPartAtWrongFalsely : Prop := fnPartAtRow.holds Tryd.pinned (OpenSpec.ofChange fnPartAtWrong)

/-- 'laws.FnMiddleAt': WHATEVER THE INPUT: true; the input reads as it did. -/
def fnMiddleAtSpec : ChangeSpec := { name := "fnMiddleAt", vars := ["loop.example/rowmachines/impl.slowForParts"], fn := fun _ => fun
  | [d, g1] => { results := [.lit (.bool true)], args := [d], vars := [g1] }
  | _ => none }
def fnMiddleAtRow : OpenClaim := { program := "ytempgjbbgkacjaadoor", sum := "c5b82d8ed234704be161e888970fc9e00a8aceb4ca768e00775638506f2631c2", func := "loop.example/rowmachines/laws.FnMiddleAt", spec := "fnMiddleAt", unfollowed := true, recurses := true, named := ["loop.example/rowmachines/impl.slowForParts"], apart := false, laid := [("loop.example/rowmachines/impl.slowForParts", laid_loop_example_rowmachines_impl_slowForParts)] }
def FnMiddleAtSaid : Prop := fnMiddleAtRow.holds Tryd.pinned (OpenSpec.ofChange fnMiddleAtSpec)

/-- ITS FALSE NEIGHBOUR: 'it returns false'. Refute it at one input. -/
def fnMiddleAtWrong : ChangeSpec := { name := "fnMiddleAt", vars := ["loop.example/rowmachines/impl.slowForParts"], fn := fun _ => fun
  | [d, g1] => { results := [.lit (.bool false)], args := [d], vars := [g1] }
  | _ => none }
def FnMiddleAtWrongFalsely : Prop := fnMiddleAtRow.holds Tryd.pinned (OpenSpec.ofChange fnMiddleAtWrong)

/-- 'laws.FnMiddlesOf': WHATEVER THE INPUT: true; the input reads as it did. -/
def fnMiddlesOfSpec : ChangeSpec := { name := "fnMiddlesOf", vars := ["loop.example/rowmachines/impl.slowForParts"], fn := fun _ => fun
  | [d, g1] => { results := [.lit (.bool true)], args := [d], vars := [g1] }
  | _ => none }
def fnMiddlesOfRow : OpenClaim := { program := "ytempgjbbgkacjaadoor", sum := "c5b82d8ed234704be161e888970fc9e00a8aceb4ca768e00775638506f2631c2", func := "loop.example/rowmachines/laws.FnMiddlesOf", spec := "fnMiddlesOf", unfollowed := true, recurses := true, named := ["loop.example/rowmachines/impl.slowForParts"], apart := false, laid := [("loop.example/rowmachines/impl.slowForParts", laid_loop_example_rowmachines_impl_slowForParts)] }
def FnMiddlesOfSaid : Prop := fnMiddlesOfRow.holds Tryd.pinned (OpenSpec.ofChange fnMiddlesOfSpec)

/-- ITS FALSE NEIGHBOUR: 'it returns false'. Refute it at one input. -/
def fnMiddlesOfWrong : ChangeSpec := { name := "fnMiddlesOf", vars := ["loop.example/rowmachines/impl.slowForParts"], fn := fun _ => fun
  | [d, g1] => { results := [.lit (.bool false)], args := [d], vars := [g1] }
  | _ => none }
def FnMiddlesOfWrongFalsely : Prop := fnMiddlesOfRow.holds Tryd.pinned (OpenSpec.ofChange fnMiddlesOfWrong)

/-- 'laws.FnExactPartAt': WHATEVER THE INPUT: true; the input reads as it did. -/
def fnExactPartAtSpec : ChangeSpec := { name := "fnExactPartAt", vars := ["loop.example/rowmachines/impl.slowForParts"], fn := fun _ => fun
  | [d1, d2, g1] => { results := [.lit (.bool true)], args := [d1, d2], vars := [g1] }
  | _ => none }
def fnExactPartAtRow : OpenClaim := { program := "ytempgjbbgkacjaadoor", sum := "c5b82d8ed234704be161e888970fc9e00a8aceb4ca768e00775638506f2631c2", func := "loop.example/rowmachines/laws.FnExactPartAt", spec := "fnExactPartAt", unfollowed := true, recurses := true, named := ["loop.example/rowmachines/impl.slowForParts"], apart := false, laid := [("loop.example/rowmachines/impl.slowForParts", laid_loop_example_rowmachines_impl_slowForParts)] }
def FnExactPartAtSaid : Prop := fnExactPartAtRow.holds Tryd.pinned (OpenSpec.ofChange fnExactPartAtSpec)

/-- ITS FALSE NEIGHBOUR: 'it returns false'. Refute it at one input. -/
def fnExactPartAtWrong : ChangeSpec := { name := "fnExactPartAt", vars := ["loop.example/rowmachines/impl.slowForParts"], fn := fun _ => fun
  | [d1, d2, g1] => { results := [.lit (.bool false)], args := [d1, d2], vars := [g1] }
  | _ => none }
def FnExactPartAtWrongFalsely : Prop := fnExactPartAtRow.holds Tryd.pinned (OpenSpec.ofChange fnExactPartAtWrong)

/-- 'laws.FnExactMiddleAt': WHATEVER THE INPUT: true; the input reads as it did. -/
def fnExactMiddleAtSpec : ChangeSpec := { name := "fnExactMiddleAt", vars := ["loop.example/rowmachines/impl.slowForParts"], fn := fun _ => fun
  | [d, g1] => { results := [.lit (.bool true)], args := [d], vars := [g1] }
  | _ => none }
def fnExactMiddleAtRow : OpenClaim := { program := "ytempgjbbgkacjaadoor", sum := "c5b82d8ed234704be161e888970fc9e00a8aceb4ca768e00775638506f2631c2", func := "loop.example/rowmachines/laws.FnExactMiddleAt", spec := "fnExactMiddleAt", unfollowed := true, recurses := true, named := ["loop.example/rowmachines/impl.slowForParts"], apart := false, laid := [("loop.example/rowmachines/impl.slowForParts", laid_loop_example_rowmachines_impl_slowForParts)] }
def FnExactMiddleAtSaid : Prop := fnExactMiddleAtRow.holds Tryd.pinned (OpenSpec.ofChange fnExactMiddleAtSpec)

/-- ITS FALSE NEIGHBOUR: 'it returns false'. Refute it at one input. -/
def fnExactMiddleAtWrong : ChangeSpec := { name := "fnExactMiddleAt", vars := ["loop.example/rowmachines/impl.slowForParts"], fn := fun _ => fun
  | [d, g1] => { results := [.lit (.bool false)], args := [d], vars := [g1] }
  | _ => none }
def FnExactMiddleAtWrongFalsely : Prop := fnExactMiddleAtRow.holds Tryd.pinned (OpenSpec.ofChange fnExactMiddleAtWrong)

/-- 'laws.FnExactMiddlesOf': WHATEVER THE INPUT: true; the input reads as it did. -/
def fnExactMiddlesOfSpec : ChangeSpec := { name := "fnExactMiddlesOf", vars := ["loop.example/rowmachines/impl.slowForParts"], fn := fun _ => fun
  | [d, g1] => { results := [.lit (.bool true)], args := [d], vars := [g1] }
  | _ => none }
def fnExactMiddlesOfRow : OpenClaim := { program := "ytempgjbbgkacjaadoor", sum := "c5b82d8ed234704be161e888970fc9e00a8aceb4ca768e00775638506f2631c2", func := "loop.example/rowmachines/laws.FnExactMiddlesOf", spec := "fnExactMiddlesOf", unfollowed := true, recurses := true, named := ["loop.example/rowmachines/impl.slowForParts"], apart := false, laid := [("loop.example/rowmachines/impl.slowForParts", laid_loop_example_rowmachines_impl_slowForParts)] }
def FnExactMiddlesOfSaid : Prop := fnExactMiddlesOfRow.holds Tryd.pinned (OpenSpec.ofChange fnExactMiddlesOfSpec)

/-- ITS FALSE NEIGHBOUR: 'it returns false'. Refute it at one input. -/
def fnExactMiddlesOfWrong : ChangeSpec := { name := "fnExactMiddlesOf", vars := ["loop.example/rowmachines/impl.slowForParts"], fn := fun _ => fun
  | [d, g1] => { results := [.lit (.bool false)], args := [d], vars := [g1] }
  | _ => none }
def FnExactMiddlesOfWrongFalsely : Prop := fnExactMiddlesOfRow.holds Tryd.pinned (OpenSpec.ofChange fnExactMiddlesOfWrong)

/- THE SECOND FORM. 'bulk': how many values and letters a reading holds, each counted each time it is reached (what is shared counts as often as it is met; a slice's spare places count too). A statement '..UptoSaid' is the law's where the arguments, and the package variables that the reading takes, are together of bulk at most 1048576: NARROWER than '..Said'. Prove '..Said' where nothing that the law and all that it calls make is longer than what came in: it says more and counts as full. Else prove '..UptoSaid'. A law counts once. -/
mutual
def uptoBulk {H : Type} : DataW H → Nat
  | .lit (.string bytes) => bytes.length + 1
  | .lit _ => 1
  | .nil => 1
  | .ptr d => uptoBulk d + 1
  | .slice elems spare => uptoBulkAll elems + uptoBulkAll spare + 1
  | .agg parts => uptoBulkAll parts + 1
  | .iface _ d => uptoBulk d + 1
  | .map entries => uptoBulkEntries entries + 1
  | .held _ => 1
def uptoBulkAll {H : Type} : List (DataW H) → Nat
  | [] => 0
  | d :: r => uptoBulk d + uptoBulkAll r
def uptoBulkEntries {H : Type} : List (Lit × DataW H) → Nat
  | [] => 0
  | x :: r => uptoBulkEntry x + uptoBulkEntries r
def uptoBulkEntry {H : Type} : Lit × DataW H → Nat
  | (.string bytes, d) => bytes.length + uptoBulk d + 1
  | (_, d) => uptoBulk d + 1
 end
def uptoSmall : (H : Type) → List (DataW H) → Bool := fun _ ds => decide (uptoBulkAll ds ≤ 1048576)
def OpenSpec.upto (s : _root_.Go.ChangeSpec) : _root_.Go.OpenSpec := { _root_.Go.OpenSpec.ofChange s with cond := some uptoSmall }

/-- 'laws.FnPartAt', WHERE WHAT IT READS IS OF BULK AT MOST 1048576: true; the input reads as it did. -/
def fnPartAtUptoRow : OpenClaim := { program := "ytempgjbbgkacjaadoor", sum := "c5b82d8ed234704be161e888970fc9e00a8aceb4ca768e00775638506f2631c2", func := "loop.example/rowmachines/laws.FnPartAt", spec := "fnPartAt", unfollowed := true, recurses := true, named := ["loop.example/rowmachines/impl.slowForParts"], apart := false, laid := [("loop.example/rowmachines/impl.slowForParts", laid_loop_example_rowmachines_impl_slowForParts)], narrowed := true }
def FnPartAtUptoSaid : Prop := fnPartAtUptoRow.holds Tryd.pinned (OpenSpec.upto fnPartAtSpec)

/-- 'laws.FnMiddleAt', WHERE WHAT IT READS IS OF BULK AT MOST 1048576: true; the input reads as it did. -/
def fnMiddleAtUptoRow : OpenClaim := { program := "ytempgjbbgkacjaadoor", sum := "c5b82d8ed234704be161e888970fc9e00a8aceb4ca768e00775638506f2631c2", func := "loop.example/rowmachines/laws.FnMiddleAt", spec := "fnMiddleAt", unfollowed := true, recurses := true, named := ["loop.example/rowmachines/impl.slowForParts"], apart := false, laid := [("loop.example/rowmachines/impl.slowForParts", laid_loop_example_rowmachines_impl_slowForParts)], narrowed := true }
def FnMiddleAtUptoSaid : Prop := fnMiddleAtUptoRow.holds Tryd.pinned (OpenSpec.upto fnMiddleAtSpec)

/-- 'laws.FnMiddlesOf', WHERE WHAT IT READS IS OF BULK AT MOST 1048576: true; the input reads as it did. -/
def fnMiddlesOfUptoRow : OpenClaim := { program := "ytempgjbbgkacjaadoor", sum := "c5b82d8ed234704be161e888970fc9e00a8aceb4ca768e00775638506f2631c2", func := "loop.example/rowmachines/laws.FnMiddlesOf", spec := "fnMiddlesOf", unfollowed := true, recurses := true, named := ["loop.example/rowmachines/impl.slowForParts"], apart := false, laid := [("loop.example/rowmachines/impl.slowForParts", laid_loop_example_rowmachines_impl_slowForParts)], narrowed := true }
def FnMiddlesOfUptoSaid : Prop := fnMiddlesOfUptoRow.holds Tryd.pinned (OpenSpec.upto fnMiddlesOfSpec)

/-- 'laws.FnExactPartAt', WHERE WHAT IT READS IS OF BULK AT MOST 1048576: true; the input reads as it did. -/
def fnExactPartAtUptoRow : OpenClaim := { program := "ytempgjbbgkacjaadoor", sum := "c5b82d8ed234704be161e888970fc9e00a8aceb4ca768e00775638506f2631c2", func := "loop.example/rowmachines/laws.FnExactPartAt", spec := "fnExactPartAt", unfollowed := true, recurses := true, named := ["loop.example/rowmachines/impl.slowForParts"], apart := false, laid := [("loop.example/rowmachines/impl.slowForParts", laid_loop_example_rowmachines_impl_slowForParts)], narrowed := true }
def FnExactPartAtUptoSaid : Prop := fnExactPartAtUptoRow.holds Tryd.pinned (OpenSpec.upto fnExactPartAtSpec)

/-- 'laws.FnExactMiddleAt', WHERE WHAT IT READS IS OF BULK AT MOST 1048576: true; the input reads as it did. -/
def fnExactMiddleAtUptoRow : OpenClaim := { program := "ytempgjbbgkacjaadoor", sum := "c5b82d8ed234704be161e888970fc9e00a8aceb4ca768e00775638506f2631c2", func := "loop.example/rowmachines/laws.FnExactMiddleAt", spec := "fnExactMiddleAt", unfollowed := true, recurses := true, named := ["loop.example/rowmachines/impl.slowForParts"], apart := false, laid := [("loop.example/rowmachines/impl.slowForParts", laid_loop_example_rowmachines_impl_slowForParts)], narrowed := true }
def FnExactMiddleAtUptoSaid : Prop := fnExactMiddleAtUptoRow.holds Tryd.pinned (OpenSpec.upto fnExactMiddleAtSpec)

/-- 'laws.FnExactMiddlesOf', WHERE WHAT IT READS IS OF BULK AT MOST 1048576: true; the input reads as it did. -/
def fnExactMiddlesOfUptoRow : OpenClaim := { program := "ytempgjbbgkacjaadoor", sum := "c5b82d8ed234704be161e888970fc9e00a8aceb4ca768e00775638506f2631c2", func := "loop.example/rowmachines/laws.FnExactMiddlesOf", spec := "fnExactMiddlesOf", unfollowed := true, recurses := true, named := ["loop.example/rowmachines/impl.slowForParts"], apart := false, laid := [("loop.example/rowmachines/impl.slowForParts", laid_loop_example_rowmachines_impl_slowForParts)], narrowed := true }
def FnExactMiddlesOfUptoSaid : Prop := fnExactMiddlesOfUptoRow.holds Tryd.pinned (OpenSpec.upto fnExactMiddlesOfSpec)

end Rows
end Go.Proofs.YtempgjbbgkacjaaDoor
