/-
  NARROWER THAN 'FOR EVERY INPUT', by the rows' own cells (each row's printed sentence says how): FnExactFireAt: laid · FnExactPartsAfter: laid · FnExactToldAfter: laid · FnFireAt: laid · FnPartsAfter: laid · FnToldAfter: laid.
  DERIVED. THE GIVEN ROWS OF THIS SEAT. 6 by the template 'for every input the law returns true; each argument reads behind the call as it read before'; 0 by the template 'total and deterministic' (their statements: YtannfeiogocpeaaDoorTotals.lean).
  GIVEN WITH THE SEED: the statements are not yours to turn. If you find one false, say at which input.
  Laid BY PROGRAM, IN A SANDBOX (cutbox-rows.mjs): the forced cells as the released guide's own fill.sh prints them over the translation 2e8bce9117213fd4… (all of the seat's roots in one cut). By AI agents, Wed Nov 11 2026. No macro, syntax, notation, axiom, sorry.
-/
import Derived.Test.YtannfeiogocpeaaDoorChecked
import GoSem.Claim
import GoSem.ClaimJoined
import GoSem.ClaimMapViews
import Derived.JoinedTies
import Derived.KernelRfl
namespace Go.Proofs.YtannfeiogocpeaaDoor
/- THE CELL 'sum', in the pinned program and in every row, IS THE sha256 OF THE DUMP (.gsa) THAT YtannfeiogocpeaaDoorProg.lean LOADS. Nothing in Lean hashes anything: it is a label: what it is worth is what the hold of that sum in a sandbox is worth. -/
noncomputable def Tryd.pinned : Pinned := { name := "ytannfeiogocpeaadoor", sum := "2e8bce9117213fd45de6c5b332caaea5d90bce31c903a0621882766b00e7a781", checked := Tryd.checked }
namespace Rows
def none {H : Type} : Left H := { results := [], args := [] }

/- WHAT THE LISTED PACKAGE-LEVEL VARIABLES READ AS WHEN THE CALL BEGINS. Each datum BY PROGRAM (the guide's laid-datum.mjs) off the statement by which the dump's own 'gosem.cut.vars' lays the variable. In a bare row this is a premise. The card (YtannfeiogocpeaaDoorCards.lean) ties it to the program's text. -/
def laid_loop_example_rowmachines_impl_slowForParts {H : Type} : DataW H := .agg [.lit (.int .i64 0), .lit (.int .i64 0), .lit (.int .i64 3), .lit (.int .i64 5), .lit (.int .i64 7), .lit (.int .i64 9)]
def laid_math_bits_deBruijn64tab {H : Type} : DataW H := .agg [.lit (.int .u8 0), .lit (.int .u8 1), .lit (.int .u8 56), .lit (.int .u8 2), .lit (.int .u8 57), .lit (.int .u8 49), .lit (.int .u8 28), .lit (.int .u8 3), .lit (.int .u8 61), .lit (.int .u8 58), .lit (.int .u8 42), .lit (.int .u8 50), .lit (.int .u8 38), .lit (.int .u8 29), .lit (.int .u8 17), .lit (.int .u8 4), .lit (.int .u8 62), .lit (.int .u8 47), .lit (.int .u8 59), .lit (.int .u8 36), .lit (.int .u8 45), .lit (.int .u8 43), .lit (.int .u8 51), .lit (.int .u8 22), .lit (.int .u8 53), .lit (.int .u8 39), .lit (.int .u8 33), .lit (.int .u8 30), .lit (.int .u8 24), .lit (.int .u8 18), .lit (.int .u8 12), .lit (.int .u8 5), .lit (.int .u8 63), .lit (.int .u8 55), .lit (.int .u8 48), .lit (.int .u8 27), .lit (.int .u8 60), .lit (.int .u8 41), .lit (.int .u8 37), .lit (.int .u8 16), .lit (.int .u8 46), .lit (.int .u8 35), .lit (.int .u8 44), .lit (.int .u8 21), .lit (.int .u8 52), .lit (.int .u8 32), .lit (.int .u8 23), .lit (.int .u8 11), .lit (.int .u8 54), .lit (.int .u8 26), .lit (.int .u8 40), .lit (.int .u8 15), .lit (.int .u8 34), .lit (.int .u8 20), .lit (.int .u8 31), .lit (.int .u8 10), .lit (.int .u8 25), .lit (.int .u8 14), .lit (.int .u8 19), .lit (.int .u8 9), .lit (.int .u8 13), .lit (.int .u8 8), .lit (.int .u8 7), .lit (.int .u8 6)]

/-- 'laws.FnExactFireAt': WHATEVER THE INPUT: true; the input reads as it did. -/
def fnExactFireAtSpec : ChangeSpec := { name := "fnExactFireAt", vars := ["loop.example/rowmachines/impl.slowForParts"], fn := fun _ => fun
  | [d, g1] => { results := [.lit (.bool true)], args := [d], vars := [g1] }
  | _ => none }
def fnExactFireAtRow : OpenClaim := { program := "ytannfeiogocpeaadoor", sum := "2e8bce9117213fd45de6c5b332caaea5d90bce31c903a0621882766b00e7a781", func := "loop.example/rowmachines/laws.FnExactFireAt", spec := "fnExactFireAt", unfollowed := true, recurses := true, named := ["loop.example/rowmachines/impl.slowForParts"], apart := false, laid := [("loop.example/rowmachines/impl.slowForParts", laid_loop_example_rowmachines_impl_slowForParts)] }
def FnExactFireAtSaid : Prop := fnExactFireAtRow.holds Tryd.pinned (OpenSpec.ofChange fnExactFireAtSpec)

/-- ITS FALSE NEIGHBOUR: 'it returns false'. Refute it at one input. -/
def fnExactFireAtWrong : ChangeSpec := { name := "fnExactFireAt", vars := ["loop.example/rowmachines/impl.slowForParts"], fn := fun _ => fun
  | [d, g1] => { results := [.lit (.bool false)], args := [d], vars := [g1] }
  | _ => none }
def FnExactFireAtWrongFalsely : Prop := fnExactFireAtRow.holds Tryd.pinned (OpenSpec.ofChange fnExactFireAtWrong)

/-- 'laws.FnExactPartsAfter': WHATEVER THE INPUT: true; the input reads as it did. -/
def fnExactPartsAfterSpec : ChangeSpec := { name := "fnExactPartsAfter", vars := ["loop.example/rowmachines/impl.slowForParts"], fn := fun _ => fun
  | [d1, d2, g1] => { results := [.lit (.bool true)], args := [d1, d2], vars := [g1] }
  | _ => none }
def fnExactPartsAfterRow : OpenClaim := { program := "ytannfeiogocpeaadoor", sum := "2e8bce9117213fd45de6c5b332caaea5d90bce31c903a0621882766b00e7a781", func := "loop.example/rowmachines/laws.FnExactPartsAfter", spec := "fnExactPartsAfter", unfollowed := true, recurses := true, named := ["loop.example/rowmachines/impl.slowForParts"], apart := false, laid := [("loop.example/rowmachines/impl.slowForParts", laid_loop_example_rowmachines_impl_slowForParts)] }
def FnExactPartsAfterSaid : Prop := fnExactPartsAfterRow.holds Tryd.pinned (OpenSpec.ofChange fnExactPartsAfterSpec)

/-- ITS FALSE NEIGHBOUR: 'it returns false'. Refute it at one input. -/
def fnExactPartsAfterWrong : ChangeSpec := { name := "fnExactPartsAfter", vars := ["loop.example/rowmachines/impl.slowForParts"], fn := fun _ => fun
  | [d1, d2, g1] => { results := [.lit (.bool false)], args := [d1, d2], vars := [g1] }
  | _ => none }
def FnExactPartsAfterWrongFalsely : Prop := fnExactPartsAfterRow.holds Tryd.pinned (OpenSpec.ofChange fnExactPartsAfterWrong)

/-- 'laws.FnExactToldAfter': WHATEVER THE INPUT: true; the input reads as it did. -/
def fnExactToldAfterSpec : ChangeSpec := { name := "fnExactToldAfter", vars := ["loop.example/rowmachines/impl.slowForParts"], fn := fun _ => fun
  | [d1, d2, g1] => { results := [.lit (.bool true)], args := [d1, d2], vars := [g1] }
  | _ => none }
def fnExactToldAfterRow : OpenClaim := { program := "ytannfeiogocpeaadoor", sum := "2e8bce9117213fd45de6c5b332caaea5d90bce31c903a0621882766b00e7a781", func := "loop.example/rowmachines/laws.FnExactToldAfter", spec := "fnExactToldAfter", unfollowed := true, recurses := true, named := ["loop.example/rowmachines/impl.slowForParts", "math/bits.deBruijn64tab"], apart := false, laid := [("math/bits.deBruijn64tab", laid_math_bits_deBruijn64tab), ("loop.example/rowmachines/impl.slowForParts", laid_loop_example_rowmachines_impl_slowForParts)] }
def FnExactToldAfterSaid : Prop := fnExactToldAfterRow.holds Tryd.pinned (OpenSpec.ofChange fnExactToldAfterSpec)

/-- ITS FALSE NEIGHBOUR: 'it returns false'. Refute it at one input. -/
def fnExactToldAfterWrong : ChangeSpec := { name := "fnExactToldAfter", vars := ["loop.example/rowmachines/impl.slowForParts"], fn := fun _ => fun
  | [d1, d2, g1] => { results := [.lit (.bool false)], args := [d1, d2], vars := [g1] }
  | _ => none }
def FnExactToldAfterWrongFalsely : Prop := fnExactToldAfterRow.holds Tryd.pinned (OpenSpec.ofChange fnExactToldAfterWrong)

/-- 'laws.FnFireAt': WHATEVER THE INPUT: true; the input reads as it did. -/
def fnFireAtSpec : ChangeSpec := { name := "fnFireAt", vars := ["loop.example/rowmachines/impl.slowForParts"], fn := fun _ => fun
  | [d, g1] => { results := [.lit (.bool true)], args := [d], vars := [g1] }
  | _ => none }
def fnFireAtRow : OpenClaim := { program := "ytannfeiogocpeaadoor", sum := "2e8bce9117213fd45de6c5b332caaea5d90bce31c903a0621882766b00e7a781", func := "loop.example/rowmachines/laws.FnFireAt", spec := "fnFireAt", unfollowed := true, recurses := true, named := ["loop.example/rowmachines/impl.slowForParts"], apart := false, laid := [("loop.example/rowmachines/impl.slowForParts", laid_loop_example_rowmachines_impl_slowForParts)] }
def FnFireAtSaid : Prop := fnFireAtRow.holds Tryd.pinned (OpenSpec.ofChange fnFireAtSpec)

/-- ITS FALSE NEIGHBOUR: 'it returns false'. Refute it at one input. -/
def fnFireAtWrong : ChangeSpec := { name := "fnFireAt", vars := ["loop.example/rowmachines/impl.slowForParts"], fn := fun _ => fun
  | [d, g1] => { results := [.lit (.bool false)], args := [d], vars := [g1] }
  | _ => none }
def FnFireAtWrongFalsely : Prop := fnFireAtRow.holds Tryd.pinned (OpenSpec.ofChange fnFireAtWrong)

/-- 'laws.FnPartsAfter': WHATEVER THE INPUT: true; the input reads as it did. -/
def fnPartsAfterSpec : ChangeSpec := { name := "fnPartsAfter", vars := ["loop.example/rowmachines/impl.slowForParts"], fn := fun _ => fun
  | [d, g1] => { results := [.lit (.bool true)], args := [d], vars := [g1] }
  | _ => none }
def fnPartsAfterRow : OpenClaim := { program := "ytannfeiogocpeaadoor", sum := "2e8bce9117213fd45de6c5b332caaea5d90bce31c903a0621882766b00e7a781", func := "loop.example/rowmachines/laws.FnPartsAfter", spec := "fnPartsAfter", unfollowed := true, recurses := true, named := ["loop.example/rowmachines/impl.slowForParts"], apart := false, laid := [("loop.example/rowmachines/impl.slowForParts", laid_loop_example_rowmachines_impl_slowForParts)] }
def FnPartsAfterSaid : Prop := fnPartsAfterRow.holds Tryd.pinned (OpenSpec.ofChange fnPartsAfterSpec)

/-- ITS FALSE NEIGHBOUR: 'it returns false'. Refute it at one input. -/
def fnPartsAfterWrong : ChangeSpec := { name := "fnPartsAfter", vars := ["loop.example/rowmachines/impl.slowForParts"], fn := fun _ => fun
  | [d, g1] => { results := [.lit (.bool false)], args := [d], vars := [g1] }
  | _ => none }
def FnPartsAfterWrongFalsely : Prop := fnPartsAfterRow.holds Tryd.pinned (OpenSpec.ofChange fnPartsAfterWrong)

/-- 'laws.FnToldAfter': WHATEVER THE INPUT: true; the input reads as it did. -/
def fnToldAfterSpec : ChangeSpec := { name := "fnToldAfter", vars := ["loop.example/rowmachines/impl.slowForParts"], fn := fun _ => fun
  | [d, g1] => { results := [.lit (.bool true)], args := [d], vars := [g1] }
  | _ => none }
def fnToldAfterRow : OpenClaim := { program := "ytannfeiogocpeaadoor", sum := "2e8bce9117213fd45de6c5b332caaea5d90bce31c903a0621882766b00e7a781", func := "loop.example/rowmachines/laws.FnToldAfter", spec := "fnToldAfter", unfollowed := true, recurses := true, named := ["loop.example/rowmachines/impl.slowForParts", "math/bits.deBruijn64tab"], apart := false, laid := [("math/bits.deBruijn64tab", laid_math_bits_deBruijn64tab), ("loop.example/rowmachines/impl.slowForParts", laid_loop_example_rowmachines_impl_slowForParts)] }
def FnToldAfterSaid : Prop := fnToldAfterRow.holds Tryd.pinned (OpenSpec.ofChange fnToldAfterSpec)

/-- ITS FALSE NEIGHBOUR: 'it returns false'. Refute it at one input. -/
def fnToldAfterWrong : ChangeSpec := { name := "fnToldAfter", vars := ["loop.example/rowmachines/impl.slowForParts"], fn := fun _ => fun
  | [d, g1] => { results := [.lit (.bool false)], args := [d], vars := [g1] }
  | _ => none }
def FnToldAfterWrongFalsely : Prop := fnToldAfterRow.holds Tryd.pinned (OpenSpec.ofChange fnToldAfterWrong)

/- THE SECOND FORM. 'bulk': how many values and letters a reading holds, each counted each time it is reached (what is shared counts as often as it is met; a slice's spare places count too). A statement '..UptoSaid' is the law's where the arguments, and the package variables that the reading takes, are together of bulk at most 1048576: NARROWER than '..Said'. Prove '..Said' where nothing that the law and all that it calls make is longer than what came in: it says more and counts as full. Else prove '..UptoSaid'. A law counts once. -/
mutual
def uptoBulk {H : Type} : DataW H → Nat
  | .lit (.string bytes) => bytes.length + 1
  | .lit _ => 1
  | .nil => 1
  | .ptr d => uptoBulk d + 1
  | .slice elems spare => uptoBulkAll elems + uptoBulkAll spare + 1
  | .agg parts => uptoBulkAll parts + 1
  | .iface _ d => uptoBulk d + 1
  | .map entries => uptoBulkEntries entries + 1
  | .held _ => 1
def uptoBulkAll {H : Type} : List (DataW H) → Nat
  | [] => 0
  | d :: r => uptoBulk d + uptoBulkAll r
def uptoBulkEntries {H : Type} : List (Lit × DataW H) → Nat
  | [] => 0
  | x :: r => uptoBulkEntry x + uptoBulkEntries r
def uptoBulkEntry {H : Type} : Lit × DataW H → Nat
  | (.string bytes, d) => bytes.length + uptoBulk d + 1
  | (_, d) => uptoBulk d + 1
 end
def uptoSmall : (H : Type) → List (DataW H) → Bool := fun _ ds => decide (uptoBulkAll ds ≤ 1048576)
def OpenSpec.upto (s : _root_.Go.ChangeSpec) : _root_.Go.OpenSpec := { _root_.Go.OpenSpec.ofChange s with cond := some uptoSmall }

/-- 'laws.FnExactFireAt', WHERE WHAT IT READS IS OF BULK AT MOST 1048576: true; the input reads as it did. -/
def fnExactFireAtUptoRow : OpenClaim := { program := "ytannfeiogocpeaadoor", sum := "2e8bce9117213fd45de6c5b332caaea5d90bce31c903a0621882766b00e7a781", func := "loop.example/rowmachines/laws.FnExactFireAt", spec := "fnExactFireAt", unfollowed := true, recurses := true, named := ["loop.example/rowmachines/impl.slowForParts"], apart := false, laid := [("loop.example/rowmachines/impl.slowForParts", laid_loop_example_rowmachines_impl_slowForParts)], narrowed := true }
def FnExactFireAtUptoSaid : Prop := fnExactFireAtUptoRow.holds Tryd.pinned (OpenSpec.upto fnExactFireAtSpec)

/-- 'laws.FnExactPartsAfter', WHERE WHAT IT READS IS OF BULK AT MOST 1048576: true; the input reads as it did. -/
def fnExactPartsAfterUptoRow : OpenClaim := { program := "ytannfeiogocpeaadoor", sum := "2e8bce9117213fd45de6c5b332caaea5d90bce31c903a0621882766b00e7a781", func := "loop.example/rowmachines/laws.FnExactPartsAfter", spec := "fnExactPartsAfter", unfollowed := true, recurses := true, named := ["loop.example/rowmachines/impl.slowForParts"], apart := false, laid := [("loop.example/rowmachines/impl.slowForParts", laid_loop_example_rowmachines_impl_slowForParts)], narrowed := true }
def FnExactPartsAfterUptoSaid : Prop := fnExactPartsAfterUptoRow.holds Tryd.pinned (OpenSpec.upto fnExactPartsAfterSpec)

/-- 'laws.FnExactToldAfter', WHERE WHAT IT READS IS OF BULK AT MOST 1048576: true; the input reads as it did. -/
def fnExactToldAfterUptoRow : OpenClaim := { program := "ytannfeiogocpeaadoor", sum := "2e8bce9117213fd45de6c5b332caaea5d90bce31c903a0621882766b00e7a781", func := "loop.example/rowmachines/laws.FnExactToldAfter", spec := "fnExactToldAfter", unfollowed := true, recurses := true, named := ["loop.example/rowmachines/impl.slowForParts", "math/bits.deBruijn64tab"], apart := false, laid := [("math/bits.deBruijn64tab", laid_math_bits_deBruijn64tab), ("loop.example/rowmachines/impl.slowForParts", laid_loop_example_rowmachines_impl_slowForParts)], narrowed := true }
def FnExactToldAfterUptoSaid : Prop := fnExactToldAfterUptoRow.holds Tryd.pinned (OpenSpec.upto fnExactToldAfterSpec)

/-- 'laws.FnFireAt', WHERE WHAT IT READS IS OF BULK AT MOST 1048576: true; the input reads as it did. -/
def fnFireAtUptoRow : OpenClaim := { program := "ytannfeiogocpeaadoor", sum := "2e8bce9117213fd45de6c5b332caaea5d90bce31c903a0621882766b00e7a781", func := "loop.example/rowmachines/laws.FnFireAt", spec := "fnFireAt", unfollowed := true, recurses := true, named := ["loop.example/rowmachines/impl.slowForParts"], apart := false, laid := [("loop.example/rowmachines/impl.slowForParts", laid_loop_example_rowmachines_impl_slowForParts)], narrowed := true }
def FnFireAtUptoSaid : Prop := fnFireAtUptoRow.holds Tryd.pinned (OpenSpec.upto fnFireAtSpec)

/-- 'laws.FnPartsAfter', WHERE WHAT IT READS IS OF BULK AT MOST 1048576: true; the input reads as it did. -/
def fnPartsAfterUptoRow : OpenClaim := { program := "ytannfeiogocpeaadoor", sum := "2e8bce9117213fd45de6c5b332caaea5d90bce31c903a0621882766b00e7a781", func := "loop.example/rowmachines/laws.FnPartsAfter", spec := "fnPartsAfter", unfollowed := true, recurses := true, named := ["loop.example/rowmachines/impl.slowForParts"], apart := false, laid := [("loop.example/rowmachines/impl.slowForParts", laid_loop_example_rowmachines_impl_slowForParts)], narrowed := true }
def FnPartsAfterUptoSaid : Prop := fnPartsAfterUptoRow.holds Tryd.pinned (OpenSpec.upto fnPartsAfterSpec)

/-- 'laws.FnToldAfter', WHERE WHAT IT READS IS OF BULK AT MOST 1048576: true; the input reads as it did. -/
def fnToldAfterUptoRow : OpenClaim := { program := "ytannfeiogocpeaadoor", sum := "2e8bce9117213fd45de6c5b332caaea5d90bce31c903a0621882766b00e7a781", func := "loop.example/rowmachines/laws.FnToldAfter", spec := "fnToldAfter", unfollowed := true, recurses := true, named := ["loop.example/rowmachines/impl.slowForParts", "math/bits.deBruijn64tab"], apart := false, laid := [("math/bits.deBruijn64tab", laid_math_bits_deBruijn64tab), ("loop.example/rowmachines/impl.slowForParts", laid_loop_example_rowmachines_impl_slowForParts)], narrowed := true }
def FnToldAfterUptoSaid : Prop := fnToldAfterUptoRow.holds Tryd.pinned (OpenSpec.upto fnToldAfterSpec)

end Rows
end Go.Proofs.YtannfeiogocpeaaDoor
