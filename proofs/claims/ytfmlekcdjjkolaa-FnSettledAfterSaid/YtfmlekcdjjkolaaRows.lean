/-
  No cell of these rows narrows 'for every input' (looked for: loops, veiled, ifaces, maps, wideKeys, modest, calm, conditions, laid).
  DERIVED. THE GIVEN ROWS OF THIS SEAT. 9 by the template 'for every input the law returns true; each argument reads behind the call as it read before'; 0 by the template 'total and deterministic' (their statements: YtfmlekcdjjkolaaTotals.lean).
  GIVEN WITH THE SEED: the statements are not yours to turn. If you find one false, say at which input.
  Laid BY PROGRAM, IN A SANDBOX (cutbox-rows.mjs): the forced cells as the released guide's own fill.sh prints them over the translation 827ba33ee769cfda… (all of the seat's roots in one cut). By AI agents, Wed Nov 11 2026. No macro, syntax, notation, axiom, sorry.
-/
import Derived.Test.YtfmlekcdjjkolaaChecked
import GoSem.Claim
import GoSem.ClaimJoined
import GoSem.ClaimMapViews
import Derived.JoinedTies
import Derived.KernelRfl
namespace Go.Proofs.Ytfmlekcdjjkolaa
/- THE CELL 'sum', in the pinned program and in every row, IS THE sha256 OF THE DUMP (.gsa) THAT YtfmlekcdjjkolaaProg.lean LOADS. Nothing in Lean hashes anything: it is a label: what it is worth is what the hold of that sum in a sandbox is worth. -/
noncomputable def Try.pinned : Pinned := { name := "ytfmlekcdjjkolaa", sum := "827ba33ee769cfda4b9e901830446fac50e87e6f23f41976df1cf94d66025cdd", checked := Try.checked }
namespace Rows
def none {H : Type} : Left H := { results := [], args := [] }

/-- 'laws.FnVotesOk': WHATEVER THE INPUT: true; the input reads as it did. -/
def fnVotesOkSpec : ChangeSpec := { name := "fnVotesOk", fn := fun _ => fun
  | [d] => { results := [.lit (.bool true)], args := [d] }
  | _ => none }
def fnVotesOkRow : OpenClaim := { program := "ytfmlekcdjjkolaa", sum := "827ba33ee769cfda4b9e901830446fac50e87e6f23f41976df1cf94d66025cdd", func := "loop.example/rowmachines/laws.FnVotesOk", spec := "fnVotesOk", apart := false }
def FnVotesOkSaid : Prop := fnVotesOkRow.holds Try.pinned (OpenSpec.ofChange fnVotesOkSpec)

/-- ITS FALSE NEIGHBOUR: 'it returns false'. Refute it at one input. -/
def fnVotesOkWrong : ChangeSpec := { name := "fnVotesOk", fn := fun _ => fun
  | [d] => { results := [.lit (.bool false)], args := [d] }
  | _ => none }
def FnVotesOkWrongFalsely : Prop := fnVotesOkRow.holds Try.pinned (OpenSpec.ofChange fnVotesOkWrong)

/-- 'laws.FnVotedAfter': WHATEVER THE INPUT: true; the input reads as it did. -/
def fnVotedAfterSpec : ChangeSpec := { name := "fnVotedAfter", fn := fun _ => fun
  | [d] => { results := [.lit (.bool true)], args := [d] }
  | _ => none }
def fnVotedAfterRow : OpenClaim := { program := "ytfmlekcdjjkolaa", sum := "827ba33ee769cfda4b9e901830446fac50e87e6f23f41976df1cf94d66025cdd", func := "loop.example/rowmachines/laws.FnVotedAfter", spec := "fnVotedAfter", apart := false }
def FnVotedAfterSaid : Prop := fnVotedAfterRow.holds Try.pinned (OpenSpec.ofChange fnVotedAfterSpec)

/-- ITS FALSE NEIGHBOUR: 'it returns false'. Refute it at one input. -/
def fnVotedAfterWrong : ChangeSpec := { name := "fnVotedAfter", fn := fun _ => fun
  | [d] => { results := [.lit (.bool false)], args := [d] }
  | _ => none }
def FnVotedAfterWrongFalsely : Prop := fnVotedAfterRow.holds Try.pinned (OpenSpec.ofChange fnVotedAfterWrong)

/-- 'laws.FnSettledAfter': WHATEVER THE INPUT: true; the input reads as it did. -/
def fnSettledAfterSpec : ChangeSpec := { name := "fnSettledAfter", fn := fun _ => fun
  | [d] => { results := [.lit (.bool true)], args := [d] }
  | _ => none }
def fnSettledAfterRow : OpenClaim := { program := "ytfmlekcdjjkolaa", sum := "827ba33ee769cfda4b9e901830446fac50e87e6f23f41976df1cf94d66025cdd", func := "loop.example/rowmachines/laws.FnSettledAfter", spec := "fnSettledAfter", apart := false }
def FnSettledAfterSaid : Prop := fnSettledAfterRow.holds Try.pinned (OpenSpec.ofChange fnSettledAfterSpec)

/-- ITS FALSE NEIGHBOUR: 'it returns false'. Refute it at one input. -/
def fnSettledAfterWrong : ChangeSpec := { name := "fnSettledAfter", fn := fun _ => fun
  | [d] => { results := [.lit (.bool false)], args := [d] }
  | _ => none }
def FnSettledAfterWrongFalsely : Prop := fnSettledAfterRow.holds Try.pinned (OpenSpec.ofChange fnSettledAfterWrong)

/-- 'laws.FnOpposedOf': WHATEVER THE INPUT: true; the input reads as it did. -/
def fnOpposedOfSpec : ChangeSpec := { name := "fnOpposedOf", fn := fun _ => fun
  | [d] => { results := [.lit (.bool true)], args := [d] }
  | _ => none }
def fnOpposedOfRow : OpenClaim := { program := "ytfmlekcdjjkolaa", sum := "827ba33ee769cfda4b9e901830446fac50e87e6f23f41976df1cf94d66025cdd", func := "loop.example/rowmachines/laws.FnOpposedOf", spec := "fnOpposedOf", apart := false }
def FnOpposedOfSaid : Prop := fnOpposedOfRow.holds Try.pinned (OpenSpec.ofChange fnOpposedOfSpec)

/-- ITS FALSE NEIGHBOUR: 'it returns false'. Refute it at one input. -/
def fnOpposedOfWrong : ChangeSpec := { name := "fnOpposedOf", fn := fun _ => fun
  | [d] => { results := [.lit (.bool false)], args := [d] }
  | _ => none }
def FnOpposedOfWrongFalsely : Prop := fnOpposedOfRow.holds Try.pinned (OpenSpec.ofChange fnOpposedOfWrong)

/-- 'laws.FnExactVotesOk': WHATEVER THE INPUT: true; the input reads as it did. -/
def fnExactVotesOkSpec : ChangeSpec := { name := "fnExactVotesOk", fn := fun _ => fun
  | [d] => { results := [.lit (.bool true)], args := [d] }
  | _ => none }
def fnExactVotesOkRow : OpenClaim := { program := "ytfmlekcdjjkolaa", sum := "827ba33ee769cfda4b9e901830446fac50e87e6f23f41976df1cf94d66025cdd", func := "loop.example/rowmachines/laws.FnExactVotesOk", spec := "fnExactVotesOk", apart := false }
def FnExactVotesOkSaid : Prop := fnExactVotesOkRow.holds Try.pinned (OpenSpec.ofChange fnExactVotesOkSpec)

/-- ITS FALSE NEIGHBOUR: 'it returns false'. Refute it at one input. -/
def fnExactVotesOkWrong : ChangeSpec := { name := "fnExactVotesOk", fn := fun _ => fun
  | [d] => { results := [.lit (.bool false)], args := [d] }
  | _ => none }
def FnExactVotesOkWrongFalsely : Prop := fnExactVotesOkRow.holds Try.pinned (OpenSpec.ofChange fnExactVotesOkWrong)

/-- 'laws.FnExactVotedOf': WHATEVER THE INPUT: true; the input reads as it did. -/
def fnExactVotedOfSpec : ChangeSpec := { name := "fnExactVotedOf", fn := fun _ => fun
  | [d] => { results := [.lit (.bool true)], args := [d] }
  | _ => none }
def fnExactVotedOfRow : OpenClaim := { program := "ytfmlekcdjjkolaa", sum := "827ba33ee769cfda4b9e901830446fac50e87e6f23f41976df1cf94d66025cdd", func := "loop.example/rowmachines/laws.FnExactVotedOf", spec := "fnExactVotedOf", apart := false }
def FnExactVotedOfSaid : Prop := fnExactVotedOfRow.holds Try.pinned (OpenSpec.ofChange fnExactVotedOfSpec)

/-- ITS FALSE NEIGHBOUR: 'it returns false'. Refute it at one input. -/
def fnExactVotedOfWrong : ChangeSpec := { name := "fnExactVotedOf", fn := fun _ => fun
  | [d] => { results := [.lit (.bool false)], args := [d] }
  | _ => none }
def FnExactVotedOfWrongFalsely : Prop := fnExactVotedOfRow.holds Try.pinned (OpenSpec.ofChange fnExactVotedOfWrong)

/-- 'laws.FnExactVotedAfter': WHATEVER THE INPUT: true; the input reads as it did. -/
def fnExactVotedAfterSpec : ChangeSpec := { name := "fnExactVotedAfter", fn := fun _ => fun
  | [d1, d2] => { results := [.lit (.bool true)], args := [d1, d2] }
  | _ => none }
def fnExactVotedAfterRow : OpenClaim := { program := "ytfmlekcdjjkolaa", sum := "827ba33ee769cfda4b9e901830446fac50e87e6f23f41976df1cf94d66025cdd", func := "loop.example/rowmachines/laws.FnExactVotedAfter", spec := "fnExactVotedAfter", apart := false }
def FnExactVotedAfterSaid : Prop := fnExactVotedAfterRow.holds Try.pinned (OpenSpec.ofChange fnExactVotedAfterSpec)

/-- ITS FALSE NEIGHBOUR: 'it returns false'. Refute it at one input. -/
def fnExactVotedAfterWrong : ChangeSpec := { name := "fnExactVotedAfter", fn := fun _ => fun
  | [d1, d2] => { results := [.lit (.bool false)], args := [d1, d2] }
  | _ => none }
def FnExactVotedAfterWrongFalsely : Prop := fnExactVotedAfterRow.holds Try.pinned (OpenSpec.ofChange fnExactVotedAfterWrong)

/-- 'laws.FnExactSettledAfter': WHATEVER THE INPUT: true; the input reads as it did. -/
def fnExactSettledAfterSpec : ChangeSpec := { name := "fnExactSettledAfter", fn := fun _ => fun
  | [d] => { results := [.lit (.bool true)], args := [d] }
  | _ => none }
def fnExactSettledAfterRow : OpenClaim := { program := "ytfmlekcdjjkolaa", sum := "827ba33ee769cfda4b9e901830446fac50e87e6f23f41976df1cf94d66025cdd", func := "loop.example/rowmachines/laws.FnExactSettledAfter", spec := "fnExactSettledAfter", apart := false }
def FnExactSettledAfterSaid : Prop := fnExactSettledAfterRow.holds Try.pinned (OpenSpec.ofChange fnExactSettledAfterSpec)

/-- ITS FALSE NEIGHBOUR: 'it returns false'. Refute it at one input. -/
def fnExactSettledAfterWrong : ChangeSpec := { name := "fnExactSettledAfter", fn := fun _ => fun
  | [d] => { results := [.lit (.bool false)], args := [d] }
  | _ => none }
def FnExactSettledAfterWrongFalsely : Prop := fnExactSettledAfterRow.holds Try.pinned (OpenSpec.ofChange fnExactSettledAfterWrong)

/-- 'laws.FnExactOpposedOf': WHATEVER THE INPUT: true; the input reads as it did. -/
def fnExactOpposedOfSpec : ChangeSpec := { name := "fnExactOpposedOf", fn := fun _ => fun
  | [d] => { results := [.lit (.bool true)], args := [d] }
  | _ => none }
def fnExactOpposedOfRow : OpenClaim := { program := "ytfmlekcdjjkolaa", sum := "827ba33ee769cfda4b9e901830446fac50e87e6f23f41976df1cf94d66025cdd", func := "loop.example/rowmachines/laws.FnExactOpposedOf", spec := "fnExactOpposedOf", apart := false }
def FnExactOpposedOfSaid : Prop := fnExactOpposedOfRow.holds Try.pinned (OpenSpec.ofChange fnExactOpposedOfSpec)

/-- ITS FALSE NEIGHBOUR: 'it returns false'. Refute it at one input. -/
def fnExactOpposedOfWrong : ChangeSpec := { name := "fnExactOpposedOf", fn := fun _ => fun
  | [d] => { results := [.lit (.bool false)], args := [d] }
  | _ => none }
def FnExactOpposedOfWrongFalsely : Prop := fnExactOpposedOfRow.holds Try.pinned (OpenSpec.ofChange fnExactOpposedOfWrong)

/- THE SECOND FORM. 'bulk': how many values and letters a reading holds, each counted each time it is reached (what is shared counts as often as it is met; a slice's spare places count too). A statement '..UptoSaid' is the law's where the arguments, and the package variables that the reading takes, are together of bulk at most 1048576: NARROWER than '..Said'. Prove '..Said' where nothing that the law and all that it calls make is longer than what came in: it says more and counts as full. Else prove '..UptoSaid'. A law counts once. -/
mutual
def uptoBulk {H : Type} : DataW H → Nat
  | .lit (.string bytes) => bytes.length + 1
  | .lit _ => 1
  | .nil => 1
  | .ptr d => uptoBulk d + 1
  | .slice elems spare => uptoBulkAll elems + uptoBulkAll spare + 1
  | .agg parts => uptoBulkAll parts + 1
  | .iface _ d => uptoBulk d + 1
  | .map entries => uptoBulkEntries entries + 1
  | .held _ => 1
def uptoBulkAll {H : Type} : List (DataW H) → Nat
  | [] => 0
  | d :: r => uptoBulk d + uptoBulkAll r
def uptoBulkEntries {H : Type} : List (Lit × DataW H) → Nat
  | [] => 0
  | x :: r => uptoBulkEntry x + uptoBulkEntries r
def uptoBulkEntry {H : Type} : Lit × DataW H → Nat
  | (.string bytes, d) => bytes.length + uptoBulk d + 1
  | (_, d) => uptoBulk d + 1
 end
def uptoSmall : (H : Type) → List (DataW H) → Bool := fun _ ds => decide (uptoBulkAll ds ≤ 1048576)
def OpenSpec.upto (s : _root_.Go.ChangeSpec) : _root_.Go.OpenSpec := { _root_.Go.OpenSpec.ofChange s with cond := some uptoSmall }

/-- 'laws.FnVotesOk', WHERE WHAT IT READS IS OF BULK AT MOST 1048576: true; the input reads as it did. -/
def fnVotesOkUptoRow : OpenClaim := { program := "ytfmlekcdjjkolaa", sum := "827ba33ee769cfda4b9e901830446fac50e87e6f23f41976df1cf94d66025cdd", func := "loop.example/rowmachines/laws.FnVotesOk", spec := "fnVotesOk", apart := false, narrowed := true }
def FnVotesOkUptoSaid : Prop := fnVotesOkUptoRow.holds Try.pinned (OpenSpec.upto fnVotesOkSpec)

/-- 'laws.FnVotedAfter', WHERE WHAT IT READS IS OF BULK AT MOST 1048576: true; the input reads as it did. -/
def fnVotedAfterUptoRow : OpenClaim := { program := "ytfmlekcdjjkolaa", sum := "827ba33ee769cfda4b9e901830446fac50e87e6f23f41976df1cf94d66025cdd", func := "loop.example/rowmachines/laws.FnVotedAfter", spec := "fnVotedAfter", apart := false, narrowed := true }
def FnVotedAfterUptoSaid : Prop := fnVotedAfterUptoRow.holds Try.pinned (OpenSpec.upto fnVotedAfterSpec)

/-- 'laws.FnSettledAfter', WHERE WHAT IT READS IS OF BULK AT MOST 1048576: true; the input reads as it did. -/
def fnSettledAfterUptoRow : OpenClaim := { program := "ytfmlekcdjjkolaa", sum := "827ba33ee769cfda4b9e901830446fac50e87e6f23f41976df1cf94d66025cdd", func := "loop.example/rowmachines/laws.FnSettledAfter", spec := "fnSettledAfter", apart := false, narrowed := true }
def FnSettledAfterUptoSaid : Prop := fnSettledAfterUptoRow.holds Try.pinned (OpenSpec.upto fnSettledAfterSpec)

/-- 'laws.FnOpposedOf', WHERE WHAT IT READS IS OF BULK AT MOST 1048576: true; the input reads as it did. -/
def fnOpposedOfUptoRow : OpenClaim := { program := "ytfmlekcdjjkolaa", sum := "827ba33ee769cfda4b9e901830446fac50e87e6f23f41976df1cf94d66025cdd", func := "loop.example/rowmachines/laws.FnOpposedOf", spec := "fnOpposedOf", apart := false, narrowed := true }
def FnOpposedOfUptoSaid : Prop := fnOpposedOfUptoRow.holds Try.pinned (OpenSpec.upto fnOpposedOfSpec)

/-- 'laws.FnExactVotesOk', WHERE WHAT IT READS IS OF BULK AT MOST 1048576: true; the input reads as it did. -/
def fnExactVotesOkUptoRow : OpenClaim := { program := "ytfmlekcdjjkolaa", sum := "827ba33ee769cfda4b9e901830446fac50e87e6f23f41976df1cf94d66025cdd", func := "loop.example/rowmachines/laws.FnExactVotesOk", spec := "fnExactVotesOk", apart := false, narrowed := true }
def FnExactVotesOkUptoSaid : Prop := fnExactVotesOkUptoRow.holds Try.pinned (OpenSpec.upto fnExactVotesOkSpec)

/-- 'laws.FnExactVotedOf', WHERE WHAT IT READS IS OF BULK AT MOST 1048576: true; the input reads as it did. -/
def fnExactVotedOfUptoRow : OpenClaim := { program := "ytfmlekcdjjkolaa", sum := "827ba33ee769cfda4b9e901830446fac50e87e6f23f41976df1cf94d66025cdd", func := "loop.example/rowmachines/laws.FnExactVotedOf", spec := "fnExactVotedOf", apart := false, narrowed := true }
def FnExactVotedOfUptoSaid : Prop := fnExactVotedOfUptoRow.holds Try.pinned (OpenSpec.upto fnExactVotedOfSpec)

/-- 'laws.FnExactVotedAfter', WHERE WHAT IT READS IS OF BULK AT MOST 1048576: true; the input reads as it did. -/
def fnExactVotedAfterUptoRow : OpenClaim := { program := "ytfmlekcdjjkolaa", sum := "827ba33ee769cfda4b9e901830446fac50e87e6f23f41976df1cf94d66025cdd", func := "loop.example/rowmachines/laws.FnExactVotedAfter", spec := "fnExactVotedAfter", apart := false, narrowed := true }
def FnExactVotedAfterUptoSaid : Prop := fnExactVotedAfterUptoRow.holds Try.pinned (OpenSpec.upto fnExactVotedAfterSpec)

/-- 'laws.FnExactSettledAfter', WHERE WHAT IT READS IS OF BULK AT MOST 1048576: true; the input reads as it did. -/
def fnExactSettledAfterUptoRow : OpenClaim := { program := "ytfmlekcdjjkolaa", sum := "827ba33ee769cfda4b9e901830446fac50e87e6f23f41976df1cf94d66025cdd", func := "loop.example/rowmachines/laws.FnExactSettledAfter", spec := "fnExactSettledAfter", apart := false, narrowed := true }
def FnExactSettledAfterUptoSaid : Prop := fnExactSettledAfterUptoRow.holds Try.pinned (OpenSpec.upto fnExactSettledAfterSpec)

/-- 'laws.FnExactOpposedOf', WHERE WHAT IT READS IS OF BULK AT MOST 1048576: true; the input reads as it did. -/
def fnExactOpposedOfUptoRow : OpenClaim := { program := "ytfmlekcdjjkolaa", sum := "827ba33ee769cfda4b9e901830446fac50e87e6f23f41976df1cf94d66025cdd", func := "loop.example/rowmachines/laws.FnExactOpposedOf", spec := "fnExactOpposedOf", apart := false, narrowed := true }
def FnExactOpposedOfUptoSaid : Prop := fnExactOpposedOfUptoRow.holds Try.pinned (OpenSpec.upto fnExactOpposedOfSpec)

end Rows
end Go.Proofs.Ytfmlekcdjjkolaa
