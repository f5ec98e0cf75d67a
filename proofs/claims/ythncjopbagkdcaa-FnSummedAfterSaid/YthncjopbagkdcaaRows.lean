/-
  No cell of these rows narrows 'for every input' (looked for: loops, veiled, ifaces, maps, wideKeys, modest, calm, conditions, laid).
  DERIVED. THE GIVEN ROWS OF THIS SEAT. 12 by the template 'for every input the law returns true; each argument reads behind the call as it read before'; 0 by the template 'total and deterministic' (their statements: YthncjopbagkdcaaTotals.lean).
  GIVEN WITH THE SEED: the statements are not yours to turn. If you find one false, say at which input.
  Laid BY PROGRAM, IN A SANDBOX (cutbox-rows.mjs): the forced cells as the released guide's own fill.sh prints them over the translation ddfafa676b8cf247… (all of the seat's roots in one cut). By AI agents, Wed Nov 11 2026. No macro, syntax, notation, axiom, sorry.
-/
import Derived.Test.YthncjopbagkdcaaChecked
import GoSem.Claim
import GoSem.ClaimJoined
import GoSem.ClaimMapViews
import Derived.JoinedTies
import Derived.KernelRfl
namespace Go.Proofs.Ythncjopbagkdcaa
/- THE CELL 'sum', in the pinned program and in every row, IS THE sha256 OF THE DUMP (.gsa) THAT YthncjopbagkdcaaProg.lean LOADS. Nothing in Lean hashes anything: it is a label: what it is worth is what the hold of that sum in a sandbox is worth. -/
noncomputable def Try.pinned : Pinned := { name := "ythncjopbagkdcaa", sum := "ddfafa676b8cf247059572ad03a9a1b76b9a9e7cbbf40cea6aff3e3c71a4223d", checked := Try.checked }
namespace Rows
def none {H : Type} : Left H := { results := [], args := [] }

/-- 'laws.FnBitsOk': WHATEVER THE INPUT: true; the input reads as it did. -/
def fnBitsOkSpec : ChangeSpec := { name := "fnBitsOk", fn := fun _ => fun
  | [d] => { results := [.lit (.bool true)], args := [d] }
  | _ => none }
def fnBitsOkRow : OpenClaim := { program := "ythncjopbagkdcaa", sum := "ddfafa676b8cf247059572ad03a9a1b76b9a9e7cbbf40cea6aff3e3c71a4223d", func := "loop.example/rowmachines/laws.FnBitsOk", spec := "fnBitsOk", plainKeys := false, apart := false }
def FnBitsOkSaid : Prop := fnBitsOkRow.holds Try.pinned (OpenSpec.ofChange fnBitsOkSpec)

/-- ITS FALSE NEIGHBOUR: 'it returns false'. Refute it at one input. -/
def fnBitsOkWrong : ChangeSpec := { name := "fnBitsOk", fn := fun _ => fun
  | [d] => { results := [.lit (.bool false)], args := [d] }
  | _ => none }
def FnBitsOkWrongFalsely : Prop := fnBitsOkRow.holds Try.pinned (OpenSpec.ofChange fnBitsOkWrong)

/-- 'laws.FnSummedOf': WHATEVER THE INPUT: true; the input reads as it did. -/
def fnSummedOfSpec : ChangeSpec := { name := "fnSummedOf", fn := fun _ => fun
  | [d] => { results := [.lit (.bool true)], args := [d] }
  | _ => none }
def fnSummedOfRow : OpenClaim := { program := "ythncjopbagkdcaa", sum := "ddfafa676b8cf247059572ad03a9a1b76b9a9e7cbbf40cea6aff3e3c71a4223d", func := "loop.example/rowmachines/laws.FnSummedOf", spec := "fnSummedOf", plainKeys := false, apart := false }
def FnSummedOfSaid : Prop := fnSummedOfRow.holds Try.pinned (OpenSpec.ofChange fnSummedOfSpec)

/-- ITS FALSE NEIGHBOUR: 'it returns false'. Refute it at one input. -/
def fnSummedOfWrong : ChangeSpec := { name := "fnSummedOf", fn := fun _ => fun
  | [d] => { results := [.lit (.bool false)], args := [d] }
  | _ => none }
def FnSummedOfWrongFalsely : Prop := fnSummedOfRow.holds Try.pinned (OpenSpec.ofChange fnSummedOfWrong)

/-- 'laws.FnSummedAfter': WHATEVER THE INPUT: true; the input reads as it did. -/
def fnSummedAfterSpec : ChangeSpec := { name := "fnSummedAfter", fn := fun _ => fun
  | [d] => { results := [.lit (.bool true)], args := [d] }
  | _ => none }
def fnSummedAfterRow : OpenClaim := { program := "ythncjopbagkdcaa", sum := "ddfafa676b8cf247059572ad03a9a1b76b9a9e7cbbf40cea6aff3e3c71a4223d", func := "loop.example/rowmachines/laws.FnSummedAfter", spec := "fnSummedAfter", plainKeys := false, apart := false }
def FnSummedAfterSaid : Prop := fnSummedAfterRow.holds Try.pinned (OpenSpec.ofChange fnSummedAfterSpec)

/-- ITS FALSE NEIGHBOUR: 'it returns false'. Refute it at one input. -/
def fnSummedAfterWrong : ChangeSpec := { name := "fnSummedAfter", fn := fun _ => fun
  | [d] => { results := [.lit (.bool false)], args := [d] }
  | _ => none }
def FnSummedAfterWrongFalsely : Prop := fnSummedAfterRow.holds Try.pinned (OpenSpec.ofChange fnSummedAfterWrong)

/-- 'laws.FnAddedOf': WHATEVER THE INPUT: true; the input reads as it did. -/
def fnAddedOfSpec : ChangeSpec := { name := "fnAddedOf", fn := fun _ => fun
  | [d] => { results := [.lit (.bool true)], args := [d] }
  | _ => none }
def fnAddedOfRow : OpenClaim := { program := "ythncjopbagkdcaa", sum := "ddfafa676b8cf247059572ad03a9a1b76b9a9e7cbbf40cea6aff3e3c71a4223d", func := "loop.example/rowmachines/laws.FnAddedOf", spec := "fnAddedOf", plainKeys := false, apart := false }
def FnAddedOfSaid : Prop := fnAddedOfRow.holds Try.pinned (OpenSpec.ofChange fnAddedOfSpec)

/-- ITS FALSE NEIGHBOUR: 'it returns false'. Refute it at one input. -/
def fnAddedOfWrong : ChangeSpec := { name := "fnAddedOf", fn := fun _ => fun
  | [d] => { results := [.lit (.bool false)], args := [d] }
  | _ => none }
def FnAddedOfWrongFalsely : Prop := fnAddedOfRow.holds Try.pinned (OpenSpec.ofChange fnAddedOfWrong)

/-- 'laws.FnComesAgain': WHATEVER THE INPUT: true; the input reads as it did. -/
def fnComesAgainSpec : ChangeSpec := { name := "fnComesAgain", fn := fun _ => fun
  | [d] => { results := [.lit (.bool true)], args := [d] }
  | _ => none }
def fnComesAgainRow : OpenClaim := { program := "ythncjopbagkdcaa", sum := "ddfafa676b8cf247059572ad03a9a1b76b9a9e7cbbf40cea6aff3e3c71a4223d", func := "loop.example/rowmachines/laws.FnComesAgain", spec := "fnComesAgain", plainKeys := false, apart := false }
def FnComesAgainSaid : Prop := fnComesAgainRow.holds Try.pinned (OpenSpec.ofChange fnComesAgainSpec)

/-- ITS FALSE NEIGHBOUR: 'it returns false'. Refute it at one input. -/
def fnComesAgainWrong : ChangeSpec := { name := "fnComesAgain", fn := fun _ => fun
  | [d] => { results := [.lit (.bool false)], args := [d] }
  | _ => none }
def FnComesAgainWrongFalsely : Prop := fnComesAgainRow.holds Try.pinned (OpenSpec.ofChange fnComesAgainWrong)

/-- 'laws.FnOnesOf': WHATEVER THE INPUT: true; the input reads as it did. -/
def fnOnesOfSpec : ChangeSpec := { name := "fnOnesOf", fn := fun _ => fun
  | [d] => { results := [.lit (.bool true)], args := [d] }
  | _ => none }
def fnOnesOfRow : OpenClaim := { program := "ythncjopbagkdcaa", sum := "ddfafa676b8cf247059572ad03a9a1b76b9a9e7cbbf40cea6aff3e3c71a4223d", func := "loop.example/rowmachines/laws.FnOnesOf", spec := "fnOnesOf", plainKeys := false, apart := false }
def FnOnesOfSaid : Prop := fnOnesOfRow.holds Try.pinned (OpenSpec.ofChange fnOnesOfSpec)

/-- ITS FALSE NEIGHBOUR: 'it returns false'. Refute it at one input. -/
def fnOnesOfWrong : ChangeSpec := { name := "fnOnesOf", fn := fun _ => fun
  | [d] => { results := [.lit (.bool false)], args := [d] }
  | _ => none }
def FnOnesOfWrongFalsely : Prop := fnOnesOfRow.holds Try.pinned (OpenSpec.ofChange fnOnesOfWrong)

/-- 'laws.FnExactBitsOk': WHATEVER THE INPUT: true; the input reads as it did. -/
def fnExactBitsOkSpec : ChangeSpec := { name := "fnExactBitsOk", fn := fun _ => fun
  | [d] => { results := [.lit (.bool true)], args := [d] }
  | _ => none }
def fnExactBitsOkRow : OpenClaim := { program := "ythncjopbagkdcaa", sum := "ddfafa676b8cf247059572ad03a9a1b76b9a9e7cbbf40cea6aff3e3c71a4223d", func := "loop.example/rowmachines/laws.FnExactBitsOk", spec := "fnExactBitsOk", plainKeys := false, apart := false }
def FnExactBitsOkSaid : Prop := fnExactBitsOkRow.holds Try.pinned (OpenSpec.ofChange fnExactBitsOkSpec)

/-- ITS FALSE NEIGHBOUR: 'it returns false'. Refute it at one input. -/
def fnExactBitsOkWrong : ChangeSpec := { name := "fnExactBitsOk", fn := fun _ => fun
  | [d] => { results := [.lit (.bool false)], args := [d] }
  | _ => none }
def FnExactBitsOkWrongFalsely : Prop := fnExactBitsOkRow.holds Try.pinned (OpenSpec.ofChange fnExactBitsOkWrong)

/-- 'laws.FnExactSummedOf': WHATEVER THE INPUT: true; the input reads as it did. -/
def fnExactSummedOfSpec : ChangeSpec := { name := "fnExactSummedOf", fn := fun _ => fun
  | [d] => { results := [.lit (.bool true)], args := [d] }
  | _ => none }
def fnExactSummedOfRow : OpenClaim := { program := "ythncjopbagkdcaa", sum := "ddfafa676b8cf247059572ad03a9a1b76b9a9e7cbbf40cea6aff3e3c71a4223d", func := "loop.example/rowmachines/laws.FnExactSummedOf", spec := "fnExactSummedOf", plainKeys := false, apart := false }
def FnExactSummedOfSaid : Prop := fnExactSummedOfRow.holds Try.pinned (OpenSpec.ofChange fnExactSummedOfSpec)

/-- ITS FALSE NEIGHBOUR: 'it returns false'. Refute it at one input. -/
def fnExactSummedOfWrong : ChangeSpec := { name := "fnExactSummedOf", fn := fun _ => fun
  | [d] => { results := [.lit (.bool false)], args := [d] }
  | _ => none }
def FnExactSummedOfWrongFalsely : Prop := fnExactSummedOfRow.holds Try.pinned (OpenSpec.ofChange fnExactSummedOfWrong)

/-- 'laws.FnExactSummedAfter': WHATEVER THE INPUT: true; the input reads as it did. -/
def fnExactSummedAfterSpec : ChangeSpec := { name := "fnExactSummedAfter", fn := fun _ => fun
  | [d1, d2] => { results := [.lit (.bool true)], args := [d1, d2] }
  | _ => none }
def fnExactSummedAfterRow : OpenClaim := { program := "ythncjopbagkdcaa", sum := "ddfafa676b8cf247059572ad03a9a1b76b9a9e7cbbf40cea6aff3e3c71a4223d", func := "loop.example/rowmachines/laws.FnExactSummedAfter", spec := "fnExactSummedAfter", plainKeys := false, apart := false }
def FnExactSummedAfterSaid : Prop := fnExactSummedAfterRow.holds Try.pinned (OpenSpec.ofChange fnExactSummedAfterSpec)

/-- ITS FALSE NEIGHBOUR: 'it returns false'. Refute it at one input. -/
def fnExactSummedAfterWrong : ChangeSpec := { name := "fnExactSummedAfter", fn := fun _ => fun
  | [d1, d2] => { results := [.lit (.bool false)], args := [d1, d2] }
  | _ => none }
def FnExactSummedAfterWrongFalsely : Prop := fnExactSummedAfterRow.holds Try.pinned (OpenSpec.ofChange fnExactSummedAfterWrong)

/-- 'laws.FnExactAddedOf': WHATEVER THE INPUT: true; the input reads as it did. -/
def fnExactAddedOfSpec : ChangeSpec := { name := "fnExactAddedOf", fn := fun _ => fun
  | [d1, d2] => { results := [.lit (.bool true)], args := [d1, d2] }
  | _ => none }
def fnExactAddedOfRow : OpenClaim := { program := "ythncjopbagkdcaa", sum := "ddfafa676b8cf247059572ad03a9a1b76b9a9e7cbbf40cea6aff3e3c71a4223d", func := "loop.example/rowmachines/laws.FnExactAddedOf", spec := "fnExactAddedOf", plainKeys := false, apart := false }
def FnExactAddedOfSaid : Prop := fnExactAddedOfRow.holds Try.pinned (OpenSpec.ofChange fnExactAddedOfSpec)

/-- ITS FALSE NEIGHBOUR: 'it returns false'. Refute it at one input. -/
def fnExactAddedOfWrong : ChangeSpec := { name := "fnExactAddedOf", fn := fun _ => fun
  | [d1, d2] => { results := [.lit (.bool false)], args := [d1, d2] }
  | _ => none }
def FnExactAddedOfWrongFalsely : Prop := fnExactAddedOfRow.holds Try.pinned (OpenSpec.ofChange fnExactAddedOfWrong)

/-- 'laws.FnExactComesAgain': WHATEVER THE INPUT: true; the input reads as it did. -/
def fnExactComesAgainSpec : ChangeSpec := { name := "fnExactComesAgain", fn := fun _ => fun
  | [d] => { results := [.lit (.bool true)], args := [d] }
  | _ => none }
def fnExactComesAgainRow : OpenClaim := { program := "ythncjopbagkdcaa", sum := "ddfafa676b8cf247059572ad03a9a1b76b9a9e7cbbf40cea6aff3e3c71a4223d", func := "loop.example/rowmachines/laws.FnExactComesAgain", spec := "fnExactComesAgain", plainKeys := false, apart := false }
def FnExactComesAgainSaid : Prop := fnExactComesAgainRow.holds Try.pinned (OpenSpec.ofChange fnExactComesAgainSpec)

/-- ITS FALSE NEIGHBOUR: 'it returns false'. Refute it at one input. -/
def fnExactComesAgainWrong : ChangeSpec := { name := "fnExactComesAgain", fn := fun _ => fun
  | [d] => { results := [.lit (.bool false)], args := [d] }
  | _ => none }
def FnExactComesAgainWrongFalsely : Prop := fnExactComesAgainRow.holds Try.pinned (OpenSpec.ofChange fnExactComesAgainWrong)

/-- 'laws.FnExactOnesOf': WHATEVER THE INPUT: true; the input reads as it did. -/
def fnExactOnesOfSpec : ChangeSpec := { name := "fnExactOnesOf", fn := fun _ => fun
  | [d] => { results := [.lit (.bool true)], args := [d] }
  | _ => none }
def fnExactOnesOfRow : OpenClaim := { program := "ythncjopbagkdcaa", sum := "ddfafa676b8cf247059572ad03a9a1b76b9a9e7cbbf40cea6aff3e3c71a4223d", func := "loop.example/rowmachines/laws.FnExactOnesOf", spec := "fnExactOnesOf", plainKeys := false, apart := false }
def FnExactOnesOfSaid : Prop := fnExactOnesOfRow.holds Try.pinned (OpenSpec.ofChange fnExactOnesOfSpec)

/-- ITS FALSE NEIGHBOUR: 'it returns false'. Refute it at one input. -/
def fnExactOnesOfWrong : ChangeSpec := { name := "fnExactOnesOf", fn := fun _ => fun
  | [d] => { results := [.lit (.bool false)], args := [d] }
  | _ => none }
def FnExactOnesOfWrongFalsely : Prop := fnExactOnesOfRow.holds Try.pinned (OpenSpec.ofChange fnExactOnesOfWrong)

/- THE SECOND FORM. 'bulk': how many values and letters a reading holds, each counted each time it is reached (what is shared counts as often as it is met; a slice's spare places count too). A statement '..UptoSaid' is the law's where the arguments, and the package variables that the reading takes, are together of bulk at most 1048576: NARROWER than '..Said'. Prove '..Said' where nothing that the law and all that it calls make is longer than what came in: it says more and counts as full. Else prove '..UptoSaid'. A law counts once. -/
mutual
def uptoBulk {H : Type} : DataW H → Nat
  | .lit (.string bytes) => bytes.length + 1
  | .lit _ => 1
  | .nil => 1
  | .ptr d => uptoBulk d + 1
  | .slice elems spare => uptoBulkAll elems + uptoBulkAll spare + 1
  | .agg parts => uptoBulkAll parts + 1
  | .iface _ d => uptoBulk d + 1
  | .map entries => uptoBulkEntries entries + 1
  | .held _ => 1
def uptoBulkAll {H : Type} : List (DataW H) → Nat
  | [] => 0
  | d :: r => uptoBulk d + uptoBulkAll r
def uptoBulkEntries {H : Type} : List (Lit × DataW H) → Nat
  | [] => 0
  | x :: r => uptoBulkEntry x + uptoBulkEntries r
def uptoBulkEntry {H : Type} : Lit × DataW H → Nat
  | (.string bytes, d) => bytes.length + uptoBulk d + 1
  | (_, d) => uptoBulk d + 1
 end
def uptoSmall : (H : Type) → List (DataW H) → Bool := fun _ ds => decide (uptoBulkAll ds ≤ 1048576)
def OpenSpec.upto (s : _root_.Go.ChangeSpec) : _root_.Go.OpenSpec := { _root_.Go.OpenSpec.ofChange s with cond := some uptoSmall }

/-- 'laws.FnBitsOk', WHERE WHAT IT READS IS OF BULK AT MOST 1048576: true; the input reads as it did. -/
def fnBitsOkUptoRow : OpenClaim := { program := "ythncjopbagkdcaa", sum := "ddfafa676b8cf247059572ad03a9a1b76b9a9e7cbbf40cea6aff3e3c71a4223d", func := "loop.example/rowmachines/laws.FnBitsOk", spec := "fnBitsOk", plainKeys := false, apart := false, narrowed := true }
def FnBitsOkUptoSaid : Prop := fnBitsOkUptoRow.holds Try.pinned (OpenSpec.upto fnBitsOkSpec)

/-- 'laws.FnSummedOf', WHERE WHAT IT READS IS OF BULK AT MOST 1048576: true; the input reads as it did. -/
def fnSummedOfUptoRow : OpenClaim := { program := "ythncjopbagkdcaa", sum := "ddfafa676b8cf247059572ad03a9a1b76b9a9e7cbbf40cea6aff3e3c71a4223d", func := "loop.example/rowmachines/laws.FnSummedOf", spec := "fnSummedOf", plainKeys := false, apart := false, narrowed := true }
def FnSummedOfUptoSaid : Prop := fnSummedOfUptoRow.holds Try.pinned (OpenSpec.upto fnSummedOfSpec)

/-- 'laws.FnSummedAfter', WHERE WHAT IT READS IS OF BULK AT MOST 1048576: true; the input reads as it did. -/
def fnSummedAfterUptoRow : OpenClaim := { program := "ythncjopbagkdcaa", sum := "ddfafa676b8cf247059572ad03a9a1b76b9a9e7cbbf40cea6aff3e3c71a4223d", func := "loop.example/rowmachines/laws.FnSummedAfter", spec := "fnSummedAfter", plainKeys := false, apart := false, narrowed := true }
def FnSummedAfterUptoSaid : Prop := fnSummedAfterUptoRow.holds Try.pinned (OpenSpec.upto fnSummedAfterSpec)

/-- 'laws.FnAddedOf', WHERE WHAT IT READS IS OF BULK AT MOST 1048576: true; the input reads as it did. -/
def fnAddedOfUptoRow : OpenClaim := { program := "ythncjopbagkdcaa", sum := "ddfafa676b8cf247059572ad03a9a1b76b9a9e7cbbf40cea6aff3e3c71a4223d", func := "loop.example/rowmachines/laws.FnAddedOf", spec := "fnAddedOf", plainKeys := false, apart := false, narrowed := true }
def FnAddedOfUptoSaid : Prop := fnAddedOfUptoRow.holds Try.pinned (OpenSpec.upto fnAddedOfSpec)

/-- 'laws.FnComesAgain', WHERE WHAT IT READS IS OF BULK AT MOST 1048576: true; the input reads as it did. -/
def fnComesAgainUptoRow : OpenClaim := { program := "ythncjopbagkdcaa", sum := "ddfafa676b8cf247059572ad03a9a1b76b9a9e7cbbf40cea6aff3e3c71a4223d", func := "loop.example/rowmachines/laws.FnComesAgain", spec := "fnComesAgain", plainKeys := false, apart := false, narrowed := true }
def FnComesAgainUptoSaid : Prop := fnComesAgainUptoRow.holds Try.pinned (OpenSpec.upto fnComesAgainSpec)

/-- 'laws.FnOnesOf', WHERE WHAT IT READS IS OF BULK AT MOST 1048576: true; the input reads as it did. -/
def fnOnesOfUptoRow : OpenClaim := { program := "ythncjopbagkdcaa", sum := "ddfafa676b8cf247059572ad03a9a1b76b9a9e7cbbf40cea6aff3e3c71a4223d", func := "loop.example/rowmachines/laws.FnOnesOf", spec := "fnOnesOf", plainKeys := false, apart := false, narrowed := true }
def FnOnesOfUptoSaid : Prop := fnOnesOfUptoRow.holds Try.pinned (OpenSpec.upto fnOnesOfSpec)

/-- 'laws.FnExactBitsOk', WHERE WHAT IT READS IS OF BULK AT MOST 1048576: true; the input reads as it did. -/
def fnExactBitsOkUptoRow : OpenClaim := { program := "ythncjopbagkdcaa", sum := "ddfafa676b8cf247059572ad03a9a1b76b9a9e7cbbf40cea6aff3e3c71a4223d", func := "loop.example/rowmachines/laws.FnExactBitsOk", spec := "fnExactBitsOk", plainKeys := false, apart := false, narrowed := true }
def FnExactBitsOkUptoSaid : Prop := fnExactBitsOkUptoRow.holds Try.pinned (OpenSpec.upto fnExactBitsOkSpec)

/-- 'laws.FnExactSummedOf', WHERE WHAT IT READS IS OF BULK AT MOST 1048576: true; the input reads as it did. -/
def fnExactSummedOfUptoRow : OpenClaim := { program := "ythncjopbagkdcaa", sum := "ddfafa676b8cf247059572ad03a9a1b76b9a9e7cbbf40cea6aff3e3c71a4223d", func := "loop.example/rowmachines/laws.FnExactSummedOf", spec := "fnExactSummedOf", plainKeys := false, apart := false, narrowed := true }
def FnExactSummedOfUptoSaid : Prop := fnExactSummedOfUptoRow.holds Try.pinned (OpenSpec.upto fnExactSummedOfSpec)

/-- 'laws.FnExactSummedAfter', WHERE WHAT IT READS IS OF BULK AT MOST 1048576: true; the input reads as it did. -/
def fnExactSummedAfterUptoRow : OpenClaim := { program := "ythncjopbagkdcaa", sum := "ddfafa676b8cf247059572ad03a9a1b76b9a9e7cbbf40cea6aff3e3c71a4223d", func := "loop.example/rowmachines/laws.FnExactSummedAfter", spec := "fnExactSummedAfter", plainKeys := false, apart := false, narrowed := true }
def FnExactSummedAfterUptoSaid : Prop := fnExactSummedAfterUptoRow.holds Try.pinned (OpenSpec.upto fnExactSummedAfterSpec)

/-- 'laws.FnExactAddedOf', WHERE WHAT IT READS IS OF BULK AT MOST 1048576: true; the input reads as it did. -/
def fnExactAddedOfUptoRow : OpenClaim := { program := "ythncjopbagkdcaa", sum := "ddfafa676b8cf247059572ad03a9a1b76b9a9e7cbbf40cea6aff3e3c71a4223d", func := "loop.example/rowmachines/laws.FnExactAddedOf", spec := "fnExactAddedOf", plainKeys := false, apart := false, narrowed := true }
def FnExactAddedOfUptoSaid : Prop := fnExactAddedOfUptoRow.holds Try.pinned (OpenSpec.upto fnExactAddedOfSpec)

/-- 'laws.FnExactComesAgain', WHERE WHAT IT READS IS OF BULK AT MOST 1048576: true; the input reads as it did. -/
def fnExactComesAgainUptoRow : OpenClaim := { program := "ythncjopbagkdcaa", sum := "ddfafa676b8cf247059572ad03a9a1b76b9a9e7cbbf40cea6aff3e3c71a4223d", func := "loop.example/rowmachines/laws.FnExactComesAgain", spec := "fnExactComesAgain", plainKeys := false, apart := false, narrowed := true }
def FnExactComesAgainUptoSaid : Prop := fnExactComesAgainUptoRow.holds Try.pinned (OpenSpec.upto fnExactComesAgainSpec)

/-- 'laws.FnExactOnesOf', WHERE WHAT IT READS IS OF BULK AT MOST 1048576: true; the input reads as it did. -/
def fnExactOnesOfUptoRow : OpenClaim := { program := "ythncjopbagkdcaa", sum := "ddfafa676b8cf247059572ad03a9a1b76b9a9e7cbbf40cea6aff3e3c71a4223d", func := "loop.example/rowmachines/laws.FnExactOnesOf", spec := "fnExactOnesOf", plainKeys := false, apart := false, narrowed := true }
def FnExactOnesOfUptoSaid : Prop := fnExactOnesOfUptoRow.holds Try.pinned (OpenSpec.upto fnExactOnesOfSpec)

end Rows
end Go.Proofs.Ythncjopbagkdcaa
