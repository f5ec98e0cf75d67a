/-
  No cell of these rows narrows 'for every input' (looked for: loops, veiled, ifaces, maps, wideKeys, modest, calm, conditions, laid).
  DERIVED. THE GIVEN ROWS OF THIS SEAT. 14 by the template 'for every input the law returns true; each argument reads behind the call as it read before'; 0 by the template 'total and deterministic' (their statements: YtpobcfmldimgiaaTotals.lean).
  GIVEN WITH THE SEED: the statements are not yours to turn. If you find one false, say at which input.
  Laid BY PROGRAM, IN A SANDBOX (cutbox-rows.mjs): the forced cells as the released guide's own fill.sh prints them over the translation c536ba11a0c337b5… (all of the seat's roots in one cut). By AI agents, Wed Nov 11 2026. No macro, syntax, notation, axiom, sorry.
-/
import Derived.Test.YtpobcfmldimgiaaChecked
import GoSem.Claim
import GoSem.ClaimJoined
import GoSem.ClaimMapViews
import Derived.JoinedTies
import Derived.KernelRfl
namespace Go.Proofs.Ytpobcfmldimgiaa
/- THE CELL 'sum', in the pinned program and in every row, IS THE sha256 OF THE DUMP (.gsa) THAT YtpobcfmldimgiaaProg.lean LOADS. Nothing in Lean hashes anything: it is a label: what it is worth is what the hold of that sum in a sandbox is worth. -/
noncomputable def Try.pinned : Pinned := { name := "ytpobcfmldimgiaa", sum := "c536ba11a0c337b57d3ad41270ac28ae852eab61daa41028d8de1b6b65e0bc50", checked := Try.checked }
namespace Rows
def none {H : Type} : Left H := { results := [], args := [] }

/-- 'laws.FnKeptOk': WHATEVER THE INPUT: true; the input reads as it did. -/
def fnKeptOkSpec : ChangeSpec := { name := "fnKeptOk", fn := fun _ => fun
  | [d] => { results := [.lit (.bool true)], args := [d] }
  | _ => none }
def fnKeptOkRow : OpenClaim := { program := "ytpobcfmldimgiaa", sum := "c536ba11a0c337b57d3ad41270ac28ae852eab61daa41028d8de1b6b65e0bc50", func := "loop.example/rowmachines/laws.FnKeptOk", spec := "fnKeptOk", apart := false }
def FnKeptOkSaid : Prop := fnKeptOkRow.holds Try.pinned (OpenSpec.ofChange fnKeptOkSpec)

/-- ITS FALSE NEIGHBOUR: 'it returns false'. Refute it at one input. -/
def fnKeptOkWrong : ChangeSpec := { name := "fnKeptOk", fn := fun _ => fun
  | [d] => { results := [.lit (.bool false)], args := [d] }
  | _ => none }
def FnKeptOkWrongFalsely : Prop := fnKeptOkRow.holds Try.pinned (OpenSpec.ofChange fnKeptOkWrong)

/-- 'laws.FnSwappedAt': WHATEVER THE INPUT: true; the input reads as it did. -/
def fnSwappedAtSpec : ChangeSpec := { name := "fnSwappedAt", fn := fun _ => fun
  | [d] => { results := [.lit (.bool true)], args := [d] }
  | _ => none }
def fnSwappedAtRow : OpenClaim := { program := "ytpobcfmldimgiaa", sum := "c536ba11a0c337b57d3ad41270ac28ae852eab61daa41028d8de1b6b65e0bc50", func := "loop.example/rowmachines/laws.FnSwappedAt", spec := "fnSwappedAt", apart := false }
def FnSwappedAtSaid : Prop := fnSwappedAtRow.holds Try.pinned (OpenSpec.ofChange fnSwappedAtSpec)

/-- ITS FALSE NEIGHBOUR: 'it returns false'. Refute it at one input. -/
def fnSwappedAtWrong : ChangeSpec := { name := "fnSwappedAt", fn := fun _ => fun
  | [d] => { results := [.lit (.bool false)], args := [d] }
  | _ => none }
def FnSwappedAtWrongFalsely : Prop := fnSwappedAtRow.holds Try.pinned (OpenSpec.ofChange fnSwappedAtWrong)

/-- 'laws.FnAfterSteps': WHATEVER THE INPUT: true; the input reads as it did. -/
def fnAfterStepsSpec : ChangeSpec := { name := "fnAfterSteps", fn := fun _ => fun
  | [d] => { results := [.lit (.bool true)], args := [d] }
  | _ => none }
def fnAfterStepsRow : OpenClaim := { program := "ytpobcfmldimgiaa", sum := "c536ba11a0c337b57d3ad41270ac28ae852eab61daa41028d8de1b6b65e0bc50", func := "loop.example/rowmachines/laws.FnAfterSteps", spec := "fnAfterSteps", unfollowed := true, recurses := true, apart := false }
def FnAfterStepsSaid : Prop := fnAfterStepsRow.holds Try.pinned (OpenSpec.ofChange fnAfterStepsSpec)

/-- ITS FALSE NEIGHBOUR: 'it returns false'. Refute it at one input. -/
def fnAfterStepsWrong : ChangeSpec := { name := "fnAfterSteps", fn := fun _ => fun
  | [d] => { results := [.lit (.bool false)], args := [d] }
  | _ => none }
def FnAfterStepsWrongFalsely : Prop := fnAfterStepsRow.holds Try.pinned (OpenSpec.ofChange fnAfterStepsWrong)

/-- 'laws.FnInOrderOk': WHATEVER THE INPUT: true; the input reads as it did. -/
def fnInOrderOkSpec : ChangeSpec := { name := "fnInOrderOk", fn := fun _ => fun
  | [d] => { results := [.lit (.bool true)], args := [d] }
  | _ => none }
def fnInOrderOkRow : OpenClaim := { program := "ytpobcfmldimgiaa", sum := "c536ba11a0c337b57d3ad41270ac28ae852eab61daa41028d8de1b6b65e0bc50", func := "loop.example/rowmachines/laws.FnInOrderOk", spec := "fnInOrderOk", apart := false }
def FnInOrderOkSaid : Prop := fnInOrderOkRow.holds Try.pinned (OpenSpec.ofChange fnInOrderOkSpec)

/-- ITS FALSE NEIGHBOUR: 'it returns false'. Refute it at one input. -/
def fnInOrderOkWrong : ChangeSpec := { name := "fnInOrderOk", fn := fun _ => fun
  | [d] => { results := [.lit (.bool false)], args := [d] }
  | _ => none }
def FnInOrderOkWrongFalsely : Prop := fnInOrderOkRow.holds Try.pinned (OpenSpec.ofChange fnInOrderOkWrong)

/-- 'laws.FnStepsToOrder': WHATEVER THE INPUT: true; the input reads as it did. -/
def fnStepsToOrderSpec : ChangeSpec := { name := "fnStepsToOrder", fn := fun _ => fun
  | [d] => { results := [.lit (.bool true)], args := [d] }
  | _ => none }
def fnStepsToOrderRow : OpenClaim := { program := "ytpobcfmldimgiaa", sum := "c536ba11a0c337b57d3ad41270ac28ae852eab61daa41028d8de1b6b65e0bc50", func := "loop.example/rowmachines/laws.FnStepsToOrder", spec := "fnStepsToOrder", unfollowed := true, recurses := true, apart := false }
def FnStepsToOrderSaid : Prop := fnStepsToOrderRow.holds Try.pinned (OpenSpec.ofChange fnStepsToOrderSpec)

/-- ITS FALSE NEIGHBOUR: 'it returns false'. Refute it at one input. -/
def fnStepsToOrderWrong : ChangeSpec := { name := "fnStepsToOrder", fn := fun _ => fun
  | [d] => { results := [.lit (.bool false)], args := [d] }
  | _ => none }
def FnStepsToOrderWrongFalsely : Prop := fnStepsToOrderRow.holds Try.pinned (OpenSpec.ofChange fnStepsToOrderWrong)

/-- 'laws.FnBoundsOf': WHATEVER THE INPUT: true; the input reads as it did. -/
def fnBoundsOfSpec : ChangeSpec := { name := "fnBoundsOf", fn := fun _ => fun
  | [d] => { results := [.lit (.bool true)], args := [d] }
  | _ => none }
def fnBoundsOfRow : OpenClaim := { program := "ytpobcfmldimgiaa", sum := "c536ba11a0c337b57d3ad41270ac28ae852eab61daa41028d8de1b6b65e0bc50", func := "loop.example/rowmachines/laws.FnBoundsOf", spec := "fnBoundsOf", unfollowed := true, recurses := true, apart := false }
def FnBoundsOfSaid : Prop := fnBoundsOfRow.holds Try.pinned (OpenSpec.ofChange fnBoundsOfSpec)

/-- ITS FALSE NEIGHBOUR: 'it returns false'. Refute it at one input. -/
def fnBoundsOfWrong : ChangeSpec := { name := "fnBoundsOf", fn := fun _ => fun
  | [d] => { results := [.lit (.bool false)], args := [d] }
  | _ => none }
def FnBoundsOfWrongFalsely : Prop := fnBoundsOfRow.holds Try.pinned (OpenSpec.ofChange fnBoundsOfWrong)

/-- 'laws.FnAstrayOf': WHATEVER THE INPUT: true; the input reads as it did. -/
def fnAstrayOfSpec : ChangeSpec := { name := "fnAstrayOf", fn := fun _ => fun
  | [d] => { results := [.lit (.bool true)], args := [d] }
  | _ => none }
def fnAstrayOfRow : OpenClaim := { program := "ytpobcfmldimgiaa", sum := "c536ba11a0c337b57d3ad41270ac28ae852eab61daa41028d8de1b6b65e0bc50", func := "loop.example/rowmachines/laws.FnAstrayOf", spec := "fnAstrayOf", unfollowed := true, recurses := true, apart := false }
def FnAstrayOfSaid : Prop := fnAstrayOfRow.holds Try.pinned (OpenSpec.ofChange fnAstrayOfSpec)

/-- ITS FALSE NEIGHBOUR: 'it returns false'. Refute it at one input. -/
def fnAstrayOfWrong : ChangeSpec := { name := "fnAstrayOf", fn := fun _ => fun
  | [d] => { results := [.lit (.bool false)], args := [d] }
  | _ => none }
def FnAstrayOfWrongFalsely : Prop := fnAstrayOfRow.holds Try.pinned (OpenSpec.ofChange fnAstrayOfWrong)

/-- 'laws.FnExactKeptOk': WHATEVER THE INPUT: true; the input reads as it did. -/
def fnExactKeptOkSpec : ChangeSpec := { name := "fnExactKeptOk", fn := fun _ => fun
  | [d] => { results := [.lit (.bool true)], args := [d] }
  | _ => none }
def fnExactKeptOkRow : OpenClaim := { program := "ytpobcfmldimgiaa", sum := "c536ba11a0c337b57d3ad41270ac28ae852eab61daa41028d8de1b6b65e0bc50", func := "loop.example/rowmachines/laws.FnExactKeptOk", spec := "fnExactKeptOk", apart := false }
def FnExactKeptOkSaid : Prop := fnExactKeptOkRow.holds Try.pinned (OpenSpec.ofChange fnExactKeptOkSpec)

/-- ITS FALSE NEIGHBOUR: 'it returns false'. Refute it at one input. -/
def fnExactKeptOkWrong : ChangeSpec := { name := "fnExactKeptOk", fn := fun _ => fun
  | [d] => { results := [.lit (.bool false)], args := [d] }
  | _ => none }
def FnExactKeptOkWrongFalsely : Prop := fnExactKeptOkRow.holds Try.pinned (OpenSpec.ofChange fnExactKeptOkWrong)

/-- 'laws.FnExactSwappedAt': WHATEVER THE INPUT: true; the input reads as it did. -/
def fnExactSwappedAtSpec : ChangeSpec := { name := "fnExactSwappedAt", fn := fun _ => fun
  | [d1, d2] => { results := [.lit (.bool true)], args := [d1, d2] }
  | _ => none }
def fnExactSwappedAtRow : OpenClaim := { program := "ytpobcfmldimgiaa", sum := "c536ba11a0c337b57d3ad41270ac28ae852eab61daa41028d8de1b6b65e0bc50", func := "loop.example/rowmachines/laws.FnExactSwappedAt", spec := "fnExactSwappedAt", apart := false }
def FnExactSwappedAtSaid : Prop := fnExactSwappedAtRow.holds Try.pinned (OpenSpec.ofChange fnExactSwappedAtSpec)

/-- ITS FALSE NEIGHBOUR: 'it returns false'. Refute it at one input. -/
def fnExactSwappedAtWrong : ChangeSpec := { name := "fnExactSwappedAt", fn := fun _ => fun
  | [d1, d2] => { results := [.lit (.bool false)], args := [d1, d2] }
  | _ => none }
def FnExactSwappedAtWrongFalsely : Prop := fnExactSwappedAtRow.holds Try.pinned (OpenSpec.ofChange fnExactSwappedAtWrong)

/-- 'laws.FnExactAfterSteps': WHATEVER THE INPUT: true; the input reads as it did. -/
def fnExactAfterStepsSpec : ChangeSpec := { name := "fnExactAfterSteps", fn := fun _ => fun
  | [d1, d2] => { results := [.lit (.bool true)], args := [d1, d2] }
  | _ => none }
def fnExactAfterStepsRow : OpenClaim := { program := "ytpobcfmldimgiaa", sum := "c536ba11a0c337b57d3ad41270ac28ae852eab61daa41028d8de1b6b65e0bc50", func := "loop.example/rowmachines/laws.FnExactAfterSteps", spec := "fnExactAfterSteps", unfollowed := true, recurses := true, apart := false }
def FnExactAfterStepsSaid : Prop := fnExactAfterStepsRow.holds Try.pinned (OpenSpec.ofChange fnExactAfterStepsSpec)

/-- ITS FALSE NEIGHBOUR: 'it returns false'. Refute it at one input. -/
def fnExactAfterStepsWrong : ChangeSpec := { name := "fnExactAfterSteps", fn := fun _ => fun
  | [d1, d2] => { results := [.lit (.bool false)], args := [d1, d2] }
  | _ => none }
def FnExactAfterStepsWrongFalsely : Prop := fnExactAfterStepsRow.holds Try.pinned (OpenSpec.ofChange fnExactAfterStepsWrong)

/-- 'laws.FnExactInOrderOk': WHATEVER THE INPUT: true; the input reads as it did. -/
def fnExactInOrderOkSpec : ChangeSpec := { name := "fnExactInOrderOk", fn := fun _ => fun
  | [d] => { results := [.lit (.bool true)], args := [d] }
  | _ => none }
def fnExactInOrderOkRow : OpenClaim := { program := "ytpobcfmldimgiaa", sum := "c536ba11a0c337b57d3ad41270ac28ae852eab61daa41028d8de1b6b65e0bc50", func := "loop.example/rowmachines/laws.FnExactInOrderOk", spec := "fnExactInOrderOk", apart := false }
def FnExactInOrderOkSaid : Prop := fnExactInOrderOkRow.holds Try.pinned (OpenSpec.ofChange fnExactInOrderOkSpec)

/-- ITS FALSE NEIGHBOUR: 'it returns false'. Refute it at one input. -/
def fnExactInOrderOkWrong : ChangeSpec := { name := "fnExactInOrderOk", fn := fun _ => fun
  | [d] => { results := [.lit (.bool false)], args := [d] }
  | _ => none }
def FnExactInOrderOkWrongFalsely : Prop := fnExactInOrderOkRow.holds Try.pinned (OpenSpec.ofChange fnExactInOrderOkWrong)

/-- 'laws.FnExactStepsToOrder': WHATEVER THE INPUT: true; the input reads as it did. -/
def fnExactStepsToOrderSpec : ChangeSpec := { name := "fnExactStepsToOrder", fn := fun _ => fun
  | [d] => { results := [.lit (.bool true)], args := [d] }
  | _ => none }
def fnExactStepsToOrderRow : OpenClaim := { program := "ytpobcfmldimgiaa", sum := "c536ba11a0c337b57d3ad41270ac28ae852eab61daa41028d8de1b6b65e0bc50", func := "loop.example/rowmachines/laws.FnExactStepsToOrder", spec := "fnExactStepsToOrder", unfollowed := true, recurses := true, apart := false }
def FnExactStepsToOrderSaid : Prop := fnExactStepsToOrderRow.holds Try.pinned (OpenSpec.ofChange fnExactStepsToOrderSpec)

/-- ITS FALSE NEIGHBOUR: 'it returns false'. Refute it at one input. -/
def fnExactStepsToOrderWrong : ChangeSpec := { name := "fnExactStepsToOrder", fn := fun _ => fun
  | [d] => { results := [.lit (.bool false)], args := [d] }
  | _ => none }
def FnExactStepsToOrderWrongFalsely : Prop := fnExactStepsToOrderRow.holds Try.pinned (OpenSpec.ofChange fnExactStepsToOrderWrong)

/-- 'laws.FnExactBoundsOf': WHATEVER THE INPUT: true; the input reads as it did. -/
def fnExactBoundsOfSpec : ChangeSpec := { name := "fnExactBoundsOf", fn := fun _ => fun
  | [d1, d2] => { results := [.lit (.bool true)], args := [d1, d2] }
  | _ => none }
def fnExactBoundsOfRow : OpenClaim := { program := "ytpobcfmldimgiaa", sum := "c536ba11a0c337b57d3ad41270ac28ae852eab61daa41028d8de1b6b65e0bc50", func := "loop.example/rowmachines/laws.FnExactBoundsOf", spec := "fnExactBoundsOf", unfollowed := true, recurses := true, apart := false }
def FnExactBoundsOfSaid : Prop := fnExactBoundsOfRow.holds Try.pinned (OpenSpec.ofChange fnExactBoundsOfSpec)

/-- ITS FALSE NEIGHBOUR: 'it returns false'. Refute it at one input. -/
def fnExactBoundsOfWrong : ChangeSpec := { name := "fnExactBoundsOf", fn := fun _ => fun
  | [d1, d2] => { results := [.lit (.bool false)], args := [d1, d2] }
  | _ => none }
def FnExactBoundsOfWrongFalsely : Prop := fnExactBoundsOfRow.holds Try.pinned (OpenSpec.ofChange fnExactBoundsOfWrong)

/-- 'laws.FnExactAstrayOf': WHATEVER THE INPUT: true; the input reads as it did. -/
def fnExactAstrayOfSpec : ChangeSpec := { name := "fnExactAstrayOf", fn := fun _ => fun
  | [d] => { results := [.lit (.bool true)], args := [d] }
  | _ => none }
def fnExactAstrayOfRow : OpenClaim := { program := "ytpobcfmldimgiaa", sum := "c536ba11a0c337b57d3ad41270ac28ae852eab61daa41028d8de1b6b65e0bc50", func := "loop.example/rowmachines/laws.FnExactAstrayOf", spec := "fnExactAstrayOf", apart := false }
def FnExactAstrayOfSaid : Prop := fnExactAstrayOfRow.holds Try.pinned (OpenSpec.ofChange fnExactAstrayOfSpec)

/-- ITS FALSE NEIGHBOUR: 'it returns false'. Refute it at one input. -/
def fnExactAstrayOfWrong : ChangeSpec := { name := "fnExactAstrayOf", fn := fun _ => fun
  | [d] => { results := [.lit (.bool false)], args := [d] }
  | _ => none }
def FnExactAstrayOfWrongFalsely : Prop := fnExactAstrayOfRow.holds Try.pinned (OpenSpec.ofChange fnExactAstrayOfWrong)

/- THE SECOND FORM. 'bulk': how many values and letters a reading holds, each counted each time it is reached (what is shared counts as often as it is met; a slice's spare places count too). A statement '..UptoSaid' is the law's where the arguments, and the package variables that the reading takes, are together of bulk at most 1048576: NARROWER than '..Said'. Prove '..Said' where nothing that the law and all that it calls make is longer than what came in: it says more and counts as full. Else prove '..UptoSaid'. A law counts once. -/
mutual
def uptoBulk {H : Type} : DataW H → Nat
  | .lit (.string bytes) => bytes.length + 1
  | .lit _ => 1
  | .nil => 1
  | .ptr d => uptoBulk d + 1
  | .slice elems spare => uptoBulkAll elems + uptoBulkAll spare + 1
  | .agg parts => uptoBulkAll parts + 1
  | .iface _ d => uptoBulk d + 1
  | .map entries => uptoBulkEntries entries + 1
  | .held _ => 1
def uptoBulkAll {H : Type} : List (DataW H) → Nat
  | [] => 0
  | d :: r => uptoBulk d + uptoBulkAll r
def uptoBulkEntries {H : Type} : List (Lit × DataW H) → Nat
  | [] => 0
  | x :: r => uptoBulkEntry x + uptoBulkEntries r
def uptoBulkEntry {H : Type} : Lit × DataW H → Nat
  | (.string bytes, d) => bytes.length + uptoBulk d + 1
  | (_, d) => uptoBulk d + 1
 end
def uptoSmall : (H : Type) → List (DataW H) → Bool := fun _ ds => decide (uptoBulkAll ds ≤ 1048576)
def OpenSpec.upto (s : _root_.Go.ChangeSpec) : _root_.Go.OpenSpec := { _root_.Go.OpenSpec.ofChange s with cond := some uptoSmall }

/-- 'laws.FnKeptOk', WHERE WHAT IT READS IS OF BULK AT MOST 1048576: true; the input reads as it did. -/
def fnKeptOkUptoRow : OpenClaim := { program := "ytpobcfmldimgiaa", sum := "c536ba11a0c337b57d3ad41270ac28ae852eab61daa41028d8de1b6b65e0bc50", func := "loop.example/rowmachines/laws.FnKeptOk", spec := "fnKeptOk", apart := false, narrowed := true }
def FnKeptOkUptoSaid : Prop := fnKeptOkUptoRow.holds Try.pinned (OpenSpec.upto fnKeptOkSpec)

/-- 'laws.FnSwappedAt', WHERE WHAT IT READS IS OF BULK AT MOST 1048576: true; the input reads as it did. -/
def fnSwappedAtUptoRow : OpenClaim := { program := "ytpobcfmldimgiaa", sum := "c536ba11a0c337b57d3ad41270ac28ae852eab61daa41028d8de1b6b65e0bc50", func := "loop.example/rowmachines/laws.FnSwappedAt", spec := "fnSwappedAt", apart := false, narrowed := true }
def FnSwappedAtUptoSaid : Prop := fnSwappedAtUptoRow.holds Try.pinned (OpenSpec.upto fnSwappedAtSpec)

/-- 'laws.FnAfterSteps', WHERE WHAT IT READS IS OF BULK AT MOST 1048576: true; the input reads as it did. -/
def fnAfterStepsUptoRow : OpenClaim := { program := "ytpobcfmldimgiaa", sum := "c536ba11a0c337b57d3ad41270ac28ae852eab61daa41028d8de1b6b65e0bc50", func := "loop.example/rowmachines/laws.FnAfterSteps", spec := "fnAfterSteps", unfollowed := true, recurses := true, apart := false, narrowed := true }
def FnAfterStepsUptoSaid : Prop := fnAfterStepsUptoRow.holds Try.pinned (OpenSpec.upto fnAfterStepsSpec)

/-- 'laws.FnInOrderOk', WHERE WHAT IT READS IS OF BULK AT MOST 1048576: true; the input reads as it did. -/
def fnInOrderOkUptoRow : OpenClaim := { program := "ytpobcfmldimgiaa", sum := "c536ba11a0c337b57d3ad41270ac28ae852eab61daa41028d8de1b6b65e0bc50", func := "loop.example/rowmachines/laws.FnInOrderOk", spec := "fnInOrderOk", apart := false, narrowed := true }
def FnInOrderOkUptoSaid : Prop := fnInOrderOkUptoRow.holds Try.pinned (OpenSpec.upto fnInOrderOkSpec)

/-- 'laws.FnStepsToOrder', WHERE WHAT IT READS IS OF BULK AT MOST 1048576: true; the input reads as it did. -/
def fnStepsToOrderUptoRow : OpenClaim := { program := "ytpobcfmldimgiaa", sum := "c536ba11a0c337b57d3ad41270ac28ae852eab61daa41028d8de1b6b65e0bc50", func := "loop.example/rowmachines/laws.FnStepsToOrder", spec := "fnStepsToOrder", unfollowed := true, recurses := true, apart := false, narrowed := true }
def FnStepsToOrderUptoSaid : Prop := fnStepsToOrderUptoRow.holds Try.pinned (OpenSpec.upto fnStepsToOrderSpec)

/-- 'laws.FnBoundsOf', WHERE WHAT IT READS IS OF BULK AT MOST 1048576: true; the input reads as it did. -/
def fnBoundsOfUptoRow : OpenClaim := { program := "ytpobcfmldimgiaa", sum := "c536ba11a0c337b57d3ad41270ac28ae852eab61daa41028d8de1b6b65e0bc50", func := "loop.example/rowmachines/laws.FnBoundsOf", spec := "fnBoundsOf", unfollowed := true, recurses := true, apart := false, narrowed := true }
def FnBoundsOfUptoSaid : Prop := fnBoundsOfUptoRow.holds Try.pinned (OpenSpec.upto fnBoundsOfSpec)

/-- 'laws.FnAstrayOf', WHERE WHAT IT READS IS OF BULK AT MOST 1048576: true; the input reads as it did. -/
def fnAstrayOfUptoRow : OpenClaim := { program := "ytpobcfmldimgiaa", sum := "c536ba11a0c337b57d3ad41270ac28ae852eab61daa41028d8de1b6b65e0bc50", func := "loop.example/rowmachines/laws.FnAstrayOf", spec := "fnAstrayOf", unfollowed := true, recurses := true, apart := false, narrowed := true }
def FnAstrayOfUptoSaid : Prop := fnAstrayOfUptoRow.holds Try.pinned (OpenSpec.upto fnAstrayOfSpec)

/-- 'laws.FnExactKeptOk', WHERE WHAT IT READS IS OF BULK AT MOST 1048576: true; the input reads as it did. -/
def fnExactKeptOkUptoRow : OpenClaim := { program := "ytpobcfmldimgiaa", sum := "c536ba11a0c337b57d3ad41270ac28ae852eab61daa41028d8de1b6b65e0bc50", func := "loop.example/rowmachines/laws.FnExactKeptOk", spec := "fnExactKeptOk", apart := false, narrowed := true }
def FnExactKeptOkUptoSaid : Prop := fnExactKeptOkUptoRow.holds Try.pinned (OpenSpec.upto fnExactKeptOkSpec)

/-- 'laws.FnExactSwappedAt', WHERE WHAT IT READS IS OF BULK AT MOST 1048576: true; the input reads as it did. -/
def fnExactSwappedAtUptoRow : OpenClaim := { program := "ytpobcfmldimgiaa", sum := "c536ba11a0c337b57d3ad41270ac28ae852eab61daa41028d8de1b6b65e0bc50", func := "loop.example/rowmachines/laws.FnExactSwappedAt", spec := "fnExactSwappedAt", apart := false, narrowed := true }
def FnExactSwappedAtUptoSaid : Prop := fnExactSwappedAtUptoRow.holds Try.pinned (OpenSpec.upto fnExactSwappedAtSpec)

/-- 'laws.FnExactAfterSteps', WHERE WHAT IT READS IS OF BULK AT MOST 1048576: true; the input reads as it did. -/
def fnExactAfterStepsUptoRow : OpenClaim := { program := "ytpobcfmldimgiaa", sum := "c536ba11a0c337b57d3ad41270ac28ae852eab61daa41028d8de1b6b65e0bc50", func := "loop.example/rowmachines/laws.FnExactAfterSteps", spec := "fnExactAfterSteps", unfollowed := true, recurses := true, apart := false, narrowed := true }
def FnExactAfterStepsUptoSaid : Prop := fnExactAfterStepsUptoRow.holds Try.pinned (OpenSpec.upto fnExactAfterStepsSpec)

/-- 'laws.FnExactInOrderOk', WHERE WHAT IT READS IS OF BULK AT MOST 1048576: true; the input reads as it did. -/
def fnExactInOrderOkUptoRow : OpenClaim := { program := "ytpobcfmldimgiaa", sum := "c536ba11a0c337b57d3ad41270ac28ae852eab61daa41028d8de1b6b65e0bc50", func := "loop.example/rowmachines/laws.FnExactInOrderOk", spec := "fnExactInOrderOk", apart := false, narrowed := true }
def FnExactInOrderOkUptoSaid : Prop := fnExactInOrderOkUptoRow.holds Try.pinned (OpenSpec.upto fnExactInOrderOkSpec)

/-- 'laws.FnExactStepsToOrder', WHERE WHAT IT READS IS OF BULK AT MOST 1048576: true; the input reads as it did. -/
def fnExactStepsToOrderUptoRow : OpenClaim := { program := "ytpobcfmldimgiaa", sum := "c536ba11a0c337b57d3ad41270ac28ae852eab61daa41028d8de1b6b65e0bc50", func := "loop.example/rowmachines/laws.FnExactStepsToOrder", spec := "fnExactStepsToOrder", unfollowed := true, recurses := true, apart := false, narrowed := true }
def FnExactStepsToOrderUptoSaid : Prop := fnExactStepsToOrderUptoRow.holds Try.pinned (OpenSpec.upto fnExactStepsToOrderSpec)

/-- 'laws.FnExactBoundsOf', WHERE WHAT IT READS IS OF BULK AT MOST 1048576: true; the input reads as it did. -/
def fnExactBoundsOfUptoRow : OpenClaim := { program := "ytpobcfmldimgiaa", sum := "c536ba11a0c337b57d3ad41270ac28ae852eab61daa41028d8de1b6b65e0bc50", func := "loop.example/rowmachines/laws.FnExactBoundsOf", spec := "fnExactBoundsOf", unfollowed := true, recurses := true, apart := false, narrowed := true }
def FnExactBoundsOfUptoSaid : Prop := fnExactBoundsOfUptoRow.holds Try.pinned (OpenSpec.upto fnExactBoundsOfSpec)

/-- 'laws.FnExactAstrayOf', WHERE WHAT IT READS IS OF BULK AT MOST 1048576: true; the input reads as it did. -/
def fnExactAstrayOfUptoRow : OpenClaim := { program := "ytpobcfmldimgiaa", sum := "c536ba11a0c337b57d3ad41270ac28ae852eab61daa41028d8de1b6b65e0bc50", func := "loop.example/rowmachines/laws.FnExactAstrayOf", spec := "fnExactAstrayOf", apart := false, narrowed := true }
def FnExactAstrayOfUptoSaid : Prop := fnExactAstrayOfUptoRow.holds Try.pinned (OpenSpec.upto fnExactAstrayOfSpec)

end Rows
end Go.Proofs.Ytpobcfmldimgiaa
