/-
  No cell of these rows narrows 'for every input' (looked for: loops, veiled, ifaces, maps, wideKeys, modest, calm, conditions, laid).
  DERIVED. THE GIVEN ROWS OF THIS SEAT. 12 by the template 'for every input the law returns true; each argument reads behind the call as it read before'; 0 by the template 'total and deterministic' (their statements: YtnegbebfofcakaaTotals.lean).
  GIVEN WITH THE SEED: the statements are not yours to turn. If you find one false, say at which input.
  Laid BY PROGRAM, IN A SANDBOX (cutbox-rows.mjs): the forced cells as the released guide's own fill.sh prints them over the translation 0520c9c036fa89d6… (all of the seat's roots in one cut). By AI agents, Wed Nov 11 2026. No macro, syntax, notation, axiom, sorry.
-/
import Derived.Test.YtnegbebfofcakaaChecked
import GoSem.Claim
import GoSem.ClaimJoined
import GoSem.ClaimMapViews
import Derived.JoinedTies
import Derived.KernelRfl
namespace Go.Proofs.Ytnegbebfofcakaa
/- THE CELL 'sum', in the pinned program and in every row, IS THE sha256 OF THE DUMP (.gsa) THAT YtnegbebfofcakaaProg.lean LOADS. Nothing in Lean hashes anything: it is a label: what it is worth is what the hold of that sum in a sandbox is worth. -/
noncomputable def Try.pinned : Pinned := { name := "ytnegbebfofcakaa", sum := "0520c9c036fa89d6ae7cd0489812e54e9a3de633eecb3cf743bca189c848abcb", checked := Try.checked }
namespace Rows
def none {H : Type} : Left H := { results := [], args := [] }

/-- 'laws.FnCellsOk': WHATEVER THE INPUT: true; the input reads as it did. -/
def fnCellsOkSpec : ChangeSpec := { name := "fnCellsOk", fn := fun _ => fun
  | [d] => { results := [.lit (.bool true)], args := [d] }
  | _ => none }
def fnCellsOkRow : OpenClaim := { program := "ytnegbebfofcakaa", sum := "0520c9c036fa89d6ae7cd0489812e54e9a3de633eecb3cf743bca189c848abcb", func := "loop.example/rowmachines/laws.FnCellsOk", spec := "fnCellsOk", apart := false }
def FnCellsOkSaid : Prop := fnCellsOkRow.holds Try.pinned (OpenSpec.ofChange fnCellsOkSpec)

/-- ITS FALSE NEIGHBOUR: 'it returns false'. Refute it at one input. -/
def fnCellsOkWrong : ChangeSpec := { name := "fnCellsOk", fn := fun _ => fun
  | [d] => { results := [.lit (.bool false)], args := [d] }
  | _ => none }
def FnCellsOkWrongFalsely : Prop := fnCellsOkRow.holds Try.pinned (OpenSpec.ofChange fnCellsOkWrong)

/-- 'laws.FnExactCellsOk': WHATEVER THE INPUT: true; the input reads as it did. -/
def fnExactCellsOkSpec : ChangeSpec := { name := "fnExactCellsOk", fn := fun _ => fun
  | [d1, d2] => { results := [.lit (.bool true)], args := [d1, d2] }
  | _ => none }
def fnExactCellsOkRow : OpenClaim := { program := "ytnegbebfofcakaa", sum := "0520c9c036fa89d6ae7cd0489812e54e9a3de633eecb3cf743bca189c848abcb", func := "loop.example/rowmachines/laws.FnExactCellsOk", spec := "fnExactCellsOk", apart := false }
def FnExactCellsOkSaid : Prop := fnExactCellsOkRow.holds Try.pinned (OpenSpec.ofChange fnExactCellsOkSpec)

/-- ITS FALSE NEIGHBOUR: 'it returns false'. Refute it at one input. -/
def fnExactCellsOkWrong : ChangeSpec := { name := "fnExactCellsOk", fn := fun _ => fun
  | [d1, d2] => { results := [.lit (.bool false)], args := [d1, d2] }
  | _ => none }
def FnExactCellsOkWrongFalsely : Prop := fnExactCellsOkRow.holds Try.pinned (OpenSpec.ofChange fnExactCellsOkWrong)

/-- 'laws.FnRuleOk': WHATEVER THE INPUT: true; the input reads as it did. -/
def fnRuleOkSpec : ChangeSpec := { name := "fnRuleOk", fn := fun _ => fun
  | [d] => { results := [.lit (.bool true)], args := [d] }
  | _ => none }
def fnRuleOkRow : OpenClaim := { program := "ytnegbebfofcakaa", sum := "0520c9c036fa89d6ae7cd0489812e54e9a3de633eecb3cf743bca189c848abcb", func := "loop.example/rowmachines/laws.FnRuleOk", spec := "fnRuleOk", apart := false }
def FnRuleOkSaid : Prop := fnRuleOkRow.holds Try.pinned (OpenSpec.ofChange fnRuleOkSpec)

/-- ITS FALSE NEIGHBOUR: 'it returns false'. Refute it at one input. -/
def fnRuleOkWrong : ChangeSpec := { name := "fnRuleOk", fn := fun _ => fun
  | [d] => { results := [.lit (.bool false)], args := [d] }
  | _ => none }
def FnRuleOkWrongFalsely : Prop := fnRuleOkRow.holds Try.pinned (OpenSpec.ofChange fnRuleOkWrong)

/-- 'laws.FnExactRuleOk': WHATEVER THE INPUT: true; the input reads as it did. -/
def fnExactRuleOkSpec : ChangeSpec := { name := "fnExactRuleOk", fn := fun _ => fun
  | [d1, d2] => { results := [.lit (.bool true)], args := [d1, d2] }
  | _ => none }
def fnExactRuleOkRow : OpenClaim := { program := "ytnegbebfofcakaa", sum := "0520c9c036fa89d6ae7cd0489812e54e9a3de633eecb3cf743bca189c848abcb", func := "loop.example/rowmachines/laws.FnExactRuleOk", spec := "fnExactRuleOk", apart := false }
def FnExactRuleOkSaid : Prop := fnExactRuleOkRow.holds Try.pinned (OpenSpec.ofChange fnExactRuleOkSpec)

/-- ITS FALSE NEIGHBOUR: 'it returns false'. Refute it at one input. -/
def fnExactRuleOkWrong : ChangeSpec := { name := "fnExactRuleOk", fn := fun _ => fun
  | [d1, d2] => { results := [.lit (.bool false)], args := [d1, d2] }
  | _ => none }
def FnExactRuleOkWrongFalsely : Prop := fnExactRuleOkRow.holds Try.pinned (OpenSpec.ofChange fnExactRuleOkWrong)

/-- 'laws.FnStepOf': WHATEVER THE INPUT: true; the input reads as it did. -/
def fnStepOfSpec : ChangeSpec := { name := "fnStepOf", fn := fun _ => fun
  | [d] => { results := [.lit (.bool true)], args := [d] }
  | _ => none }
def fnStepOfRow : OpenClaim := { program := "ytnegbebfofcakaa", sum := "0520c9c036fa89d6ae7cd0489812e54e9a3de633eecb3cf743bca189c848abcb", func := "loop.example/rowmachines/laws.FnStepOf", spec := "fnStepOf", unfollowed := true, recurses := true, apart := false }
def FnStepOfSaid : Prop := fnStepOfRow.holds Try.pinned (OpenSpec.ofChange fnStepOfSpec)

/-- ITS FALSE NEIGHBOUR: 'it returns false'. Refute it at one input. -/
def fnStepOfWrong : ChangeSpec := { name := "fnStepOf", fn := fun _ => fun
  | [d] => { results := [.lit (.bool false)], args := [d] }
  | _ => none }
def FnStepOfWrongFalsely : Prop := fnStepOfRow.holds Try.pinned (OpenSpec.ofChange fnStepOfWrong)

/-- 'laws.FnExactStepOf': WHATEVER THE INPUT: true; the input reads as it did. -/
def fnExactStepOfSpec : ChangeSpec := { name := "fnExactStepOf", fn := fun _ => fun
  | [d1, d2, d3] => { results := [.lit (.bool true)], args := [d1, d2, d3] }
  | _ => none }
def fnExactStepOfRow : OpenClaim := { program := "ytnegbebfofcakaa", sum := "0520c9c036fa89d6ae7cd0489812e54e9a3de633eecb3cf743bca189c848abcb", func := "loop.example/rowmachines/laws.FnExactStepOf", spec := "fnExactStepOf", unfollowed := true, recurses := true, apart := false }
def FnExactStepOfSaid : Prop := fnExactStepOfRow.holds Try.pinned (OpenSpec.ofChange fnExactStepOfSpec)

/-- ITS FALSE NEIGHBOUR: 'it returns false'. Refute it at one input. -/
def fnExactStepOfWrong : ChangeSpec := { name := "fnExactStepOf", fn := fun _ => fun
  | [d1, d2, d3] => { results := [.lit (.bool false)], args := [d1, d2, d3] }
  | _ => none }
def FnExactStepOfWrongFalsely : Prop := fnExactStepOfRow.holds Try.pinned (OpenSpec.ofChange fnExactStepOfWrong)

/-- 'laws.FnRunOf': WHATEVER THE INPUT: true; the input reads as it did. -/
def fnRunOfSpec : ChangeSpec := { name := "fnRunOf", fn := fun _ => fun
  | [d] => { results := [.lit (.bool true)], args := [d] }
  | _ => none }
def fnRunOfRow : OpenClaim := { program := "ytnegbebfofcakaa", sum := "0520c9c036fa89d6ae7cd0489812e54e9a3de633eecb3cf743bca189c848abcb", func := "loop.example/rowmachines/laws.FnRunOf", spec := "fnRunOf", unfollowed := true, recurses := true, apart := false }
def FnRunOfSaid : Prop := fnRunOfRow.holds Try.pinned (OpenSpec.ofChange fnRunOfSpec)

/-- ITS FALSE NEIGHBOUR: 'it returns false'. Refute it at one input. -/
def fnRunOfWrong : ChangeSpec := { name := "fnRunOf", fn := fun _ => fun
  | [d] => { results := [.lit (.bool false)], args := [d] }
  | _ => none }
def FnRunOfWrongFalsely : Prop := fnRunOfRow.holds Try.pinned (OpenSpec.ofChange fnRunOfWrong)

/-- 'laws.FnExactRunOf': WHATEVER THE INPUT: true; the input reads as it did. -/
def fnExactRunOfSpec : ChangeSpec := { name := "fnExactRunOf", fn := fun _ => fun
  | [d1, d2, d3, d4] => { results := [.lit (.bool true)], args := [d1, d2, d3, d4] }
  | _ => none }
def fnExactRunOfRow : OpenClaim := { program := "ytnegbebfofcakaa", sum := "0520c9c036fa89d6ae7cd0489812e54e9a3de633eecb3cf743bca189c848abcb", func := "loop.example/rowmachines/laws.FnExactRunOf", spec := "fnExactRunOf", unfollowed := true, recurses := true, apart := false }
def FnExactRunOfSaid : Prop := fnExactRunOfRow.holds Try.pinned (OpenSpec.ofChange fnExactRunOfSpec)

/-- ITS FALSE NEIGHBOUR: 'it returns false'. Refute it at one input. -/
def fnExactRunOfWrong : ChangeSpec := { name := "fnExactRunOf", fn := fun _ => fun
  | [d1, d2, d3, d4] => { results := [.lit (.bool false)], args := [d1, d2, d3, d4] }
  | _ => none }
def FnExactRunOfWrongFalsely : Prop := fnExactRunOfRow.holds Try.pinned (OpenSpec.ofChange fnExactRunOfWrong)

/-- 'laws.FnWidenedOf': WHATEVER THE INPUT: true; the input reads as it did. -/
def fnWidenedOfSpec : ChangeSpec := { name := "fnWidenedOf", fn := fun _ => fun
  | [d1, d2] => { results := [.lit (.bool true)], args := [d1, d2] }
  | _ => none }
def fnWidenedOfRow : OpenClaim := { program := "ytnegbebfofcakaa", sum := "0520c9c036fa89d6ae7cd0489812e54e9a3de633eecb3cf743bca189c848abcb", func := "loop.example/rowmachines/laws.FnWidenedOf", spec := "fnWidenedOf", unfollowed := true, recurses := true, apart := false }
def FnWidenedOfSaid : Prop := fnWidenedOfRow.holds Try.pinned (OpenSpec.ofChange fnWidenedOfSpec)

/-- ITS FALSE NEIGHBOUR: 'it returns false'. Refute it at one input. -/
def fnWidenedOfWrong : ChangeSpec := { name := "fnWidenedOf", fn := fun _ => fun
  | [d1, d2] => { results := [.lit (.bool false)], args := [d1, d2] }
  | _ => none }
def FnWidenedOfWrongFalsely : Prop := fnWidenedOfRow.holds Try.pinned (OpenSpec.ofChange fnWidenedOfWrong)

/-- 'laws.FnExactWidenedOf': WHATEVER THE INPUT: true; the input reads as it did. -/
def fnExactWidenedOfSpec : ChangeSpec := { name := "fnExactWidenedOf", fn := fun _ => fun
  | [d1, d2, d3] => { results := [.lit (.bool true)], args := [d1, d2, d3] }
  | _ => none }
def fnExactWidenedOfRow : OpenClaim := { program := "ytnegbebfofcakaa", sum := "0520c9c036fa89d6ae7cd0489812e54e9a3de633eecb3cf743bca189c848abcb", func := "loop.example/rowmachines/laws.FnExactWidenedOf", spec := "fnExactWidenedOf", apart := false }
def FnExactWidenedOfSaid : Prop := fnExactWidenedOfRow.holds Try.pinned (OpenSpec.ofChange fnExactWidenedOfSpec)

/-- ITS FALSE NEIGHBOUR: 'it returns false'. Refute it at one input. -/
def fnExactWidenedOfWrong : ChangeSpec := { name := "fnExactWidenedOf", fn := fun _ => fun
  | [d1, d2, d3] => { results := [.lit (.bool false)], args := [d1, d2, d3] }
  | _ => none }
def FnExactWidenedOfWrongFalsely : Prop := fnExactWidenedOfRow.holds Try.pinned (OpenSpec.ofChange fnExactWidenedOfWrong)

/-- 'laws.FnTurnedRule': WHATEVER THE INPUT: true; the input reads as it did. -/
def fnTurnedRuleSpec : ChangeSpec := { name := "fnTurnedRule", fn := fun _ => fun
  | [d] => { results := [.lit (.bool true)], args := [d] }
  | _ => none }
def fnTurnedRuleRow : OpenClaim := { program := "ytnegbebfofcakaa", sum := "0520c9c036fa89d6ae7cd0489812e54e9a3de633eecb3cf743bca189c848abcb", func := "loop.example/rowmachines/laws.FnTurnedRule", spec := "fnTurnedRule", apart := false }
def FnTurnedRuleSaid : Prop := fnTurnedRuleRow.holds Try.pinned (OpenSpec.ofChange fnTurnedRuleSpec)

/-- ITS FALSE NEIGHBOUR: 'it returns false'. Refute it at one input. -/
def fnTurnedRuleWrong : ChangeSpec := { name := "fnTurnedRule", fn := fun _ => fun
  | [d] => { results := [.lit (.bool false)], args := [d] }
  | _ => none }
def FnTurnedRuleWrongFalsely : Prop := fnTurnedRuleRow.holds Try.pinned (OpenSpec.ofChange fnTurnedRuleWrong)

/-- 'laws.FnExactTurnedRule': WHATEVER THE INPUT: true; the input reads as it did. -/
def fnExactTurnedRuleSpec : ChangeSpec := { name := "fnExactTurnedRule", fn := fun _ => fun
  | [d1, d2] => { results := [.lit (.bool true)], args := [d1, d2] }
  | _ => none }
def fnExactTurnedRuleRow : OpenClaim := { program := "ytnegbebfofcakaa", sum := "0520c9c036fa89d6ae7cd0489812e54e9a3de633eecb3cf743bca189c848abcb", func := "loop.example/rowmachines/laws.FnExactTurnedRule", spec := "fnExactTurnedRule", apart := false }
def FnExactTurnedRuleSaid : Prop := fnExactTurnedRuleRow.holds Try.pinned (OpenSpec.ofChange fnExactTurnedRuleSpec)

/-- ITS FALSE NEIGHBOUR: 'it returns false'. Refute it at one input. -/
def fnExactTurnedRuleWrong : ChangeSpec := { name := "fnExactTurnedRule", fn := fun _ => fun
  | [d1, d2] => { results := [.lit (.bool false)], args := [d1, d2] }
  | _ => none }
def FnExactTurnedRuleWrongFalsely : Prop := fnExactTurnedRuleRow.holds Try.pinned (OpenSpec.ofChange fnExactTurnedRuleWrong)

/- THE SECOND FORM. 'bulk': how many values and letters a reading holds, each counted each time it is reached (what is shared counts as often as it is met; a slice's spare places count too). A statement '..UptoSaid' is the law's where the arguments, and the package variables that the reading takes, are together of bulk at most 1048576: NARROWER than '..Said'. Prove '..Said' where nothing that the law and all that it calls make is longer than what came in: it says more and counts as full. Else prove '..UptoSaid'. A law counts once. -/
mutual
def uptoBulk {H : Type} : DataW H → Nat
  | .lit (.string bytes) => bytes.length + 1
  | .lit _ => 1
  | .nil => 1
  | .ptr d => uptoBulk d + 1
  | .slice elems spare => uptoBulkAll elems + uptoBulkAll spare + 1
  | .agg parts => uptoBulkAll parts + 1
  | .iface _ d => uptoBulk d + 1
  | .map entries => uptoBulkEntries entries + 1
  | .held _ => 1
def uptoBulkAll {H : Type} : List (DataW H) → Nat
  | [] => 0
  | d :: r => uptoBulk d + uptoBulkAll r
def uptoBulkEntries {H : Type} : List (Lit × DataW H) → Nat
  | [] => 0
  | x :: r => uptoBulkEntry x + uptoBulkEntries r
def uptoBulkEntry {H : Type} : Lit × DataW H → Nat
  | (.string bytes, d) => bytes.length + uptoBulk d + 1
  | (_, d) => uptoBulk d + 1
 end
def uptoSmall : (H : Type) → List (DataW H) → Bool := fun _ ds => decide (uptoBulkAll ds ≤ 1048576)
def OpenSpec.upto (s : _root_.Go.ChangeSpec) : _root_.Go.OpenSpec := { _root_.Go.OpenSpec.ofChange s with cond := some uptoSmall }

/-- 'laws.FnCellsOk', WHERE WHAT IT READS IS OF BULK AT MOST 1048576: true; the input reads as it did. -/
def fnCellsOkUptoRow : OpenClaim := { program := "ytnegbebfofcakaa", sum := "0520c9c036fa89d6ae7cd0489812e54e9a3de633eecb3cf743bca189c848abcb", func := "loop.example/rowmachines/laws.FnCellsOk", spec := "fnCellsOk", apart := false, narrowed := true }
def FnCellsOkUptoSaid : Prop := fnCellsOkUptoRow.holds Try.pinned (OpenSpec.upto fnCellsOkSpec)

/-- 'laws.FnExactCellsOk', WHERE WHAT IT READS IS OF BULK AT MOST 1048576: true; the input reads as it did. -/
def fnExactCellsOkUptoRow : OpenClaim := { program := "ytnegbebfofcakaa", sum := "0520c9c036fa89d6ae7cd0489812e54e9a3de633eecb3cf743bca189c848abcb", func := "loop.example/rowmachines/laws.FnExactCellsOk", spec := "fnExactCellsOk", apart := false, narrowed := true }
def FnExactCellsOkUptoSaid : Prop := fnExactCellsOkUptoRow.holds Try.pinned (OpenSpec.upto fnExactCellsOkSpec)

/-- 'laws.FnRuleOk', WHERE WHAT IT READS IS OF BULK AT MOST 1048576: true; the input reads as it did. -/
def fnRuleOkUptoRow : OpenClaim := { program := "ytnegbebfofcakaa", sum := "0520c9c036fa89d6ae7cd0489812e54e9a3de633eecb3cf743bca189c848abcb", func := "loop.example/rowmachines/laws.FnRuleOk", spec := "fnRuleOk", apart := false, narrowed := true }
def FnRuleOkUptoSaid : Prop := fnRuleOkUptoRow.holds Try.pinned (OpenSpec.upto fnRuleOkSpec)

/-- 'laws.FnExactRuleOk', WHERE WHAT IT READS IS OF BULK AT MOST 1048576: true; the input reads as it did. -/
def fnExactRuleOkUptoRow : OpenClaim := { program := "ytnegbebfofcakaa", sum := "0520c9c036fa89d6ae7cd0489812e54e9a3de633eecb3cf743bca189c848abcb", func := "loop.example/rowmachines/laws.FnExactRuleOk", spec := "fnExactRuleOk", apart := false, narrowed := true }
def FnExactRuleOkUptoSaid : Prop := fnExactRuleOkUptoRow.holds Try.pinned (OpenSpec.upto fnExactRuleOkSpec)

/-- 'laws.FnStepOf', WHERE WHAT IT READS IS OF BULK AT MOST 1048576: true; the input reads as it did. -/
def fnStepOfUptoRow : OpenClaim := { program := "ytnegbebfofcakaa", sum := "0520c9c036fa89d6ae7cd0489812e54e9a3de633eecb3cf743bca189c848abcb", func := "loop.example/rowmachines/laws.FnStepOf", spec := "fnStepOf", unfollowed := true, recurses := true, apart := false, narrowed := true }
def FnStepOfUptoSaid : Prop := fnStepOfUptoRow.holds Try.pinned (OpenSpec.upto fnStepOfSpec)

/-- 'laws.FnExactStepOf', WHERE WHAT IT READS IS OF BULK AT MOST 1048576: true; the input reads as it did. -/
def fnExactStepOfUptoRow : OpenClaim := { program := "ytnegbebfofcakaa", sum := "0520c9c036fa89d6ae7cd0489812e54e9a3de633eecb3cf743bca189c848abcb", func := "loop.example/rowmachines/laws.FnExactStepOf", spec := "fnExactStepOf", unfollowed := true, recurses := true, apart := false, narrowed := true }
def FnExactStepOfUptoSaid : Prop := fnExactStepOfUptoRow.holds Try.pinned (OpenSpec.upto fnExactStepOfSpec)

/-- 'laws.FnRunOf', WHERE WHAT IT READS IS OF BULK AT MOST 1048576: true; the input reads as it did. -/
def fnRunOfUptoRow : OpenClaim := { program := "ytnegbebfofcakaa", sum := "0520c9c036fa89d6ae7cd0489812e54e9a3de633eecb3cf743bca189c848abcb", func := "loop.example/rowmachines/laws.FnRunOf", spec := "fnRunOf", unfollowed := true, recurses := true, apart := false, narrowed := true }
def FnRunOfUptoSaid : Prop := fnRunOfUptoRow.holds Try.pinned (OpenSpec.upto fnRunOfSpec)

/-- 'laws.FnExactRunOf', WHERE WHAT IT READS IS OF BULK AT MOST 1048576: true; the input reads as it did. -/
def fnExactRunOfUptoRow : OpenClaim := { program := "ytnegbebfofcakaa", sum := "0520c9c036fa89d6ae7cd0489812e54e9a3de633eecb3cf743bca189c848abcb", func := "loop.example/rowmachines/laws.FnExactRunOf", spec := "fnExactRunOf", unfollowed := true, recurses := true, apart := false, narrowed := true }
def FnExactRunOfUptoSaid : Prop := fnExactRunOfUptoRow.holds Try.pinned (OpenSpec.upto fnExactRunOfSpec)

/-- 'laws.FnWidenedOf', WHERE WHAT IT READS IS OF BULK AT MOST 1048576: true; the input reads as it did. -/
def fnWidenedOfUptoRow : OpenClaim := { program := "ytnegbebfofcakaa", sum := "0520c9c036fa89d6ae7cd0489812e54e9a3de633eecb3cf743bca189c848abcb", func := "loop.example/rowmachines/laws.FnWidenedOf", spec := "fnWidenedOf", unfollowed := true, recurses := true, apart := false, narrowed := true }
def FnWidenedOfUptoSaid : Prop := fnWidenedOfUptoRow.holds Try.pinned (OpenSpec.upto fnWidenedOfSpec)

/-- 'laws.FnExactWidenedOf', WHERE WHAT IT READS IS OF BULK AT MOST 1048576: true; the input reads as it did. -/
def fnExactWidenedOfUptoRow : OpenClaim := { program := "ytnegbebfofcakaa", sum := "0520c9c036fa89d6ae7cd0489812e54e9a3de633eecb3cf743bca189c848abcb", func := "loop.example/rowmachines/laws.FnExactWidenedOf", spec := "fnExactWidenedOf", apart := false, narrowed := true }
def FnExactWidenedOfUptoSaid : Prop := fnExactWidenedOfUptoRow.holds Try.pinned (OpenSpec.upto fnExactWidenedOfSpec)

/-- 'laws.FnTurnedRule', WHERE WHAT IT READS IS OF BULK AT MOST 1048576: true; the input reads as it did. -/
def fnTurnedRuleUptoRow : OpenClaim := { program := "ytnegbebfofcakaa", sum := "0520c9c036fa89d6ae7cd0489812e54e9a3de633eecb3cf743bca189c848abcb", func := "loop.example/rowmachines/laws.FnTurnedRule", spec := "fnTurnedRule", apart := false, narrowed := true }
def FnTurnedRuleUptoSaid : Prop := fnTurnedRuleUptoRow.holds Try.pinned (OpenSpec.upto fnTurnedRuleSpec)

/-- 'laws.FnExactTurnedRule', WHERE WHAT IT READS IS OF BULK AT MOST 1048576: true; the input reads as it did. -/
def fnExactTurnedRuleUptoRow : OpenClaim := { program := "ytnegbebfofcakaa", sum := "0520c9c036fa89d6ae7cd0489812e54e9a3de633eecb3cf743bca189c848abcb", func := "loop.example/rowmachines/laws.FnExactTurnedRule", spec := "fnExactTurnedRule", apart := false, narrowed := true }
def FnExactTurnedRuleUptoSaid : Prop := fnExactTurnedRuleUptoRow.holds Try.pinned (OpenSpec.upto fnExactTurnedRuleSpec)

end Rows
end Go.Proofs.Ytnegbebfofcakaa
