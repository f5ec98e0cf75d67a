/-
  No cell of these rows narrows 'for every input' (looked for: loops, veiled, ifaces, maps, wideKeys, modest, calm, conditions, laid).
  DERIVED. THE GIVEN ROWS OF THIS SEAT. 12 by the template 'for every input the law returns true; each argument reads behind the call as it read before'; 0 by the template 'total and deterministic' (their statements: YtmjcefidhigppaaTotals.lean).
  GIVEN WITH THE SEED: the statements are not yours to turn. If you find one false, say at which input.
  Laid BY PROGRAM, IN A SANDBOX (cutbox-rows.mjs): the forced cells as the released guide's own fill.sh prints them over the translation 3e3705f55e2ef91e… (all of the seat's roots in one cut). By AI agents, Wed Nov 11 2026. No macro, syntax, notation, axiom, sorry.
-/
import Derived.Test.YtmjcefidhigppaaChecked
import GoSem.Claim
import GoSem.ClaimJoined
import GoSem.ClaimMapViews
import Derived.JoinedTies
import Derived.KernelRfl
namespace Go.Proofs.Ytmjcefidhigppaa
/- THE CELL 'sum', in the pinned program and in every row, IS THE sha256 OF THE DUMP (.gsa) THAT YtmjcefidhigppaaProg.lean LOADS. Nothing in Lean hashes anything: it is a label: what it is worth is what the hold of that sum in a sandbox is worth. -/
noncomputable def Try.pinned : Pinned := { name := "ytmjcefidhigppaa", sum := "3e3705f55e2ef91e23b7646475087232a9724fccf086ee3ca5a5a2d891d6600d", checked := Try.checked }
namespace Rows
def none {H : Type} : Left H := { results := [], args := [] }

/-- 'laws.FnDrivenOf': WHATEVER THE INPUT: true; the input reads as it did. -/
def fnDrivenOfSpec : ChangeSpec := { name := "fnDrivenOf", fn := fun _ => fun
  | [d] => { results := [.lit (.bool true)], args := [d] }
  | _ => none }
def fnDrivenOfRow : OpenClaim := { program := "ytmjcefidhigppaa", sum := "3e3705f55e2ef91e23b7646475087232a9724fccf086ee3ca5a5a2d891d6600d", func := "loop.example/rowmachines/laws.FnDrivenOf", spec := "fnDrivenOf", apart := false }
def FnDrivenOfSaid : Prop := fnDrivenOfRow.holds Try.pinned (OpenSpec.ofChange fnDrivenOfSpec)

/-- ITS FALSE NEIGHBOUR: 'it returns false'. Refute it at one input. -/
def fnDrivenOfWrong : ChangeSpec := { name := "fnDrivenOf", fn := fun _ => fun
  | [d] => { results := [.lit (.bool false)], args := [d] }
  | _ => none }
def FnDrivenOfWrongFalsely : Prop := fnDrivenOfRow.holds Try.pinned (OpenSpec.ofChange fnDrivenOfWrong)

/-- 'laws.FnExactDrivenOf': WHATEVER THE INPUT: true; the input reads as it did. -/
def fnExactDrivenOfSpec : ChangeSpec := { name := "fnExactDrivenOf", fn := fun _ => fun
  | [d] => { results := [.lit (.bool true)], args := [d] }
  | _ => none }
def fnExactDrivenOfRow : OpenClaim := { program := "ytmjcefidhigppaa", sum := "3e3705f55e2ef91e23b7646475087232a9724fccf086ee3ca5a5a2d891d6600d", func := "loop.example/rowmachines/laws.FnExactDrivenOf", spec := "fnExactDrivenOf", apart := false }
def FnExactDrivenOfSaid : Prop := fnExactDrivenOfRow.holds Try.pinned (OpenSpec.ofChange fnExactDrivenOfSpec)

/-- ITS FALSE NEIGHBOUR: 'it returns false'. Refute it at one input. -/
def fnExactDrivenOfWrong : ChangeSpec := { name := "fnExactDrivenOf", fn := fun _ => fun
  | [d] => { results := [.lit (.bool false)], args := [d] }
  | _ => none }
def FnExactDrivenOfWrongFalsely : Prop := fnExactDrivenOfRow.holds Try.pinned (OpenSpec.ofChange fnExactDrivenOfWrong)

/-- 'laws.FnDrivenAfter': WHATEVER THE INPUT: true; the input reads as it did. -/
def fnDrivenAfterSpec : ChangeSpec := { name := "fnDrivenAfter", fn := fun _ => fun
  | [d] => { results := [.lit (.bool true)], args := [d] }
  | _ => none }
def fnDrivenAfterRow : OpenClaim := { program := "ytmjcefidhigppaa", sum := "3e3705f55e2ef91e23b7646475087232a9724fccf086ee3ca5a5a2d891d6600d", func := "loop.example/rowmachines/laws.FnDrivenAfter", spec := "fnDrivenAfter", apart := false }
def FnDrivenAfterSaid : Prop := fnDrivenAfterRow.holds Try.pinned (OpenSpec.ofChange fnDrivenAfterSpec)

/-- ITS FALSE NEIGHBOUR: 'it returns false'. Refute it at one input. -/
def fnDrivenAfterWrong : ChangeSpec := { name := "fnDrivenAfter", fn := fun _ => fun
  | [d] => { results := [.lit (.bool false)], args := [d] }
  | _ => none }
def FnDrivenAfterWrongFalsely : Prop := fnDrivenAfterRow.holds Try.pinned (OpenSpec.ofChange fnDrivenAfterWrong)

/-- 'laws.FnExactDrivenAfter': WHATEVER THE INPUT: true; the input reads as it did. -/
def fnExactDrivenAfterSpec : ChangeSpec := { name := "fnExactDrivenAfter", fn := fun _ => fun
  | [d1, d2] => { results := [.lit (.bool true)], args := [d1, d2] }
  | _ => none }
def fnExactDrivenAfterRow : OpenClaim := { program := "ytmjcefidhigppaa", sum := "3e3705f55e2ef91e23b7646475087232a9724fccf086ee3ca5a5a2d891d6600d", func := "loop.example/rowmachines/laws.FnExactDrivenAfter", spec := "fnExactDrivenAfter", apart := false }
def FnExactDrivenAfterSaid : Prop := fnExactDrivenAfterRow.holds Try.pinned (OpenSpec.ofChange fnExactDrivenAfterSpec)

/-- ITS FALSE NEIGHBOUR: 'it returns false'. Refute it at one input. -/
def fnExactDrivenAfterWrong : ChangeSpec := { name := "fnExactDrivenAfter", fn := fun _ => fun
  | [d1, d2] => { results := [.lit (.bool false)], args := [d1, d2] }
  | _ => none }
def FnExactDrivenAfterWrongFalsely : Prop := fnExactDrivenAfterRow.holds Try.pinned (OpenSpec.ofChange fnExactDrivenAfterWrong)

/-- 'laws.FnFlowOf': WHATEVER THE INPUT: true; the input reads as it did. -/
def fnFlowOfSpec : ChangeSpec := { name := "fnFlowOf", fn := fun _ => fun
  | [d] => { results := [.lit (.bool true)], args := [d] }
  | _ => none }
def fnFlowOfRow : OpenClaim := { program := "ytmjcefidhigppaa", sum := "3e3705f55e2ef91e23b7646475087232a9724fccf086ee3ca5a5a2d891d6600d", func := "loop.example/rowmachines/laws.FnFlowOf", spec := "fnFlowOf", apart := false }
def FnFlowOfSaid : Prop := fnFlowOfRow.holds Try.pinned (OpenSpec.ofChange fnFlowOfSpec)

/-- ITS FALSE NEIGHBOUR: 'it returns false'. Refute it at one input. -/
def fnFlowOfWrong : ChangeSpec := { name := "fnFlowOf", fn := fun _ => fun
  | [d] => { results := [.lit (.bool false)], args := [d] }
  | _ => none }
def FnFlowOfWrongFalsely : Prop := fnFlowOfRow.holds Try.pinned (OpenSpec.ofChange fnFlowOfWrong)

/-- 'laws.FnExactFlowOf': WHATEVER THE INPUT: true; the input reads as it did. -/
def fnExactFlowOfSpec : ChangeSpec := { name := "fnExactFlowOf", fn := fun _ => fun
  | [d] => { results := [.lit (.bool true)], args := [d] }
  | _ => none }
def fnExactFlowOfRow : OpenClaim := { program := "ytmjcefidhigppaa", sum := "3e3705f55e2ef91e23b7646475087232a9724fccf086ee3ca5a5a2d891d6600d", func := "loop.example/rowmachines/laws.FnExactFlowOf", spec := "fnExactFlowOf", apart := false }
def FnExactFlowOfSaid : Prop := fnExactFlowOfRow.holds Try.pinned (OpenSpec.ofChange fnExactFlowOfSpec)

/-- ITS FALSE NEIGHBOUR: 'it returns false'. Refute it at one input. -/
def fnExactFlowOfWrong : ChangeSpec := { name := "fnExactFlowOf", fn := fun _ => fun
  | [d] => { results := [.lit (.bool false)], args := [d] }
  | _ => none }
def FnExactFlowOfWrongFalsely : Prop := fnExactFlowOfRow.holds Try.pinned (OpenSpec.ofChange fnExactFlowOfWrong)

/-- 'laws.FnEndFlow': WHATEVER THE INPUT: true; the input reads as it did. -/
def fnEndFlowSpec : ChangeSpec := { name := "fnEndFlow", fn := fun _ => fun
  | [d] => { results := [.lit (.bool true)], args := [d] }
  | _ => none }
def fnEndFlowRow : OpenClaim := { program := "ytmjcefidhigppaa", sum := "3e3705f55e2ef91e23b7646475087232a9724fccf086ee3ca5a5a2d891d6600d", func := "loop.example/rowmachines/laws.FnEndFlow", spec := "fnEndFlow", apart := false }
def FnEndFlowSaid : Prop := fnEndFlowRow.holds Try.pinned (OpenSpec.ofChange fnEndFlowSpec)

/-- ITS FALSE NEIGHBOUR: 'it returns false'. Refute it at one input. -/
def fnEndFlowWrong : ChangeSpec := { name := "fnEndFlow", fn := fun _ => fun
  | [d] => { results := [.lit (.bool false)], args := [d] }
  | _ => none }
def FnEndFlowWrongFalsely : Prop := fnEndFlowRow.holds Try.pinned (OpenSpec.ofChange fnEndFlowWrong)

/-- 'laws.FnExactEndFlow': WHATEVER THE INPUT: true; the input reads as it did. -/
def fnExactEndFlowSpec : ChangeSpec := { name := "fnExactEndFlow", fn := fun _ => fun
  | [d] => { results := [.lit (.bool true)], args := [d] }
  | _ => none }
def fnExactEndFlowRow : OpenClaim := { program := "ytmjcefidhigppaa", sum := "3e3705f55e2ef91e23b7646475087232a9724fccf086ee3ca5a5a2d891d6600d", func := "loop.example/rowmachines/laws.FnExactEndFlow", spec := "fnExactEndFlow", apart := false }
def FnExactEndFlowSaid : Prop := fnExactEndFlowRow.holds Try.pinned (OpenSpec.ofChange fnExactEndFlowSpec)

/-- ITS FALSE NEIGHBOUR: 'it returns false'. Refute it at one input. -/
def fnExactEndFlowWrong : ChangeSpec := { name := "fnExactEndFlow", fn := fun _ => fun
  | [d] => { results := [.lit (.bool false)], args := [d] }
  | _ => none }
def FnExactEndFlowWrongFalsely : Prop := fnExactEndFlowRow.holds Try.pinned (OpenSpec.ofChange fnExactEndFlowWrong)

/-- 'laws.FnFreeAs': WHATEVER THE INPUT: true; the input reads as it did. -/
def fnFreeAsSpec : ChangeSpec := { name := "fnFreeAs", fn := fun _ => fun
  | [d] => { results := [.lit (.bool true)], args := [d] }
  | _ => none }
def fnFreeAsRow : OpenClaim := { program := "ytmjcefidhigppaa", sum := "3e3705f55e2ef91e23b7646475087232a9724fccf086ee3ca5a5a2d891d6600d", func := "loop.example/rowmachines/laws.FnFreeAs", spec := "fnFreeAs", apart := false }
def FnFreeAsSaid : Prop := fnFreeAsRow.holds Try.pinned (OpenSpec.ofChange fnFreeAsSpec)

/-- ITS FALSE NEIGHBOUR: 'it returns false'. Refute it at one input. -/
def fnFreeAsWrong : ChangeSpec := { name := "fnFreeAs", fn := fun _ => fun
  | [d] => { results := [.lit (.bool false)], args := [d] }
  | _ => none }
def FnFreeAsWrongFalsely : Prop := fnFreeAsRow.holds Try.pinned (OpenSpec.ofChange fnFreeAsWrong)

/-- 'laws.FnExactFreeAs': WHATEVER THE INPUT: true; the input reads as it did. -/
def fnExactFreeAsSpec : ChangeSpec := { name := "fnExactFreeAs", fn := fun _ => fun
  | [d] => { results := [.lit (.bool true)], args := [d] }
  | _ => none }
def fnExactFreeAsRow : OpenClaim := { program := "ytmjcefidhigppaa", sum := "3e3705f55e2ef91e23b7646475087232a9724fccf086ee3ca5a5a2d891d6600d", func := "loop.example/rowmachines/laws.FnExactFreeAs", spec := "fnExactFreeAs", apart := false }
def FnExactFreeAsSaid : Prop := fnExactFreeAsRow.holds Try.pinned (OpenSpec.ofChange fnExactFreeAsSpec)

/-- ITS FALSE NEIGHBOUR: 'it returns false'. Refute it at one input. -/
def fnExactFreeAsWrong : ChangeSpec := { name := "fnExactFreeAs", fn := fun _ => fun
  | [d] => { results := [.lit (.bool false)], args := [d] }
  | _ => none }
def FnExactFreeAsWrongFalsely : Prop := fnExactFreeAsRow.holds Try.pinned (OpenSpec.ofChange fnExactFreeAsWrong)

/-- 'laws.FnFlowingAfter': WHATEVER THE INPUT: true; the input reads as it did. -/
def fnFlowingAfterSpec : ChangeSpec := { name := "fnFlowingAfter", fn := fun _ => fun
  | [d] => { results := [.lit (.bool true)], args := [d] }
  | _ => none }
def fnFlowingAfterRow : OpenClaim := { program := "ytmjcefidhigppaa", sum := "3e3705f55e2ef91e23b7646475087232a9724fccf086ee3ca5a5a2d891d6600d", func := "loop.example/rowmachines/laws.FnFlowingAfter", spec := "fnFlowingAfter", unfollowed := true, recurses := true, apart := false }
def FnFlowingAfterSaid : Prop := fnFlowingAfterRow.holds Try.pinned (OpenSpec.ofChange fnFlowingAfterSpec)

/-- ITS FALSE NEIGHBOUR: 'it returns false'. Refute it at one input. -/
def fnFlowingAfterWrong : ChangeSpec := { name := "fnFlowingAfter", fn := fun _ => fun
  | [d] => { results := [.lit (.bool false)], args := [d] }
  | _ => none }
def FnFlowingAfterWrongFalsely : Prop := fnFlowingAfterRow.holds Try.pinned (OpenSpec.ofChange fnFlowingAfterWrong)

/-- 'laws.FnExactFlowingAfter': WHATEVER THE INPUT: true; the input reads as it did. -/
def fnExactFlowingAfterSpec : ChangeSpec := { name := "fnExactFlowingAfter", fn := fun _ => fun
  | [d] => { results := [.lit (.bool true)], args := [d] }
  | _ => none }
def fnExactFlowingAfterRow : OpenClaim := { program := "ytmjcefidhigppaa", sum := "3e3705f55e2ef91e23b7646475087232a9724fccf086ee3ca5a5a2d891d6600d", func := "loop.example/rowmachines/laws.FnExactFlowingAfter", spec := "fnExactFlowingAfter", unfollowed := true, recurses := true, apart := false }
def FnExactFlowingAfterSaid : Prop := fnExactFlowingAfterRow.holds Try.pinned (OpenSpec.ofChange fnExactFlowingAfterSpec)

/-- ITS FALSE NEIGHBOUR: 'it returns false'. Refute it at one input. -/
def fnExactFlowingAfterWrong : ChangeSpec := { name := "fnExactFlowingAfter", fn := fun _ => fun
  | [d] => { results := [.lit (.bool false)], args := [d] }
  | _ => none }
def FnExactFlowingAfterWrongFalsely : Prop := fnExactFlowingAfterRow.holds Try.pinned (OpenSpec.ofChange fnExactFlowingAfterWrong)

/- THE SECOND FORM. 'bulk': how many values and letters a reading holds, each counted each time it is reached (what is shared counts as often as it is met; a slice's spare places count too). A statement '..UptoSaid' is the law's where the arguments, and the package variables that the reading takes, are together of bulk at most 1048576: NARROWER than '..Said'. Prove '..Said' where nothing that the law and all that it calls make is longer than what came in: it says more and counts as full. Else prove '..UptoSaid'. A law counts once. -/
mutual
def uptoBulk {H : Type} : DataW H → Nat
  | .lit (.string bytes) => bytes.length + 1
  | .lit _ => 1
  | .nil => 1
  | .ptr d => uptoBulk d + 1
  | .slice elems spare => uptoBulkAll elems + uptoBulkAll spare + 1
  | .agg parts => uptoBulkAll parts + 1
  | .iface _ d => uptoBulk d + 1
  | .map entries => uptoBulkEntries entries + 1
  | .held _ => 1
def uptoBulkAll {H : Type} : List (DataW H) → Nat
  | [] => 0
  | d :: r => uptoBulk d + uptoBulkAll r
def uptoBulkEntries {H : Type} : List (Lit × DataW H) → Nat
  | [] => 0
  | x :: r => uptoBulkEntry x + uptoBulkEntries r
def uptoBulkEntry {H : Type} : Lit × DataW H → Nat
  | (.string bytes, d) => bytes.length + uptoBulk d + 1
  | (_, d) => uptoBulk d + 1
 end
def uptoSmall : (H : Type) → List (DataW H) → Bool := fun _ ds => decide (uptoBulkAll ds ≤ 1048576)
def OpenSpec.upto (s : _root_.Go.ChangeSpec) : _root_.Go.OpenSpec := { _root_.Go.OpenSpec.ofChange s with cond := some uptoSmall }

/-- 'laws.FnDrivenOf', WHERE WHAT IT READS IS OF BULK AT MOST 1048576: true; the input reads as it did. -/
def fnDrivenOfUptoRow : OpenClaim := { program := "ytmjcefidhigppaa", sum := "3e3705f55e2ef91e23b7646475087232a9724fccf086ee3ca5a5a2d891d6600d", func := "loop.example/rowmachines/laws.FnDrivenOf", spec := "fnDrivenOf", apart := false, narrowed := true }
def FnDrivenOfUptoSaid : Prop := fnDrivenOfUptoRow.holds Try.pinned (OpenSpec.upto fnDrivenOfSpec)

/-- 'laws.FnExactDrivenOf', WHERE WHAT IT READS IS OF BULK AT MOST 1048576: true; the input reads as it did. -/
def fnExactDrivenOfUptoRow : OpenClaim := { program := "ytmjcefidhigppaa", sum := "3e3705f55e2ef91e23b7646475087232a9724fccf086ee3ca5a5a2d891d6600d", func := "loop.example/rowmachines/laws.FnExactDrivenOf", spec := "fnExactDrivenOf", apart := false, narrowed := true }
def FnExactDrivenOfUptoSaid : Prop := fnExactDrivenOfUptoRow.holds Try.pinned (OpenSpec.upto fnExactDrivenOfSpec)

/-- 'laws.FnDrivenAfter', WHERE WHAT IT READS IS OF BULK AT MOST 1048576: true; the input reads as it did. -/
def fnDrivenAfterUptoRow : OpenClaim := { program := "ytmjcefidhigppaa", sum := "3e3705f55e2ef91e23b7646475087232a9724fccf086ee3ca5a5a2d891d6600d", func := "loop.example/rowmachines/laws.FnDrivenAfter", spec := "fnDrivenAfter", apart := false, narrowed := true }
def FnDrivenAfterUptoSaid : Prop := fnDrivenAfterUptoRow.holds Try.pinned (OpenSpec.upto fnDrivenAfterSpec)

/-- 'laws.FnExactDrivenAfter', WHERE WHAT IT READS IS OF BULK AT MOST 1048576: true; the input reads as it did. -/
def fnExactDrivenAfterUptoRow : OpenClaim := { program := "ytmjcefidhigppaa", sum := "3e3705f55e2ef91e23b7646475087232a9724fccf086ee3ca5a5a2d891d6600d", func := "loop.example/rowmachines/laws.FnExactDrivenAfter", spec := "fnExactDrivenAfter", apart := false, narrowed := true }
def FnExactDrivenAfterUptoSaid : Prop := fnExactDrivenAfterUptoRow.holds Try.pinned (OpenSpec.upto fnExactDrivenAfterSpec)

/-- 'laws.FnFlowOf', WHERE WHAT IT READS IS OF BULK AT MOST 1048576: true; the input reads as it did. -/
def fnFlowOfUptoRow : OpenClaim := { program := "ytmjcefidhigppaa", sum := "3e3705f55e2ef91e23b7646475087232a9724fccf086ee3ca5a5a2d891d6600d", func := "loop.example/rowmachines/laws.FnFlowOf", spec := "fnFlowOf", apart := false, narrowed := true }
def FnFlowOfUptoSaid : Prop := fnFlowOfUptoRow.holds Try.pinned (OpenSpec.upto fnFlowOfSpec)

/-- 'laws.FnExactFlowOf', WHERE WHAT IT READS IS OF BULK AT MOST 1048576: true; the input reads as it did. -/
def fnExactFlowOfUptoRow : OpenClaim := { program := "ytmjcefidhigppaa", sum := "3e3705f55e2ef91e23b7646475087232a9724fccf086ee3ca5a5a2d891d6600d", func := "loop.example/rowmachines/laws.FnExactFlowOf", spec := "fnExactFlowOf", apart := false, narrowed := true }
def FnExactFlowOfUptoSaid : Prop := fnExactFlowOfUptoRow.holds Try.pinned (OpenSpec.upto fnExactFlowOfSpec)

/-- 'laws.FnEndFlow', WHERE WHAT IT READS IS OF BULK AT MOST 1048576: true; the input reads as it did. -/
def fnEndFlowUptoRow : OpenClaim := { program := "ytmjcefidhigppaa", sum := "3e3705f55e2ef91e23b7646475087232a9724fccf086ee3ca5a5a2d891d6600d", func := "loop.example/rowmachines/laws.FnEndFlow", spec := "fnEndFlow", apart := false, narrowed := true }
def FnEndFlowUptoSaid : Prop := fnEndFlowUptoRow.holds Try.pinned (OpenSpec.upto fnEndFlowSpec)

/-- 'laws.FnExactEndFlow', WHERE WHAT IT READS IS OF BULK AT MOST 1048576: true; the input reads as it did. -/
def fnExactEndFlowUptoRow : OpenClaim := { program := "ytmjcefidhigppaa", sum := "3e3705f55e2ef91e23b7646475087232a9724fccf086ee3ca5a5a2d891d6600d", func := "loop.example/rowmachines/laws.FnExactEndFlow", spec := "fnExactEndFlow", apart := false, narrowed := true }
def FnExactEndFlowUptoSaid : Prop := fnExactEndFlowUptoRow.holds Try.pinned (OpenSpec.upto fnExactEndFlowSpec)

/-- 'laws.FnFreeAs', WHERE WHAT IT READS IS OF BULK AT MOST 1048576: true; the input reads as it did. -/
def fnFreeAsUptoRow : OpenClaim := { program := "ytmjcefidhigppaa", sum := "3e3705f55e2ef91e23b7646475087232a9724fccf086ee3ca5a5a2d891d6600d", func := "loop.example/rowmachines/laws.FnFreeAs", spec := "fnFreeAs", apart := false, narrowed := true }
def FnFreeAsUptoSaid : Prop := fnFreeAsUptoRow.holds Try.pinned (OpenSpec.upto fnFreeAsSpec)

/-- 'laws.FnExactFreeAs', WHERE WHAT IT READS IS OF BULK AT MOST 1048576: true; the input reads as it did. -/
def fnExactFreeAsUptoRow : OpenClaim := { program := "ytmjcefidhigppaa", sum := "3e3705f55e2ef91e23b7646475087232a9724fccf086ee3ca5a5a2d891d6600d", func := "loop.example/rowmachines/laws.FnExactFreeAs", spec := "fnExactFreeAs", apart := false, narrowed := true }
def FnExactFreeAsUptoSaid : Prop := fnExactFreeAsUptoRow.holds Try.pinned (OpenSpec.upto fnExactFreeAsSpec)

/-- 'laws.FnFlowingAfter', WHERE WHAT IT READS IS OF BULK AT MOST 1048576: true; the input reads as it did. -/
def fnFlowingAfterUptoRow : OpenClaim := { program := "ytmjcefidhigppaa", sum := "3e3705f55e2ef91e23b7646475087232a9724fccf086ee3ca5a5a2d891d6600d", func := "loop.example/rowmachines/laws.FnFlowingAfter", spec := "fnFlowingAfter", unfollowed := true, recurses := true, apart := false, narrowed := true }
def FnFlowingAfterUptoSaid : Prop := fnFlowingAfterUptoRow.holds Try.pinned (OpenSpec.upto fnFlowingAfterSpec)

/-- 'laws.FnExactFlowingAfter', WHERE WHAT IT READS IS OF BULK AT MOST 1048576: true; the input reads as it did. -/
def fnExactFlowingAfterUptoRow : OpenClaim := { program := "ytmjcefidhigppaa", sum := "3e3705f55e2ef91e23b7646475087232a9724fccf086ee3ca5a5a2d891d6600d", func := "loop.example/rowmachines/laws.FnExactFlowingAfter", spec := "fnExactFlowingAfter", unfollowed := true, recurses := true, apart := false, narrowed := true }
def FnExactFlowingAfterUptoSaid : Prop := fnExactFlowingAfterUptoRow.holds Try.pinned (OpenSpec.upto fnExactFlowingAfterSpec)

end Rows
end Go.Proofs.Ytmjcefidhigppaa
