/-
  No cell of these rows narrows 'for every input' (looked for: loops, veiled, ifaces, maps, wideKeys, modest, calm, conditions, laid).
  DERIVED. THE GIVEN ROWS OF THIS SEAT. 10 by the template 'for every input the law returns true; each argument reads behind the call as it read before'; 0 by the template 'total and deterministic' (their statements: YtajjmhfbdknlfaaTotals.lean).
  GIVEN WITH THE SEED: the statements are not yours to turn. If you find one false, say at which input.
  Laid BY PROGRAM, IN A SANDBOX (cutbox-rows.mjs): the forced cells as the released guide's own fill.sh prints them over the translation 729ecff1d053f206… (all of the seat's roots in one cut). By AI agents, Wed Nov 11 2026. No macro, syntax, notation, axiom, sorry.
-/
import Derived.Test.YtajjmhfbdknlfaaChecked
import GoSem.Claim
import GoSem.ClaimJoined
import GoSem.ClaimMapViews
import Derived.JoinedTies
import Derived.KernelRfl
namespace Go.Proofs.Ytajjmhfbdknlfaa
/- THE CELL 'sum', in the pinned program and in every row, IS THE sha256 OF THE DUMP (.gsa) THAT YtajjmhfbdknlfaaProg.lean LOADS. Nothing in Lean hashes anything: it is a label: what it is worth is what the hold of that sum in a sandbox is worth. -/
noncomputable def Try.pinned : Pinned := { name := "ytajjmhfbdknlfaa", sum := "729ecff1d053f206afcdc140e07ad4c5710fe3246cbb17a3bb94e0a3b06834b4", checked := Try.checked }
namespace Rows
def none {H : Type} : Left H := { results := [], args := [] }

/-- 'laws.FnSignalOk': WHATEVER THE INPUT: true; the input reads as it did. -/
def fnSignalOkSpec : ChangeSpec := { name := "fnSignalOk", fn := fun _ => fun
  | [d] => { results := [.lit (.bool true)], args := [d] }
  | _ => none }
def fnSignalOkRow : OpenClaim := { program := "ytajjmhfbdknlfaa", sum := "729ecff1d053f206afcdc140e07ad4c5710fe3246cbb17a3bb94e0a3b06834b4", func := "loop.example/rowmachines/laws.FnSignalOk", spec := "fnSignalOk", apart := false }
def FnSignalOkSaid : Prop := fnSignalOkRow.holds Try.pinned (OpenSpec.ofChange fnSignalOkSpec)

/-- ITS FALSE NEIGHBOUR: 'it returns false'. Refute it at one input. -/
def fnSignalOkWrong : ChangeSpec := { name := "fnSignalOk", fn := fun _ => fun
  | [d] => { results := [.lit (.bool false)], args := [d] }
  | _ => none }
def FnSignalOkWrongFalsely : Prop := fnSignalOkRow.holds Try.pinned (OpenSpec.ofChange fnSignalOkWrong)

/-- 'laws.FnPlaceAt': WHATEVER THE INPUT: true; the input reads as it did. -/
def fnPlaceAtSpec : ChangeSpec := { name := "fnPlaceAt", fn := fun _ => fun
  | [d] => { results := [.lit (.bool true)], args := [d] }
  | _ => none }
def fnPlaceAtRow : OpenClaim := { program := "ytajjmhfbdknlfaa", sum := "729ecff1d053f206afcdc140e07ad4c5710fe3246cbb17a3bb94e0a3b06834b4", func := "loop.example/rowmachines/laws.FnPlaceAt", spec := "fnPlaceAt", apart := false }
def FnPlaceAtSaid : Prop := fnPlaceAtRow.holds Try.pinned (OpenSpec.ofChange fnPlaceAtSpec)

/-- ITS FALSE NEIGHBOUR: 'it returns false'. Refute it at one input. -/
def fnPlaceAtWrong : ChangeSpec := { name := "fnPlaceAt", fn := fun _ => fun
  | [d] => { results := [.lit (.bool false)], args := [d] }
  | _ => none }
def FnPlaceAtWrongFalsely : Prop := fnPlaceAtRow.holds Try.pinned (OpenSpec.ofChange fnPlaceAtWrong)

/-- 'laws.FnRoundOf': WHATEVER THE INPUT: true; the input reads as it did. -/
def fnRoundOfSpec : ChangeSpec := { name := "fnRoundOf", fn := fun _ => fun
  | [d] => { results := [.lit (.bool true)], args := [d] }
  | _ => none }
def fnRoundOfRow : OpenClaim := { program := "ytajjmhfbdknlfaa", sum := "729ecff1d053f206afcdc140e07ad4c5710fe3246cbb17a3bb94e0a3b06834b4", func := "loop.example/rowmachines/laws.FnRoundOf", spec := "fnRoundOf", apart := false }
def FnRoundOfSaid : Prop := fnRoundOfRow.holds Try.pinned (OpenSpec.ofChange fnRoundOfSpec)

/-- ITS FALSE NEIGHBOUR: 'it returns false'. Refute it at one input. -/
def fnRoundOfWrong : ChangeSpec := { name := "fnRoundOf", fn := fun _ => fun
  | [d] => { results := [.lit (.bool false)], args := [d] }
  | _ => none }
def FnRoundOfWrongFalsely : Prop := fnRoundOfRow.holds Try.pinned (OpenSpec.ofChange fnRoundOfWrong)

/-- 'laws.FnMeetAt': WHATEVER THE INPUT: true; the input reads as it did. -/
def fnMeetAtSpec : ChangeSpec := { name := "fnMeetAt", fn := fun _ => fun
  | [d] => { results := [.lit (.bool true)], args := [d] }
  | _ => none }
def fnMeetAtRow : OpenClaim := { program := "ytajjmhfbdknlfaa", sum := "729ecff1d053f206afcdc140e07ad4c5710fe3246cbb17a3bb94e0a3b06834b4", func := "loop.example/rowmachines/laws.FnMeetAt", spec := "fnMeetAt", unfollowed := true, recurses := true, apart := false }
def FnMeetAtSaid : Prop := fnMeetAtRow.holds Try.pinned (OpenSpec.ofChange fnMeetAtSpec)

/-- ITS FALSE NEIGHBOUR: 'it returns false'. Refute it at one input. -/
def fnMeetAtWrong : ChangeSpec := { name := "fnMeetAt", fn := fun _ => fun
  | [d] => { results := [.lit (.bool false)], args := [d] }
  | _ => none }
def FnMeetAtWrongFalsely : Prop := fnMeetAtRow.holds Try.pinned (OpenSpec.ofChange fnMeetAtWrong)

/-- 'laws.FnTimesAt': WHATEVER THE INPUT: true; the input reads as it did. -/
def fnTimesAtSpec : ChangeSpec := { name := "fnTimesAt", fn := fun _ => fun
  | [d] => { results := [.lit (.bool true)], args := [d] }
  | _ => none }
def fnTimesAtRow : OpenClaim := { program := "ytajjmhfbdknlfaa", sum := "729ecff1d053f206afcdc140e07ad4c5710fe3246cbb17a3bb94e0a3b06834b4", func := "loop.example/rowmachines/laws.FnTimesAt", spec := "fnTimesAt", apart := false }
def FnTimesAtSaid : Prop := fnTimesAtRow.holds Try.pinned (OpenSpec.ofChange fnTimesAtSpec)

/-- ITS FALSE NEIGHBOUR: 'it returns false'. Refute it at one input. -/
def fnTimesAtWrong : ChangeSpec := { name := "fnTimesAt", fn := fun _ => fun
  | [d] => { results := [.lit (.bool false)], args := [d] }
  | _ => none }
def FnTimesAtWrongFalsely : Prop := fnTimesAtRow.holds Try.pinned (OpenSpec.ofChange fnTimesAtWrong)

/-- 'laws.FnExactSignalOk': WHATEVER THE INPUT: true; the input reads as it did. -/
def fnExactSignalOkSpec : ChangeSpec := { name := "fnExactSignalOk", fn := fun _ => fun
  | [d1, d2] => { results := [.lit (.bool true)], args := [d1, d2] }
  | _ => none }
def fnExactSignalOkRow : OpenClaim := { program := "ytajjmhfbdknlfaa", sum := "729ecff1d053f206afcdc140e07ad4c5710fe3246cbb17a3bb94e0a3b06834b4", func := "loop.example/rowmachines/laws.FnExactSignalOk", spec := "fnExactSignalOk", apart := false }
def FnExactSignalOkSaid : Prop := fnExactSignalOkRow.holds Try.pinned (OpenSpec.ofChange fnExactSignalOkSpec)

/-- ITS FALSE NEIGHBOUR: 'it returns false'. Refute it at one input. -/
def fnExactSignalOkWrong : ChangeSpec := { name := "fnExactSignalOk", fn := fun _ => fun
  | [d1, d2] => { results := [.lit (.bool false)], args := [d1, d2] }
  | _ => none }
def FnExactSignalOkWrongFalsely : Prop := fnExactSignalOkRow.holds Try.pinned (OpenSpec.ofChange fnExactSignalOkWrong)

/-- 'laws.FnExactPlaceAt': WHATEVER THE INPUT: true; the input reads as it did. -/
def fnExactPlaceAtSpec : ChangeSpec := { name := "fnExactPlaceAt", fn := fun _ => fun
  | [d1, d2, d3] => { results := [.lit (.bool true)], args := [d1, d2, d3] }
  | _ => none }
def fnExactPlaceAtRow : OpenClaim := { program := "ytajjmhfbdknlfaa", sum := "729ecff1d053f206afcdc140e07ad4c5710fe3246cbb17a3bb94e0a3b06834b4", func := "loop.example/rowmachines/laws.FnExactPlaceAt", spec := "fnExactPlaceAt", apart := false }
def FnExactPlaceAtSaid : Prop := fnExactPlaceAtRow.holds Try.pinned (OpenSpec.ofChange fnExactPlaceAtSpec)

/-- ITS FALSE NEIGHBOUR: 'it returns false'. Refute it at one input. -/
def fnExactPlaceAtWrong : ChangeSpec := { name := "fnExactPlaceAt", fn := fun _ => fun
  | [d1, d2, d3] => { results := [.lit (.bool false)], args := [d1, d2, d3] }
  | _ => none }
def FnExactPlaceAtWrongFalsely : Prop := fnExactPlaceAtRow.holds Try.pinned (OpenSpec.ofChange fnExactPlaceAtWrong)

/-- 'laws.FnExactRoundOf': WHATEVER THE INPUT: true; the input reads as it did. -/
def fnExactRoundOfSpec : ChangeSpec := { name := "fnExactRoundOf", fn := fun _ => fun
  | [d1, d2] => { results := [.lit (.bool true)], args := [d1, d2] }
  | _ => none }
def fnExactRoundOfRow : OpenClaim := { program := "ytajjmhfbdknlfaa", sum := "729ecff1d053f206afcdc140e07ad4c5710fe3246cbb17a3bb94e0a3b06834b4", func := "loop.example/rowmachines/laws.FnExactRoundOf", spec := "fnExactRoundOf", apart := false }
def FnExactRoundOfSaid : Prop := fnExactRoundOfRow.holds Try.pinned (OpenSpec.ofChange fnExactRoundOfSpec)

/-- ITS FALSE NEIGHBOUR: 'it returns false'. Refute it at one input. -/
def fnExactRoundOfWrong : ChangeSpec := { name := "fnExactRoundOf", fn := fun _ => fun
  | [d1, d2] => { results := [.lit (.bool false)], args := [d1, d2] }
  | _ => none }
def FnExactRoundOfWrongFalsely : Prop := fnExactRoundOfRow.holds Try.pinned (OpenSpec.ofChange fnExactRoundOfWrong)

/-- 'laws.FnExactMeetAt': WHATEVER THE INPUT: true; the input reads as it did. -/
def fnExactMeetAtSpec : ChangeSpec := { name := "fnExactMeetAt", fn := fun _ => fun
  | [d1, d2, d3] => { results := [.lit (.bool true)], args := [d1, d2, d3] }
  | _ => none }
def fnExactMeetAtRow : OpenClaim := { program := "ytajjmhfbdknlfaa", sum := "729ecff1d053f206afcdc140e07ad4c5710fe3246cbb17a3bb94e0a3b06834b4", func := "loop.example/rowmachines/laws.FnExactMeetAt", spec := "fnExactMeetAt", unfollowed := true, recurses := true, apart := false }
def FnExactMeetAtSaid : Prop := fnExactMeetAtRow.holds Try.pinned (OpenSpec.ofChange fnExactMeetAtSpec)

/-- ITS FALSE NEIGHBOUR: 'it returns false'. Refute it at one input. -/
def fnExactMeetAtWrong : ChangeSpec := { name := "fnExactMeetAt", fn := fun _ => fun
  | [d1, d2, d3] => { results := [.lit (.bool false)], args := [d1, d2, d3] }
  | _ => none }
def FnExactMeetAtWrongFalsely : Prop := fnExactMeetAtRow.holds Try.pinned (OpenSpec.ofChange fnExactMeetAtWrong)

/-- 'laws.FnExactTimesAt': WHATEVER THE INPUT: true; the input reads as it did. -/
def fnExactTimesAtSpec : ChangeSpec := { name := "fnExactTimesAt", fn := fun _ => fun
  | [d1, d2, d3] => { results := [.lit (.bool true)], args := [d1, d2, d3] }
  | _ => none }
def fnExactTimesAtRow : OpenClaim := { program := "ytajjmhfbdknlfaa", sum := "729ecff1d053f206afcdc140e07ad4c5710fe3246cbb17a3bb94e0a3b06834b4", func := "loop.example/rowmachines/laws.FnExactTimesAt", spec := "fnExactTimesAt", apart := false }
def FnExactTimesAtSaid : Prop := fnExactTimesAtRow.holds Try.pinned (OpenSpec.ofChange fnExactTimesAtSpec)

/-- ITS FALSE NEIGHBOUR: 'it returns false'. Refute it at one input. -/
def fnExactTimesAtWrong : ChangeSpec := { name := "fnExactTimesAt", fn := fun _ => fun
  | [d1, d2, d3] => { results := [.lit (.bool false)], args := [d1, d2, d3] }
  | _ => none }
def FnExactTimesAtWrongFalsely : Prop := fnExactTimesAtRow.holds Try.pinned (OpenSpec.ofChange fnExactTimesAtWrong)

/- THE SECOND FORM. 'bulk': how many values and letters a reading holds, each counted each time it is reached (what is shared counts as often as it is met; a slice's spare places count too). A statement '..UptoSaid' is the law's where the arguments, and the package variables that the reading takes, are together of bulk at most 1048576: NARROWER than '..Said'. Prove '..Said' where nothing that the law and all that it calls make is longer than what came in: it says more and counts as full. Else prove '..UptoSaid'. A law counts once. -/
mutual
def uptoBulk {H : Type} : DataW H → Nat
  | .lit (.string bytes) => bytes.length + 1
  | .lit _ => 1
  | .nil => 1
  | .ptr d => uptoBulk d + 1
  | .slice elems spare => uptoBulkAll elems + uptoBulkAll spare + 1
  | .agg parts => uptoBulkAll parts + 1
  | .iface _ d => uptoBulk d + 1
  | .map entries => uptoBulkEntries entries + 1
  | .held _ => 1
def uptoBulkAll {H : Type} : List (DataW H) → Nat
  | [] => 0
  | d :: r => uptoBulk d + uptoBulkAll r
def uptoBulkEntries {H : Type} : List (Lit × DataW H) → Nat
  | [] => 0
  | x :: r => uptoBulkEntry x + uptoBulkEntries r
def uptoBulkEntry {H : Type} : Lit × DataW H → Nat
  | (.string bytes, d) => bytes.length + uptoBulk d + 1
  | (_, d) => uptoBulk d + 1
 end
def uptoSmall : (H : Type) → List (DataW H) → Bool := fun _ ds => decide (uptoBulkAll ds ≤ 1048576)
def OpenSpec.upto (s : _root_.Go.ChangeSpec) : _root_.Go.OpenSpec := { _root_.Go.OpenSpec.ofChange s with cond := some uptoSmall }

/-- 'laws.FnSignalOk', WHERE WHAT IT READS IS OF BULK AT MOST 1048576: true; the input reads as it did. -/
def fnSignalOkUptoRow : OpenClaim := { program := "ytajjmhfbdknlfaa", sum := "729ecff1d053f206afcdc140e07ad4c5710fe3246cbb17a3bb94e0a3b06834b4", func := "loop.example/rowmachines/laws.FnSignalOk", spec := "fnSignalOk", apart := false, narrowed := true }
def FnSignalOkUptoSaid : Prop := fnSignalOkUptoRow.holds Try.pinned (OpenSpec.upto fnSignalOkSpec)

/-- 'laws.FnPlaceAt', WHERE WHAT IT READS IS OF BULK AT MOST 1048576: true; the input reads as it did. -/
def fnPlaceAtUptoRow : OpenClaim := { program := "ytajjmhfbdknlfaa", sum := "729ecff1d053f206afcdc140e07ad4c5710fe3246cbb17a3bb94e0a3b06834b4", func := "loop.example/rowmachines/laws.FnPlaceAt", spec := "fnPlaceAt", apart := false, narrowed := true }
def FnPlaceAtUptoSaid : Prop := fnPlaceAtUptoRow.holds Try.pinned (OpenSpec.upto fnPlaceAtSpec)

/-- 'laws.FnRoundOf', WHERE WHAT IT READS IS OF BULK AT MOST 1048576: true; the input reads as it did. -/
def fnRoundOfUptoRow : OpenClaim := { program := "ytajjmhfbdknlfaa", sum := "729ecff1d053f206afcdc140e07ad4c5710fe3246cbb17a3bb94e0a3b06834b4", func := "loop.example/rowmachines/laws.FnRoundOf", spec := "fnRoundOf", apart := false, narrowed := true }
def FnRoundOfUptoSaid : Prop := fnRoundOfUptoRow.holds Try.pinned (OpenSpec.upto fnRoundOfSpec)

/-- 'laws.FnMeetAt', WHERE WHAT IT READS IS OF BULK AT MOST 1048576: true; the input reads as it did. -/
def fnMeetAtUptoRow : OpenClaim := { program := "ytajjmhfbdknlfaa", sum := "729ecff1d053f206afcdc140e07ad4c5710fe3246cbb17a3bb94e0a3b06834b4", func := "loop.example/rowmachines/laws.FnMeetAt", spec := "fnMeetAt", unfollowed := true, recurses := true, apart := false, narrowed := true }
def FnMeetAtUptoSaid : Prop := fnMeetAtUptoRow.holds Try.pinned (OpenSpec.upto fnMeetAtSpec)

/-- 'laws.FnTimesAt', WHERE WHAT IT READS IS OF BULK AT MOST 1048576: true; the input reads as it did. -/
def fnTimesAtUptoRow : OpenClaim := { program := "ytajjmhfbdknlfaa", sum := "729ecff1d053f206afcdc140e07ad4c5710fe3246cbb17a3bb94e0a3b06834b4", func := "loop.example/rowmachines/laws.FnTimesAt", spec := "fnTimesAt", apart := false, narrowed := true }
def FnTimesAtUptoSaid : Prop := fnTimesAtUptoRow.holds Try.pinned (OpenSpec.upto fnTimesAtSpec)

/-- 'laws.FnExactSignalOk', WHERE WHAT IT READS IS OF BULK AT MOST 1048576: true; the input reads as it did. -/
def fnExactSignalOkUptoRow : OpenClaim := { program := "ytajjmhfbdknlfaa", sum := "729ecff1d053f206afcdc140e07ad4c5710fe3246cbb17a3bb94e0a3b06834b4", func := "loop.example/rowmachines/laws.FnExactSignalOk", spec := "fnExactSignalOk", apart := false, narrowed := true }
def FnExactSignalOkUptoSaid : Prop := fnExactSignalOkUptoRow.holds Try.pinned (OpenSpec.upto fnExactSignalOkSpec)

/-- 'laws.FnExactPlaceAt', WHERE WHAT IT READS IS OF BULK AT MOST 1048576: true; the input reads as it did. -/
def fnExactPlaceAtUptoRow : OpenClaim := { program := "ytajjmhfbdknlfaa", sum := "729ecff1d053f206afcdc140e07ad4c5710fe3246cbb17a3bb94e0a3b06834b4", func := "loop.example/rowmachines/laws.FnExactPlaceAt", spec := "fnExactPlaceAt", apart := false, narrowed := true }
def FnExactPlaceAtUptoSaid : Prop := fnExactPlaceAtUptoRow.holds Try.pinned (OpenSpec.upto fnExactPlaceAtSpec)

/-- 'laws.FnExactRoundOf', WHERE WHAT IT READS IS OF BULK AT MOST 1048576: true; the input reads as it did. -/
def fnExactRoundOfUptoRow : OpenClaim := { program := "ytajjmhfbdknlfaa", sum := "729ecff1d053f206afcdc140e07ad4c5710fe3246cbb17a3bb94e0a3b06834b4", func := "loop.example/rowmachines/laws.FnExactRoundOf", spec := "fnExactRoundOf", apart := false, narrowed := true }
def FnExactRoundOfUptoSaid : Prop := fnExactRoundOfUptoRow.holds Try.pinned (OpenSpec.upto fnExactRoundOfSpec)

/-- 'laws.FnExactMeetAt', WHERE WHAT IT READS IS OF BULK AT MOST 1048576: true; the input reads as it did. -/
def fnExactMeetAtUptoRow : OpenClaim := { program := "ytajjmhfbdknlfaa", sum := "729ecff1d053f206afcdc140e07ad4c5710fe3246cbb17a3bb94e0a3b06834b4", func := "loop.example/rowmachines/laws.FnExactMeetAt", spec := "fnExactMeetAt", unfollowed := true, recurses := true, apart := false, narrowed := true }
def FnExactMeetAtUptoSaid : Prop := fnExactMeetAtUptoRow.holds Try.pinned (OpenSpec.upto fnExactMeetAtSpec)

/-- 'laws.FnExactTimesAt', WHERE WHAT IT READS IS OF BULK AT MOST 1048576: true; the input reads as it did. -/
def fnExactTimesAtUptoRow : OpenClaim := { program := "ytajjmhfbdknlfaa", sum := "729ecff1d053f206afcdc140e07ad4c5710fe3246cbb17a3bb94e0a3b06834b4", func := "loop.example/rowmachines/laws.FnExactTimesAt", spec := "fnExactTimesAt", apart := false, narrowed := true }
def FnExactTimesAtUptoSaid : Prop := fnExactTimesAtUptoRow.holds Try.pinned (OpenSpec.upto fnExactTimesAtSpec)

end Rows
end Go.Proofs.Ytajjmhfbdknlfaa
