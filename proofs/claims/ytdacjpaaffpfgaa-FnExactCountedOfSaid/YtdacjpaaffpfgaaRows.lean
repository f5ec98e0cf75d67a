/-
  No cell of these rows narrows 'for every input' (looked for: loops, veiled, ifaces, maps, wideKeys, modest, calm, conditions, laid).
  DERIVED. THE GIVEN ROWS OF THIS SEAT. 12 by the template 'for every input the law returns true; each argument reads behind the call as it read before'; 0 by the template 'total and deterministic' (their statements: YtdacjpaaffpfgaaTotals.lean).
  GIVEN WITH THE SEED: the statements are not yours to turn. If you find one false, say at which input.
  Laid BY PROGRAM, IN A SANDBOX (cutbox-rows.mjs): the forced cells as the released guide's own fill.sh prints them over the translation f9b2cebcc1885ce0… (all of the seat's roots in one cut). By AI agents, Wed Nov 11 2026. No macro, syntax, notation, axiom, sorry.
-/
import Derived.Test.YtdacjpaaffpfgaaChecked
import GoSem.Claim
import GoSem.ClaimJoined
import GoSem.ClaimMapViews
import Derived.JoinedTies
import Derived.KernelRfl
namespace Go.Proofs.Ytdacjpaaffpfgaa
/- THE CELL 'sum', in the pinned program and in every row, IS THE sha256 OF THE DUMP (.gsa) THAT YtdacjpaaffpfgaaProg.lean LOADS. Nothing in Lean hashes anything: it is a label: what it is worth is what the hold of that sum in a sandbox is worth. -/
noncomputable def Try.pinned : Pinned := { name := "ytdacjpaaffpfgaa", sum := "f9b2cebcc1885ce0f89f09388b119bbd149e190d7ae2488e99f1d64da76f0ba8", checked := Try.checked }
namespace Rows
def none {H : Type} : Left H := { results := [], args := [] }

/-- 'laws.FnCounterOk': WHATEVER THE INPUT: true; the input reads as it did. -/
def fnCounterOkSpec : ChangeSpec := { name := "fnCounterOk", fn := fun _ => fun
  | [d] => { results := [.lit (.bool true)], args := [d] }
  | _ => none }
def fnCounterOkRow : OpenClaim := { program := "ytdacjpaaffpfgaa", sum := "f9b2cebcc1885ce0f89f09388b119bbd149e190d7ae2488e99f1d64da76f0ba8", func := "loop.example/rowmachines/laws.FnCounterOk", spec := "fnCounterOk", apart := false }
def FnCounterOkSaid : Prop := fnCounterOkRow.holds Try.pinned (OpenSpec.ofChange fnCounterOkSpec)

/-- ITS FALSE NEIGHBOUR: 'it returns false'. Refute it at one input. -/
def fnCounterOkWrong : ChangeSpec := { name := "fnCounterOk", fn := fun _ => fun
  | [d] => { results := [.lit (.bool false)], args := [d] }
  | _ => none }
def FnCounterOkWrongFalsely : Prop := fnCounterOkRow.holds Try.pinned (OpenSpec.ofChange fnCounterOkWrong)

/-- 'laws.FnCounterOf': WHATEVER THE INPUT: true; the input reads as it did. -/
def fnCounterOfSpec : ChangeSpec := { name := "fnCounterOf", fn := fun _ => fun
  | [d] => { results := [.lit (.bool true)], args := [d] }
  | _ => none }
def fnCounterOfRow : OpenClaim := { program := "ytdacjpaaffpfgaa", sum := "f9b2cebcc1885ce0f89f09388b119bbd149e190d7ae2488e99f1d64da76f0ba8", func := "loop.example/rowmachines/laws.FnCounterOf", spec := "fnCounterOf", unfollowed := true, recurses := true, apart := false }
def FnCounterOfSaid : Prop := fnCounterOfRow.holds Try.pinned (OpenSpec.ofChange fnCounterOfSpec)

/-- ITS FALSE NEIGHBOUR: 'it returns false'. Refute it at one input. -/
def fnCounterOfWrong : ChangeSpec := { name := "fnCounterOf", fn := fun _ => fun
  | [d] => { results := [.lit (.bool false)], args := [d] }
  | _ => none }
def FnCounterOfWrongFalsely : Prop := fnCounterOfRow.holds Try.pinned (OpenSpec.ofChange fnCounterOfWrong)

/-- 'laws.FnTickOf': WHATEVER THE INPUT: true; the input reads as it did. -/
def fnTickOfSpec : ChangeSpec := { name := "fnTickOf", fn := fun _ => fun
  | [d] => { results := [.lit (.bool true)], args := [d] }
  | _ => none }
def fnTickOfRow : OpenClaim := { program := "ytdacjpaaffpfgaa", sum := "f9b2cebcc1885ce0f89f09388b119bbd149e190d7ae2488e99f1d64da76f0ba8", func := "loop.example/rowmachines/laws.FnTickOf", spec := "fnTickOf", unfollowed := true, recurses := true, apart := false }
def FnTickOfSaid : Prop := fnTickOfRow.holds Try.pinned (OpenSpec.ofChange fnTickOfSpec)

/-- ITS FALSE NEIGHBOUR: 'it returns false'. Refute it at one input. -/
def fnTickOfWrong : ChangeSpec := { name := "fnTickOf", fn := fun _ => fun
  | [d] => { results := [.lit (.bool false)], args := [d] }
  | _ => none }
def FnTickOfWrongFalsely : Prop := fnTickOfRow.holds Try.pinned (OpenSpec.ofChange fnTickOfWrong)

/-- 'laws.FnToldBy': WHATEVER THE INPUT: true; the input reads as it did. -/
def fnToldBySpec : ChangeSpec := { name := "fnToldBy", fn := fun _ => fun
  | [d] => { results := [.lit (.bool true)], args := [d] }
  | _ => none }
def fnToldByRow : OpenClaim := { program := "ytdacjpaaffpfgaa", sum := "f9b2cebcc1885ce0f89f09388b119bbd149e190d7ae2488e99f1d64da76f0ba8", func := "loop.example/rowmachines/laws.FnToldBy", spec := "fnToldBy", unfollowed := true, recurses := true, apart := false }
def FnToldBySaid : Prop := fnToldByRow.holds Try.pinned (OpenSpec.ofChange fnToldBySpec)

/-- ITS FALSE NEIGHBOUR: 'it returns false'. Refute it at one input. -/
def fnToldByWrong : ChangeSpec := { name := "fnToldBy", fn := fun _ => fun
  | [d] => { results := [.lit (.bool false)], args := [d] }
  | _ => none }
def FnToldByWrongFalsely : Prop := fnToldByRow.holds Try.pinned (OpenSpec.ofChange fnToldByWrong)

/-- 'laws.FnCountedOf': WHATEVER THE INPUT: true; the input reads as it did. -/
def fnCountedOfSpec : ChangeSpec := { name := "fnCountedOf", fn := fun _ => fun
  | [d] => { results := [.lit (.bool true)], args := [d] }
  | _ => none }
def fnCountedOfRow : OpenClaim := { program := "ytdacjpaaffpfgaa", sum := "f9b2cebcc1885ce0f89f09388b119bbd149e190d7ae2488e99f1d64da76f0ba8", func := "loop.example/rowmachines/laws.FnCountedOf", spec := "fnCountedOf", unfollowed := true, recurses := true, apart := false }
def FnCountedOfSaid : Prop := fnCountedOfRow.holds Try.pinned (OpenSpec.ofChange fnCountedOfSpec)

/-- ITS FALSE NEIGHBOUR: 'it returns false'. Refute it at one input. -/
def fnCountedOfWrong : ChangeSpec := { name := "fnCountedOf", fn := fun _ => fun
  | [d] => { results := [.lit (.bool false)], args := [d] }
  | _ => none }
def FnCountedOfWrongFalsely : Prop := fnCountedOfRow.holds Try.pinned (OpenSpec.ofChange fnCountedOfWrong)

/-- 'laws.FnRestOf': WHATEVER THE INPUT: true; the input reads as it did. -/
def fnRestOfSpec : ChangeSpec := { name := "fnRestOf", fn := fun _ => fun
  | [d] => { results := [.lit (.bool true)], args := [d] }
  | _ => none }
def fnRestOfRow : OpenClaim := { program := "ytdacjpaaffpfgaa", sum := "f9b2cebcc1885ce0f89f09388b119bbd149e190d7ae2488e99f1d64da76f0ba8", func := "loop.example/rowmachines/laws.FnRestOf", spec := "fnRestOf", unfollowed := true, recurses := true, apart := false }
def FnRestOfSaid : Prop := fnRestOfRow.holds Try.pinned (OpenSpec.ofChange fnRestOfSpec)

/-- ITS FALSE NEIGHBOUR: 'it returns false'. Refute it at one input. -/
def fnRestOfWrong : ChangeSpec := { name := "fnRestOf", fn := fun _ => fun
  | [d] => { results := [.lit (.bool false)], args := [d] }
  | _ => none }
def FnRestOfWrongFalsely : Prop := fnRestOfRow.holds Try.pinned (OpenSpec.ofChange fnRestOfWrong)

/-- 'laws.FnExactCounterOk': WHATEVER THE INPUT: true; the input reads as it did. -/
def fnExactCounterOkSpec : ChangeSpec := { name := "fnExactCounterOk", fn := fun _ => fun
  | [d] => { results := [.lit (.bool true)], args := [d] }
  | _ => none }
def fnExactCounterOkRow : OpenClaim := { program := "ytdacjpaaffpfgaa", sum := "f9b2cebcc1885ce0f89f09388b119bbd149e190d7ae2488e99f1d64da76f0ba8", func := "loop.example/rowmachines/laws.FnExactCounterOk", spec := "fnExactCounterOk", apart := false }
def FnExactCounterOkSaid : Prop := fnExactCounterOkRow.holds Try.pinned (OpenSpec.ofChange fnExactCounterOkSpec)

/-- ITS FALSE NEIGHBOUR: 'it returns false'. Refute it at one input. -/
def fnExactCounterOkWrong : ChangeSpec := { name := "fnExactCounterOk", fn := fun _ => fun
  | [d] => { results := [.lit (.bool false)], args := [d] }
  | _ => none }
def FnExactCounterOkWrongFalsely : Prop := fnExactCounterOkRow.holds Try.pinned (OpenSpec.ofChange fnExactCounterOkWrong)

/-- 'laws.FnExactCounterOf': WHATEVER THE INPUT: true; the input reads as it did. -/
def fnExactCounterOfSpec : ChangeSpec := { name := "fnExactCounterOf", fn := fun _ => fun
  | [d] => { results := [.lit (.bool true)], args := [d] }
  | _ => none }
def fnExactCounterOfRow : OpenClaim := { program := "ytdacjpaaffpfgaa", sum := "f9b2cebcc1885ce0f89f09388b119bbd149e190d7ae2488e99f1d64da76f0ba8", func := "loop.example/rowmachines/laws.FnExactCounterOf", spec := "fnExactCounterOf", apart := false }
def FnExactCounterOfSaid : Prop := fnExactCounterOfRow.holds Try.pinned (OpenSpec.ofChange fnExactCounterOfSpec)

/-- ITS FALSE NEIGHBOUR: 'it returns false'. Refute it at one input. -/
def fnExactCounterOfWrong : ChangeSpec := { name := "fnExactCounterOf", fn := fun _ => fun
  | [d] => { results := [.lit (.bool false)], args := [d] }
  | _ => none }
def FnExactCounterOfWrongFalsely : Prop := fnExactCounterOfRow.holds Try.pinned (OpenSpec.ofChange fnExactCounterOfWrong)

/-- 'laws.FnExactTickOf': WHATEVER THE INPUT: true; the input reads as it did. -/
def fnExactTickOfSpec : ChangeSpec := { name := "fnExactTickOf", fn := fun _ => fun
  | [d1, d2] => { results := [.lit (.bool true)], args := [d1, d2] }
  | _ => none }
def fnExactTickOfRow : OpenClaim := { program := "ytdacjpaaffpfgaa", sum := "f9b2cebcc1885ce0f89f09388b119bbd149e190d7ae2488e99f1d64da76f0ba8", func := "loop.example/rowmachines/laws.FnExactTickOf", spec := "fnExactTickOf", apart := false }
def FnExactTickOfSaid : Prop := fnExactTickOfRow.holds Try.pinned (OpenSpec.ofChange fnExactTickOfSpec)

/-- ITS FALSE NEIGHBOUR: 'it returns false'. Refute it at one input. -/
def fnExactTickOfWrong : ChangeSpec := { name := "fnExactTickOf", fn := fun _ => fun
  | [d1, d2] => { results := [.lit (.bool false)], args := [d1, d2] }
  | _ => none }
def FnExactTickOfWrongFalsely : Prop := fnExactTickOfRow.holds Try.pinned (OpenSpec.ofChange fnExactTickOfWrong)

/-- 'laws.FnExactToldBy': WHATEVER THE INPUT: true; the input reads as it did. -/
def fnExactToldBySpec : ChangeSpec := { name := "fnExactToldBy", fn := fun _ => fun
  | [d] => { results := [.lit (.bool true)], args := [d] }
  | _ => none }
def fnExactToldByRow : OpenClaim := { program := "ytdacjpaaffpfgaa", sum := "f9b2cebcc1885ce0f89f09388b119bbd149e190d7ae2488e99f1d64da76f0ba8", func := "loop.example/rowmachines/laws.FnExactToldBy", spec := "fnExactToldBy", unfollowed := true, recurses := true, apart := false }
def FnExactToldBySaid : Prop := fnExactToldByRow.holds Try.pinned (OpenSpec.ofChange fnExactToldBySpec)

/-- ITS FALSE NEIGHBOUR: 'it returns false'. Refute it at one input. -/
def fnExactToldByWrong : ChangeSpec := { name := "fnExactToldBy", fn := fun _ => fun
  | [d] => { results := [.lit (.bool false)], args := [d] }
  | _ => none }
def FnExactToldByWrongFalsely : Prop := fnExactToldByRow.holds Try.pinned (OpenSpec.ofChange fnExactToldByWrong)

/-- 'laws.FnExactCountedOf': WHATEVER THE INPUT: true; the input reads as it did. -/
def fnExactCountedOfSpec : ChangeSpec := { name := "fnExactCountedOf", fn := fun _ => fun
  | [d1, d2] => { results := [.lit (.bool true)], args := [d1, d2] }
  | _ => none }
def fnExactCountedOfRow : OpenClaim := { program := "ytdacjpaaffpfgaa", sum := "f9b2cebcc1885ce0f89f09388b119bbd149e190d7ae2488e99f1d64da76f0ba8", func := "loop.example/rowmachines/laws.FnExactCountedOf", spec := "fnExactCountedOf", apart := false }
def FnExactCountedOfSaid : Prop := fnExactCountedOfRow.holds Try.pinned (OpenSpec.ofChange fnExactCountedOfSpec)

/-- ITS FALSE NEIGHBOUR: 'it returns false'. Refute it at one input. -/
def fnExactCountedOfWrong : ChangeSpec := { name := "fnExactCountedOf", fn := fun _ => fun
  | [d1, d2] => { results := [.lit (.bool false)], args := [d1, d2] }
  | _ => none }
def FnExactCountedOfWrongFalsely : Prop := fnExactCountedOfRow.holds Try.pinned (OpenSpec.ofChange fnExactCountedOfWrong)

/-- 'laws.FnExactRestOf': WHATEVER THE INPUT: true; the input reads as it did. -/
def fnExactRestOfSpec : ChangeSpec := { name := "fnExactRestOf", fn := fun _ => fun
  | [d] => { results := [.lit (.bool true)], args := [d] }
  | _ => none }
def fnExactRestOfRow : OpenClaim := { program := "ytdacjpaaffpfgaa", sum := "f9b2cebcc1885ce0f89f09388b119bbd149e190d7ae2488e99f1d64da76f0ba8", func := "loop.example/rowmachines/laws.FnExactRestOf", spec := "fnExactRestOf", apart := false }
def FnExactRestOfSaid : Prop := fnExactRestOfRow.holds Try.pinned (OpenSpec.ofChange fnExactRestOfSpec)

/-- ITS FALSE NEIGHBOUR: 'it returns false'. Refute it at one input. -/
def fnExactRestOfWrong : ChangeSpec := { name := "fnExactRestOf", fn := fun _ => fun
  | [d] => { results := [.lit (.bool false)], args := [d] }
  | _ => none }
def FnExactRestOfWrongFalsely : Prop := fnExactRestOfRow.holds Try.pinned (OpenSpec.ofChange fnExactRestOfWrong)

/- THE SECOND FORM. 'bulk': how many values and letters a reading holds, each counted each time it is reached (what is shared counts as often as it is met; a slice's spare places count too). A statement '..UptoSaid' is the law's where the arguments, and the package variables that the reading takes, are together of bulk at most 1048576: NARROWER than '..Said'. Prove '..Said' where nothing that the law and all that it calls make is longer than what came in: it says more and counts as full. Else prove '..UptoSaid'. A law counts once. -/
mutual
def uptoBulk {H : Type} : DataW H → Nat
  | .lit (.string bytes) => bytes.length + 1
  | .lit _ => 1
  | .nil => 1
  | .ptr d => uptoBulk d + 1
  | .slice elems spare => uptoBulkAll elems + uptoBulkAll spare + 1
  | .agg parts => uptoBulkAll parts + 1
  | .iface _ d => uptoBulk d + 1
  | .map entries => uptoBulkEntries entries + 1
  | .held _ => 1
def uptoBulkAll {H : Type} : List (DataW H) → Nat
  | [] => 0
  | d :: r => uptoBulk d + uptoBulkAll r
def uptoBulkEntries {H : Type} : List (Lit × DataW H) → Nat
  | [] => 0
  | x :: r => uptoBulkEntry x + uptoBulkEntries r
def uptoBulkEntry {H : Type} : Lit × DataW H → Nat
  | (.string bytes, d) => bytes.length + uptoBulk d + 1
  | (_, d) => uptoBulk d + 1
 end
def uptoSmall : (H : Type) → List (DataW H) → Bool := fun _ ds => decide (uptoBulkAll ds ≤ 1048576)
def OpenSpec.upto (s : _root_.Go.ChangeSpec) : _root_.Go.OpenSpec := { _root_.Go.OpenSpec.ofChange s with cond := some uptoSmall }

/-- 'laws.FnCounterOk', WHERE WHAT IT READS IS OF BULK AT MOST 1048576: true; the input reads as it did. -/
def fnCounterOkUptoRow : OpenClaim := { program := "ytdacjpaaffpfgaa", sum := "f9b2cebcc1885ce0f89f09388b119bbd149e190d7ae2488e99f1d64da76f0ba8", func := "loop.example/rowmachines/laws.FnCounterOk", spec := "fnCounterOk", apart := false, narrowed := true }
def FnCounterOkUptoSaid : Prop := fnCounterOkUptoRow.holds Try.pinned (OpenSpec.upto fnCounterOkSpec)

/-- 'laws.FnCounterOf', WHERE WHAT IT READS IS OF BULK AT MOST 1048576: true; the input reads as it did. -/
def fnCounterOfUptoRow : OpenClaim := { program := "ytdacjpaaffpfgaa", sum := "f9b2cebcc1885ce0f89f09388b119bbd149e190d7ae2488e99f1d64da76f0ba8", func := "loop.example/rowmachines/laws.FnCounterOf", spec := "fnCounterOf", unfollowed := true, recurses := true, apart := false, narrowed := true }
def FnCounterOfUptoSaid : Prop := fnCounterOfUptoRow.holds Try.pinned (OpenSpec.upto fnCounterOfSpec)

/-- 'laws.FnTickOf', WHERE WHAT IT READS IS OF BULK AT MOST 1048576: true; the input reads as it did. -/
def fnTickOfUptoRow : OpenClaim := { program := "ytdacjpaaffpfgaa", sum := "f9b2cebcc1885ce0f89f09388b119bbd149e190d7ae2488e99f1d64da76f0ba8", func := "loop.example/rowmachines/laws.FnTickOf", spec := "fnTickOf", unfollowed := true, recurses := true, apart := false, narrowed := true }
def FnTickOfUptoSaid : Prop := fnTickOfUptoRow.holds Try.pinned (OpenSpec.upto fnTickOfSpec)

/-- 'laws.FnToldBy', WHERE WHAT IT READS IS OF BULK AT MOST 1048576: true; the input reads as it did. -/
def fnToldByUptoRow : OpenClaim := { program := "ytdacjpaaffpfgaa", sum := "f9b2cebcc1885ce0f89f09388b119bbd149e190d7ae2488e99f1d64da76f0ba8", func := "loop.example/rowmachines/laws.FnToldBy", spec := "fnToldBy", unfollowed := true, recurses := true, apart := false, narrowed := true }
def FnToldByUptoSaid : Prop := fnToldByUptoRow.holds Try.pinned (OpenSpec.upto fnToldBySpec)

/-- 'laws.FnCountedOf', WHERE WHAT IT READS IS OF BULK AT MOST 1048576: true; the input reads as it did. -/
def fnCountedOfUptoRow : OpenClaim := { program := "ytdacjpaaffpfgaa", sum := "f9b2cebcc1885ce0f89f09388b119bbd149e190d7ae2488e99f1d64da76f0ba8", func := "loop.example/rowmachines/laws.FnCountedOf", spec := "fnCountedOf", unfollowed := true, recurses := true, apart := false, narrowed := true }
def FnCountedOfUptoSaid : Prop := fnCountedOfUptoRow.holds Try.pinned (OpenSpec.upto fnCountedOfSpec)

/-- 'laws.FnRestOf', WHERE WHAT IT READS IS OF BULK AT MOST 1048576: true; the input reads as it did. -/
def fnRestOfUptoRow : OpenClaim := { program := "ytdacjpaaffpfgaa", sum := "f9b2cebcc1885ce0f89f09388b119bbd149e190d7ae2488e99f1d64da76f0ba8", func := "loop.example/rowmachines/laws.FnRestOf", spec := "fnRestOf", unfollowed := true, recurses := true, apart := false, narrowed := true }
def FnRestOfUptoSaid : Prop := fnRestOfUptoRow.holds Try.pinned (OpenSpec.upto fnRestOfSpec)

/-- 'laws.FnExactCounterOk', WHERE WHAT IT READS IS OF BULK AT MOST 1048576: true; the input reads as it did. -/
def fnExactCounterOkUptoRow : OpenClaim := { program := "ytdacjpaaffpfgaa", sum := "f9b2cebcc1885ce0f89f09388b119bbd149e190d7ae2488e99f1d64da76f0ba8", func := "loop.example/rowmachines/laws.FnExactCounterOk", spec := "fnExactCounterOk", apart := false, narrowed := true }
def FnExactCounterOkUptoSaid : Prop := fnExactCounterOkUptoRow.holds Try.pinned (OpenSpec.upto fnExactCounterOkSpec)

/-- 'laws.FnExactCounterOf', WHERE WHAT IT READS IS OF BULK AT MOST 1048576: true; the input reads as it did. -/
def fnExactCounterOfUptoRow : OpenClaim := { program := "ytdacjpaaffpfgaa", sum := "f9b2cebcc1885ce0f89f09388b119bbd149e190d7ae2488e99f1d64da76f0ba8", func := "loop.example/rowmachines/laws.FnExactCounterOf", spec := "fnExactCounterOf", apart := false, narrowed := true }
def FnExactCounterOfUptoSaid : Prop := fnExactCounterOfUptoRow.holds Try.pinned (OpenSpec.upto fnExactCounterOfSpec)

/-- 'laws.FnExactTickOf', WHERE WHAT IT READS IS OF BULK AT MOST 1048576: true; the input reads as it did. -/
def fnExactTickOfUptoRow : OpenClaim := { program := "ytdacjpaaffpfgaa", sum := "f9b2cebcc1885ce0f89f09388b119bbd149e190d7ae2488e99f1d64da76f0ba8", func := "loop.example/rowmachines/laws.FnExactTickOf", spec := "fnExactTickOf", apart := false, narrowed := true }
def FnExactTickOfUptoSaid : Prop := fnExactTickOfUptoRow.holds Try.pinned (OpenSpec.upto fnExactTickOfSpec)

/-- 'laws.FnExactToldBy', WHERE WHAT IT READS IS OF BULK AT MOST 1048576: true; the input reads as it did. -/
def fnExactToldByUptoRow : OpenClaim := { program := "ytdacjpaaffpfgaa", sum := "f9b2cebcc1885ce0f89f09388b119bbd149e190d7ae2488e99f1d64da76f0ba8", func := "loop.example/rowmachines/laws.FnExactToldBy", spec := "fnExactToldBy", unfollowed := true, recurses := true, apart := false, narrowed := true }
def FnExactToldByUptoSaid : Prop := fnExactToldByUptoRow.holds Try.pinned (OpenSpec.upto fnExactToldBySpec)

/-- 'laws.FnExactCountedOf', WHERE WHAT IT READS IS OF BULK AT MOST 1048576: true; the input reads as it did. -/
def fnExactCountedOfUptoRow : OpenClaim := { program := "ytdacjpaaffpfgaa", sum := "f9b2cebcc1885ce0f89f09388b119bbd149e190d7ae2488e99f1d64da76f0ba8", func := "loop.example/rowmachines/laws.FnExactCountedOf", spec := "fnExactCountedOf", apart := false, narrowed := true }
def FnExactCountedOfUptoSaid : Prop := fnExactCountedOfUptoRow.holds Try.pinned (OpenSpec.upto fnExactCountedOfSpec)

/-- 'laws.FnExactRestOf', WHERE WHAT IT READS IS OF BULK AT MOST 1048576: true; the input reads as it did. -/
def fnExactRestOfUptoRow : OpenClaim := { program := "ytdacjpaaffpfgaa", sum := "f9b2cebcc1885ce0f89f09388b119bbd149e190d7ae2488e99f1d64da76f0ba8", func := "loop.example/rowmachines/laws.FnExactRestOf", spec := "fnExactRestOf", apart := false, narrowed := true }
def FnExactRestOfUptoSaid : Prop := fnExactRestOfUptoRow.holds Try.pinned (OpenSpec.upto fnExactRestOfSpec)

end Rows
end Go.Proofs.Ytdacjpaaffpfgaa
