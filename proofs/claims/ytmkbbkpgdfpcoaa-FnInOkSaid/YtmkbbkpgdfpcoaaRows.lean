/-
  No cell of these rows narrows 'for every input' (looked for: loops, veiled, ifaces, maps, wideKeys, modest, calm, conditions, laid).
  DERIVED. THE GIVEN ROWS OF THIS SEAT. 12 by the template 'for every input the law returns true; each argument reads behind the call as it read before'; 0 by the template 'total and deterministic' (their statements: YtmkbbkpgdfpcoaaTotals.lean).
  GIVEN WITH THE SEED: the statements are not yours to turn. If you find one false, say at which input.
  Laid BY PROGRAM, IN A SANDBOX (cutbox-rows.mjs): the forced cells as the released guide's own fill.sh prints them over the translation 1368ce390c592981… (all of the seat's roots in one cut). By AI agents, Wed Nov 11 2026. No macro, syntax, notation, axiom, sorry.
-/
import Derived.Test.YtmkbbkpgdfpcoaaChecked
import GoSem.Claim
import GoSem.ClaimJoined
import GoSem.ClaimMapViews
import Derived.JoinedTies
import Derived.KernelRfl
namespace Go.Proofs.Ytmkbbkpgdfpcoaa
/- THE CELL 'sum', in the pinned program and in every row, IS THE sha256 OF THE DUMP (.gsa) THAT YtmkbbkpgdfpcoaaProg.lean LOADS. Nothing in Lean hashes anything: it is a label: what it is worth is what the hold of that sum in a sandbox is worth. -/
noncomputable def Try.pinned : Pinned := { name := "ytmkbbkpgdfpcoaa", sum := "1368ce390c59298133083dcf1cab3b555b50fff323e0e512bea9e7f545815bcb", checked := Try.checked }
namespace Rows
def none {H : Type} : Left H := { results := [], args := [] }

/-- 'laws.FnTapsOk': WHATEVER THE INPUT: true; the input reads as it did. -/
def fnTapsOkSpec : ChangeSpec := { name := "fnTapsOk", fn := fun _ => fun
  | [d] => { results := [.lit (.bool true)], args := [d] }
  | _ => none }
def fnTapsOkRow : OpenClaim := { program := "ytmkbbkpgdfpcoaa", sum := "1368ce390c59298133083dcf1cab3b555b50fff323e0e512bea9e7f545815bcb", func := "loop.example/rowmachines/laws.FnTapsOk", spec := "fnTapsOk", apart := false }
def FnTapsOkSaid : Prop := fnTapsOkRow.holds Try.pinned (OpenSpec.ofChange fnTapsOkSpec)

/-- ITS FALSE NEIGHBOUR: 'it returns false'. Refute it at one input. -/
def fnTapsOkWrong : ChangeSpec := { name := "fnTapsOk", fn := fun _ => fun
  | [d] => { results := [.lit (.bool false)], args := [d] }
  | _ => none }
def FnTapsOkWrongFalsely : Prop := fnTapsOkRow.holds Try.pinned (OpenSpec.ofChange fnTapsOkWrong)

/-- 'laws.FnInOk': WHATEVER THE INPUT: true; the input reads as it did. -/
def fnInOkSpec : ChangeSpec := { name := "fnInOk", fn := fun _ => fun
  | [d] => { results := [.lit (.bool true)], args := [d] }
  | _ => none }
def fnInOkRow : OpenClaim := { program := "ytmkbbkpgdfpcoaa", sum := "1368ce390c59298133083dcf1cab3b555b50fff323e0e512bea9e7f545815bcb", func := "loop.example/rowmachines/laws.FnInOk", spec := "fnInOk", apart := false }
def FnInOkSaid : Prop := fnInOkRow.holds Try.pinned (OpenSpec.ofChange fnInOkSpec)

/-- ITS FALSE NEIGHBOUR: 'it returns false'. Refute it at one input. -/
def fnInOkWrong : ChangeSpec := { name := "fnInOk", fn := fun _ => fun
  | [d] => { results := [.lit (.bool false)], args := [d] }
  | _ => none }
def FnInOkWrongFalsely : Prop := fnInOkRow.holds Try.pinned (OpenSpec.ofChange fnInOkWrong)

/-- 'laws.FnFedOf': WHATEVER THE INPUT: true; the input reads as it did. -/
def fnFedOfSpec : ChangeSpec := { name := "fnFedOf", fn := fun _ => fun
  | [d] => { results := [.lit (.bool true)], args := [d] }
  | _ => none }
def fnFedOfRow : OpenClaim := { program := "ytmkbbkpgdfpcoaa", sum := "1368ce390c59298133083dcf1cab3b555b50fff323e0e512bea9e7f545815bcb", func := "loop.example/rowmachines/laws.FnFedOf", spec := "fnFedOf", unfollowed := true, recurses := true, apart := false }
def FnFedOfSaid : Prop := fnFedOfRow.holds Try.pinned (OpenSpec.ofChange fnFedOfSpec)

/-- ITS FALSE NEIGHBOUR: 'it returns false'. Refute it at one input. -/
def fnFedOfWrong : ChangeSpec := { name := "fnFedOf", fn := fun _ => fun
  | [d] => { results := [.lit (.bool false)], args := [d] }
  | _ => none }
def FnFedOfWrongFalsely : Prop := fnFedOfRow.holds Try.pinned (OpenSpec.ofChange fnFedOfWrong)

/-- 'laws.FnProductOf': WHATEVER THE INPUT: true; the input reads as it did. -/
def fnProductOfSpec : ChangeSpec := { name := "fnProductOf", fn := fun _ => fun
  | [d] => { results := [.lit (.bool true)], args := [d] }
  | _ => none }
def fnProductOfRow : OpenClaim := { program := "ytmkbbkpgdfpcoaa", sum := "1368ce390c59298133083dcf1cab3b555b50fff323e0e512bea9e7f545815bcb", func := "loop.example/rowmachines/laws.FnProductOf", spec := "fnProductOf", unfollowed := true, recurses := true, apart := false }
def FnProductOfSaid : Prop := fnProductOfRow.holds Try.pinned (OpenSpec.ofChange fnProductOfSpec)

/-- ITS FALSE NEIGHBOUR: 'it returns false'. Refute it at one input. -/
def fnProductOfWrong : ChangeSpec := { name := "fnProductOf", fn := fun _ => fun
  | [d] => { results := [.lit (.bool false)], args := [d] }
  | _ => none }
def FnProductOfWrongFalsely : Prop := fnProductOfRow.holds Try.pinned (OpenSpec.ofChange fnProductOfWrong)

/-- 'laws.FnBehindOf': WHATEVER THE INPUT: true; the input reads as it did. -/
def fnBehindOfSpec : ChangeSpec := { name := "fnBehindOf", fn := fun _ => fun
  | [d] => { results := [.lit (.bool true)], args := [d] }
  | _ => none }
def fnBehindOfRow : OpenClaim := { program := "ytmkbbkpgdfpcoaa", sum := "1368ce390c59298133083dcf1cab3b555b50fff323e0e512bea9e7f545815bcb", func := "loop.example/rowmachines/laws.FnBehindOf", spec := "fnBehindOf", unfollowed := true, recurses := true, apart := false }
def FnBehindOfSaid : Prop := fnBehindOfRow.holds Try.pinned (OpenSpec.ofChange fnBehindOfSpec)

/-- ITS FALSE NEIGHBOUR: 'it returns false'. Refute it at one input. -/
def fnBehindOfWrong : ChangeSpec := { name := "fnBehindOf", fn := fun _ => fun
  | [d] => { results := [.lit (.bool false)], args := [d] }
  | _ => none }
def FnBehindOfWrongFalsely : Prop := fnBehindOfRow.holds Try.pinned (OpenSpec.ofChange fnBehindOfWrong)

/-- 'laws.FnValueAt': WHATEVER THE INPUT: true; the input reads as it did. -/
def fnValueAtSpec : ChangeSpec := { name := "fnValueAt", fn := fun _ => fun
  | [d] => { results := [.lit (.bool true)], args := [d] }
  | _ => none }
def fnValueAtRow : OpenClaim := { program := "ytmkbbkpgdfpcoaa", sum := "1368ce390c59298133083dcf1cab3b555b50fff323e0e512bea9e7f545815bcb", func := "loop.example/rowmachines/laws.FnValueAt", spec := "fnValueAt", unfollowed := true, recurses := true, apart := false }
def FnValueAtSaid : Prop := fnValueAtRow.holds Try.pinned (OpenSpec.ofChange fnValueAtSpec)

/-- ITS FALSE NEIGHBOUR: 'it returns false'. Refute it at one input. -/
def fnValueAtWrong : ChangeSpec := { name := "fnValueAt", fn := fun _ => fun
  | [d] => { results := [.lit (.bool false)], args := [d] }
  | _ => none }
def FnValueAtWrongFalsely : Prop := fnValueAtRow.holds Try.pinned (OpenSpec.ofChange fnValueAtWrong)

/-- 'laws.FnExactTapsOk': WHATEVER THE INPUT: true; the input reads as it did. -/
def fnExactTapsOkSpec : ChangeSpec := { name := "fnExactTapsOk", fn := fun _ => fun
  | [d] => { results := [.lit (.bool true)], args := [d] }
  | _ => none }
def fnExactTapsOkRow : OpenClaim := { program := "ytmkbbkpgdfpcoaa", sum := "1368ce390c59298133083dcf1cab3b555b50fff323e0e512bea9e7f545815bcb", func := "loop.example/rowmachines/laws.FnExactTapsOk", spec := "fnExactTapsOk", apart := false }
def FnExactTapsOkSaid : Prop := fnExactTapsOkRow.holds Try.pinned (OpenSpec.ofChange fnExactTapsOkSpec)

/-- ITS FALSE NEIGHBOUR: 'it returns false'. Refute it at one input. -/
def fnExactTapsOkWrong : ChangeSpec := { name := "fnExactTapsOk", fn := fun _ => fun
  | [d] => { results := [.lit (.bool false)], args := [d] }
  | _ => none }
def FnExactTapsOkWrongFalsely : Prop := fnExactTapsOkRow.holds Try.pinned (OpenSpec.ofChange fnExactTapsOkWrong)

/-- 'laws.FnExactInOk': WHATEVER THE INPUT: true; the input reads as it did. -/
def fnExactInOkSpec : ChangeSpec := { name := "fnExactInOk", fn := fun _ => fun
  | [d] => { results := [.lit (.bool true)], args := [d] }
  | _ => none }
def fnExactInOkRow : OpenClaim := { program := "ytmkbbkpgdfpcoaa", sum := "1368ce390c59298133083dcf1cab3b555b50fff323e0e512bea9e7f545815bcb", func := "loop.example/rowmachines/laws.FnExactInOk", spec := "fnExactInOk", apart := false }
def FnExactInOkSaid : Prop := fnExactInOkRow.holds Try.pinned (OpenSpec.ofChange fnExactInOkSpec)

/-- ITS FALSE NEIGHBOUR: 'it returns false'. Refute it at one input. -/
def fnExactInOkWrong : ChangeSpec := { name := "fnExactInOk", fn := fun _ => fun
  | [d] => { results := [.lit (.bool false)], args := [d] }
  | _ => none }
def FnExactInOkWrongFalsely : Prop := fnExactInOkRow.holds Try.pinned (OpenSpec.ofChange fnExactInOkWrong)

/-- 'laws.FnExactFedOf': WHATEVER THE INPUT: true; the input reads as it did. -/
def fnExactFedOfSpec : ChangeSpec := { name := "fnExactFedOf", fn := fun _ => fun
  | [d1, d2] => { results := [.lit (.bool true)], args := [d1, d2] }
  | _ => none }
def fnExactFedOfRow : OpenClaim := { program := "ytmkbbkpgdfpcoaa", sum := "1368ce390c59298133083dcf1cab3b555b50fff323e0e512bea9e7f545815bcb", func := "loop.example/rowmachines/laws.FnExactFedOf", spec := "fnExactFedOf", unfollowed := true, recurses := true, apart := false }
def FnExactFedOfSaid : Prop := fnExactFedOfRow.holds Try.pinned (OpenSpec.ofChange fnExactFedOfSpec)

/-- ITS FALSE NEIGHBOUR: 'it returns false'. Refute it at one input. -/
def fnExactFedOfWrong : ChangeSpec := { name := "fnExactFedOf", fn := fun _ => fun
  | [d1, d2] => { results := [.lit (.bool false)], args := [d1, d2] }
  | _ => none }
def FnExactFedOfWrongFalsely : Prop := fnExactFedOfRow.holds Try.pinned (OpenSpec.ofChange fnExactFedOfWrong)

/-- 'laws.FnExactProductOf': WHATEVER THE INPUT: true; the input reads as it did. -/
def fnExactProductOfSpec : ChangeSpec := { name := "fnExactProductOf", fn := fun _ => fun
  | [d1, d2] => { results := [.lit (.bool true)], args := [d1, d2] }
  | _ => none }
def fnExactProductOfRow : OpenClaim := { program := "ytmkbbkpgdfpcoaa", sum := "1368ce390c59298133083dcf1cab3b555b50fff323e0e512bea9e7f545815bcb", func := "loop.example/rowmachines/laws.FnExactProductOf", spec := "fnExactProductOf", unfollowed := true, recurses := true, apart := false }
def FnExactProductOfSaid : Prop := fnExactProductOfRow.holds Try.pinned (OpenSpec.ofChange fnExactProductOfSpec)

/-- ITS FALSE NEIGHBOUR: 'it returns false'. Refute it at one input. -/
def fnExactProductOfWrong : ChangeSpec := { name := "fnExactProductOf", fn := fun _ => fun
  | [d1, d2] => { results := [.lit (.bool false)], args := [d1, d2] }
  | _ => none }
def FnExactProductOfWrongFalsely : Prop := fnExactProductOfRow.holds Try.pinned (OpenSpec.ofChange fnExactProductOfWrong)

/-- 'laws.FnExactBehindOf': WHATEVER THE INPUT: true; the input reads as it did. -/
def fnExactBehindOfSpec : ChangeSpec := { name := "fnExactBehindOf", fn := fun _ => fun
  | [d1, d2, d3] => { results := [.lit (.bool true)], args := [d1, d2, d3] }
  | _ => none }
def fnExactBehindOfRow : OpenClaim := { program := "ytmkbbkpgdfpcoaa", sum := "1368ce390c59298133083dcf1cab3b555b50fff323e0e512bea9e7f545815bcb", func := "loop.example/rowmachines/laws.FnExactBehindOf", spec := "fnExactBehindOf", unfollowed := true, recurses := true, apart := false }
def FnExactBehindOfSaid : Prop := fnExactBehindOfRow.holds Try.pinned (OpenSpec.ofChange fnExactBehindOfSpec)

/-- ITS FALSE NEIGHBOUR: 'it returns false'. Refute it at one input. -/
def fnExactBehindOfWrong : ChangeSpec := { name := "fnExactBehindOf", fn := fun _ => fun
  | [d1, d2, d3] => { results := [.lit (.bool false)], args := [d1, d2, d3] }
  | _ => none }
def FnExactBehindOfWrongFalsely : Prop := fnExactBehindOfRow.holds Try.pinned (OpenSpec.ofChange fnExactBehindOfWrong)

/-- 'laws.FnExactValueAt': WHATEVER THE INPUT: true; the input reads as it did. -/
def fnExactValueAtSpec : ChangeSpec := { name := "fnExactValueAt", fn := fun _ => fun
  | [d1, d2] => { results := [.lit (.bool true)], args := [d1, d2] }
  | _ => none }
def fnExactValueAtRow : OpenClaim := { program := "ytmkbbkpgdfpcoaa", sum := "1368ce390c59298133083dcf1cab3b555b50fff323e0e512bea9e7f545815bcb", func := "loop.example/rowmachines/laws.FnExactValueAt", spec := "fnExactValueAt", unfollowed := true, recurses := true, apart := false }
def FnExactValueAtSaid : Prop := fnExactValueAtRow.holds Try.pinned (OpenSpec.ofChange fnExactValueAtSpec)

/-- ITS FALSE NEIGHBOUR: 'it returns false'. Refute it at one input. -/
def fnExactValueAtWrong : ChangeSpec := { name := "fnExactValueAt", fn := fun _ => fun
  | [d1, d2] => { results := [.lit (.bool false)], args := [d1, d2] }
  | _ => none }
def FnExactValueAtWrongFalsely : Prop := fnExactValueAtRow.holds Try.pinned (OpenSpec.ofChange fnExactValueAtWrong)

/- THE SECOND FORM. 'bulk': how many values and letters a reading holds, each counted each time it is reached (what is shared counts as often as it is met; a slice's spare places count too). A statement '..UptoSaid' is the law's where the arguments, and the package variables that the reading takes, are together of bulk at most 1048576: NARROWER than '..Said'. Prove '..Said' where nothing that the law and all that it calls make is longer than what came in: it says more and counts as full. Else prove '..UptoSaid'. A law counts once. -/
mutual
def uptoBulk {H : Type} : DataW H → Nat
  | .lit (.string bytes) => bytes.length + 1
  | .lit _ => 1
  | .nil => 1
  | .ptr d => uptoBulk d + 1
  | .slice elems spare => uptoBulkAll elems + uptoBulkAll spare + 1
  | .agg parts => uptoBulkAll parts + 1
  | .iface _ d => uptoBulk d + 1
  | .map entries => uptoBulkEntries entries + 1
  | .held _ => 1
def uptoBulkAll {H : Type} : List (DataW H) → Nat
  | [] => 0
  | d :: r => uptoBulk d + uptoBulkAll r
def uptoBulkEntries {H : Type} : List (Lit × DataW H) → Nat
  | [] => 0
  | x :: r => uptoBulkEntry x + uptoBulkEntries r
def uptoBulkEntry {H : Type} : Lit × DataW H → Nat
  | (.string bytes, d) => bytes.length + uptoBulk d + 1
  | (_, d) => uptoBulk d + 1
 end
def uptoSmall : (H : Type) → List (DataW H) → Bool := fun _ ds => decide (uptoBulkAll ds ≤ 1048576)
def OpenSpec.upto (s : _root_.Go.ChangeSpec) : _root_.Go.OpenSpec := { _root_.Go.OpenSpec.ofChange s with cond := some uptoSmall }

/-- 'laws.FnTapsOk', WHERE WHAT IT READS IS OF BULK AT MOST 1048576: true; the input reads as it did. -/
def fnTapsOkUptoRow : OpenClaim := { program := "ytmkbbkpgdfpcoaa", sum := "1368ce390c59298133083dcf1cab3b555b50fff323e0e512bea9e7f545815bcb", func := "loop.example/rowmachines/laws.FnTapsOk", spec := "fnTapsOk", apart := false, narrowed := true }
def FnTapsOkUptoSaid : Prop := fnTapsOkUptoRow.holds Try.pinned (OpenSpec.upto fnTapsOkSpec)

/-- 'laws.FnInOk', WHERE WHAT IT READS IS OF BULK AT MOST 1048576: true; the input reads as it did. -/
def fnInOkUptoRow : OpenClaim := { program := "ytmkbbkpgdfpcoaa", sum := "1368ce390c59298133083dcf1cab3b555b50fff323e0e512bea9e7f545815bcb", func := "loop.example/rowmachines/laws.FnInOk", spec := "fnInOk", apart := false, narrowed := true }
def FnInOkUptoSaid : Prop := fnInOkUptoRow.holds Try.pinned (OpenSpec.upto fnInOkSpec)

/-- 'laws.FnFedOf', WHERE WHAT IT READS IS OF BULK AT MOST 1048576: true; the input reads as it did. -/
def fnFedOfUptoRow : OpenClaim := { program := "ytmkbbkpgdfpcoaa", sum := "1368ce390c59298133083dcf1cab3b555b50fff323e0e512bea9e7f545815bcb", func := "loop.example/rowmachines/laws.FnFedOf", spec := "fnFedOf", unfollowed := true, recurses := true, apart := false, narrowed := true }
def FnFedOfUptoSaid : Prop := fnFedOfUptoRow.holds Try.pinned (OpenSpec.upto fnFedOfSpec)

/-- 'laws.FnProductOf', WHERE WHAT IT READS IS OF BULK AT MOST 1048576: true; the input reads as it did. -/
def fnProductOfUptoRow : OpenClaim := { program := "ytmkbbkpgdfpcoaa", sum := "1368ce390c59298133083dcf1cab3b555b50fff323e0e512bea9e7f545815bcb", func := "loop.example/rowmachines/laws.FnProductOf", spec := "fnProductOf", unfollowed := true, recurses := true, apart := false, narrowed := true }
def FnProductOfUptoSaid : Prop := fnProductOfUptoRow.holds Try.pinned (OpenSpec.upto fnProductOfSpec)

/-- 'laws.FnBehindOf', WHERE WHAT IT READS IS OF BULK AT MOST 1048576: true; the input reads as it did. -/
def fnBehindOfUptoRow : OpenClaim := { program := "ytmkbbkpgdfpcoaa", sum := "1368ce390c59298133083dcf1cab3b555b50fff323e0e512bea9e7f545815bcb", func := "loop.example/rowmachines/laws.FnBehindOf", spec := "fnBehindOf", unfollowed := true, recurses := true, apart := false, narrowed := true }
def FnBehindOfUptoSaid : Prop := fnBehindOfUptoRow.holds Try.pinned (OpenSpec.upto fnBehindOfSpec)

/-- 'laws.FnValueAt', WHERE WHAT IT READS IS OF BULK AT MOST 1048576: true; the input reads as it did. -/
def fnValueAtUptoRow : OpenClaim := { program := "ytmkbbkpgdfpcoaa", sum := "1368ce390c59298133083dcf1cab3b555b50fff323e0e512bea9e7f545815bcb", func := "loop.example/rowmachines/laws.FnValueAt", spec := "fnValueAt", unfollowed := true, recurses := true, apart := false, narrowed := true }
def FnValueAtUptoSaid : Prop := fnValueAtUptoRow.holds Try.pinned (OpenSpec.upto fnValueAtSpec)

/-- 'laws.FnExactTapsOk', WHERE WHAT IT READS IS OF BULK AT MOST 1048576: true; the input reads as it did. -/
def fnExactTapsOkUptoRow : OpenClaim := { program := "ytmkbbkpgdfpcoaa", sum := "1368ce390c59298133083dcf1cab3b555b50fff323e0e512bea9e7f545815bcb", func := "loop.example/rowmachines/laws.FnExactTapsOk", spec := "fnExactTapsOk", apart := false, narrowed := true }
def FnExactTapsOkUptoSaid : Prop := fnExactTapsOkUptoRow.holds Try.pinned (OpenSpec.upto fnExactTapsOkSpec)

/-- 'laws.FnExactInOk', WHERE WHAT IT READS IS OF BULK AT MOST 1048576: true; the input reads as it did. -/
def fnExactInOkUptoRow : OpenClaim := { program := "ytmkbbkpgdfpcoaa", sum := "1368ce390c59298133083dcf1cab3b555b50fff323e0e512bea9e7f545815bcb", func := "loop.example/rowmachines/laws.FnExactInOk", spec := "fnExactInOk", apart := false, narrowed := true }
def FnExactInOkUptoSaid : Prop := fnExactInOkUptoRow.holds Try.pinned (OpenSpec.upto fnExactInOkSpec)

/-- 'laws.FnExactFedOf', WHERE WHAT IT READS IS OF BULK AT MOST 1048576: true; the input reads as it did. -/
def fnExactFedOfUptoRow : OpenClaim := { program := "ytmkbbkpgdfpcoaa", sum := "1368ce390c59298133083dcf1cab3b555b50fff323e0e512bea9e7f545815bcb", func := "loop.example/rowmachines/laws.FnExactFedOf", spec := "fnExactFedOf", unfollowed := true, recurses := true, apart := false, narrowed := true }
def FnExactFedOfUptoSaid : Prop := fnExactFedOfUptoRow.holds Try.pinned (OpenSpec.upto fnExactFedOfSpec)

/-- 'laws.FnExactProductOf', WHERE WHAT IT READS IS OF BULK AT MOST 1048576: true; the input reads as it did. -/
def fnExactProductOfUptoRow : OpenClaim := { program := "ytmkbbkpgdfpcoaa", sum := "1368ce390c59298133083dcf1cab3b555b50fff323e0e512bea9e7f545815bcb", func := "loop.example/rowmachines/laws.FnExactProductOf", spec := "fnExactProductOf", unfollowed := true, recurses := true, apart := false, narrowed := true }
def FnExactProductOfUptoSaid : Prop := fnExactProductOfUptoRow.holds Try.pinned (OpenSpec.upto fnExactProductOfSpec)

/-- 'laws.FnExactBehindOf', WHERE WHAT IT READS IS OF BULK AT MOST 1048576: true; the input reads as it did. -/
def fnExactBehindOfUptoRow : OpenClaim := { program := "ytmkbbkpgdfpcoaa", sum := "1368ce390c59298133083dcf1cab3b555b50fff323e0e512bea9e7f545815bcb", func := "loop.example/rowmachines/laws.FnExactBehindOf", spec := "fnExactBehindOf", unfollowed := true, recurses := true, apart := false, narrowed := true }
def FnExactBehindOfUptoSaid : Prop := fnExactBehindOfUptoRow.holds Try.pinned (OpenSpec.upto fnExactBehindOfSpec)

/-- 'laws.FnExactValueAt', WHERE WHAT IT READS IS OF BULK AT MOST 1048576: true; the input reads as it did. -/
def fnExactValueAtUptoRow : OpenClaim := { program := "ytmkbbkpgdfpcoaa", sum := "1368ce390c59298133083dcf1cab3b555b50fff323e0e512bea9e7f545815bcb", func := "loop.example/rowmachines/laws.FnExactValueAt", spec := "fnExactValueAt", unfollowed := true, recurses := true, apart := false, narrowed := true }
def FnExactValueAtUptoSaid : Prop := fnExactValueAtUptoRow.holds Try.pinned (OpenSpec.upto fnExactValueAtSpec)

end Rows
end Go.Proofs.Ytmkbbkpgdfpcoaa
