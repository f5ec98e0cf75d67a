/-
  No cell of these rows narrows 'for every input' (looked for: loops, veiled, ifaces, maps, wideKeys, modest, calm, conditions, laid).
  DERIVED. THE GIVEN ROWS OF THIS SEAT. 12 by the template 'for every input the law returns true; each argument reads behind the call as it read before'; 0 by the template 'total and deterministic' (their statements: YtegmkacapldnoaaTotals.lean).
  GIVEN WITH THE SEED: the statements are not yours to turn. If you find one false, say at which input.
  Laid BY PROGRAM, IN A SANDBOX (cutbox-rows.mjs): the forced cells as the released guide's own fill.sh prints them over the translation 079ce6723920aa2c… (all of the seat's roots in one cut). By AI agents, Wed Nov 11 2026. No macro, syntax, notation, axiom, sorry.
-/
import Derived.Test.YtegmkacapldnoaaChecked
import GoSem.Claim
import GoSem.ClaimJoined
import GoSem.ClaimMapViews
import Derived.JoinedTies
import Derived.KernelRfl
namespace Go.Proofs.Ytegmkacapldnoaa
/- THE CELL 'sum', in the pinned program and in every row, IS THE sha256 OF THE DUMP (.gsa) THAT YtegmkacapldnoaaProg.lean LOADS. Nothing in Lean hashes anything: it is a label: what it is worth is what the hold of that sum in a sandbox is worth. -/
noncomputable def Try.pinned : Pinned := { name := "ytegmkacapldnoaa", sum := "079ce6723920aa2cf5c33b78496fd2b5031657aeb27d15d769094ffc76126418", checked := Try.checked }
namespace Rows
def none {H : Type} : Left H := { results := [], args := [] }

/-- 'laws.FnRingOk': WHATEVER THE INPUT: true; the input reads as it did. -/
def fnRingOkSpec : ChangeSpec := { name := "fnRingOk", fn := fun _ => fun
  | [d] => { results := [.lit (.bool true)], args := [d] }
  | _ => none }
def fnRingOkRow : OpenClaim := { program := "ytegmkacapldnoaa", sum := "079ce6723920aa2cf5c33b78496fd2b5031657aeb27d15d769094ffc76126418", func := "loop.example/rowmachines/laws.FnRingOk", spec := "fnRingOk", apart := false }
def FnRingOkSaid : Prop := fnRingOkRow.holds Try.pinned (OpenSpec.ofChange fnRingOkSpec)

/-- ITS FALSE NEIGHBOUR: 'it returns false'. Refute it at one input. -/
def fnRingOkWrong : ChangeSpec := { name := "fnRingOk", fn := fun _ => fun
  | [d] => { results := [.lit (.bool false)], args := [d] }
  | _ => none }
def FnRingOkWrongFalsely : Prop := fnRingOkRow.holds Try.pinned (OpenSpec.ofChange fnRingOkWrong)

/-- 'laws.FnSentAt': WHATEVER THE INPUT: true; the input reads as it did. -/
def fnSentAtSpec : ChangeSpec := { name := "fnSentAt", fn := fun _ => fun
  | [d] => { results := [.lit (.bool true)], args := [d] }
  | _ => none }
def fnSentAtRow : OpenClaim := { program := "ytegmkacapldnoaa", sum := "079ce6723920aa2cf5c33b78496fd2b5031657aeb27d15d769094ffc76126418", func := "loop.example/rowmachines/laws.FnSentAt", spec := "fnSentAt", unfollowed := true, recurses := true, apart := false }
def FnSentAtSaid : Prop := fnSentAtRow.holds Try.pinned (OpenSpec.ofChange fnSentAtSpec)

/-- ITS FALSE NEIGHBOUR: 'it returns false'. Refute it at one input. -/
def fnSentAtWrong : ChangeSpec := { name := "fnSentAt", fn := fun _ => fun
  | [d] => { results := [.lit (.bool false)], args := [d] }
  | _ => none }
def FnSentAtWrongFalsely : Prop := fnSentAtRow.holds Try.pinned (OpenSpec.ofChange fnSentAtWrong)

/-- 'laws.FnChosenAt': WHATEVER THE INPUT: true; the input reads as it did. -/
def fnChosenAtSpec : ChangeSpec := { name := "fnChosenAt", fn := fun _ => fun
  | [d] => { results := [.lit (.bool true)], args := [d] }
  | _ => none }
def fnChosenAtRow : OpenClaim := { program := "ytegmkacapldnoaa", sum := "079ce6723920aa2cf5c33b78496fd2b5031657aeb27d15d769094ffc76126418", func := "loop.example/rowmachines/laws.FnChosenAt", spec := "fnChosenAt", unfollowed := true, recurses := true, apart := false }
def FnChosenAtSaid : Prop := fnChosenAtRow.holds Try.pinned (OpenSpec.ofChange fnChosenAtSpec)

/-- ITS FALSE NEIGHBOUR: 'it returns false'. Refute it at one input. -/
def fnChosenAtWrong : ChangeSpec := { name := "fnChosenAt", fn := fun _ => fun
  | [d] => { results := [.lit (.bool false)], args := [d] }
  | _ => none }
def FnChosenAtWrongFalsely : Prop := fnChosenAtRow.holds Try.pinned (OpenSpec.ofChange fnChosenAtWrong)

/-- 'laws.FnMessagesOf': WHATEVER THE INPUT: true; the input reads as it did. -/
def fnMessagesOfSpec : ChangeSpec := { name := "fnMessagesOf", fn := fun _ => fun
  | [d] => { results := [.lit (.bool true)], args := [d] }
  | _ => none }
def fnMessagesOfRow : OpenClaim := { program := "ytegmkacapldnoaa", sum := "079ce6723920aa2cf5c33b78496fd2b5031657aeb27d15d769094ffc76126418", func := "loop.example/rowmachines/laws.FnMessagesOf", spec := "fnMessagesOf", unfollowed := true, recurses := true, apart := false }
def FnMessagesOfSaid : Prop := fnMessagesOfRow.holds Try.pinned (OpenSpec.ofChange fnMessagesOfSpec)

/-- ITS FALSE NEIGHBOUR: 'it returns false'. Refute it at one input. -/
def fnMessagesOfWrong : ChangeSpec := { name := "fnMessagesOf", fn := fun _ => fun
  | [d] => { results := [.lit (.bool false)], args := [d] }
  | _ => none }
def FnMessagesOfWrongFalsely : Prop := fnMessagesOfRow.holds Try.pinned (OpenSpec.ofChange fnMessagesOfWrong)

/-- 'laws.FnReachOf': WHATEVER THE INPUT: true; the input reads as it did. -/
def fnReachOfSpec : ChangeSpec := { name := "fnReachOf", fn := fun _ => fun
  | [d] => { results := [.lit (.bool true)], args := [d] }
  | _ => none }
def fnReachOfRow : OpenClaim := { program := "ytegmkacapldnoaa", sum := "079ce6723920aa2cf5c33b78496fd2b5031657aeb27d15d769094ffc76126418", func := "loop.example/rowmachines/laws.FnReachOf", spec := "fnReachOf", unfollowed := true, recurses := true, apart := false }
def FnReachOfSaid : Prop := fnReachOfRow.holds Try.pinned (OpenSpec.ofChange fnReachOfSpec)

/-- ITS FALSE NEIGHBOUR: 'it returns false'. Refute it at one input. -/
def fnReachOfWrong : ChangeSpec := { name := "fnReachOf", fn := fun _ => fun
  | [d] => { results := [.lit (.bool false)], args := [d] }
  | _ => none }
def FnReachOfWrongFalsely : Prop := fnReachOfRow.holds Try.pinned (OpenSpec.ofChange fnReachOfWrong)

/-- 'laws.FnWentRound': WHATEVER THE INPUT: true; the input reads as it did. -/
def fnWentRoundSpec : ChangeSpec := { name := "fnWentRound", fn := fun _ => fun
  | [d] => { results := [.lit (.bool true)], args := [d] }
  | _ => none }
def fnWentRoundRow : OpenClaim := { program := "ytegmkacapldnoaa", sum := "079ce6723920aa2cf5c33b78496fd2b5031657aeb27d15d769094ffc76126418", func := "loop.example/rowmachines/laws.FnWentRound", spec := "fnWentRound", unfollowed := true, recurses := true, apart := false }
def FnWentRoundSaid : Prop := fnWentRoundRow.holds Try.pinned (OpenSpec.ofChange fnWentRoundSpec)

/-- ITS FALSE NEIGHBOUR: 'it returns false'. Refute it at one input. -/
def fnWentRoundWrong : ChangeSpec := { name := "fnWentRound", fn := fun _ => fun
  | [d] => { results := [.lit (.bool false)], args := [d] }
  | _ => none }
def FnWentRoundWrongFalsely : Prop := fnWentRoundRow.holds Try.pinned (OpenSpec.ofChange fnWentRoundWrong)

/-- 'laws.FnExactRingOk': WHATEVER THE INPUT: true; the input reads as it did. -/
def fnExactRingOkSpec : ChangeSpec := { name := "fnExactRingOk", fn := fun _ => fun
  | [d] => { results := [.lit (.bool true)], args := [d] }
  | _ => none }
def fnExactRingOkRow : OpenClaim := { program := "ytegmkacapldnoaa", sum := "079ce6723920aa2cf5c33b78496fd2b5031657aeb27d15d769094ffc76126418", func := "loop.example/rowmachines/laws.FnExactRingOk", spec := "fnExactRingOk", apart := false }
def FnExactRingOkSaid : Prop := fnExactRingOkRow.holds Try.pinned (OpenSpec.ofChange fnExactRingOkSpec)

/-- ITS FALSE NEIGHBOUR: 'it returns false'. Refute it at one input. -/
def fnExactRingOkWrong : ChangeSpec := { name := "fnExactRingOk", fn := fun _ => fun
  | [d] => { results := [.lit (.bool false)], args := [d] }
  | _ => none }
def FnExactRingOkWrongFalsely : Prop := fnExactRingOkRow.holds Try.pinned (OpenSpec.ofChange fnExactRingOkWrong)

/-- 'laws.FnExactSentAt': WHATEVER THE INPUT: true; the input reads as it did. -/
def fnExactSentAtSpec : ChangeSpec := { name := "fnExactSentAt", fn := fun _ => fun
  | [d1, d2] => { results := [.lit (.bool true)], args := [d1, d2] }
  | _ => none }
def fnExactSentAtRow : OpenClaim := { program := "ytegmkacapldnoaa", sum := "079ce6723920aa2cf5c33b78496fd2b5031657aeb27d15d769094ffc76126418", func := "loop.example/rowmachines/laws.FnExactSentAt", spec := "fnExactSentAt", unfollowed := true, recurses := true, apart := false }
def FnExactSentAtSaid : Prop := fnExactSentAtRow.holds Try.pinned (OpenSpec.ofChange fnExactSentAtSpec)

/-- ITS FALSE NEIGHBOUR: 'it returns false'. Refute it at one input. -/
def fnExactSentAtWrong : ChangeSpec := { name := "fnExactSentAt", fn := fun _ => fun
  | [d1, d2] => { results := [.lit (.bool false)], args := [d1, d2] }
  | _ => none }
def FnExactSentAtWrongFalsely : Prop := fnExactSentAtRow.holds Try.pinned (OpenSpec.ofChange fnExactSentAtWrong)

/-- 'laws.FnExactChosenAt': WHATEVER THE INPUT: true; the input reads as it did. -/
def fnExactChosenAtSpec : ChangeSpec := { name := "fnExactChosenAt", fn := fun _ => fun
  | [d] => { results := [.lit (.bool true)], args := [d] }
  | _ => none }
def fnExactChosenAtRow : OpenClaim := { program := "ytegmkacapldnoaa", sum := "079ce6723920aa2cf5c33b78496fd2b5031657aeb27d15d769094ffc76126418", func := "loop.example/rowmachines/laws.FnExactChosenAt", spec := "fnExactChosenAt", unfollowed := true, recurses := true, apart := false }
def FnExactChosenAtSaid : Prop := fnExactChosenAtRow.holds Try.pinned (OpenSpec.ofChange fnExactChosenAtSpec)

/-- ITS FALSE NEIGHBOUR: 'it returns false'. Refute it at one input. -/
def fnExactChosenAtWrong : ChangeSpec := { name := "fnExactChosenAt", fn := fun _ => fun
  | [d] => { results := [.lit (.bool false)], args := [d] }
  | _ => none }
def FnExactChosenAtWrongFalsely : Prop := fnExactChosenAtRow.holds Try.pinned (OpenSpec.ofChange fnExactChosenAtWrong)

/-- 'laws.FnExactMessagesOf': WHATEVER THE INPUT: true; the input reads as it did. -/
def fnExactMessagesOfSpec : ChangeSpec := { name := "fnExactMessagesOf", fn := fun _ => fun
  | [d] => { results := [.lit (.bool true)], args := [d] }
  | _ => none }
def fnExactMessagesOfRow : OpenClaim := { program := "ytegmkacapldnoaa", sum := "079ce6723920aa2cf5c33b78496fd2b5031657aeb27d15d769094ffc76126418", func := "loop.example/rowmachines/laws.FnExactMessagesOf", spec := "fnExactMessagesOf", unfollowed := true, recurses := true, apart := false }
def FnExactMessagesOfSaid : Prop := fnExactMessagesOfRow.holds Try.pinned (OpenSpec.ofChange fnExactMessagesOfSpec)

/-- ITS FALSE NEIGHBOUR: 'it returns false'. Refute it at one input. -/
def fnExactMessagesOfWrong : ChangeSpec := { name := "fnExactMessagesOf", fn := fun _ => fun
  | [d] => { results := [.lit (.bool false)], args := [d] }
  | _ => none }
def FnExactMessagesOfWrongFalsely : Prop := fnExactMessagesOfRow.holds Try.pinned (OpenSpec.ofChange fnExactMessagesOfWrong)

/-- 'laws.FnExactReachOf': WHATEVER THE INPUT: true; the input reads as it did. -/
def fnExactReachOfSpec : ChangeSpec := { name := "fnExactReachOf", fn := fun _ => fun
  | [d] => { results := [.lit (.bool true)], args := [d] }
  | _ => none }
def fnExactReachOfRow : OpenClaim := { program := "ytegmkacapldnoaa", sum := "079ce6723920aa2cf5c33b78496fd2b5031657aeb27d15d769094ffc76126418", func := "loop.example/rowmachines/laws.FnExactReachOf", spec := "fnExactReachOf", unfollowed := true, recurses := true, apart := false }
def FnExactReachOfSaid : Prop := fnExactReachOfRow.holds Try.pinned (OpenSpec.ofChange fnExactReachOfSpec)

/-- ITS FALSE NEIGHBOUR: 'it returns false'. Refute it at one input. -/
def fnExactReachOfWrong : ChangeSpec := { name := "fnExactReachOf", fn := fun _ => fun
  | [d] => { results := [.lit (.bool false)], args := [d] }
  | _ => none }
def FnExactReachOfWrongFalsely : Prop := fnExactReachOfRow.holds Try.pinned (OpenSpec.ofChange fnExactReachOfWrong)

/-- 'laws.FnExactWentRound': WHATEVER THE INPUT: true; the input reads as it did. -/
def fnExactWentRoundSpec : ChangeSpec := { name := "fnExactWentRound", fn := fun _ => fun
  | [d1, d2] => { results := [.lit (.bool true)], args := [d1, d2] }
  | _ => none }
def fnExactWentRoundRow : OpenClaim := { program := "ytegmkacapldnoaa", sum := "079ce6723920aa2cf5c33b78496fd2b5031657aeb27d15d769094ffc76126418", func := "loop.example/rowmachines/laws.FnExactWentRound", spec := "fnExactWentRound", apart := false }
def FnExactWentRoundSaid : Prop := fnExactWentRoundRow.holds Try.pinned (OpenSpec.ofChange fnExactWentRoundSpec)

/-- ITS FALSE NEIGHBOUR: 'it returns false'. Refute it at one input. -/
def fnExactWentRoundWrong : ChangeSpec := { name := "fnExactWentRound", fn := fun _ => fun
  | [d1, d2] => { results := [.lit (.bool false)], args := [d1, d2] }
  | _ => none }
def FnExactWentRoundWrongFalsely : Prop := fnExactWentRoundRow.holds Try.pinned (OpenSpec.ofChange fnExactWentRoundWrong)

/- THE SECOND FORM. 'bulk': how many values and letters a reading holds, each counted each time it is reached (what is shared counts as often as it is met; a slice's spare places count too). A statement '..UptoSaid' is the law's where the arguments, and the package variables that the reading takes, are together of bulk at most 1048576: NARROWER than '..Said'. Prove '..Said' where nothing that the law and all that it calls make is longer than what came in: it says more and counts as full. Else prove '..UptoSaid'. A law counts once. -/
mutual
def uptoBulk {H : Type} : DataW H → Nat
  | .lit (.string bytes) => bytes.length + 1
  | .lit _ => 1
  | .nil => 1
  | .ptr d => uptoBulk d + 1
  | .slice elems spare => uptoBulkAll elems + uptoBulkAll spare + 1
  | .agg parts => uptoBulkAll parts + 1
  | .iface _ d => uptoBulk d + 1
  | .map entries => uptoBulkEntries entries + 1
  | .held _ => 1
def uptoBulkAll {H : Type} : List (DataW H) → Nat
  | [] => 0
  | d :: r => uptoBulk d + uptoBulkAll r
def uptoBulkEntries {H : Type} : List (Lit × DataW H) → Nat
  | [] => 0
  | x :: r => uptoBulkEntry x + uptoBulkEntries r
def uptoBulkEntry {H : Type} : Lit × DataW H → Nat
  | (.string bytes, d) => bytes.length + uptoBulk d + 1
  | (_, d) => uptoBulk d + 1
 end
def uptoSmall : (H : Type) → List (DataW H) → Bool := fun _ ds => decide (uptoBulkAll ds ≤ 1048576)
def OpenSpec.upto (s : _root_.Go.ChangeSpec) : _root_.Go.OpenSpec := { _root_.Go.OpenSpec.ofChange s with cond := some uptoSmall }

/-- 'laws.FnRingOk', WHERE WHAT IT READS IS OF BULK AT MOST 1048576: true; the input reads as it did. -/
def fnRingOkUptoRow : OpenClaim := { program := "ytegmkacapldnoaa", sum := "079ce6723920aa2cf5c33b78496fd2b5031657aeb27d15d769094ffc76126418", func := "loop.example/rowmachines/laws.FnRingOk", spec := "fnRingOk", apart := false, narrowed := true }
def FnRingOkUptoSaid : Prop := fnRingOkUptoRow.holds Try.pinned (OpenSpec.upto fnRingOkSpec)

/-- 'laws.FnSentAt', WHERE WHAT IT READS IS OF BULK AT MOST 1048576: true; the input reads as it did. -/
def fnSentAtUptoRow : OpenClaim := { program := "ytegmkacapldnoaa", sum := "079ce6723920aa2cf5c33b78496fd2b5031657aeb27d15d769094ffc76126418", func := "loop.example/rowmachines/laws.FnSentAt", spec := "fnSentAt", unfollowed := true, recurses := true, apart := false, narrowed := true }
def FnSentAtUptoSaid : Prop := fnSentAtUptoRow.holds Try.pinned (OpenSpec.upto fnSentAtSpec)

/-- 'laws.FnChosenAt', WHERE WHAT IT READS IS OF BULK AT MOST 1048576: true; the input reads as it did. -/
def fnChosenAtUptoRow : OpenClaim := { program := "ytegmkacapldnoaa", sum := "079ce6723920aa2cf5c33b78496fd2b5031657aeb27d15d769094ffc76126418", func := "loop.example/rowmachines/laws.FnChosenAt", spec := "fnChosenAt", unfollowed := true, recurses := true, apart := false, narrowed := true }
def FnChosenAtUptoSaid : Prop := fnChosenAtUptoRow.holds Try.pinned (OpenSpec.upto fnChosenAtSpec)

/-- 'laws.FnMessagesOf', WHERE WHAT IT READS IS OF BULK AT MOST 1048576: true; the input reads as it did. -/
def fnMessagesOfUptoRow : OpenClaim := { program := "ytegmkacapldnoaa", sum := "079ce6723920aa2cf5c33b78496fd2b5031657aeb27d15d769094ffc76126418", func := "loop.example/rowmachines/laws.FnMessagesOf", spec := "fnMessagesOf", unfollowed := true, recurses := true, apart := false, narrowed := true }
def FnMessagesOfUptoSaid : Prop := fnMessagesOfUptoRow.holds Try.pinned (OpenSpec.upto fnMessagesOfSpec)

/-- 'laws.FnReachOf', WHERE WHAT IT READS IS OF BULK AT MOST 1048576: true; the input reads as it did. -/
def fnReachOfUptoRow : OpenClaim := { program := "ytegmkacapldnoaa", sum := "079ce6723920aa2cf5c33b78496fd2b5031657aeb27d15d769094ffc76126418", func := "loop.example/rowmachines/laws.FnReachOf", spec := "fnReachOf", unfollowed := true, recurses := true, apart := false, narrowed := true }
def FnReachOfUptoSaid : Prop := fnReachOfUptoRow.holds Try.pinned (OpenSpec.upto fnReachOfSpec)

/-- 'laws.FnWentRound', WHERE WHAT IT READS IS OF BULK AT MOST 1048576: true; the input reads as it did. -/
def fnWentRoundUptoRow : OpenClaim := { program := "ytegmkacapldnoaa", sum := "079ce6723920aa2cf5c33b78496fd2b5031657aeb27d15d769094ffc76126418", func := "loop.example/rowmachines/laws.FnWentRound", spec := "fnWentRound", unfollowed := true, recurses := true, apart := false, narrowed := true }
def FnWentRoundUptoSaid : Prop := fnWentRoundUptoRow.holds Try.pinned (OpenSpec.upto fnWentRoundSpec)

/-- 'laws.FnExactRingOk', WHERE WHAT IT READS IS OF BULK AT MOST 1048576: true; the input reads as it did. -/
def fnExactRingOkUptoRow : OpenClaim := { program := "ytegmkacapldnoaa", sum := "079ce6723920aa2cf5c33b78496fd2b5031657aeb27d15d769094ffc76126418", func := "loop.example/rowmachines/laws.FnExactRingOk", spec := "fnExactRingOk", apart := false, narrowed := true }
def FnExactRingOkUptoSaid : Prop := fnExactRingOkUptoRow.holds Try.pinned (OpenSpec.upto fnExactRingOkSpec)

/-- 'laws.FnExactSentAt', WHERE WHAT IT READS IS OF BULK AT MOST 1048576: true; the input reads as it did. -/
def fnExactSentAtUptoRow : OpenClaim := { program := "ytegmkacapldnoaa", sum := "079ce6723920aa2cf5c33b78496fd2b5031657aeb27d15d769094ffc76126418", func := "loop.example/rowmachines/laws.FnExactSentAt", spec := "fnExactSentAt", unfollowed := true, recurses := true, apart := false, narrowed := true }
def FnExactSentAtUptoSaid : Prop := fnExactSentAtUptoRow.holds Try.pinned (OpenSpec.upto fnExactSentAtSpec)

/-- 'laws.FnExactChosenAt', WHERE WHAT IT READS IS OF BULK AT MOST 1048576: true; the input reads as it did. -/
def fnExactChosenAtUptoRow : OpenClaim := { program := "ytegmkacapldnoaa", sum := "079ce6723920aa2cf5c33b78496fd2b5031657aeb27d15d769094ffc76126418", func := "loop.example/rowmachines/laws.FnExactChosenAt", spec := "fnExactChosenAt", unfollowed := true, recurses := true, apart := false, narrowed := true }
def FnExactChosenAtUptoSaid : Prop := fnExactChosenAtUptoRow.holds Try.pinned (OpenSpec.upto fnExactChosenAtSpec)

/-- 'laws.FnExactMessagesOf', WHERE WHAT IT READS IS OF BULK AT MOST 1048576: true; the input reads as it did. -/
def fnExactMessagesOfUptoRow : OpenClaim := { program := "ytegmkacapldnoaa", sum := "079ce6723920aa2cf5c33b78496fd2b5031657aeb27d15d769094ffc76126418", func := "loop.example/rowmachines/laws.FnExactMessagesOf", spec := "fnExactMessagesOf", unfollowed := true, recurses := true, apart := false, narrowed := true }
def FnExactMessagesOfUptoSaid : Prop := fnExactMessagesOfUptoRow.holds Try.pinned (OpenSpec.upto fnExactMessagesOfSpec)

/-- 'laws.FnExactReachOf', WHERE WHAT IT READS IS OF BULK AT MOST 1048576: true; the input reads as it did. -/
def fnExactReachOfUptoRow : OpenClaim := { program := "ytegmkacapldnoaa", sum := "079ce6723920aa2cf5c33b78496fd2b5031657aeb27d15d769094ffc76126418", func := "loop.example/rowmachines/laws.FnExactReachOf", spec := "fnExactReachOf", unfollowed := true, recurses := true, apart := false, narrowed := true }
def FnExactReachOfUptoSaid : Prop := fnExactReachOfUptoRow.holds Try.pinned (OpenSpec.upto fnExactReachOfSpec)

/-- 'laws.FnExactWentRound', WHERE WHAT IT READS IS OF BULK AT MOST 1048576: true; the input reads as it did. -/
def fnExactWentRoundUptoRow : OpenClaim := { program := "ytegmkacapldnoaa", sum := "079ce6723920aa2cf5c33b78496fd2b5031657aeb27d15d769094ffc76126418", func := "loop.example/rowmachines/laws.FnExactWentRound", spec := "fnExactWentRound", apart := false, narrowed := true }
def FnExactWentRoundUptoSaid : Prop := fnExactWentRoundUptoRow.holds Try.pinned (OpenSpec.upto fnExactWentRoundSpec)

end Rows
end Go.Proofs.Ytegmkacapldnoaa
