/-
  DERIVED. GIVEN WITH THE SEED: THE CARDS: each row of YtempgjbbgkacjaaDoorRows.lean that lists a variable, with what it lists TIED to the program's text (the seventh form; the later family's looks); each row that meets fmt, with fmt's text TOLD by the authors' own Lean function (tested against real Go, not proved from fmt's source: count such statements apart). THE CARD IS WHAT COUNTS. Prove the row's statement (the work); the ties are given (YtempgjbbgkacjaaDoorTie.lean); close each card by the builder's one call (the guide's Derived/Test/ToyasCard.lean, 'card_holds'). Laid BY PROGRAM, IN A SANDBOX (cutbox-door.mjs). By AI agents, Wed Nov 11 2026. No macro, syntax, notation, axiom, sorry.
-/
import Derived.Test.YtempgjbbgkacjaaDoorRows
import GoSem.ClaimSeven
namespace Go.Proofs.YtempgjbbgkacjaaDoor
namespace Rows

/-- THE TIED CARD OF 'laws.FnPartAt'. -/
def fnPartAtCard : Claim7 := { stood := { row := fnPartAtRow, standIns := [], harness := (true, "657dd001e7c318dfeb848ec2c1ad96e9d7cb6c8763f4e7b56b89ebd2b6a14f6b"), looks := false }, kinds := [], alts := [], laidByText := true, laidKinds := [.data], laidTests := true, laidLooks := .later }
def FnPartAtCardSaid : Prop := Claim7.holds Tryd.pinned (.plain (OpenSpec.ofChange fnPartAtSpec)) fnPartAtCard

/-- THE TIED CARD OF 'laws.FnMiddleAt'. -/
def fnMiddleAtCard : Claim7 := { stood := { row := fnMiddleAtRow, standIns := [], harness := (true, "657dd001e7c318dfeb848ec2c1ad96e9d7cb6c8763f4e7b56b89ebd2b6a14f6b"), looks := false }, kinds := [], alts := [], laidByText := true, laidKinds := [.data], laidTests := true, laidLooks := .later }
def FnMiddleAtCardSaid : Prop := Claim7.holds Tryd.pinned (.plain (OpenSpec.ofChange fnMiddleAtSpec)) fnMiddleAtCard

/-- THE TIED CARD OF 'laws.FnMiddlesOf'. -/
def fnMiddlesOfCard : Claim7 := { stood := { row := fnMiddlesOfRow, standIns := [], harness := (true, "657dd001e7c318dfeb848ec2c1ad96e9d7cb6c8763f4e7b56b89ebd2b6a14f6b"), looks := false }, kinds := [], alts := [], laidByText := true, laidKinds := [.data], laidTests := true, laidLooks := .later }
def FnMiddlesOfCardSaid : Prop := Claim7.holds Tryd.pinned (.plain (OpenSpec.ofChange fnMiddlesOfSpec)) fnMiddlesOfCard

/-- THE TIED CARD OF 'laws.FnExactPartAt'. -/
def fnExactPartAtCard : Claim7 := { stood := { row := fnExactPartAtRow, standIns := [], harness := (true, "657dd001e7c318dfeb848ec2c1ad96e9d7cb6c8763f4e7b56b89ebd2b6a14f6b"), looks := false }, kinds := [], alts := [], laidByText := true, laidKinds := [.data], laidTests := true, laidLooks := .later }
def FnExactPartAtCardSaid : Prop := Claim7.holds Tryd.pinned (.plain (OpenSpec.ofChange fnExactPartAtSpec)) fnExactPartAtCard

/-- THE TIED CARD OF 'laws.FnExactMiddleAt'. -/
def fnExactMiddleAtCard : Claim7 := { stood := { row := fnExactMiddleAtRow, standIns := [], harness := (true, "657dd001e7c318dfeb848ec2c1ad96e9d7cb6c8763f4e7b56b89ebd2b6a14f6b"), looks := false }, kinds := [], alts := [], laidByText := true, laidKinds := [.data], laidTests := true, laidLooks := .later }
def FnExactMiddleAtCardSaid : Prop := Claim7.holds Tryd.pinned (.plain (OpenSpec.ofChange fnExactMiddleAtSpec)) fnExactMiddleAtCard

/-- THE TIED CARD OF 'laws.FnExactMiddlesOf'. -/
def fnExactMiddlesOfCard : Claim7 := { stood := { row := fnExactMiddlesOfRow, standIns := [], harness := (true, "657dd001e7c318dfeb848ec2c1ad96e9d7cb6c8763f4e7b56b89ebd2b6a14f6b"), looks := false }, kinds := [], alts := [], laidByText := true, laidKinds := [.data], laidTests := true, laidLooks := .later }
def FnExactMiddlesOfCardSaid : Prop := Claim7.holds Tryd.pinned (.plain (OpenSpec.ofChange fnExactMiddlesOfSpec)) fnExactMiddlesOfCard

/-- THE SECOND FORM's CARD OF 'laws.FnPartAt'. -/
def fnPartAtUptoCard : Claim7 := { stood := { row := fnPartAtUptoRow, standIns := [], harness := (true, "657dd001e7c318dfeb848ec2c1ad96e9d7cb6c8763f4e7b56b89ebd2b6a14f6b"), looks := false }, kinds := [], alts := [], laidByText := true, laidKinds := [.data], laidTests := true, laidLooks := .later }
def FnPartAtUptoCardSaid : Prop := Claim7.holds Tryd.pinned (.plain (OpenSpec.upto fnPartAtSpec)) fnPartAtUptoCard

/-- THE SECOND FORM's CARD OF 'laws.FnMiddleAt'. -/
def fnMiddleAtUptoCard : Claim7 := { stood := { row := fnMiddleAtUptoRow, standIns := [], harness := (true, "657dd001e7c318dfeb848ec2c1ad96e9d7cb6c8763f4e7b56b89ebd2b6a14f6b"), looks := false }, kinds := [], alts := [], laidByText := true, laidKinds := [.data], laidTests := true, laidLooks := .later }
def FnMiddleAtUptoCardSaid : Prop := Claim7.holds Tryd.pinned (.plain (OpenSpec.upto fnMiddleAtSpec)) fnMiddleAtUptoCard

/-- THE SECOND FORM's CARD OF 'laws.FnMiddlesOf'. -/
def fnMiddlesOfUptoCard : Claim7 := { stood := { row := fnMiddlesOfUptoRow, standIns := [], harness := (true, "657dd001e7c318dfeb848ec2c1ad96e9d7cb6c8763f4e7b56b89ebd2b6a14f6b"), looks := false }, kinds := [], alts := [], laidByText := true, laidKinds := [.data], laidTests := true, laidLooks := .later }
def FnMiddlesOfUptoCardSaid : Prop := Claim7.holds Tryd.pinned (.plain (OpenSpec.upto fnMiddlesOfSpec)) fnMiddlesOfUptoCard

/-- THE SECOND FORM's CARD OF 'laws.FnExactPartAt'. -/
def fnExactPartAtUptoCard : Claim7 := { stood := { row := fnExactPartAtUptoRow, standIns := [], harness := (true, "657dd001e7c318dfeb848ec2c1ad96e9d7cb6c8763f4e7b56b89ebd2b6a14f6b"), looks := false }, kinds := [], alts := [], laidByText := true, laidKinds := [.data], laidTests := true, laidLooks := .later }
def FnExactPartAtUptoCardSaid : Prop := Claim7.holds Tryd.pinned (.plain (OpenSpec.upto fnExactPartAtSpec)) fnExactPartAtUptoCard

/-- THE SECOND FORM's CARD OF 'laws.FnExactMiddleAt'. -/
def fnExactMiddleAtUptoCard : Claim7 := { stood := { row := fnExactMiddleAtUptoRow, standIns := [], harness := (true, "657dd001e7c318dfeb848ec2c1ad96e9d7cb6c8763f4e7b56b89ebd2b6a14f6b"), looks := false }, kinds := [], alts := [], laidByText := true, laidKinds := [.data], laidTests := true, laidLooks := .later }
def FnExactMiddleAtUptoCardSaid : Prop := Claim7.holds Tryd.pinned (.plain (OpenSpec.upto fnExactMiddleAtSpec)) fnExactMiddleAtUptoCard

/-- THE SECOND FORM's CARD OF 'laws.FnExactMiddlesOf'. -/
def fnExactMiddlesOfUptoCard : Claim7 := { stood := { row := fnExactMiddlesOfUptoRow, standIns := [], harness := (true, "657dd001e7c318dfeb848ec2c1ad96e9d7cb6c8763f4e7b56b89ebd2b6a14f6b"), looks := false }, kinds := [], alts := [], laidByText := true, laidKinds := [.data], laidTests := true, laidLooks := .later }
def FnExactMiddlesOfUptoCardSaid : Prop := Claim7.holds Tryd.pinned (.plain (OpenSpec.upto fnExactMiddlesOfSpec)) fnExactMiddlesOfUptoCard
end Rows
end Go.Proofs.YtempgjbbgkacjaaDoor
