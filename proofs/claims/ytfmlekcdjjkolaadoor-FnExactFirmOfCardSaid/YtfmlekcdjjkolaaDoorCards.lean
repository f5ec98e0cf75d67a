/-
  DERIVED. GIVEN WITH THE SEED: THE CARDS: each row of YtfmlekcdjjkolaaDoorRows.lean that lists a variable, with what it lists TIED to the program's text (the seventh form; the later family's looks); each row that meets fmt, with fmt's text TOLD by the authors' own Lean function (tested against real Go, not proved from fmt's source: count such statements apart). THE CARD IS WHAT COUNTS. Prove the row's statement (the work); the ties are given (YtfmlekcdjjkolaaDoorTie.lean); close each card by the builder's one call (the guide's Derived/Test/ToyasCard.lean, 'card_holds'). Laid BY PROGRAM, IN A SANDBOX (cutbox-door.mjs). By AI agents, Wed Nov 11 2026. No macro, syntax, notation, axiom, sorry.
-/
import Derived.Test.YtfmlekcdjjkolaaDoorRows
import GoSem.ClaimSeven
namespace Go.Proofs.YtfmlekcdjjkolaaDoor
namespace Rows

/-- THE TIED CARD OF 'laws.FnVotedOf'. -/
def fnVotedOfCard : Claim7 := { stood := { row := fnVotedOfRow, standIns := [], harness := (true, "73df2b341152f7bad8341f5cf5f30d167211855e84300eab8e2f2303e86c169c"), looks := false }, kinds := [], alts := [], laidByText := true, laidKinds := [.data], laidTests := true, laidLooks := .later }
def FnVotedOfCardSaid : Prop := Claim7.holds Tryd.pinned (.plain (OpenSpec.ofChange fnVotedOfSpec)) fnVotedOfCard

/-- THE TIED CARD OF 'laws.FnFirmOf'. -/
def fnFirmOfCard : Claim7 := { stood := { row := fnFirmOfRow, standIns := [], harness := (true, "73df2b341152f7bad8341f5cf5f30d167211855e84300eab8e2f2303e86c169c"), looks := false }, kinds := [], alts := [], laidByText := true, laidKinds := [.data], laidTests := true, laidLooks := .later }
def FnFirmOfCardSaid : Prop := Claim7.holds Tryd.pinned (.plain (OpenSpec.ofChange fnFirmOfSpec)) fnFirmOfCard

/-- THE TIED CARD OF 'laws.FnExactFirmOf'. -/
def fnExactFirmOfCard : Claim7 := { stood := { row := fnExactFirmOfRow, standIns := [], harness := (true, "73df2b341152f7bad8341f5cf5f30d167211855e84300eab8e2f2303e86c169c"), looks := false }, kinds := [], alts := [], laidByText := true, laidKinds := [.data], laidTests := true, laidLooks := .later }
def FnExactFirmOfCardSaid : Prop := Claim7.holds Tryd.pinned (.plain (OpenSpec.ofChange fnExactFirmOfSpec)) fnExactFirmOfCard

/-- THE SECOND FORM's CARD OF 'laws.FnVotedOf'. -/
def fnVotedOfUptoCard : Claim7 := { stood := { row := fnVotedOfUptoRow, standIns := [], harness := (true, "73df2b341152f7bad8341f5cf5f30d167211855e84300eab8e2f2303e86c169c"), looks := false }, kinds := [], alts := [], laidByText := true, laidKinds := [.data], laidTests := true, laidLooks := .later }
def FnVotedOfUptoCardSaid : Prop := Claim7.holds Tryd.pinned (.plain (OpenSpec.upto fnVotedOfSpec)) fnVotedOfUptoCard

/-- THE SECOND FORM's CARD OF 'laws.FnFirmOf'. -/
def fnFirmOfUptoCard : Claim7 := { stood := { row := fnFirmOfUptoRow, standIns := [], harness := (true, "73df2b341152f7bad8341f5cf5f30d167211855e84300eab8e2f2303e86c169c"), looks := false }, kinds := [], alts := [], laidByText := true, laidKinds := [.data], laidTests := true, laidLooks := .later }
def FnFirmOfUptoCardSaid : Prop := Claim7.holds Tryd.pinned (.plain (OpenSpec.upto fnFirmOfSpec)) fnFirmOfUptoCard

/-- THE SECOND FORM's CARD OF 'laws.FnExactFirmOf'. -/
def fnExactFirmOfUptoCard : Claim7 := { stood := { row := fnExactFirmOfUptoRow, standIns := [], harness := (true, "73df2b341152f7bad8341f5cf5f30d167211855e84300eab8e2f2303e86c169c"), looks := false }, kinds := [], alts := [], laidByText := true, laidKinds := [.data], laidTests := true, laidLooks := .later }
def FnExactFirmOfUptoCardSaid : Prop := Claim7.holds Tryd.pinned (.plain (OpenSpec.upto fnExactFirmOfSpec)) fnExactFirmOfUptoCard
end Rows
end Go.Proofs.YtfmlekcdjjkolaaDoor
