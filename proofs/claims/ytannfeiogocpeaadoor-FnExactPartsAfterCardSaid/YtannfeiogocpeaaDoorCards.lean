/-
  DERIVED. GIVEN WITH THE SEED: THE CARDS: each row of YtannfeiogocpeaaDoorRows.lean that lists a variable, with what it lists TIED to the program's text (the seventh form; the later family's looks); each row that meets fmt, with fmt's text TOLD by the authors' own Lean function (tested against real Go, not proved from fmt's source: count such statements apart). THE CARD IS WHAT COUNTS. Prove the row's statement (the work); the ties are given (YtannfeiogocpeaaDoorTie.lean); close each card by the builder's one call (the guide's Derived/Test/ToyasCard.lean, 'card_holds'). Laid BY PROGRAM, IN A SANDBOX (cutbox-door.mjs). By AI agents, Wed Nov 11 2026. No macro, syntax, notation, axiom, sorry.
-/
import Derived.Test.YtannfeiogocpeaaDoorRows
import GoSem.ClaimSeven
namespace Go.Proofs.YtannfeiogocpeaaDoor
namespace Rows

/-- THE TIED CARD OF 'laws.FnExactFireAt'. -/
def fnExactFireAtCard : Claim7 := { stood := { row := fnExactFireAtRow, standIns := [], harness := (true, "0f5689b5e6ebe513d49e0b1959542ae7d194ecd54102aa5d4e70c992abcae3c0"), looks := false }, kinds := [], alts := [], laidByText := true, laidKinds := [.data], laidTests := true, laidLooks := .later }
def FnExactFireAtCardSaid : Prop := Claim7.holds Tryd.pinned (.plain (OpenSpec.ofChange fnExactFireAtSpec)) fnExactFireAtCard

/-- THE TIED CARD OF 'laws.FnExactPartsAfter'. -/
def fnExactPartsAfterCard : Claim7 := { stood := { row := fnExactPartsAfterRow, standIns := [], harness := (true, "0f5689b5e6ebe513d49e0b1959542ae7d194ecd54102aa5d4e70c992abcae3c0"), looks := false }, kinds := [], alts := [], laidByText := true, laidKinds := [.data], laidTests := true, laidLooks := .later }
def FnExactPartsAfterCardSaid : Prop := Claim7.holds Tryd.pinned (.plain (OpenSpec.ofChange fnExactPartsAfterSpec)) fnExactPartsAfterCard

/-- THE TIED CARD OF 'laws.FnExactToldAfter'. -/
def fnExactToldAfterCard : Claim7 := { stood := { row := fnExactToldAfterRow, standIns := [], harness := (true, "0f5689b5e6ebe513d49e0b1959542ae7d194ecd54102aa5d4e70c992abcae3c0"), looks := false }, kinds := [], alts := [], laidByText := true, laidKinds := [.data, .data], laidTests := true, laidLooks := .later }
def FnExactToldAfterCardSaid : Prop := Claim7.holds Tryd.pinned (.plain (OpenSpec.ofChange fnExactToldAfterSpec)) fnExactToldAfterCard

/-- THE TIED CARD OF 'laws.FnFireAt'. -/
def fnFireAtCard : Claim7 := { stood := { row := fnFireAtRow, standIns := [], harness := (true, "0f5689b5e6ebe513d49e0b1959542ae7d194ecd54102aa5d4e70c992abcae3c0"), looks := false }, kinds := [], alts := [], laidByText := true, laidKinds := [.data], laidTests := true, laidLooks := .later }
def FnFireAtCardSaid : Prop := Claim7.holds Tryd.pinned (.plain (OpenSpec.ofChange fnFireAtSpec)) fnFireAtCard

/-- THE TIED CARD OF 'laws.FnPartsAfter'. -/
def fnPartsAfterCard : Claim7 := { stood := { row := fnPartsAfterRow, standIns := [], harness := (true, "0f5689b5e6ebe513d49e0b1959542ae7d194ecd54102aa5d4e70c992abcae3c0"), looks := false }, kinds := [], alts := [], laidByText := true, laidKinds := [.data], laidTests := true, laidLooks := .later }
def FnPartsAfterCardSaid : Prop := Claim7.holds Tryd.pinned (.plain (OpenSpec.ofChange fnPartsAfterSpec)) fnPartsAfterCard

/-- THE TIED CARD OF 'laws.FnToldAfter'. -/
def fnToldAfterCard : Claim7 := { stood := { row := fnToldAfterRow, standIns := [], harness := (true, "0f5689b5e6ebe513d49e0b1959542ae7d194ecd54102aa5d4e70c992abcae3c0"), looks := false }, kinds := [], alts := [], laidByText := true, laidKinds := [.data, .data], laidTests := true, laidLooks := .later }
def FnToldAfterCardSaid : Prop := Claim7.holds Tryd.pinned (.plain (OpenSpec.ofChange fnToldAfterSpec)) fnToldAfterCard

/-- THE SECOND FORM's CARD OF 'laws.FnExactFireAt'. -/
def fnExactFireAtUptoCard : Claim7 := { stood := { row := fnExactFireAtUptoRow, standIns := [], harness := (true, "0f5689b5e6ebe513d49e0b1959542ae7d194ecd54102aa5d4e70c992abcae3c0"), looks := false }, kinds := [], alts := [], laidByText := true, laidKinds := [.data], laidTests := true, laidLooks := .later }
def FnExactFireAtUptoCardSaid : Prop := Claim7.holds Tryd.pinned (.plain (OpenSpec.upto fnExactFireAtSpec)) fnExactFireAtUptoCard

/-- THE SECOND FORM's CARD OF 'laws.FnExactPartsAfter'. -/
def fnExactPartsAfterUptoCard : Claim7 := { stood := { row := fnExactPartsAfterUptoRow, standIns := [], harness := (true, "0f5689b5e6ebe513d49e0b1959542ae7d194ecd54102aa5d4e70c992abcae3c0"), looks := false }, kinds := [], alts := [], laidByText := true, laidKinds := [.data], laidTests := true, laidLooks := .later }
def FnExactPartsAfterUptoCardSaid : Prop := Claim7.holds Tryd.pinned (.plain (OpenSpec.upto fnExactPartsAfterSpec)) fnExactPartsAfterUptoCard

/-- THE SECOND FORM's CARD OF 'laws.FnExactToldAfter'. -/
def fnExactToldAfterUptoCard : Claim7 := { stood := { row := fnExactToldAfterUptoRow, standIns := [], harness := (true, "0f5689b5e6ebe513d49e0b1959542ae7d194ecd54102aa5d4e70c992abcae3c0"), looks := false }, kinds := [], alts := [], laidByText := true, laidKinds := [.data, .data], laidTests := true, laidLooks := .later }
def FnExactToldAfterUptoCardSaid : Prop := Claim7.holds Tryd.pinned (.plain (OpenSpec.upto fnExactToldAfterSpec)) fnExactToldAfterUptoCard

/-- THE SECOND FORM's CARD OF 'laws.FnFireAt'. -/
def fnFireAtUptoCard : Claim7 := { stood := { row := fnFireAtUptoRow, standIns := [], harness := (true, "0f5689b5e6ebe513d49e0b1959542ae7d194ecd54102aa5d4e70c992abcae3c0"), looks := false }, kinds := [], alts := [], laidByText := true, laidKinds := [.data], laidTests := true, laidLooks := .later }
def FnFireAtUptoCardSaid : Prop := Claim7.holds Tryd.pinned (.plain (OpenSpec.upto fnFireAtSpec)) fnFireAtUptoCard

/-- THE SECOND FORM's CARD OF 'laws.FnPartsAfter'. -/
def fnPartsAfterUptoCard : Claim7 := { stood := { row := fnPartsAfterUptoRow, standIns := [], harness := (true, "0f5689b5e6ebe513d49e0b1959542ae7d194ecd54102aa5d4e70c992abcae3c0"), looks := false }, kinds := [], alts := [], laidByText := true, laidKinds := [.data], laidTests := true, laidLooks := .later }
def FnPartsAfterUptoCardSaid : Prop := Claim7.holds Tryd.pinned (.plain (OpenSpec.upto fnPartsAfterSpec)) fnPartsAfterUptoCard

/-- THE SECOND FORM's CARD OF 'laws.FnToldAfter'. -/
def fnToldAfterUptoCard : Claim7 := { stood := { row := fnToldAfterUptoRow, standIns := [], harness := (true, "0f5689b5e6ebe513d49e0b1959542ae7d194ecd54102aa5d4e70c992abcae3c0"), looks := false }, kinds := [], alts := [], laidByText := true, laidKinds := [.data, .data], laidTests := true, laidLooks := .later }
def FnToldAfterUptoCardSaid : Prop := Claim7.holds Tryd.pinned (.plain (OpenSpec.upto fnToldAfterSpec)) fnToldAfterUptoCard
end Rows
end Go.Proofs.YtannfeiogocpeaaDoor
