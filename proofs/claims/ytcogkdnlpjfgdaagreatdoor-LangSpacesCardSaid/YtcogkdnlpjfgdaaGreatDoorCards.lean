/-
  DERIVED. GIVEN WITH THE SEED: THE CARDS: each row of YtcogkdnlpjfgdaaGreatDoorRows.lean that lists a variable, with what it lists TIED to the program's text (the seventh form; the later family's looks); each row that meets fmt, with fmt's text TOLD by the authors' own Lean function (tested against real Go, not proved from fmt's source: count such statements apart). THE CARD IS WHAT COUNTS. Prove the row's statement (the work); the ties are given (YtcogkdnlpjfgdaaGreatDoorTie.lean); close each card by the builder's one call (the guide's Derived/Test/ToyasCard.lean, 'card_holds'). Laid BY PROGRAM, IN A SANDBOX (cutbox-door.mjs). By AI agents, Wed Nov 11 2026. No macro, syntax, notation, axiom, sorry.
-/
import Derived.Test.YtcogkdnlpjfgdaaGreatDoorRows
import GoSem.ClaimSeven
namespace Go.Proofs.YtcogkdnlpjfgdaaGreatDoor
namespace Rows

/-- THE TIED CARD OF 'solventlaw07.LangPrintMatchesSpec'. -/
def langPrintMatchesSpecCard : Claim7 := { stood := { row := langPrintMatchesSpecRow, standIns := [], harness := (true, "89253ee7f9467b25385eb4604374a02508f01ff188b608e7d280667424e05497"), looks := true }, kinds := [], alts := [], laidByText := true, laidKinds := [.data, .data, .data, .data, .sentinel, .sentinel, .pinned], laidTests := true, laidLooks := .later }
def LangPrintMatchesSpecCardSaid : Prop := Claim7.holds Tryz.pinned (.plain (OpenSpec.ofChange langPrintMatchesSpecSpec)) langPrintMatchesSpecCard

/-- THE TIED CARD OF 'solventlaw07.LangParseMatchesSpec'. -/
def langParseMatchesSpecCard : Claim7 := { stood := { row := langParseMatchesSpecRow, standIns := [], harness := (true, "89253ee7f9467b25385eb4604374a02508f01ff188b608e7d280667424e05497"), looks := true }, kinds := [], alts := [], laidByText := true, laidKinds := [.data, .data, .data, .data, .sentinel, .sentinel, .pinned], laidTests := true, laidLooks := .later }
def LangParseMatchesSpecCardSaid : Prop := Claim7.holds Tryz.pinned (.plain (OpenSpec.ofChange langParseMatchesSpecSpec)) langParseMatchesSpecCard

/-- THE TIED CARD OF 'solventlaw07.LangAllMatchesSpec'. -/
def langAllMatchesSpecCard : Claim7 := { stood := { row := langAllMatchesSpecRow, standIns := [], harness := (true, "89253ee7f9467b25385eb4604374a02508f01ff188b608e7d280667424e05497"), looks := true }, kinds := [], alts := [], laidByText := true, laidKinds := [.data, .data, .data, .data, .sentinel, .sentinel, .pinned], laidTests := true, laidLooks := .later }
def LangAllMatchesSpecCardSaid : Prop := Claim7.holds Tryz.pinned (.plain (OpenSpec.ofChange langAllMatchesSpecSpec)) langAllMatchesSpecCard

/-- THE TIED CARD OF 'solventlaw07.LangRoundTrip'. -/
def langRoundTripCard : Claim7 := { stood := { row := langRoundTripRow, standIns := [], harness := (true, "89253ee7f9467b25385eb4604374a02508f01ff188b608e7d280667424e05497"), looks := true }, kinds := [], alts := [], laidByText := true, laidKinds := [.data, .data, .data, .data, .sentinel, .sentinel, .pinned], laidTests := true, laidLooks := .later }
def LangRoundTripCardSaid : Prop := Claim7.holds Tryz.pinned (.plain (OpenSpec.ofChange langRoundTripSpec)) langRoundTripCard

/-- THE TIED CARD OF 'solventlaw07.LangCanonical'. -/
def langCanonicalCard : Claim7 := { stood := { row := langCanonicalRow, standIns := [], harness := (true, "89253ee7f9467b25385eb4604374a02508f01ff188b608e7d280667424e05497"), looks := true }, kinds := [], alts := [], laidByText := true, laidKinds := [.data, .data, .data, .data, .sentinel, .sentinel, .pinned], laidTests := true, laidLooks := .later }
def LangCanonicalCardSaid : Prop := Claim7.holds Tryz.pinned (.plain (OpenSpec.ofChange langCanonicalSpec)) langCanonicalCard

/-- THE TIED CARD OF 'solventlaw07.LangSpaces'. -/
def langSpacesCard : Claim7 := { stood := { row := langSpacesRow, standIns := [], harness := (true, "89253ee7f9467b25385eb4604374a02508f01ff188b608e7d280667424e05497"), looks := true }, kinds := [], alts := [], laidByText := true, laidKinds := [.data, .data, .data, .data, .sentinel, .sentinel, .data, .pinned], laidTests := true, laidLooks := .later }
def LangSpacesCardSaid : Prop := Claim7.holds Tryz.pinned (.plain (OpenSpec.ofChange langSpacesSpec)) langSpacesCard

/-- THE TIED CARD OF 'solventlaw07.LangPrefix'. -/
def langPrefixCard : Claim7 := { stood := { row := langPrefixRow, standIns := [], harness := (true, "89253ee7f9467b25385eb4604374a02508f01ff188b608e7d280667424e05497"), looks := true }, kinds := [], alts := [], laidByText := true, laidKinds := [.data, .data, .data, .data, .sentinel, .sentinel, .pinned], laidTests := true, laidLooks := .later }
def LangPrefixCardSaid : Prop := Claim7.holds Tryz.pinned (.plain (OpenSpec.ofChange langPrefixSpec)) langPrefixCard

/-- THE TIED CARD OF 'solventlaw07.LangConcat'. -/
def langConcatCard : Claim7 := { stood := { row := langConcatRow, standIns := [], harness := (true, "89253ee7f9467b25385eb4604374a02508f01ff188b608e7d280667424e05497"), looks := true }, kinds := [], alts := [], laidByText := true, laidKinds := [.data, .data, .data, .data, .sentinel, .sentinel, .pinned], laidTests := true, laidLooks := .later }
def LangConcatCardSaid : Prop := Claim7.holds Tryz.pinned (.plain (OpenSpec.ofChange langConcatSpec)) langConcatCard

/-- THE SECOND FORM's CARD OF 'solventlaw07.LangPrintMatchesSpec'. -/
def langPrintMatchesSpecUptoCard : Claim7 := { stood := { row := langPrintMatchesSpecUptoRow, standIns := [], harness := (true, "89253ee7f9467b25385eb4604374a02508f01ff188b608e7d280667424e05497"), looks := true }, kinds := [], alts := [], laidByText := true, laidKinds := [.data, .data, .data, .data, .sentinel, .sentinel, .pinned], laidTests := true, laidLooks := .later }
def LangPrintMatchesSpecUptoCardSaid : Prop := Claim7.holds Tryz.pinned (.plain (OpenSpec.upto langPrintMatchesSpecSpec)) langPrintMatchesSpecUptoCard

/-- THE SECOND FORM's CARD OF 'solventlaw07.LangParseMatchesSpec'. -/
def langParseMatchesSpecUptoCard : Claim7 := { stood := { row := langParseMatchesSpecUptoRow, standIns := [], harness := (true, "89253ee7f9467b25385eb4604374a02508f01ff188b608e7d280667424e05497"), looks := true }, kinds := [], alts := [], laidByText := true, laidKinds := [.data, .data, .data, .data, .sentinel, .sentinel, .pinned], laidTests := true, laidLooks := .later }
def LangParseMatchesSpecUptoCardSaid : Prop := Claim7.holds Tryz.pinned (.plain (OpenSpec.upto langParseMatchesSpecSpec)) langParseMatchesSpecUptoCard

/-- THE SECOND FORM's CARD OF 'solventlaw07.LangAllMatchesSpec'. -/
def langAllMatchesSpecUptoCard : Claim7 := { stood := { row := langAllMatchesSpecUptoRow, standIns := [], harness := (true, "89253ee7f9467b25385eb4604374a02508f01ff188b608e7d280667424e05497"), looks := true }, kinds := [], alts := [], laidByText := true, laidKinds := [.data, .data, .data, .data, .sentinel, .sentinel, .pinned], laidTests := true, laidLooks := .later }
def LangAllMatchesSpecUptoCardSaid : Prop := Claim7.holds Tryz.pinned (.plain (OpenSpec.upto langAllMatchesSpecSpec)) langAllMatchesSpecUptoCard

/-- THE SECOND FORM's CARD OF 'solventlaw07.LangRoundTrip'. -/
def langRoundTripUptoCard : Claim7 := { stood := { row := langRoundTripUptoRow, standIns := [], harness := (true, "89253ee7f9467b25385eb4604374a02508f01ff188b608e7d280667424e05497"), looks := true }, kinds := [], alts := [], laidByText := true, laidKinds := [.data, .data, .data, .data, .sentinel, .sentinel, .pinned], laidTests := true, laidLooks := .later }
def LangRoundTripUptoCardSaid : Prop := Claim7.holds Tryz.pinned (.plain (OpenSpec.upto langRoundTripSpec)) langRoundTripUptoCard

/-- THE SECOND FORM's CARD OF 'solventlaw07.LangCanonical'. -/
def langCanonicalUptoCard : Claim7 := { stood := { row := langCanonicalUptoRow, standIns := [], harness := (true, "89253ee7f9467b25385eb4604374a02508f01ff188b608e7d280667424e05497"), looks := true }, kinds := [], alts := [], laidByText := true, laidKinds := [.data, .data, .data, .data, .sentinel, .sentinel, .pinned], laidTests := true, laidLooks := .later }
def LangCanonicalUptoCardSaid : Prop := Claim7.holds Tryz.pinned (.plain (OpenSpec.upto langCanonicalSpec)) langCanonicalUptoCard

/-- THE SECOND FORM's CARD OF 'solventlaw07.LangSpaces'. -/
def langSpacesUptoCard : Claim7 := { stood := { row := langSpacesUptoRow, standIns := [], harness := (true, "89253ee7f9467b25385eb4604374a02508f01ff188b608e7d280667424e05497"), looks := true }, kinds := [], alts := [], laidByText := true, laidKinds := [.data, .data, .data, .data, .sentinel, .sentinel, .data, .pinned], laidTests := true, laidLooks := .later }
def LangSpacesUptoCardSaid : Prop := Claim7.holds Tryz.pinned (.plain (OpenSpec.upto langSpacesSpec)) langSpacesUptoCard

/-- THE SECOND FORM's CARD OF 'solventlaw07.LangPrefix'. -/
def langPrefixUptoCard : Claim7 := { stood := { row := langPrefixUptoRow, standIns := [], harness := (true, "89253ee7f9467b25385eb4604374a02508f01ff188b608e7d280667424e05497"), looks := true }, kinds := [], alts := [], laidByText := true, laidKinds := [.data, .data, .data, .data, .sentinel, .sentinel, .pinned], laidTests := true, laidLooks := .later }
def LangPrefixUptoCardSaid : Prop := Claim7.holds Tryz.pinned (.plain (OpenSpec.upto langPrefixSpec)) langPrefixUptoCard

/-- THE SECOND FORM's CARD OF 'solventlaw07.LangConcat'. -/
def langConcatUptoCard : Claim7 := { stood := { row := langConcatUptoRow, standIns := [], harness := (true, "89253ee7f9467b25385eb4604374a02508f01ff188b608e7d280667424e05497"), looks := true }, kinds := [], alts := [], laidByText := true, laidKinds := [.data, .data, .data, .data, .sentinel, .sentinel, .pinned], laidTests := true, laidLooks := .later }
def LangConcatUptoCardSaid : Prop := Claim7.holds Tryz.pinned (.plain (OpenSpec.upto langConcatSpec)) langConcatUptoCard
end Rows
end Go.Proofs.YtcogkdnlpjfgdaaGreatDoor
