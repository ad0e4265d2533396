/-
  DERIVED. GIVEN WITH THE SEED: THE CARDS: each row of YtkjnimcapjjfdaaDoorRows.lean that lists a variable, with what it lists TIED to the program's text (the seventh form; the later family's looks); each row that meets fmt, with fmt's text TOLD by the authors' own Lean function (tested against real Go, not proved from fmt's source: count such statements apart). THE CARD IS WHAT COUNTS. Prove the row's statement (the work); the ties are given (YtkjnimcapjjfdaaDoorTie.lean); close each card by the builder's one call (the guide's Derived/Test/ToyasCard.lean, 'card_holds'). Laid BY PROGRAM, IN A SANDBOX (cutbox-door.mjs). By AI agents, Wed Nov 11 2026. No macro, syntax, notation, axiom, sorry.
-/
import Derived.Test.YtkjnimcapjjfdaaDoorRows
import GoSem.ClaimSeven
namespace Go.Proofs.YtkjnimcapjjfdaaDoor
namespace Rows

/-- THE TIED CARD OF 'solventlaw02.DigestSumMatchesSpec'. -/
def digestSumMatchesSpecCard : Claim7 := { stood := { row := digestSumMatchesSpecRow, standIns := [], harness := (true, "affbf8ffbd19e2dbe663b50232080145e1e3ba7082d1df0ed0886ca87c6ebca3"), looks := false }, kinds := [], alts := [], laidByText := true, laidKinds := [.data, .data], laidTests := true, laidLooks := .later }
def DigestSumMatchesSpecCardSaid : Prop := Claim7.holds Tryd.pinned (.plain (OpenSpec.ofChange digestSumMatchesSpecSpec)) digestSumMatchesSpecCard

/-- THE TIED CARD OF 'solventlaw02.DigestOfMatchesSpec'. -/
def digestOfMatchesSpecCard : Claim7 := { stood := { row := digestOfMatchesSpecRow, standIns := [], harness := (true, "affbf8ffbd19e2dbe663b50232080145e1e3ba7082d1df0ed0886ca87c6ebca3"), looks := false }, kinds := [], alts := [], laidByText := true, laidKinds := [.data, .data], laidTests := true, laidLooks := .later }
def DigestOfMatchesSpecCardSaid : Prop := Claim7.holds Tryd.pinned (.plain (OpenSpec.ofChange digestOfMatchesSpecSpec)) digestOfMatchesSpecCard

/-- THE TIED CARD OF 'solventlaw02.DigestTreesMatchSpec'. -/
def digestTreesMatchSpecCard : Claim7 := { stood := { row := digestTreesMatchSpecRow, standIns := [], harness := (true, "affbf8ffbd19e2dbe663b50232080145e1e3ba7082d1df0ed0886ca87c6ebca3"), looks := false }, kinds := [], alts := [], laidByText := true, laidKinds := [.data, .data], laidTests := true, laidLooks := .later }
def DigestTreesMatchSpecCardSaid : Prop := Claim7.holds Tryd.pinned (.plain (OpenSpec.ofChange digestTreesMatchSpecSpec)) digestTreesMatchSpecCard

/-- THE TIED CARD OF 'solventlaw02.DigestVerifyMatchesSpec'. -/
def digestVerifyMatchesSpecCard : Claim7 := { stood := { row := digestVerifyMatchesSpecRow, standIns := [], harness := (true, "affbf8ffbd19e2dbe663b50232080145e1e3ba7082d1df0ed0886ca87c6ebca3"), looks := false }, kinds := [], alts := [], laidByText := true, laidKinds := [.data, .data], laidTests := true, laidLooks := .later }
def DigestVerifyMatchesSpecCardSaid : Prop := Claim7.holds Tryd.pinned (.plain (OpenSpec.ofChange digestVerifyMatchesSpecSpec)) digestVerifyMatchesSpecCard

/-- THE TIED CARD OF 'solventlaw02.DigestProofsAccepted'. -/
def digestProofsAcceptedCard : Claim7 := { stood := { row := digestProofsAcceptedRow, standIns := [], harness := (true, "affbf8ffbd19e2dbe663b50232080145e1e3ba7082d1df0ed0886ca87c6ebca3"), looks := false }, kinds := [], alts := [], laidByText := true, laidKinds := [.data], laidTests := true, laidLooks := .later }
def DigestProofsAcceptedCardSaid : Prop := Claim7.holds Tryd.pinned (.plain (OpenSpec.ofChange digestProofsAcceptedSpec)) digestProofsAcceptedCard

/-- THE TIED CARD OF 'solventlaw02.DigestBinding'. -/
def digestBindingCard : Claim7 := { stood := { row := digestBindingRow, standIns := [], harness := (true, "affbf8ffbd19e2dbe663b50232080145e1e3ba7082d1df0ed0886ca87c6ebca3"), looks := false }, kinds := [], alts := [], laidByText := true, laidKinds := [.data, .data], laidTests := true, laidLooks := .later }
def DigestBindingCardSaid : Prop := Claim7.holds Tryd.pinned (.plain (OpenSpec.ofChange digestBindingSpec)) digestBindingCard

/-- THE TIED CARD OF 'solventlaw02.DigestRootAppends'. -/
def digestRootAppendsCard : Claim7 := { stood := { row := digestRootAppendsRow, standIns := [], harness := (true, "affbf8ffbd19e2dbe663b50232080145e1e3ba7082d1df0ed0886ca87c6ebca3"), looks := false }, kinds := [], alts := [], laidByText := true, laidKinds := [.data, .data], laidTests := true, laidLooks := .later }
def DigestRootAppendsCardSaid : Prop := Claim7.holds Tryd.pinned (.plain (OpenSpec.ofChange digestRootAppendsSpec)) digestRootAppendsCard

/-- THE SECOND FORM's CARD OF 'solventlaw02.DigestSumMatchesSpec'. -/
def digestSumMatchesSpecUptoCard : Claim7 := { stood := { row := digestSumMatchesSpecUptoRow, standIns := [], harness := (true, "affbf8ffbd19e2dbe663b50232080145e1e3ba7082d1df0ed0886ca87c6ebca3"), looks := false }, kinds := [], alts := [], laidByText := true, laidKinds := [.data, .data], laidTests := true, laidLooks := .later }
def DigestSumMatchesSpecUptoCardSaid : Prop := Claim7.holds Tryd.pinned (.plain (OpenSpec.upto digestSumMatchesSpecSpec)) digestSumMatchesSpecUptoCard

/-- THE SECOND FORM's CARD OF 'solventlaw02.DigestOfMatchesSpec'. -/
def digestOfMatchesSpecUptoCard : Claim7 := { stood := { row := digestOfMatchesSpecUptoRow, standIns := [], harness := (true, "affbf8ffbd19e2dbe663b50232080145e1e3ba7082d1df0ed0886ca87c6ebca3"), looks := false }, kinds := [], alts := [], laidByText := true, laidKinds := [.data, .data], laidTests := true, laidLooks := .later }
def DigestOfMatchesSpecUptoCardSaid : Prop := Claim7.holds Tryd.pinned (.plain (OpenSpec.upto digestOfMatchesSpecSpec)) digestOfMatchesSpecUptoCard

/-- THE SECOND FORM's CARD OF 'solventlaw02.DigestTreesMatchSpec'. -/
def digestTreesMatchSpecUptoCard : Claim7 := { stood := { row := digestTreesMatchSpecUptoRow, standIns := [], harness := (true, "affbf8ffbd19e2dbe663b50232080145e1e3ba7082d1df0ed0886ca87c6ebca3"), looks := false }, kinds := [], alts := [], laidByText := true, laidKinds := [.data, .data], laidTests := true, laidLooks := .later }
def DigestTreesMatchSpecUptoCardSaid : Prop := Claim7.holds Tryd.pinned (.plain (OpenSpec.upto digestTreesMatchSpecSpec)) digestTreesMatchSpecUptoCard

/-- THE SECOND FORM's CARD OF 'solventlaw02.DigestVerifyMatchesSpec'. -/
def digestVerifyMatchesSpecUptoCard : Claim7 := { stood := { row := digestVerifyMatchesSpecUptoRow, standIns := [], harness := (true, "affbf8ffbd19e2dbe663b50232080145e1e3ba7082d1df0ed0886ca87c6ebca3"), looks := false }, kinds := [], alts := [], laidByText := true, laidKinds := [.data, .data], laidTests := true, laidLooks := .later }
def DigestVerifyMatchesSpecUptoCardSaid : Prop := Claim7.holds Tryd.pinned (.plain (OpenSpec.upto digestVerifyMatchesSpecSpec)) digestVerifyMatchesSpecUptoCard

/-- THE SECOND FORM's CARD OF 'solventlaw02.DigestProofsAccepted'. -/
def digestProofsAcceptedUptoCard : Claim7 := { stood := { row := digestProofsAcceptedUptoRow, standIns := [], harness := (true, "affbf8ffbd19e2dbe663b50232080145e1e3ba7082d1df0ed0886ca87c6ebca3"), looks := false }, kinds := [], alts := [], laidByText := true, laidKinds := [.data], laidTests := true, laidLooks := .later }
def DigestProofsAcceptedUptoCardSaid : Prop := Claim7.holds Tryd.pinned (.plain (OpenSpec.upto digestProofsAcceptedSpec)) digestProofsAcceptedUptoCard

/-- THE SECOND FORM's CARD OF 'solventlaw02.DigestBinding'. -/
def digestBindingUptoCard : Claim7 := { stood := { row := digestBindingUptoRow, standIns := [], harness := (true, "affbf8ffbd19e2dbe663b50232080145e1e3ba7082d1df0ed0886ca87c6ebca3"), looks := false }, kinds := [], alts := [], laidByText := true, laidKinds := [.data, .data], laidTests := true, laidLooks := .later }
def DigestBindingUptoCardSaid : Prop := Claim7.holds Tryd.pinned (.plain (OpenSpec.upto digestBindingSpec)) digestBindingUptoCard

/-- THE SECOND FORM's CARD OF 'solventlaw02.DigestRootAppends'. -/
def digestRootAppendsUptoCard : Claim7 := { stood := { row := digestRootAppendsUptoRow, standIns := [], harness := (true, "affbf8ffbd19e2dbe663b50232080145e1e3ba7082d1df0ed0886ca87c6ebca3"), looks := false }, kinds := [], alts := [], laidByText := true, laidKinds := [.data, .data], laidTests := true, laidLooks := .later }
def DigestRootAppendsUptoCardSaid : Prop := Claim7.holds Tryd.pinned (.plain (OpenSpec.upto digestRootAppendsSpec)) digestRootAppendsUptoCard
end Rows
end Go.Proofs.YtkjnimcapjjfdaaDoor
