/-
  DERIVED. GIVEN WITH THE SEED: THE CARDS: each row of YtdnbnbnfbfdflaaDoorRows.lean that lists a variable, with what it lists TIED to the program's text (the seventh form; the later family's looks); each row that meets fmt, with fmt's text TOLD by the authors' own Lean function (tested against real Go, not proved from fmt's source: count such statements apart). THE CARD IS WHAT COUNTS. Prove the row's statement (the work); the ties are given (YtdnbnbnfbfdflaaDoorTie.lean); close each card by the builder's one call (the guide's Derived/Test/ToyasCard.lean, 'card_holds'). Laid BY PROGRAM, IN A SANDBOX (cutbox-door.mjs). By AI agents, Wed Nov 11 2026. No macro, syntax, notation, axiom, sorry.
-/
import Derived.Test.YtdnbnbnfbfdflaaDoorRows
import GoSem.ClaimSeven
namespace Go.Proofs.YtdnbnbnfbfdflaaDoor
namespace Rows

/-- THE TIED CARD OF 'solventlaw03.CrcMatchesSpec'. -/
def crcMatchesSpecCard : Claim7 := { stood := { row := crcMatchesSpecRow, standIns := [], harness := (true, "8454a330c81bb00d11f091e638280722ded787eeabe37e1d2d1e4521856bee0d"), looks := false }, kinds := [], alts := [], laidByText := true, laidKinds := [.data, .data], laidTests := true, laidLooks := .later }
def CrcMatchesSpecCardSaid : Prop := Claim7.holds Tryd.pinned (.plain (OpenSpec.ofChange crcMatchesSpecSpec)) crcMatchesSpecCard

/-- THE TIED CARD OF 'solventlaw03.CrcParts'. -/
def crcPartsCard : Claim7 := { stood := { row := crcPartsRow, standIns := [], harness := (true, "8454a330c81bb00d11f091e638280722ded787eeabe37e1d2d1e4521856bee0d"), looks := false }, kinds := [], alts := [], laidByText := true, laidKinds := [.data, .data], laidTests := true, laidLooks := .later }
def CrcPartsCardSaid : Prop := Claim7.holds Tryd.pinned (.plain (OpenSpec.ofChange crcPartsSpec)) crcPartsCard

/-- THE TIED CARD OF 'solventlaw03.CrcCombines'. -/
def crcCombinesCard : Claim7 := { stood := { row := crcCombinesRow, standIns := [], harness := (true, "8454a330c81bb00d11f091e638280722ded787eeabe37e1d2d1e4521856bee0d"), looks := false }, kinds := [], alts := [], laidByText := true, laidKinds := [.data, .data], laidTests := true, laidLooks := .later }
def CrcCombinesCardSaid : Prop := Claim7.holds Tryd.pinned (.plain (OpenSpec.ofChange crcCombinesSpec)) crcCombinesCard

/-- THE TIED CARD OF 'solventlaw03.CrcZeros'. -/
def crcZerosCard : Claim7 := { stood := { row := crcZerosRow, standIns := [], harness := (true, "8454a330c81bb00d11f091e638280722ded787eeabe37e1d2d1e4521856bee0d"), looks := false }, kinds := [], alts := [], laidByText := true, laidKinds := [.data, .data], laidTests := true, laidLooks := .later }
def CrcZerosCardSaid : Prop := Claim7.holds Tryd.pinned (.plain (OpenSpec.ofChange crcZerosSpec)) crcZerosCard

/-- THE TIED CARD OF 'solventlaw03.CrcBursts'. -/
def crcBurstsCard : Claim7 := { stood := { row := crcBurstsRow, standIns := [], harness := (true, "8454a330c81bb00d11f091e638280722ded787eeabe37e1d2d1e4521856bee0d"), looks := false }, kinds := [], alts := [], laidByText := true, laidKinds := [.data, .data], laidTests := true, laidLooks := .later }
def CrcBurstsCardSaid : Prop := Claim7.holds Tryd.pinned (.plain (OpenSpec.ofChange crcBurstsSpec)) crcBurstsCard

/-- THE TIED CARD OF 'solventlaw03.CrcBits'. -/
def crcBitsCard : Claim7 := { stood := { row := crcBitsRow, standIns := [], harness := (true, "8454a330c81bb00d11f091e638280722ded787eeabe37e1d2d1e4521856bee0d"), looks := false }, kinds := [], alts := [], laidByText := true, laidKinds := [.data, .data], laidTests := true, laidLooks := .later }
def CrcBitsCardSaid : Prop := Claim7.holds Tryd.pinned (.plain (OpenSpec.ofChange crcBitsSpec)) crcBitsCard

/-- THE TIED CARD OF 'solventlaw03.CrcAffine'. -/
def crcAffineCard : Claim7 := { stood := { row := crcAffineRow, standIns := [], harness := (true, "8454a330c81bb00d11f091e638280722ded787eeabe37e1d2d1e4521856bee0d"), looks := false }, kinds := [], alts := [], laidByText := true, laidKinds := [.data, .data], laidTests := true, laidLooks := .later }
def CrcAffineCardSaid : Prop := Claim7.holds Tryd.pinned (.plain (OpenSpec.ofChange crcAffineSpec)) crcAffineCard

/-- THE SECOND FORM's CARD OF 'solventlaw03.CrcMatchesSpec'. -/
def crcMatchesSpecUptoCard : Claim7 := { stood := { row := crcMatchesSpecUptoRow, standIns := [], harness := (true, "8454a330c81bb00d11f091e638280722ded787eeabe37e1d2d1e4521856bee0d"), looks := false }, kinds := [], alts := [], laidByText := true, laidKinds := [.data, .data], laidTests := true, laidLooks := .later }
def CrcMatchesSpecUptoCardSaid : Prop := Claim7.holds Tryd.pinned (.plain (OpenSpec.upto crcMatchesSpecSpec)) crcMatchesSpecUptoCard

/-- THE SECOND FORM's CARD OF 'solventlaw03.CrcParts'. -/
def crcPartsUptoCard : Claim7 := { stood := { row := crcPartsUptoRow, standIns := [], harness := (true, "8454a330c81bb00d11f091e638280722ded787eeabe37e1d2d1e4521856bee0d"), looks := false }, kinds := [], alts := [], laidByText := true, laidKinds := [.data, .data], laidTests := true, laidLooks := .later }
def CrcPartsUptoCardSaid : Prop := Claim7.holds Tryd.pinned (.plain (OpenSpec.upto crcPartsSpec)) crcPartsUptoCard

/-- THE SECOND FORM's CARD OF 'solventlaw03.CrcCombines'. -/
def crcCombinesUptoCard : Claim7 := { stood := { row := crcCombinesUptoRow, standIns := [], harness := (true, "8454a330c81bb00d11f091e638280722ded787eeabe37e1d2d1e4521856bee0d"), looks := false }, kinds := [], alts := [], laidByText := true, laidKinds := [.data, .data], laidTests := true, laidLooks := .later }
def CrcCombinesUptoCardSaid : Prop := Claim7.holds Tryd.pinned (.plain (OpenSpec.upto crcCombinesSpec)) crcCombinesUptoCard

/-- THE SECOND FORM's CARD OF 'solventlaw03.CrcZeros'. -/
def crcZerosUptoCard : Claim7 := { stood := { row := crcZerosUptoRow, standIns := [], harness := (true, "8454a330c81bb00d11f091e638280722ded787eeabe37e1d2d1e4521856bee0d"), looks := false }, kinds := [], alts := [], laidByText := true, laidKinds := [.data, .data], laidTests := true, laidLooks := .later }
def CrcZerosUptoCardSaid : Prop := Claim7.holds Tryd.pinned (.plain (OpenSpec.upto crcZerosSpec)) crcZerosUptoCard

/-- THE SECOND FORM's CARD OF 'solventlaw03.CrcBursts'. -/
def crcBurstsUptoCard : Claim7 := { stood := { row := crcBurstsUptoRow, standIns := [], harness := (true, "8454a330c81bb00d11f091e638280722ded787eeabe37e1d2d1e4521856bee0d"), looks := false }, kinds := [], alts := [], laidByText := true, laidKinds := [.data, .data], laidTests := true, laidLooks := .later }
def CrcBurstsUptoCardSaid : Prop := Claim7.holds Tryd.pinned (.plain (OpenSpec.upto crcBurstsSpec)) crcBurstsUptoCard

/-- THE SECOND FORM's CARD OF 'solventlaw03.CrcBits'. -/
def crcBitsUptoCard : Claim7 := { stood := { row := crcBitsUptoRow, standIns := [], harness := (true, "8454a330c81bb00d11f091e638280722ded787eeabe37e1d2d1e4521856bee0d"), looks := false }, kinds := [], alts := [], laidByText := true, laidKinds := [.data, .data], laidTests := true, laidLooks := .later }
def CrcBitsUptoCardSaid : Prop := Claim7.holds Tryd.pinned (.plain (OpenSpec.upto crcBitsSpec)) crcBitsUptoCard

/-- THE SECOND FORM's CARD OF 'solventlaw03.CrcAffine'. -/
def crcAffineUptoCard : Claim7 := { stood := { row := crcAffineUptoRow, standIns := [], harness := (true, "8454a330c81bb00d11f091e638280722ded787eeabe37e1d2d1e4521856bee0d"), looks := false }, kinds := [], alts := [], laidByText := true, laidKinds := [.data, .data], laidTests := true, laidLooks := .later }
def CrcAffineUptoCardSaid : Prop := Claim7.holds Tryd.pinned (.plain (OpenSpec.upto crcAffineSpec)) crcAffineUptoCard
end Rows
end Go.Proofs.YtdnbnbnfbfdflaaDoor
