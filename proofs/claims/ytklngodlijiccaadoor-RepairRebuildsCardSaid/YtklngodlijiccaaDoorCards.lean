/-
  DERIVED. GIVEN WITH THE SEED: THE CARDS: each row of YtklngodlijiccaaDoorRows.lean that lists a variable, with what it lists TIED to the program's text (the seventh form; the later family's looks); each row that meets fmt, with fmt's text TOLD by the authors' own Lean function (tested against real Go, not proved from fmt's source: count such statements apart). THE CARD IS WHAT COUNTS. Prove the row's statement (the work); the ties are given (YtklngodlijiccaaDoorTie.lean); close each card by the builder's one call (the guide's Derived/Test/ToyasCard.lean, 'card_holds'). Laid BY PROGRAM, IN A SANDBOX (cutbox-door.mjs). By AI agents, Wed Nov 11 2026. No macro, syntax, notation, axiom, sorry.
-/
import Derived.Test.YtklngodlijiccaaDoorRows
import GoSem.ClaimSeven
namespace Go.Proofs.YtklngodlijiccaaDoor
namespace Rows

/-- THE TIED CARD OF 'solventlaw10.RepairPlanMatchesSpec'. -/
def repairPlanMatchesSpecCard : Claim7 := { stood := { row := repairPlanMatchesSpecRow, standIns := [], harness := (true, "8b0ff3262602d6b3f6c7d81fcd5a3680a577c45398702c1f00aab336adfcac45"), looks := false }, kinds := [], alts := [], laidByText := true, laidKinds := [.data], laidTests := true, laidLooks := .later }
def RepairPlanMatchesSpecCardSaid : Prop := Claim7.holds Tryd.pinned (.plain (OpenSpec.ofChange repairPlanMatchesSpecSpec)) repairPlanMatchesSpecCard

/-- THE TIED CARD OF 'solventlaw10.RepairAllMatchesSpec'. -/
def repairAllMatchesSpecCard : Claim7 := { stood := { row := repairAllMatchesSpecRow, standIns := [], harness := (true, "8b0ff3262602d6b3f6c7d81fcd5a3680a577c45398702c1f00aab336adfcac45"), looks := false }, kinds := [], alts := [], laidByText := true, laidKinds := [.data], laidTests := true, laidLooks := .later }
def RepairAllMatchesSpecCardSaid : Prop := Claim7.holds Tryd.pinned (.plain (OpenSpec.ofChange repairAllMatchesSpecSpec)) repairAllMatchesSpecCard

/-- THE TIED CARD OF 'solventlaw10.RepairApplyMatchesSpec'. -/
def repairApplyMatchesSpecCard : Claim7 := { stood := { row := repairApplyMatchesSpecRow, standIns := [], harness := (true, "8b0ff3262602d6b3f6c7d81fcd5a3680a577c45398702c1f00aab336adfcac45"), looks := false }, kinds := [], alts := [], laidByText := true, laidKinds := [.data], laidTests := true, laidLooks := .later }
def RepairApplyMatchesSpecCardSaid : Prop := Claim7.holds Tryd.pinned (.plain (OpenSpec.ofChange repairApplyMatchesSpecSpec)) repairApplyMatchesSpecCard

/-- THE TIED CARD OF 'solventlaw10.RepairRebuilds'. -/
def repairRebuildsCard : Claim7 := { stood := { row := repairRebuildsRow, standIns := [], harness := (true, "8b0ff3262602d6b3f6c7d81fcd5a3680a577c45398702c1f00aab336adfcac45"), looks := false }, kinds := [], alts := [], laidByText := true, laidKinds := [.data], laidTests := true, laidLooks := .later }
def RepairRebuildsCardSaid : Prop := Claim7.holds Tryd.pinned (.plain (OpenSpec.ofChange repairRebuildsSpec)) repairRebuildsCard

/-- THE TIED CARD OF 'solventlaw10.RepairReadsPresent'. -/
def repairReadsPresentCard : Claim7 := { stood := { row := repairReadsPresentRow, standIns := [], harness := (true, "8b0ff3262602d6b3f6c7d81fcd5a3680a577c45398702c1f00aab336adfcac45"), looks := false }, kinds := [], alts := [], laidByText := true, laidKinds := [.data], laidTests := true, laidLooks := .later }
def RepairReadsPresentCardSaid : Prop := Claim7.holds Tryd.pinned (.plain (OpenSpec.ofChange repairReadsPresentSpec)) repairReadsPresentCard

/-- THE TIED CARD OF 'solventlaw10.RepairFewest'. -/
def repairFewestCard : Claim7 := { stood := { row := repairFewestRow, standIns := [], harness := (true, "8b0ff3262602d6b3f6c7d81fcd5a3680a577c45398702c1f00aab336adfcac45"), looks := false }, kinds := [], alts := [], laidByText := true, laidKinds := [.data], laidTests := true, laidLooks := .later }
def RepairFewestCardSaid : Prop := Claim7.holds Tryd.pinned (.plain (OpenSpec.ofChange repairFewestSpec)) repairFewestCard

/-- THE TIED CARD OF 'solventlaw10.RepairIgnoresItself'. -/
def repairIgnoresItselfCard : Claim7 := { stood := { row := repairIgnoresItselfRow, standIns := [], harness := (true, "8b0ff3262602d6b3f6c7d81fcd5a3680a577c45398702c1f00aab336adfcac45"), looks := false }, kinds := [], alts := [], laidByText := true, laidKinds := [.data], laidTests := true, laidLooks := .later }
def RepairIgnoresItselfCardSaid : Prop := Claim7.holds Tryd.pinned (.plain (OpenSpec.ofChange repairIgnoresItselfSpec)) repairIgnoresItselfCard

/-- THE SECOND FORM's CARD OF 'solventlaw10.RepairPlanMatchesSpec'. -/
def repairPlanMatchesSpecUptoCard : Claim7 := { stood := { row := repairPlanMatchesSpecUptoRow, standIns := [], harness := (true, "8b0ff3262602d6b3f6c7d81fcd5a3680a577c45398702c1f00aab336adfcac45"), looks := false }, kinds := [], alts := [], laidByText := true, laidKinds := [.data], laidTests := true, laidLooks := .later }
def RepairPlanMatchesSpecUptoCardSaid : Prop := Claim7.holds Tryd.pinned (.plain (OpenSpec.upto repairPlanMatchesSpecSpec)) repairPlanMatchesSpecUptoCard

/-- THE SECOND FORM's CARD OF 'solventlaw10.RepairAllMatchesSpec'. -/
def repairAllMatchesSpecUptoCard : Claim7 := { stood := { row := repairAllMatchesSpecUptoRow, standIns := [], harness := (true, "8b0ff3262602d6b3f6c7d81fcd5a3680a577c45398702c1f00aab336adfcac45"), looks := false }, kinds := [], alts := [], laidByText := true, laidKinds := [.data], laidTests := true, laidLooks := .later }
def RepairAllMatchesSpecUptoCardSaid : Prop := Claim7.holds Tryd.pinned (.plain (OpenSpec.upto repairAllMatchesSpecSpec)) repairAllMatchesSpecUptoCard

/-- THE SECOND FORM's CARD OF 'solventlaw10.RepairApplyMatchesSpec'. -/
def repairApplyMatchesSpecUptoCard : Claim7 := { stood := { row := repairApplyMatchesSpecUptoRow, standIns := [], harness := (true, "8b0ff3262602d6b3f6c7d81fcd5a3680a577c45398702c1f00aab336adfcac45"), looks := false }, kinds := [], alts := [], laidByText := true, laidKinds := [.data], laidTests := true, laidLooks := .later }
def RepairApplyMatchesSpecUptoCardSaid : Prop := Claim7.holds Tryd.pinned (.plain (OpenSpec.upto repairApplyMatchesSpecSpec)) repairApplyMatchesSpecUptoCard

/-- THE SECOND FORM's CARD OF 'solventlaw10.RepairRebuilds'. -/
def repairRebuildsUptoCard : Claim7 := { stood := { row := repairRebuildsUptoRow, standIns := [], harness := (true, "8b0ff3262602d6b3f6c7d81fcd5a3680a577c45398702c1f00aab336adfcac45"), looks := false }, kinds := [], alts := [], laidByText := true, laidKinds := [.data], laidTests := true, laidLooks := .later }
def RepairRebuildsUptoCardSaid : Prop := Claim7.holds Tryd.pinned (.plain (OpenSpec.upto repairRebuildsSpec)) repairRebuildsUptoCard

/-- THE SECOND FORM's CARD OF 'solventlaw10.RepairReadsPresent'. -/
def repairReadsPresentUptoCard : Claim7 := { stood := { row := repairReadsPresentUptoRow, standIns := [], harness := (true, "8b0ff3262602d6b3f6c7d81fcd5a3680a577c45398702c1f00aab336adfcac45"), looks := false }, kinds := [], alts := [], laidByText := true, laidKinds := [.data], laidTests := true, laidLooks := .later }
def RepairReadsPresentUptoCardSaid : Prop := Claim7.holds Tryd.pinned (.plain (OpenSpec.upto repairReadsPresentSpec)) repairReadsPresentUptoCard

/-- THE SECOND FORM's CARD OF 'solventlaw10.RepairFewest'. -/
def repairFewestUptoCard : Claim7 := { stood := { row := repairFewestUptoRow, standIns := [], harness := (true, "8b0ff3262602d6b3f6c7d81fcd5a3680a577c45398702c1f00aab336adfcac45"), looks := false }, kinds := [], alts := [], laidByText := true, laidKinds := [.data], laidTests := true, laidLooks := .later }
def RepairFewestUptoCardSaid : Prop := Claim7.holds Tryd.pinned (.plain (OpenSpec.upto repairFewestSpec)) repairFewestUptoCard

/-- THE SECOND FORM's CARD OF 'solventlaw10.RepairIgnoresItself'. -/
def repairIgnoresItselfUptoCard : Claim7 := { stood := { row := repairIgnoresItselfUptoRow, standIns := [], harness := (true, "8b0ff3262602d6b3f6c7d81fcd5a3680a577c45398702c1f00aab336adfcac45"), looks := false }, kinds := [], alts := [], laidByText := true, laidKinds := [.data], laidTests := true, laidLooks := .later }
def RepairIgnoresItselfUptoCardSaid : Prop := Claim7.holds Tryd.pinned (.plain (OpenSpec.upto repairIgnoresItselfSpec)) repairIgnoresItselfUptoCard
end Rows
end Go.Proofs.YtklngodlijiccaaDoor
