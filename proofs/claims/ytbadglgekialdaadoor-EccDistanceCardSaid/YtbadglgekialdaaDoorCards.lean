/-
  DERIVED. GIVEN WITH THE SEED: THE CARDS: each row of YtbadglgekialdaaDoorRows.lean that lists a variable, with what it lists TIED to the program's text (the seventh form; the later family's looks); each row that meets fmt, with fmt's text TOLD by the authors' own Lean function (tested against real Go, not proved from fmt's source: count such statements apart). THE CARD IS WHAT COUNTS. Prove the row's statement (the work); the ties are given (YtbadglgekialdaaDoorTie.lean); close each card by the builder's one call (the guide's Derived/Test/ToyasCard.lean, 'card_holds'). Laid BY PROGRAM, IN A SANDBOX (cutbox-door.mjs). By AI agents, Wed Nov 11 2026. No macro, syntax, notation, axiom, sorry.
-/
import Derived.Test.YtbadglgekialdaaDoorRows
import GoSem.ClaimSeven
namespace Go.Proofs.YtbadglgekialdaaDoor
namespace Rows

/-- THE TIED CARD OF 'spacecraftlaw06.EccCodes'. -/
def eccCodesCard : Claim7 := { stood := { row := eccCodesRow, standIns := [], harness := (true, "841b99eb35f4d9b96bc5da3065e810ba55733140ceb765b35b2ec204853de611"), looks := false }, kinds := [], alts := [], laidByText := true, laidKinds := [.data, .data], laidTests := true, laidLooks := .later }
def EccCodesCardSaid : Prop := Claim7.holds Tryd.pinned (.plain (OpenSpec.ofChange eccCodesSpec)) eccCodesCard

/-- THE TIED CARD OF 'spacecraftlaw06.EccDecodes'. -/
def eccDecodesCard : Claim7 := { stood := { row := eccDecodesRow, standIns := [], harness := (true, "841b99eb35f4d9b96bc5da3065e810ba55733140ceb765b35b2ec204853de611"), looks := false }, kinds := [], alts := [], laidByText := true, laidKinds := [.data, .data], laidTests := true, laidLooks := .later }
def EccDecodesCardSaid : Prop := Claim7.holds Tryd.pinned (.plain (OpenSpec.ofChange eccDecodesSpec)) eccDecodesCard

/-- THE TIED CARD OF 'spacecraftlaw06.EccFlips'. -/
def eccFlipsCard : Claim7 := { stood := { row := eccFlipsRow, standIns := [], harness := (true, "841b99eb35f4d9b96bc5da3065e810ba55733140ceb765b35b2ec204853de611"), looks := false }, kinds := [], alts := [], laidByText := true, laidKinds := [.data, .data], laidTests := true, laidLooks := .later }
def EccFlipsCardSaid : Prop := Claim7.holds Tryd.pinned (.plain (OpenSpec.ofChange eccFlipsSpec)) eccFlipsCard

/-- THE TIED CARD OF 'spacecraftlaw06.EccCorrects'. -/
def eccCorrectsCard : Claim7 := { stood := { row := eccCorrectsRow, standIns := [], harness := (true, "841b99eb35f4d9b96bc5da3065e810ba55733140ceb765b35b2ec204853de611"), looks := false }, kinds := [], alts := [], laidByText := true, laidKinds := [.data, .data], laidTests := true, laidLooks := .later }
def EccCorrectsCardSaid : Prop := Claim7.holds Tryd.pinned (.plain (OpenSpec.ofChange eccCorrectsSpec)) eccCorrectsCard

/-- THE TIED CARD OF 'spacecraftlaw06.EccDistance'. -/
def eccDistanceCard : Claim7 := { stood := { row := eccDistanceRow, standIns := [], harness := (true, "841b99eb35f4d9b96bc5da3065e810ba55733140ceb765b35b2ec204853de611"), looks := false }, kinds := [], alts := [], laidByText := true, laidKinds := [.data, .data], laidTests := true, laidLooks := .later }
def EccDistanceCardSaid : Prop := Claim7.holds Tryd.pinned (.plain (OpenSpec.ofChange eccDistanceSpec)) eccDistanceCard

/-- THE TIED CARD OF 'spacecraftlaw06.EccLinear'. -/
def eccLinearCard : Claim7 := { stood := { row := eccLinearRow, standIns := [], harness := (true, "841b99eb35f4d9b96bc5da3065e810ba55733140ceb765b35b2ec204853de611"), looks := false }, kinds := [], alts := [], laidByText := true, laidKinds := [.data, .data], laidTests := true, laidLooks := .later }
def EccLinearCardSaid : Prop := Claim7.holds Tryd.pinned (.plain (OpenSpec.ofChange eccLinearSpec)) eccLinearCard

/-- THE SECOND FORM's CARD OF 'spacecraftlaw06.EccCodes'. -/
def eccCodesUptoCard : Claim7 := { stood := { row := eccCodesUptoRow, standIns := [], harness := (true, "841b99eb35f4d9b96bc5da3065e810ba55733140ceb765b35b2ec204853de611"), looks := false }, kinds := [], alts := [], laidByText := true, laidKinds := [.data, .data], laidTests := true, laidLooks := .later }
def EccCodesUptoCardSaid : Prop := Claim7.holds Tryd.pinned (.plain (OpenSpec.upto eccCodesSpec)) eccCodesUptoCard

/-- THE SECOND FORM's CARD OF 'spacecraftlaw06.EccDecodes'. -/
def eccDecodesUptoCard : Claim7 := { stood := { row := eccDecodesUptoRow, standIns := [], harness := (true, "841b99eb35f4d9b96bc5da3065e810ba55733140ceb765b35b2ec204853de611"), looks := false }, kinds := [], alts := [], laidByText := true, laidKinds := [.data, .data], laidTests := true, laidLooks := .later }
def EccDecodesUptoCardSaid : Prop := Claim7.holds Tryd.pinned (.plain (OpenSpec.upto eccDecodesSpec)) eccDecodesUptoCard

/-- THE SECOND FORM's CARD OF 'spacecraftlaw06.EccFlips'. -/
def eccFlipsUptoCard : Claim7 := { stood := { row := eccFlipsUptoRow, standIns := [], harness := (true, "841b99eb35f4d9b96bc5da3065e810ba55733140ceb765b35b2ec204853de611"), looks := false }, kinds := [], alts := [], laidByText := true, laidKinds := [.data, .data], laidTests := true, laidLooks := .later }
def EccFlipsUptoCardSaid : Prop := Claim7.holds Tryd.pinned (.plain (OpenSpec.upto eccFlipsSpec)) eccFlipsUptoCard

/-- THE SECOND FORM's CARD OF 'spacecraftlaw06.EccCorrects'. -/
def eccCorrectsUptoCard : Claim7 := { stood := { row := eccCorrectsUptoRow, standIns := [], harness := (true, "841b99eb35f4d9b96bc5da3065e810ba55733140ceb765b35b2ec204853de611"), looks := false }, kinds := [], alts := [], laidByText := true, laidKinds := [.data, .data], laidTests := true, laidLooks := .later }
def EccCorrectsUptoCardSaid : Prop := Claim7.holds Tryd.pinned (.plain (OpenSpec.upto eccCorrectsSpec)) eccCorrectsUptoCard

/-- THE SECOND FORM's CARD OF 'spacecraftlaw06.EccDistance'. -/
def eccDistanceUptoCard : Claim7 := { stood := { row := eccDistanceUptoRow, standIns := [], harness := (true, "841b99eb35f4d9b96bc5da3065e810ba55733140ceb765b35b2ec204853de611"), looks := false }, kinds := [], alts := [], laidByText := true, laidKinds := [.data, .data], laidTests := true, laidLooks := .later }
def EccDistanceUptoCardSaid : Prop := Claim7.holds Tryd.pinned (.plain (OpenSpec.upto eccDistanceSpec)) eccDistanceUptoCard

/-- THE SECOND FORM's CARD OF 'spacecraftlaw06.EccLinear'. -/
def eccLinearUptoCard : Claim7 := { stood := { row := eccLinearUptoRow, standIns := [], harness := (true, "841b99eb35f4d9b96bc5da3065e810ba55733140ceb765b35b2ec204853de611"), looks := false }, kinds := [], alts := [], laidByText := true, laidKinds := [.data, .data], laidTests := true, laidLooks := .later }
def EccLinearUptoCardSaid : Prop := Claim7.holds Tryd.pinned (.plain (OpenSpec.upto eccLinearSpec)) eccLinearUptoCard
end Rows
end Go.Proofs.YtbadglgekialdaaDoor
