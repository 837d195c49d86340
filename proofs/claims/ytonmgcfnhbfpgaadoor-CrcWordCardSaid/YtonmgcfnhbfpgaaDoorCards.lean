/-
  DERIVED. GIVEN WITH THE SEED: THE CARDS: each row of YtonmgcfnhbfpgaaDoorRows.lean that lists a variable, with what it lists TIED to the program's text (the seventh form; the later family's looks); each row that meets fmt, with fmt's text TOLD by the authors' own Lean function (tested against real Go, not proved from fmt's source: count such statements apart). THE CARD IS WHAT COUNTS. Prove the row's statement (the work); the ties are given (YtonmgcfnhbfpgaaDoorTie.lean); close each card by the builder's one call (the guide's Derived/Test/ToyasCard.lean, 'card_holds'). Laid BY PROGRAM, IN A SANDBOX (cutbox-door.mjs). By AI agents, Wed Nov 11 2026. No macro, syntax, notation, axiom, sorry.
-/
import Derived.Test.YtonmgcfnhbfpgaaDoorRows
import GoSem.ClaimSeven
namespace Go.Proofs.YtonmgcfnhbfpgaaDoor
namespace Rows

/-- THE TIED CARD OF 'quitrentlaw02.CrcChecks'. -/
def crcChecksCard : Claim7 := { stood := { row := crcChecksRow, standIns := [], harness := (true, "1b7a321fec96153fd3fd250cf33b3487fce1c13907ce5e719b73a34e0ddc32eb"), looks := false }, kinds := [], alts := [], laidByText := true, laidKinds := [.data], laidTests := true, laidLooks := .later }
def CrcChecksCardSaid : Prop := Claim7.holds Tryd.pinned (.plain (OpenSpec.ofChange crcChecksSpec)) crcChecksCard

/-- THE TIED CARD OF 'quitrentlaw02.CrcPlace'. -/
def crcPlaceCard : Claim7 := { stood := { row := crcPlaceRow, standIns := [], harness := (true, "1b7a321fec96153fd3fd250cf33b3487fce1c13907ce5e719b73a34e0ddc32eb"), looks := false }, kinds := [], alts := [], laidByText := true, laidKinds := [.data], laidTests := true, laidLooks := .later }
def CrcPlaceCardSaid : Prop := Claim7.holds Tryd.pinned (.plain (OpenSpec.ofChange crcPlaceSpec)) crcPlaceCard

/-- THE TIED CARD OF 'quitrentlaw02.CrcWord'. -/
def crcWordCard : Claim7 := { stood := { row := crcWordRow, standIns := [], harness := (true, "1b7a321fec96153fd3fd250cf33b3487fce1c13907ce5e719b73a34e0ddc32eb"), looks := false }, kinds := [], alts := [], laidByText := true, laidKinds := [.data], laidTests := true, laidLooks := .later }
def CrcWordCardSaid : Prop := Claim7.holds Tryd.pinned (.plain (OpenSpec.ofChange crcWordSpec)) crcWordCard

/-- THE TIED CARD OF 'quitrentlaw02.CrcOne'. -/
def crcOneCard : Claim7 := { stood := { row := crcOneRow, standIns := [], harness := (true, "1b7a321fec96153fd3fd250cf33b3487fce1c13907ce5e719b73a34e0ddc32eb"), looks := false }, kinds := [], alts := [], laidByText := true, laidKinds := [.data], laidTests := true, laidLooks := .later }
def CrcOneCardSaid : Prop := Claim7.holds Tryd.pinned (.plain (OpenSpec.ofChange crcOneSpec)) crcOneCard

/-- THE TIED CARD OF 'quitrentlaw02.CrcKnown'. -/
def crcKnownCard : Claim7 := { stood := { row := crcKnownRow, standIns := [], harness := (true, "1b7a321fec96153fd3fd250cf33b3487fce1c13907ce5e719b73a34e0ddc32eb"), looks := false }, kinds := [], alts := [], laidByText := true, laidKinds := [.data], laidTests := true, laidLooks := .later }
def CrcKnownCardSaid : Prop := Claim7.holds Tryd.pinned (.plain (OpenSpec.ofChange crcKnownSpec)) crcKnownCard

/-- THE SECOND FORM's CARD OF 'quitrentlaw02.CrcChecks'. -/
def crcChecksUptoCard : Claim7 := { stood := { row := crcChecksUptoRow, standIns := [], harness := (true, "1b7a321fec96153fd3fd250cf33b3487fce1c13907ce5e719b73a34e0ddc32eb"), looks := false }, kinds := [], alts := [], laidByText := true, laidKinds := [.data], laidTests := true, laidLooks := .later }
def CrcChecksUptoCardSaid : Prop := Claim7.holds Tryd.pinned (.plain (OpenSpec.upto crcChecksSpec)) crcChecksUptoCard

/-- THE SECOND FORM's CARD OF 'quitrentlaw02.CrcPlace'. -/
def crcPlaceUptoCard : Claim7 := { stood := { row := crcPlaceUptoRow, standIns := [], harness := (true, "1b7a321fec96153fd3fd250cf33b3487fce1c13907ce5e719b73a34e0ddc32eb"), looks := false }, kinds := [], alts := [], laidByText := true, laidKinds := [.data], laidTests := true, laidLooks := .later }
def CrcPlaceUptoCardSaid : Prop := Claim7.holds Tryd.pinned (.plain (OpenSpec.upto crcPlaceSpec)) crcPlaceUptoCard

/-- THE SECOND FORM's CARD OF 'quitrentlaw02.CrcWord'. -/
def crcWordUptoCard : Claim7 := { stood := { row := crcWordUptoRow, standIns := [], harness := (true, "1b7a321fec96153fd3fd250cf33b3487fce1c13907ce5e719b73a34e0ddc32eb"), looks := false }, kinds := [], alts := [], laidByText := true, laidKinds := [.data], laidTests := true, laidLooks := .later }
def CrcWordUptoCardSaid : Prop := Claim7.holds Tryd.pinned (.plain (OpenSpec.upto crcWordSpec)) crcWordUptoCard

/-- THE SECOND FORM's CARD OF 'quitrentlaw02.CrcOne'. -/
def crcOneUptoCard : Claim7 := { stood := { row := crcOneUptoRow, standIns := [], harness := (true, "1b7a321fec96153fd3fd250cf33b3487fce1c13907ce5e719b73a34e0ddc32eb"), looks := false }, kinds := [], alts := [], laidByText := true, laidKinds := [.data], laidTests := true, laidLooks := .later }
def CrcOneUptoCardSaid : Prop := Claim7.holds Tryd.pinned (.plain (OpenSpec.upto crcOneSpec)) crcOneUptoCard

/-- THE SECOND FORM's CARD OF 'quitrentlaw02.CrcKnown'. -/
def crcKnownUptoCard : Claim7 := { stood := { row := crcKnownUptoRow, standIns := [], harness := (true, "1b7a321fec96153fd3fd250cf33b3487fce1c13907ce5e719b73a34e0ddc32eb"), looks := false }, kinds := [], alts := [], laidByText := true, laidKinds := [.data], laidTests := true, laidLooks := .later }
def CrcKnownUptoCardSaid : Prop := Claim7.holds Tryd.pinned (.plain (OpenSpec.upto crcKnownSpec)) crcKnownUptoCard
end Rows
end Go.Proofs.YtonmgcfnhbfpgaaDoor
