/-
  DERIVED. GIVEN WITH THE SEED: THE CARDS: each row of YtnpebfolmdbipaaGreatDoorRows.lean that lists a variable, with what it lists TIED to the program's text (the seventh form; the later family's looks); each row that meets fmt, with fmt's text TOLD by the authors' own Lean function (tested against real Go, not proved from fmt's source: count such statements apart). THE CARD IS WHAT COUNTS. Prove the row's statement (the work); the ties are given (YtnpebfolmdbipaaGreatDoorTie.lean); close each card by the builder's one call (the guide's Derived/Test/ToyasCard.lean, 'card_holds'). Laid BY PROGRAM, IN A SANDBOX (cutbox-door.mjs). By AI agents, Wed Nov 11 2026. No macro, syntax, notation, axiom, sorry.
-/
import Derived.Test.YtnpebfolmdbipaaGreatDoorRows
import GoSem.ClaimSeven
namespace Go.Proofs.YtnpebfolmdbipaaGreatDoor
namespace Rows

/-- THE TIED CARD OF 'quitrentlaw05.StoreActs'. -/
def storeActsCard : Claim7 := { stood := { row := storeActsRow, standIns := [], harness := (true, "d7249e91b4523771d43f2f624f1d25de408934580dcd391045042d57adc5bdff"), looks := false }, kinds := [], alts := [], laidByText := true, laidKinds := [.data], laidTests := true, laidLooks := .later }
def StoreActsCardSaid : Prop := Claim7.holds Tryz.pinned (.plain (OpenSpec.ofChange storeActsSpec)) storeActsCard

/-- THE TIED CARD OF 'quitrentlaw05.StoreCrash'. -/
def storeCrashCard : Claim7 := { stood := { row := storeCrashRow, standIns := [], harness := (true, "d7249e91b4523771d43f2f624f1d25de408934580dcd391045042d57adc5bdff"), looks := false }, kinds := [], alts := [], laidByText := true, laidKinds := [.data], laidTests := true, laidLooks := .later }
def StoreCrashCardSaid : Prop := Claim7.holds Tryz.pinned (.plain (OpenSpec.ofChange storeCrashSpec)) storeCrashCard

/-- THE TIED CARD OF 'quitrentlaw05.StoreLoses'. -/
def storeLosesCard : Claim7 := { stood := { row := storeLosesRow, standIns := [], harness := (true, "d7249e91b4523771d43f2f624f1d25de408934580dcd391045042d57adc5bdff"), looks := false }, kinds := [], alts := [], laidByText := true, laidKinds := [.data], laidTests := true, laidLooks := .later }
def StoreLosesCardSaid : Prop := Claim7.holds Tryz.pinned (.plain (OpenSpec.ofChange storeLosesSpec)) storeLosesCard

/-- THE TIED CARD OF 'quitrentlaw05.StoreHeads'. -/
def storeHeadsCard : Claim7 := { stood := { row := storeHeadsRow, standIns := [], harness := (true, "d7249e91b4523771d43f2f624f1d25de408934580dcd391045042d57adc5bdff"), looks := false }, kinds := [], alts := [], laidByText := true, laidKinds := [.data], laidTests := true, laidLooks := .later }
def StoreHeadsCardSaid : Prop := Claim7.holds Tryz.pinned (.plain (OpenSpec.ofChange storeHeadsSpec)) storeHeadsCard

/-- THE TIED CARD OF 'quitrentlaw05.StoreNil'. -/
def storeNilCard : Claim7 := { stood := { row := storeNilRow, standIns := [], harness := (true, "d7249e91b4523771d43f2f624f1d25de408934580dcd391045042d57adc5bdff"), looks := false }, kinds := [], alts := [], laidByText := true, laidKinds := [.data], laidTests := true, laidLooks := .later }
def StoreNilCardSaid : Prop := Claim7.holds Tryz.pinned (.plain (OpenSpec.ofChange storeNilSpec)) storeNilCard

/-- THE TIED CARD OF 'quitrentlaw05.StoreKnown'. -/
def storeKnownCard : Claim7 := { stood := { row := storeKnownRow, standIns := [], harness := (true, "d7249e91b4523771d43f2f624f1d25de408934580dcd391045042d57adc5bdff"), looks := false }, kinds := [], alts := [], laidByText := true, laidKinds := [.data], laidTests := true, laidLooks := .later }
def StoreKnownCardSaid : Prop := Claim7.holds Tryz.pinned (.plain (OpenSpec.ofChange storeKnownSpec)) storeKnownCard

/-- THE SECOND FORM's CARD OF 'quitrentlaw05.StoreActs'. -/
def storeActsUptoCard : Claim7 := { stood := { row := storeActsUptoRow, standIns := [], harness := (true, "d7249e91b4523771d43f2f624f1d25de408934580dcd391045042d57adc5bdff"), looks := false }, kinds := [], alts := [], laidByText := true, laidKinds := [.data], laidTests := true, laidLooks := .later }
def StoreActsUptoCardSaid : Prop := Claim7.holds Tryz.pinned (.plain (OpenSpec.upto storeActsSpec)) storeActsUptoCard

/-- THE SECOND FORM's CARD OF 'quitrentlaw05.StoreCrash'. -/
def storeCrashUptoCard : Claim7 := { stood := { row := storeCrashUptoRow, standIns := [], harness := (true, "d7249e91b4523771d43f2f624f1d25de408934580dcd391045042d57adc5bdff"), looks := false }, kinds := [], alts := [], laidByText := true, laidKinds := [.data], laidTests := true, laidLooks := .later }
def StoreCrashUptoCardSaid : Prop := Claim7.holds Tryz.pinned (.plain (OpenSpec.upto storeCrashSpec)) storeCrashUptoCard

/-- THE SECOND FORM's CARD OF 'quitrentlaw05.StoreLoses'. -/
def storeLosesUptoCard : Claim7 := { stood := { row := storeLosesUptoRow, standIns := [], harness := (true, "d7249e91b4523771d43f2f624f1d25de408934580dcd391045042d57adc5bdff"), looks := false }, kinds := [], alts := [], laidByText := true, laidKinds := [.data], laidTests := true, laidLooks := .later }
def StoreLosesUptoCardSaid : Prop := Claim7.holds Tryz.pinned (.plain (OpenSpec.upto storeLosesSpec)) storeLosesUptoCard

/-- THE SECOND FORM's CARD OF 'quitrentlaw05.StoreHeads'. -/
def storeHeadsUptoCard : Claim7 := { stood := { row := storeHeadsUptoRow, standIns := [], harness := (true, "d7249e91b4523771d43f2f624f1d25de408934580dcd391045042d57adc5bdff"), looks := false }, kinds := [], alts := [], laidByText := true, laidKinds := [.data], laidTests := true, laidLooks := .later }
def StoreHeadsUptoCardSaid : Prop := Claim7.holds Tryz.pinned (.plain (OpenSpec.upto storeHeadsSpec)) storeHeadsUptoCard

/-- THE SECOND FORM's CARD OF 'quitrentlaw05.StoreNil'. -/
def storeNilUptoCard : Claim7 := { stood := { row := storeNilUptoRow, standIns := [], harness := (true, "d7249e91b4523771d43f2f624f1d25de408934580dcd391045042d57adc5bdff"), looks := false }, kinds := [], alts := [], laidByText := true, laidKinds := [.data], laidTests := true, laidLooks := .later }
def StoreNilUptoCardSaid : Prop := Claim7.holds Tryz.pinned (.plain (OpenSpec.upto storeNilSpec)) storeNilUptoCard

/-- THE SECOND FORM's CARD OF 'quitrentlaw05.StoreKnown'. -/
def storeKnownUptoCard : Claim7 := { stood := { row := storeKnownUptoRow, standIns := [], harness := (true, "d7249e91b4523771d43f2f624f1d25de408934580dcd391045042d57adc5bdff"), looks := false }, kinds := [], alts := [], laidByText := true, laidKinds := [.data], laidTests := true, laidLooks := .later }
def StoreKnownUptoCardSaid : Prop := Claim7.holds Tryz.pinned (.plain (OpenSpec.upto storeKnownSpec)) storeKnownUptoCard
end Rows
end Go.Proofs.YtnpebfolmdbipaaGreatDoor
