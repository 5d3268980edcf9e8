/-
  DERIVED. GIVEN WITH THE SEED: THE CARDS: each row of YtkdbokbnongknaaGreatDoorRows.lean that lists a variable, with what it lists TIED to the program's text (the seventh form; the later family's looks); each row that meets fmt, with fmt's text TOLD by the authors' own Lean function (tested against real Go, not proved from fmt's source: count such statements apart). THE CARD IS WHAT COUNTS. Prove the row's statement (the work); the ties are given (YtkdbokbnongknaaGreatDoorTie.lean); close each card by the builder's one call (the guide's Derived/Test/ToyasCard.lean, 'card_holds'). Laid BY PROGRAM, IN A SANDBOX (cutbox-door.mjs). By AI agents, Wed Nov 11 2026. No macro, syntax, notation, axiom, sorry.
-/
import Derived.Test.YtkdbokbnongknaaGreatDoorRows
import GoSem.ClaimSeven
namespace Go.Proofs.YtkdbokbnongknaaGreatDoor
namespace Rows

/-- THE TIED CARD OF 'railheadlaw06.RlpTells'. -/
def rlpTellsCard : Claim7 := { stood := { row := rlpTellsRow, standIns := [], harness := (true, "f69f335ad07d8267ea04bb091da61b1b98a674039ce6d0a948967c1353c6adaa"), looks := true }, kinds := [], alts := [], laidByText := true, laidKinds := [.data, .handle, .pinned], laidTests := true, laidLooks := .later }
def RlpTellsCardSaid : Prop := Claim7.holds Tryz.pinned (.plain (OpenSpec.ofChange rlpTellsSpec)) rlpTellsCard

/-- THE TIED CARD OF 'railheadlaw06.RlpOne'. -/
def rlpOneCard : Claim7 := { stood := { row := rlpOneRow, standIns := [], harness := (true, "f69f335ad07d8267ea04bb091da61b1b98a674039ce6d0a948967c1353c6adaa"), looks := true }, kinds := [], alts := [], laidByText := true, laidKinds := [.data, .handle, .pinned], laidTests := true, laidLooks := .later }
def RlpOneCardSaid : Prop := Claim7.holds Tryz.pinned (.plain (OpenSpec.ofChange rlpOneSpec)) rlpOneCard

/-- THE TIED CARD OF 'railheadlaw06.RlpParts'. -/
def rlpPartsCard : Claim7 := { stood := { row := rlpPartsRow, standIns := [], harness := (true, "f69f335ad07d8267ea04bb091da61b1b98a674039ce6d0a948967c1353c6adaa"), looks := true }, kinds := [], alts := [], laidByText := true, laidKinds := [.data, .handle, .pinned], laidTests := true, laidLooks := .later }
def RlpPartsCardSaid : Prop := Claim7.holds Tryz.pinned (.plain (OpenSpec.ofChange rlpPartsSpec)) rlpPartsCard

/-- THE TIED CARD OF 'railheadlaw06.RlpCuts'. -/
def rlpCutsCard : Claim7 := { stood := { row := rlpCutsRow, standIns := [], harness := (true, "f69f335ad07d8267ea04bb091da61b1b98a674039ce6d0a948967c1353c6adaa"), looks := true }, kinds := [], alts := [], laidByText := true, laidKinds := [.data, .handle, .pinned], laidTests := true, laidLooks := .later }
def RlpCutsCardSaid : Prop := Claim7.holds Tryz.pinned (.plain (OpenSpec.ofChange rlpCutsSpec)) rlpCutsCard

/-- THE SECOND FORM's CARD OF 'railheadlaw06.RlpTells'. -/
def rlpTellsUptoCard : Claim7 := { stood := { row := rlpTellsUptoRow, standIns := [], harness := (true, "f69f335ad07d8267ea04bb091da61b1b98a674039ce6d0a948967c1353c6adaa"), looks := true }, kinds := [], alts := [], laidByText := true, laidKinds := [.data, .handle, .pinned], laidTests := true, laidLooks := .later }
def RlpTellsUptoCardSaid : Prop := Claim7.holds Tryz.pinned (.plain (OpenSpec.upto rlpTellsSpec)) rlpTellsUptoCard

/-- THE SECOND FORM's CARD OF 'railheadlaw06.RlpOne'. -/
def rlpOneUptoCard : Claim7 := { stood := { row := rlpOneUptoRow, standIns := [], harness := (true, "f69f335ad07d8267ea04bb091da61b1b98a674039ce6d0a948967c1353c6adaa"), looks := true }, kinds := [], alts := [], laidByText := true, laidKinds := [.data, .handle, .pinned], laidTests := true, laidLooks := .later }
def RlpOneUptoCardSaid : Prop := Claim7.holds Tryz.pinned (.plain (OpenSpec.upto rlpOneSpec)) rlpOneUptoCard

/-- THE SECOND FORM's CARD OF 'railheadlaw06.RlpParts'. -/
def rlpPartsUptoCard : Claim7 := { stood := { row := rlpPartsUptoRow, standIns := [], harness := (true, "f69f335ad07d8267ea04bb091da61b1b98a674039ce6d0a948967c1353c6adaa"), looks := true }, kinds := [], alts := [], laidByText := true, laidKinds := [.data, .handle, .pinned], laidTests := true, laidLooks := .later }
def RlpPartsUptoCardSaid : Prop := Claim7.holds Tryz.pinned (.plain (OpenSpec.upto rlpPartsSpec)) rlpPartsUptoCard

/-- THE SECOND FORM's CARD OF 'railheadlaw06.RlpCuts'. -/
def rlpCutsUptoCard : Claim7 := { stood := { row := rlpCutsUptoRow, standIns := [], harness := (true, "f69f335ad07d8267ea04bb091da61b1b98a674039ce6d0a948967c1353c6adaa"), looks := true }, kinds := [], alts := [], laidByText := true, laidKinds := [.data, .handle, .pinned], laidTests := true, laidLooks := .later }
def RlpCutsUptoCardSaid : Prop := Claim7.holds Tryz.pinned (.plain (OpenSpec.upto rlpCutsSpec)) rlpCutsUptoCard
end Rows
end Go.Proofs.YtkdbokbnongknaaGreatDoor
