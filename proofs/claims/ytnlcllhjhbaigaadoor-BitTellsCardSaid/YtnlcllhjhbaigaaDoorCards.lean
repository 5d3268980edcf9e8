/-
  DERIVED. GIVEN WITH THE SEED: THE CARDS: each row of YtnlcllhjhbaigaaDoorRows.lean that lists a variable, with what it lists TIED to the program's text (the seventh form; the later family's looks); each row that meets fmt, with fmt's text TOLD by the authors' own Lean function (tested against real Go, not proved from fmt's source: count such statements apart). THE CARD IS WHAT COUNTS. Prove the row's statement (the work); the ties are given (YtnlcllhjhbaigaaDoorTie.lean); close each card by the builder's one call (the guide's Derived/Test/ToyasCard.lean, 'card_holds'). Laid BY PROGRAM, IN A SANDBOX (cutbox-door.mjs). By AI agents, Wed Nov 11 2026. No macro, syntax, notation, axiom, sorry.
-/
import Derived.Test.YtnlcllhjhbaigaaDoorRows
import GoSem.ClaimSeven
namespace Go.Proofs.YtnlcllhjhbaigaaDoor
namespace Rows

/-- THE TIED CARD OF 'railheadlaw03.BitTells'. -/
def bitTellsCard : Claim7 := { stood := { row := bitTellsRow, standIns := [], harness := (true, "3f8dbdd7568b17e095756577c5b8f0b4a34eb7c3730a3648ec6b38418aceca2e"), looks := false }, kinds := [], alts := [], laidByText := true, laidKinds := [.data], laidTests := true, laidLooks := .later }
def BitTellsCardSaid : Prop := Claim7.holds Tryd.pinned (.plain (OpenSpec.ofChange bitTellsSpec)) bitTellsCard

/-- THE TIED CARD OF 'railheadlaw03.BitShifts'. -/
def bitShiftsCard : Claim7 := { stood := { row := bitShiftsRow, standIns := [], harness := (true, "3f8dbdd7568b17e095756577c5b8f0b4a34eb7c3730a3648ec6b38418aceca2e"), looks := false }, kinds := [], alts := [], laidByText := true, laidKinds := [.data], laidTests := true, laidLooks := .later }
def BitShiftsCardSaid : Prop := Claim7.holds Tryd.pinned (.plain (OpenSpec.ofChange bitShiftsSpec)) bitShiftsCard

/-- THE TIED CARD OF 'railheadlaw03.BitBytes'. -/
def bitBytesCard : Claim7 := { stood := { row := bitBytesRow, standIns := [], harness := (true, "3f8dbdd7568b17e095756577c5b8f0b4a34eb7c3730a3648ec6b38418aceca2e"), looks := false }, kinds := [], alts := [], laidByText := true, laidKinds := [.data], laidTests := true, laidLooks := .later }
def BitBytesCardSaid : Prop := Claim7.holds Tryd.pinned (.plain (OpenSpec.ofChange bitBytesSpec)) bitBytesCard

/-- THE TIED CARD OF 'railheadlaw03.BitParts'. -/
def bitPartsCard : Claim7 := { stood := { row := bitPartsRow, standIns := [], harness := (true, "3f8dbdd7568b17e095756577c5b8f0b4a34eb7c3730a3648ec6b38418aceca2e"), looks := false }, kinds := [], alts := [], laidByText := true, laidKinds := [.data], laidTests := true, laidLooks := .later }
def BitPartsCardSaid : Prop := Claim7.holds Tryd.pinned (.plain (OpenSpec.ofChange bitPartsSpec)) bitPartsCard

/-- THE SECOND FORM's CARD OF 'railheadlaw03.BitTells'. -/
def bitTellsUptoCard : Claim7 := { stood := { row := bitTellsUptoRow, standIns := [], harness := (true, "3f8dbdd7568b17e095756577c5b8f0b4a34eb7c3730a3648ec6b38418aceca2e"), looks := false }, kinds := [], alts := [], laidByText := true, laidKinds := [.data], laidTests := true, laidLooks := .later }
def BitTellsUptoCardSaid : Prop := Claim7.holds Tryd.pinned (.plain (OpenSpec.upto bitTellsSpec)) bitTellsUptoCard

/-- THE SECOND FORM's CARD OF 'railheadlaw03.BitShifts'. -/
def bitShiftsUptoCard : Claim7 := { stood := { row := bitShiftsUptoRow, standIns := [], harness := (true, "3f8dbdd7568b17e095756577c5b8f0b4a34eb7c3730a3648ec6b38418aceca2e"), looks := false }, kinds := [], alts := [], laidByText := true, laidKinds := [.data], laidTests := true, laidLooks := .later }
def BitShiftsUptoCardSaid : Prop := Claim7.holds Tryd.pinned (.plain (OpenSpec.upto bitShiftsSpec)) bitShiftsUptoCard

/-- THE SECOND FORM's CARD OF 'railheadlaw03.BitBytes'. -/
def bitBytesUptoCard : Claim7 := { stood := { row := bitBytesUptoRow, standIns := [], harness := (true, "3f8dbdd7568b17e095756577c5b8f0b4a34eb7c3730a3648ec6b38418aceca2e"), looks := false }, kinds := [], alts := [], laidByText := true, laidKinds := [.data], laidTests := true, laidLooks := .later }
def BitBytesUptoCardSaid : Prop := Claim7.holds Tryd.pinned (.plain (OpenSpec.upto bitBytesSpec)) bitBytesUptoCard

/-- THE SECOND FORM's CARD OF 'railheadlaw03.BitParts'. -/
def bitPartsUptoCard : Claim7 := { stood := { row := bitPartsUptoRow, standIns := [], harness := (true, "3f8dbdd7568b17e095756577c5b8f0b4a34eb7c3730a3648ec6b38418aceca2e"), looks := false }, kinds := [], alts := [], laidByText := true, laidKinds := [.data], laidTests := true, laidLooks := .later }
def BitPartsUptoCardSaid : Prop := Claim7.holds Tryd.pinned (.plain (OpenSpec.upto bitPartsSpec)) bitPartsUptoCard
end Rows
end Go.Proofs.YtnlcllhjhbaigaaDoor
