/-
  DERIVED. GIVEN WITH THE SEED: THE CARDS: each row of YtobdjakflknlcaaDoorRows.lean that lists a variable, with what it lists TIED to the program's text (the seventh form; the later family's looks); each row that meets fmt, with fmt's text TOLD by the authors' own Lean function (tested against real Go, not proved from fmt's source: count such statements apart). THE CARD IS WHAT COUNTS. Prove the row's statement (the work); the ties are given (YtobdjakflknlcaaDoorTie.lean); close each card by the builder's one call (the guide's Derived/Test/ToyasCard.lean, 'card_holds'). Laid BY PROGRAM, IN A SANDBOX (cutbox-door.mjs). By AI agents, Wed Nov 11 2026. No macro, syntax, notation, axiom, sorry.
-/
import Derived.Test.YtobdjakflknlcaaDoorRows
import GoSem.ClaimSeven
namespace Go.Proofs.YtobdjakflknlcaaDoor
namespace Rows

/-- THE TIED CARD OF 'railheadlaw04.KeccakTells'. -/
def keccakTellsCard : Claim7 := { stood := { row := keccakTellsRow, standIns := [], harness := (true, "b5c6baf2560e2121ea0e75e440099c061643b2b7e6bd2be11859f4e3eee9cced"), looks := false }, kinds := [], alts := [], laidByText := true, laidKinds := [.data], laidTests := true, laidLooks := .later }
def KeccakTellsCardSaid : Prop := Claim7.holds Tryd.pinned (.plain (OpenSpec.ofChange keccakTellsSpec)) keccakTellsCard

/-- THE SECOND FORM's CARD OF 'railheadlaw04.KeccakTells'. -/
def keccakTellsUptoCard : Claim7 := { stood := { row := keccakTellsUptoRow, standIns := [], harness := (true, "b5c6baf2560e2121ea0e75e440099c061643b2b7e6bd2be11859f4e3eee9cced"), looks := false }, kinds := [], alts := [], laidByText := true, laidKinds := [.data], laidTests := true, laidLooks := .later }
def KeccakTellsUptoCardSaid : Prop := Claim7.holds Tryd.pinned (.plain (OpenSpec.upto keccakTellsSpec)) keccakTellsUptoCard
end Rows
end Go.Proofs.YtobdjakflknlcaaDoor
