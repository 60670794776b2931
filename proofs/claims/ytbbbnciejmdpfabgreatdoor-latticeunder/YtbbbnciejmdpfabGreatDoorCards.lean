/-
  DERIVED. GIVEN WITH THE SEED: THE CARDS: each row of YtbbbnciejmdpfabGreatDoorRows.lean that lists a variable, with what it lists TIED to the program's text (the seventh form; the later family's looks); each row that meets fmt, with fmt's text TOLD by the authors' own Lean function (tested against real Go, not proved from fmt's source: count such statements apart). THE CARD IS WHAT COUNTS. Prove the row's statement (the work); the ties are given (YtbbbnciejmdpfabGreatDoorTie.lean); close each card by the builder's one call (the guide's Derived/Test/ToyasCard.lean, 'card_holds'). Laid BY PROGRAM, IN A SANDBOX (cutbox-door.mjs). By AI agents, Wed Nov 11 2026. No macro, syntax, notation, axiom, sorry.
-/
import Derived.Test.YtbbbnciejmdpfabGreatDoorRows
import GoSem.ClaimSeven
namespace Go.Proofs.YtbbbnciejmdpfabGreatDoor
namespace Rows

/-- THE TIED CARD OF 'delverlaw06.LatticeUnder'. -/
def latticeUnderCard : Claim7 := { stood := { row := latticeUnderRow, standIns := [], harness := (true, "e547727e715e9b2ea622aa001bdaa197636a94eb9d9b38c2743c4aa5c1255f94"), looks := false }, kinds := [], alts := [], laidByText := true, laidKinds := [.data, .data], laidTests := true, laidLooks := .later }
def LatticeUnderCardSaid : Prop := Claim7.holds Tryz.pinned (.plain (OpenSpec.ofChange latticeUnderSpec)) latticeUnderCard

/-- THE SECOND FORM's CARD OF 'delverlaw06.LatticeUnder'. -/
def latticeUnderUptoCard : Claim7 := { stood := { row := latticeUnderUptoRow, standIns := [], harness := (true, "e547727e715e9b2ea622aa001bdaa197636a94eb9d9b38c2743c4aa5c1255f94"), looks := false }, kinds := [], alts := [], laidByText := true, laidKinds := [.data, .data], laidTests := true, laidLooks := .later }
def LatticeUnderUptoCardSaid : Prop := Claim7.holds Tryz.pinned (.plain (OpenSpec.upto latticeUnderSpec)) latticeUnderUptoCard
end Rows
end Go.Proofs.YtbbbnciejmdpfabGreatDoor
