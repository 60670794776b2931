/-
  DERIVED. GIVEN WITH THE SEED: THE CARDS: each row of YtildjihgklgibabDoorRows.lean that lists a variable, with what it lists TIED to the program's text (the seventh form; the later family's looks); each row that meets fmt, with fmt's text TOLD by the authors' own Lean function (tested against real Go, not proved from fmt's source: count such statements apart). THE CARD IS WHAT COUNTS. Prove the row's statement (the work); the ties are given (YtildjihgklgibabDoorTie.lean); close each card by the builder's one call (the guide's Derived/Test/ToyasCard.lean, 'card_holds'). Laid BY PROGRAM, IN A SANDBOX (cutbox-door.mjs). By AI agents, Wed Nov 11 2026. No macro, syntax, notation, axiom, sorry.
-/
import Derived.Test.YtildjihgklgibabDoorRows
import GoSem.ClaimSeven
namespace Go.Proofs.YtildjihgklgibabDoor
namespace Rows

/-- THE TIED CARD OF 'delverlaw04.HierMore'. -/
def hierMoreCard : Claim7 := { stood := { row := hierMoreRow, standIns := [], harness := (true, "2cfe251525f248268a68c46c18ea3ee3ccde8dfa534b99be683b571eea4fd7e7"), looks := false }, kinds := [], alts := [], laidByText := true, laidKinds := [.data, .data], laidTests := true, laidLooks := .later }
def HierMoreCardSaid : Prop := Claim7.holds Tryd.pinned (.plain (OpenSpec.ofChange hierMoreSpec)) hierMoreCard

/-- THE SECOND FORM's CARD OF 'delverlaw04.HierMore'. -/
def hierMoreUptoCard : Claim7 := { stood := { row := hierMoreUptoRow, standIns := [], harness := (true, "2cfe251525f248268a68c46c18ea3ee3ccde8dfa534b99be683b571eea4fd7e7"), looks := false }, kinds := [], alts := [], laidByText := true, laidKinds := [.data, .data], laidTests := true, laidLooks := .later }
def HierMoreUptoCardSaid : Prop := Claim7.holds Tryd.pinned (.plain (OpenSpec.upto hierMoreSpec)) hierMoreUptoCard
end Rows
end Go.Proofs.YtildjihgklgibabDoor
