/-
  DERIVED. GIVEN WITH THE SEED: THE CARDS: each row of YtdgfidaopkcjoabDoorRows.lean that lists a variable, with what it lists TIED to the program's text (the seventh form; the later family's looks); each row that meets fmt, with fmt's text TOLD by the authors' own Lean function (tested against real Go, not proved from fmt's source: count such statements apart). THE CARD IS WHAT COUNTS. Prove the row's statement (the work); the ties are given (YtdgfidaopkcjoabDoorTie.lean); close each card by the builder's one call (the guide's Derived/Test/ToyasCard.lean, 'card_holds'). Laid BY PROGRAM, IN A SANDBOX (cutbox-door.mjs). By AI agents, Wed Nov 11 2026. No macro, syntax, notation, axiom, sorry.
-/
import Derived.Test.YtdgfidaopkcjoabDoorRows
import GoSem.ClaimSeven
namespace Go.Proofs.YtdgfidaopkcjoabDoor
namespace Rows

/-- THE TIED CARD OF 'delverlaw03.ShowBent'. -/
def showBentCard : Claim7 := { stood := { row := showBentRow, standIns := [], harness := (true, "9b35bd736783664648df567ec2d82247698eb2d75d4727b508d6200fd0cb7b68"), looks := false }, kinds := [], alts := [], laidByText := true, laidKinds := [.data, .data, .data, .data, .data], laidTests := true, laidLooks := .later }
def ShowBentCardSaid : Prop := Claim7.holds Tryd.pinned (.plain (OpenSpec.ofChange showBentSpec)) showBentCard

/-- THE TIED CARD OF 'delverlaw03.ShowLines'. -/
def showLinesCard : Claim7 := { stood := { row := showLinesRow, standIns := [], harness := (true, "9b35bd736783664648df567ec2d82247698eb2d75d4727b508d6200fd0cb7b68"), looks := false }, kinds := [], alts := [], laidByText := true, laidKinds := [.data, .data, .data, .data, .data], laidTests := true, laidLooks := .later }
def ShowLinesCardSaid : Prop := Claim7.holds Tryd.pinned (.plain (OpenSpec.ofChange showLinesSpec)) showLinesCard

/-- THE SECOND FORM's CARD OF 'delverlaw03.ShowBent'. -/
def showBentUptoCard : Claim7 := { stood := { row := showBentUptoRow, standIns := [], harness := (true, "9b35bd736783664648df567ec2d82247698eb2d75d4727b508d6200fd0cb7b68"), looks := false }, kinds := [], alts := [], laidByText := true, laidKinds := [.data, .data, .data, .data, .data], laidTests := true, laidLooks := .later }
def ShowBentUptoCardSaid : Prop := Claim7.holds Tryd.pinned (.plain (OpenSpec.upto showBentSpec)) showBentUptoCard

/-- THE SECOND FORM's CARD OF 'delverlaw03.ShowLines'. -/
def showLinesUptoCard : Claim7 := { stood := { row := showLinesUptoRow, standIns := [], harness := (true, "9b35bd736783664648df567ec2d82247698eb2d75d4727b508d6200fd0cb7b68"), looks := false }, kinds := [], alts := [], laidByText := true, laidKinds := [.data, .data, .data, .data, .data], laidTests := true, laidLooks := .later }
def ShowLinesUptoCardSaid : Prop := Claim7.holds Tryd.pinned (.plain (OpenSpec.upto showLinesSpec)) showLinesUptoCard
end Rows
end Go.Proofs.YtdgfidaopkcjoabDoor
