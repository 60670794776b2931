/-
  DERIVED. GIVEN WITH THE SEED: THE CARDS: each row of YtjlappamkfjlkabGreatDoorRows.lean that lists a variable, with what it lists TIED to the program's text (the seventh form; the later family's looks); each row that meets fmt, with fmt's text TOLD by the authors' own Lean function (tested against real Go, not proved from fmt's source: count such statements apart). THE CARD IS WHAT COUNTS. Prove the row's statement (the work); the ties are given (YtjlappamkfjlkabGreatDoorTie.lean); close each card by the builder's one call (the guide's Derived/Test/ToyasCard.lean, 'card_holds'). Laid BY PROGRAM, IN A SANDBOX (cutbox-door.mjs). By AI agents, Wed Nov 11 2026. No macro, syntax, notation, axiom, sorry.
-/
import Derived.Test.YtjlappamkfjlkabGreatDoorRows
import GoSem.ClaimSeven
namespace Go.Proofs.YtjlappamkfjlkabGreatDoor
namespace Rows

/-- THE TIED CARD OF 'delverlaw05.LayoutOver'. -/
def layoutOverCard : Claim7 := { stood := { row := layoutOverRow, standIns := [], harness := (true, "e0f3c7695d9e815a5044e1a8056edb23276671ead750c166b3b5434ebd4e24d4"), looks := false }, kinds := [], alts := [], laidByText := true, laidKinds := [.data, .data], laidTests := true, laidLooks := .later }
def LayoutOverCardSaid : Prop := Claim7.holds Tryz.pinned (.plain (OpenSpec.ofChange layoutOverSpec)) layoutOverCard

/-- THE SECOND FORM's CARD OF 'delverlaw05.LayoutOver'. -/
def layoutOverUptoCard : Claim7 := { stood := { row := layoutOverUptoRow, standIns := [], harness := (true, "e0f3c7695d9e815a5044e1a8056edb23276671ead750c166b3b5434ebd4e24d4"), looks := false }, kinds := [], alts := [], laidByText := true, laidKinds := [.data, .data], laidTests := true, laidLooks := .later }
def LayoutOverUptoCardSaid : Prop := Claim7.holds Tryz.pinned (.plain (OpenSpec.upto layoutOverSpec)) layoutOverUptoCard
end Rows
end Go.Proofs.YtjlappamkfjlkabGreatDoor
