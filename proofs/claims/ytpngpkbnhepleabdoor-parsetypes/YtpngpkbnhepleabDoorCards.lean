/-
  DERIVED. GIVEN WITH THE SEED: THE CARDS: each row of YtpngpkbnhepleabDoorRows.lean that lists a variable, with what it lists TIED to the program's text (the seventh form; the later family's looks); each row that meets fmt, with fmt's text TOLD by the authors' own Lean function (tested against real Go, not proved from fmt's source: count such statements apart). THE CARD IS WHAT COUNTS. Prove the row's statement (the work); the ties are given (YtpngpkbnhepleabDoorTie.lean); close each card by the builder's one call (the guide's Derived/Test/ToyasCard.lean, 'card_holds'). Laid BY PROGRAM, IN A SANDBOX (cutbox-door.mjs). By AI agents, Wed Nov 11 2026. No macro, syntax, notation, axiom, sorry.
-/
import Derived.Test.YtpngpkbnhepleabDoorRows
import GoSem.ClaimSeven
namespace Go.Proofs.YtpngpkbnhepleabDoor
namespace Rows

/-- THE TIED CARD OF 'delverlaw02.ParseMany'. -/
def parseManyCard : Claim7 := { stood := { row := parseManyRow, standIns := [], harness := (true, "5d44c201d2db4f8eaf8c2eff1a9662af471d5f391570e4001768955e5f17d2e3"), looks := false }, kinds := [], alts := [], laidByText := true, laidKinds := [.data, .data], laidTests := true, laidLooks := .later }
def ParseManyCardSaid : Prop := Claim7.holds Tryd.pinned (.plain (OpenSpec.ofChange parseManySpec)) parseManyCard

/-- THE TIED CARD OF 'delverlaw02.ParseKept'. -/
def parseKeptCard : Claim7 := { stood := { row := parseKeptRow, standIns := [], harness := (true, "5d44c201d2db4f8eaf8c2eff1a9662af471d5f391570e4001768955e5f17d2e3"), looks := false }, kinds := [], alts := [], laidByText := true, laidKinds := [.data, .data], laidTests := true, laidLooks := .later }
def ParseKeptCardSaid : Prop := Claim7.holds Tryd.pinned (.plain (OpenSpec.ofChange parseKeptSpec)) parseKeptCard

/-- THE TIED CARD OF 'delverlaw02.ParseTypes'. -/
def parseTypesCard : Claim7 := { stood := { row := parseTypesRow, standIns := [], harness := (true, "5d44c201d2db4f8eaf8c2eff1a9662af471d5f391570e4001768955e5f17d2e3"), looks := false }, kinds := [], alts := [], laidByText := true, laidKinds := [.data, .data], laidTests := true, laidLooks := .later }
def ParseTypesCardSaid : Prop := Claim7.holds Tryd.pinned (.plain (OpenSpec.ofChange parseTypesSpec)) parseTypesCard

/-- THE SECOND FORM's CARD OF 'delverlaw02.ParseMany'. -/
def parseManyUptoCard : Claim7 := { stood := { row := parseManyUptoRow, standIns := [], harness := (true, "5d44c201d2db4f8eaf8c2eff1a9662af471d5f391570e4001768955e5f17d2e3"), looks := false }, kinds := [], alts := [], laidByText := true, laidKinds := [.data, .data], laidTests := true, laidLooks := .later }
def ParseManyUptoCardSaid : Prop := Claim7.holds Tryd.pinned (.plain (OpenSpec.upto parseManySpec)) parseManyUptoCard

/-- THE SECOND FORM's CARD OF 'delverlaw02.ParseKept'. -/
def parseKeptUptoCard : Claim7 := { stood := { row := parseKeptUptoRow, standIns := [], harness := (true, "5d44c201d2db4f8eaf8c2eff1a9662af471d5f391570e4001768955e5f17d2e3"), looks := false }, kinds := [], alts := [], laidByText := true, laidKinds := [.data, .data], laidTests := true, laidLooks := .later }
def ParseKeptUptoCardSaid : Prop := Claim7.holds Tryd.pinned (.plain (OpenSpec.upto parseKeptSpec)) parseKeptUptoCard

/-- THE SECOND FORM's CARD OF 'delverlaw02.ParseTypes'. -/
def parseTypesUptoCard : Claim7 := { stood := { row := parseTypesUptoRow, standIns := [], harness := (true, "5d44c201d2db4f8eaf8c2eff1a9662af471d5f391570e4001768955e5f17d2e3"), looks := false }, kinds := [], alts := [], laidByText := true, laidKinds := [.data, .data], laidTests := true, laidLooks := .later }
def ParseTypesUptoCardSaid : Prop := Claim7.holds Tryd.pinned (.plain (OpenSpec.upto parseTypesSpec)) parseTypesUptoCard
end Rows
end Go.Proofs.YtpngpkbnhepleabDoor
