/-
  DERIVED. GIVEN WITH THE SEED: THE CARDS: each row of YtpngpkbnhepleaaDoorRows.lean that lists a variable, with what it lists TIED to the program's text (the seventh form; the later family's looks); each row that meets fmt, with fmt's text TOLD by the authors' own Lean function (tested against real Go, not proved from fmt's source: count such statements apart). THE CARD IS WHAT COUNTS. Prove the row's statement (the work); the ties are given (YtpngpkbnhepleaaDoorTie.lean); close each card by the builder's one call (the guide's Derived/Test/ToyasCard.lean, 'card_holds'). Laid BY PROGRAM, IN A SANDBOX (cutbox-door.mjs). By AI agents, Wed Nov 11 2026. No macro, syntax, notation, axiom, sorry.
-/
import Derived.Test.YtpngpkbnhepleaaDoorRows
import GoSem.ClaimSeven
namespace Go.Proofs.YtpngpkbnhepleaaDoor
namespace Rows

/-- THE TIED CARD OF 'delverlaw02.ParseExact'. -/
def parseExactCard : Claim7 := { stood := { row := parseExactRow, standIns := [], harness := (true, "b63b76ff6753c09739fb2bdf8609c8a584d8abbba291edd0b245bd8532865ffe"), looks := false }, kinds := [], alts := [], laidByText := true, laidKinds := [.data, .data], laidTests := true, laidLooks := .later }
def ParseExactCardSaid : Prop := Claim7.holds Tryd.pinned (.plain (OpenSpec.ofChange parseExactSpec)) parseExactCard

/-- THE TIED CARD OF 'delverlaw02.ParseBlanks'. -/
def parseBlanksCard : Claim7 := { stood := { row := parseBlanksRow, standIns := [], harness := (true, "b63b76ff6753c09739fb2bdf8609c8a584d8abbba291edd0b245bd8532865ffe"), looks := false }, kinds := [], alts := [], laidByText := true, laidKinds := [.data, .data, .data, .data, .data], laidTests := true, laidLooks := .later }
def ParseBlanksCardSaid : Prop := Claim7.holds Tryd.pinned (.plain (OpenSpec.ofChange parseBlanksSpec)) parseBlanksCard

/-- THE TIED CARD OF 'delverlaw02.ParseWords'. -/
def parseWordsCard : Claim7 := { stood := { row := parseWordsRow, standIns := [], harness := (true, "b63b76ff6753c09739fb2bdf8609c8a584d8abbba291edd0b245bd8532865ffe"), looks := false }, kinds := [], alts := [], laidByText := true, laidKinds := [.data, .data], laidTests := true, laidLooks := .later }
def ParseWordsCardSaid : Prop := Claim7.holds Tryd.pinned (.plain (OpenSpec.ofChange parseWordsSpec)) parseWordsCard

/-- THE TIED CARD OF 'delverlaw02.ParseCut'. -/
def parseCutCard : Claim7 := { stood := { row := parseCutRow, standIns := [], harness := (true, "b63b76ff6753c09739fb2bdf8609c8a584d8abbba291edd0b245bd8532865ffe"), looks := false }, kinds := [], alts := [], laidByText := true, laidKinds := [.data, .data, .data, .data, .data], laidTests := true, laidLooks := .later }
def ParseCutCardSaid : Prop := Claim7.holds Tryd.pinned (.plain (OpenSpec.ofChange parseCutSpec)) parseCutCard

/-- THE TIED CARD OF 'delverlaw02.ParseJoin'. -/
def parseJoinCard : Claim7 := { stood := { row := parseJoinRow, standIns := [], harness := (true, "b63b76ff6753c09739fb2bdf8609c8a584d8abbba291edd0b245bd8532865ffe"), looks := false }, kinds := [], alts := [], laidByText := true, laidKinds := [.data, .data], laidTests := true, laidLooks := .later }
def ParseJoinCardSaid : Prop := Claim7.holds Tryd.pinned (.plain (OpenSpec.ofChange parseJoinSpec)) parseJoinCard

/-- THE TIED CARD OF 'delverlaw02.ParseInstr'. -/
def parseInstrCard : Claim7 := { stood := { row := parseInstrRow, standIns := [], harness := (true, "b63b76ff6753c09739fb2bdf8609c8a584d8abbba291edd0b245bd8532865ffe"), looks := false }, kinds := [], alts := [], laidByText := true, laidKinds := [.data, .data], laidTests := true, laidLooks := .later }
def ParseInstrCardSaid : Prop := Claim7.holds Tryd.pinned (.plain (OpenSpec.ofChange parseInstrSpec)) parseInstrCard

/-- THE SECOND FORM's CARD OF 'delverlaw02.ParseExact'. -/
def parseExactUptoCard : Claim7 := { stood := { row := parseExactUptoRow, standIns := [], harness := (true, "b63b76ff6753c09739fb2bdf8609c8a584d8abbba291edd0b245bd8532865ffe"), looks := false }, kinds := [], alts := [], laidByText := true, laidKinds := [.data, .data], laidTests := true, laidLooks := .later }
def ParseExactUptoCardSaid : Prop := Claim7.holds Tryd.pinned (.plain (OpenSpec.upto parseExactSpec)) parseExactUptoCard

/-- THE SECOND FORM's CARD OF 'delverlaw02.ParseBlanks'. -/
def parseBlanksUptoCard : Claim7 := { stood := { row := parseBlanksUptoRow, standIns := [], harness := (true, "b63b76ff6753c09739fb2bdf8609c8a584d8abbba291edd0b245bd8532865ffe"), looks := false }, kinds := [], alts := [], laidByText := true, laidKinds := [.data, .data, .data, .data, .data], laidTests := true, laidLooks := .later }
def ParseBlanksUptoCardSaid : Prop := Claim7.holds Tryd.pinned (.plain (OpenSpec.upto parseBlanksSpec)) parseBlanksUptoCard

/-- THE SECOND FORM's CARD OF 'delverlaw02.ParseWords'. -/
def parseWordsUptoCard : Claim7 := { stood := { row := parseWordsUptoRow, standIns := [], harness := (true, "b63b76ff6753c09739fb2bdf8609c8a584d8abbba291edd0b245bd8532865ffe"), looks := false }, kinds := [], alts := [], laidByText := true, laidKinds := [.data, .data], laidTests := true, laidLooks := .later }
def ParseWordsUptoCardSaid : Prop := Claim7.holds Tryd.pinned (.plain (OpenSpec.upto parseWordsSpec)) parseWordsUptoCard

/-- THE SECOND FORM's CARD OF 'delverlaw02.ParseCut'. -/
def parseCutUptoCard : Claim7 := { stood := { row := parseCutUptoRow, standIns := [], harness := (true, "b63b76ff6753c09739fb2bdf8609c8a584d8abbba291edd0b245bd8532865ffe"), looks := false }, kinds := [], alts := [], laidByText := true, laidKinds := [.data, .data, .data, .data, .data], laidTests := true, laidLooks := .later }
def ParseCutUptoCardSaid : Prop := Claim7.holds Tryd.pinned (.plain (OpenSpec.upto parseCutSpec)) parseCutUptoCard

/-- THE SECOND FORM's CARD OF 'delverlaw02.ParseJoin'. -/
def parseJoinUptoCard : Claim7 := { stood := { row := parseJoinUptoRow, standIns := [], harness := (true, "b63b76ff6753c09739fb2bdf8609c8a584d8abbba291edd0b245bd8532865ffe"), looks := false }, kinds := [], alts := [], laidByText := true, laidKinds := [.data, .data], laidTests := true, laidLooks := .later }
def ParseJoinUptoCardSaid : Prop := Claim7.holds Tryd.pinned (.plain (OpenSpec.upto parseJoinSpec)) parseJoinUptoCard

/-- THE SECOND FORM's CARD OF 'delverlaw02.ParseInstr'. -/
def parseInstrUptoCard : Claim7 := { stood := { row := parseInstrUptoRow, standIns := [], harness := (true, "b63b76ff6753c09739fb2bdf8609c8a584d8abbba291edd0b245bd8532865ffe"), looks := false }, kinds := [], alts := [], laidByText := true, laidKinds := [.data, .data], laidTests := true, laidLooks := .later }
def ParseInstrUptoCardSaid : Prop := Claim7.holds Tryd.pinned (.plain (OpenSpec.upto parseInstrSpec)) parseInstrUptoCard
end Rows
end Go.Proofs.YtpngpkbnhepleaaDoor
