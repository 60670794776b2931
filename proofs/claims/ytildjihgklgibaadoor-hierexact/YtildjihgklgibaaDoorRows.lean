/-
  NARROWER THAN 'FOR EVERY INPUT', by the rows' own cells (each row's printed sentence says how): HierExact: laid · HierOrder: laid · HierSupers: laid · HierKinds: laid · HierBent: laid · HierBase: laid.
  DERIVED. THE GIVEN ROWS OF THIS SEAT. 6 by the template 'for every input the law returns true; each argument reads behind the call as it read before'; 0 by the template 'total and deterministic' (their statements: YtildjihgklgibaaDoorTotals.lean).
  GIVEN WITH THE SEED: the statements are not yours to turn. If you find one false, say at which input.
  Laid BY PROGRAM, IN A SANDBOX (cutbox-rows.mjs): the forced cells as the released guide's own fill.sh prints them over the translation 57003dfc613c45cf… (all of the seat's roots in one cut). By AI agents, Wed Nov 11 2026. No macro, syntax, notation, axiom, sorry.
-/
import Derived.Test.YtildjihgklgibaaDoorChecked
import GoSem.Claim
import GoSem.ClaimJoined
import GoSem.ClaimMapViews
import Derived.JoinedTies
import Derived.KernelRfl
namespace Go.Proofs.YtildjihgklgibaaDoor
/- THE CELL 'sum', in the pinned program and in every row, IS THE sha256 OF THE DUMP (.gsa) THAT YtildjihgklgibaaDoorProg.lean LOADS. Nothing in Lean hashes anything: it is a label: what it is worth is what the hold of that sum in a sandbox is worth. -/
noncomputable def Tryd.pinned : Pinned := { name := "ytildjihgklgibaadoor", sum := "57003dfc613c45cf60fcb2a92a2450fd696483f4dd951b7064110f3742afac9d", checked := Tryd.checked }
namespace Rows
def none {H : Type} : Left H := { results := [], args := [] }

/- WHAT THE LISTED PACKAGE-LEVEL VARIABLES READ AS WHEN THE CALL BEGINS. Each datum BY PROGRAM (the guide's laid-datum.mjs) off the statement by which the dump's own 'gosem.cut.vars' lays the variable. In a bare row this is a premise. The card (YtildjihgklgibaaDoorCards.lean) ties it to the program's text. -/
def laid_delver_parse_kept {H : Type} : DataW H := .agg [.lit (.string [99, 108, 97, 115, 115]), .lit (.string [105, 110, 116, 101, 114, 102, 97, 99, 101]), .lit (.string [101, 120, 116, 101, 110, 100, 115]), .lit (.string [105, 109, 112, 108, 101, 109, 101, 110, 116, 115]), .lit (.string [102, 105, 101, 108, 100]), .lit (.string [115, 116, 97, 116, 105, 99]), .lit (.string [109, 101, 116, 104, 111, 100]), .lit (.string [102, 117, 110, 99, 116, 105, 111, 110]), .lit (.string [108, 111, 99, 97, 108, 115]), .lit (.string [99, 97, 116, 99, 104]), .lit (.string [105, 110, 116]), .lit (.string [118, 111, 105, 100])]
def laid_delver_parse_words {H : Type} : DataW H := .agg [.lit (.string [110, 111, 112]), .lit (.string [99, 111, 110, 115, 116]), .lit (.string [110, 117, 108, 108]), .lit (.string [108, 111, 97, 100]), .lit (.string [115, 116, 111, 114, 101]), .lit (.string [112, 111, 112]), .lit (.string [100, 117, 112]), .lit (.string [115, 119, 97, 112]), .lit (.string [97, 100, 100]), .lit (.string [115, 117, 98]), .lit (.string [109, 117, 108]), .lit (.string [100, 105, 118]), .lit (.string [114, 101, 109]), .lit (.string [110, 101, 103]), .lit (.string [103, 111, 116, 111]), .lit (.string [105, 102, 101, 113]), .lit (.string [105, 102, 110, 101]), .lit (.string [105, 102, 108, 116]), .lit (.string [105, 102, 103, 101]), .lit (.string [99, 109, 112, 101, 113]), .lit (.string [99, 109, 112, 110, 101]), .lit (.string [99, 109, 112, 108, 116]), .lit (.string [99, 109, 112, 103, 101]), .lit (.string [105, 102, 110, 117, 108, 108]), .lit (.string [105, 102, 114, 101, 102]), .lit (.string [115, 97, 109, 101]), .lit (.string [111, 116, 104, 101, 114]), .lit (.string [110, 101, 119]), .lit (.string [103, 101, 116]), .lit (.string [112, 117, 116]), .lit (.string [103, 101, 116, 115]), .lit (.string [112, 117, 116, 115]), .lit (.string [105, 110, 116, 115]), .lit (.string [114, 101, 102, 115]), .lit (.string [108, 101, 110]), .lit (.string [97, 116]), .lit (.string [115, 101, 116]), .lit (.string [105, 115]), .lit (.string [99, 97, 115, 116]), .lit (.string [99, 97, 108, 108]), .lit (.string [102, 117, 110, 99]), .lit (.string [114, 101, 116]), .lit (.string [108, 101, 97, 118, 101]), .lit (.string [116, 104, 114, 111, 119])]

/-- 'delverlaw04.HierExact': WHATEVER THE INPUT: true; the input reads as it did. -/
def hierExactSpec : ChangeSpec := { name := "hierExact", fn := fun _ => fun
  | [d1, d2, d3] => { results := [.lit (.bool true)], args := [d1, d2, d3] }
  | _ => none }
def hierExactRow : OpenClaim := { program := "ytildjihgklgibaadoor", sum := "57003dfc613c45cf60fcb2a92a2450fd696483f4dd951b7064110f3742afac9d", func := "delver/delverlaw04.HierExact", spec := "hierExact", unfollowed := true, recurses := true, named := ["delver/parse.kept", "delver/parse.words"], apart := false, laid := [("delver/parse.kept", laid_delver_parse_kept), ("delver/parse.words", laid_delver_parse_words)] }
def HierExactSaid : Prop := hierExactRow.holds Tryd.pinned (OpenSpec.ofChange hierExactSpec)

/-- ITS FALSE NEIGHBOUR: 'it returns false'. Refute it at one input. -/
def hierExactWrong : ChangeSpec := { name := "hierExact", fn := fun _ => fun
  | [d1, d2, d3] => { results := [.lit (.bool false)], args := [d1, d2, d3] }
  | _ => none }
def HierExactWrongFalsely : Prop := hierExactRow.holds Tryd.pinned (OpenSpec.ofChange hierExactWrong)

/-- 'delverlaw04.HierOrder': WHATEVER THE INPUT: true; the input reads as it did. -/
def hierOrderSpec : ChangeSpec := { name := "hierOrder", fn := fun _ => fun
  | [d1, d2, d3, d4] => { results := [.lit (.bool true)], args := [d1, d2, d3, d4] }
  | _ => none }
def hierOrderRow : OpenClaim := { program := "ytildjihgklgibaadoor", sum := "57003dfc613c45cf60fcb2a92a2450fd696483f4dd951b7064110f3742afac9d", func := "delver/delverlaw04.HierOrder", spec := "hierOrder", unfollowed := true, recurses := true, named := ["delver/parse.kept", "delver/parse.words"], apart := false, laid := [("delver/parse.kept", laid_delver_parse_kept), ("delver/parse.words", laid_delver_parse_words)] }
def HierOrderSaid : Prop := hierOrderRow.holds Tryd.pinned (OpenSpec.ofChange hierOrderSpec)

/-- ITS FALSE NEIGHBOUR: 'it returns false'. Refute it at one input. -/
def hierOrderWrong : ChangeSpec := { name := "hierOrder", fn := fun _ => fun
  | [d1, d2, d3, d4] => { results := [.lit (.bool false)], args := [d1, d2, d3, d4] }
  | _ => none }
def HierOrderWrongFalsely : Prop := hierOrderRow.holds Tryd.pinned (OpenSpec.ofChange hierOrderWrong)

/-- 'delverlaw04.HierSupers': WHATEVER THE INPUT: true; the input reads as it did. -/
def hierSupersSpec : ChangeSpec := { name := "hierSupers", fn := fun _ => fun
  | [d1, d2] => { results := [.lit (.bool true)], args := [d1, d2] }
  | _ => none }
def hierSupersRow : OpenClaim := { program := "ytildjihgklgibaadoor", sum := "57003dfc613c45cf60fcb2a92a2450fd696483f4dd951b7064110f3742afac9d", func := "delver/delverlaw04.HierSupers", spec := "hierSupers", unfollowed := true, recurses := true, named := ["delver/parse.kept", "delver/parse.words"], apart := false, laid := [("delver/parse.kept", laid_delver_parse_kept), ("delver/parse.words", laid_delver_parse_words)] }
def HierSupersSaid : Prop := hierSupersRow.holds Tryd.pinned (OpenSpec.ofChange hierSupersSpec)

/-- ITS FALSE NEIGHBOUR: 'it returns false'. Refute it at one input. -/
def hierSupersWrong : ChangeSpec := { name := "hierSupers", fn := fun _ => fun
  | [d1, d2] => { results := [.lit (.bool false)], args := [d1, d2] }
  | _ => none }
def HierSupersWrongFalsely : Prop := hierSupersRow.holds Tryd.pinned (OpenSpec.ofChange hierSupersWrong)

/-- 'delverlaw04.HierKinds': WHATEVER THE INPUT: true; the input reads as it did. -/
def hierKindsSpec : ChangeSpec := { name := "hierKinds", fn := fun _ => fun
  | [d1, d2, d3] => { results := [.lit (.bool true)], args := [d1, d2, d3] }
  | _ => none }
def hierKindsRow : OpenClaim := { program := "ytildjihgklgibaadoor", sum := "57003dfc613c45cf60fcb2a92a2450fd696483f4dd951b7064110f3742afac9d", func := "delver/delverlaw04.HierKinds", spec := "hierKinds", unfollowed := true, recurses := true, named := ["delver/parse.kept", "delver/parse.words"], apart := false, laid := [("delver/parse.kept", laid_delver_parse_kept), ("delver/parse.words", laid_delver_parse_words)] }
def HierKindsSaid : Prop := hierKindsRow.holds Tryd.pinned (OpenSpec.ofChange hierKindsSpec)

/-- ITS FALSE NEIGHBOUR: 'it returns false'. Refute it at one input. -/
def hierKindsWrong : ChangeSpec := { name := "hierKinds", fn := fun _ => fun
  | [d1, d2, d3] => { results := [.lit (.bool false)], args := [d1, d2, d3] }
  | _ => none }
def HierKindsWrongFalsely : Prop := hierKindsRow.holds Tryd.pinned (OpenSpec.ofChange hierKindsWrong)

/-- 'delverlaw04.HierBent': WHATEVER THE INPUT: true; the input reads as it did. -/
def hierBentSpec : ChangeSpec := { name := "hierBent", fn := fun _ => fun
  | [d1, d2, d3] => { results := [.lit (.bool true)], args := [d1, d2, d3] }
  | _ => none }
def hierBentRow : OpenClaim := { program := "ytildjihgklgibaadoor", sum := "57003dfc613c45cf60fcb2a92a2450fd696483f4dd951b7064110f3742afac9d", func := "delver/delverlaw04.HierBent", spec := "hierBent", unfollowed := true, recurses := true, named := ["delver/parse.kept", "delver/parse.words"], apart := false, laid := [("delver/parse.kept", laid_delver_parse_kept), ("delver/parse.words", laid_delver_parse_words)] }
def HierBentSaid : Prop := hierBentRow.holds Tryd.pinned (OpenSpec.ofChange hierBentSpec)

/-- ITS FALSE NEIGHBOUR: 'it returns false'. Refute it at one input. -/
def hierBentWrong : ChangeSpec := { name := "hierBent", fn := fun _ => fun
  | [d1, d2, d3] => { results := [.lit (.bool false)], args := [d1, d2, d3] }
  | _ => none }
def HierBentWrongFalsely : Prop := hierBentRow.holds Tryd.pinned (OpenSpec.ofChange hierBentWrong)

/-- 'delverlaw04.HierBase': WHATEVER THE INPUT: true; the input reads as it did. -/
def hierBaseSpec : ChangeSpec := { name := "hierBase", fn := fun _ => fun
  | [d] => { results := [.lit (.bool true)], args := [d] }
  | _ => none }
def hierBaseRow : OpenClaim := { program := "ytildjihgklgibaadoor", sum := "57003dfc613c45cf60fcb2a92a2450fd696483f4dd951b7064110f3742afac9d", func := "delver/delverlaw04.HierBase", spec := "hierBase", unfollowed := true, recurses := true, named := ["delver/parse.kept", "delver/parse.words"], apart := false, laid := [("delver/parse.kept", laid_delver_parse_kept), ("delver/parse.words", laid_delver_parse_words)] }
def HierBaseSaid : Prop := hierBaseRow.holds Tryd.pinned (OpenSpec.ofChange hierBaseSpec)

/-- ITS FALSE NEIGHBOUR: 'it returns false'. Refute it at one input. -/
def hierBaseWrong : ChangeSpec := { name := "hierBase", fn := fun _ => fun
  | [d] => { results := [.lit (.bool false)], args := [d] }
  | _ => none }
def HierBaseWrongFalsely : Prop := hierBaseRow.holds Tryd.pinned (OpenSpec.ofChange hierBaseWrong)

/- THE SECOND FORM. 'bulk': how many values and letters a reading holds, each counted each time it is reached (what is shared counts as often as it is met; a slice's spare places count too). A statement '..UptoSaid' is the law's where the arguments, and the package variables that the reading takes, are together of bulk at most 1048576: NARROWER than '..Said'. Prove '..Said' where nothing that the law and all that it calls make is longer than what came in: it says more and counts as full. Else prove '..UptoSaid'. A law counts once. -/
mutual
def uptoBulk {H : Type} : DataW H → Nat
  | .lit (.string bytes) => bytes.length + 1
  | .lit _ => 1
  | .nil => 1
  | .ptr d => uptoBulk d + 1
  | .slice elems spare => uptoBulkAll elems + uptoBulkAll spare + 1
  | .agg parts => uptoBulkAll parts + 1
  | .iface _ d => uptoBulk d + 1
  | .map entries => uptoBulkEntries entries + 1
  | .held _ => 1
def uptoBulkAll {H : Type} : List (DataW H) → Nat
  | [] => 0
  | d :: r => uptoBulk d + uptoBulkAll r
def uptoBulkEntries {H : Type} : List (Lit × DataW H) → Nat
  | [] => 0
  | x :: r => uptoBulkEntry x + uptoBulkEntries r
def uptoBulkEntry {H : Type} : Lit × DataW H → Nat
  | (.string bytes, d) => bytes.length + uptoBulk d + 1
  | (_, d) => uptoBulk d + 1
 end
def uptoSmall : (H : Type) → List (DataW H) → Bool := fun _ ds => decide (uptoBulkAll ds ≤ 1048576)
def OpenSpec.upto (s : _root_.Go.ChangeSpec) : _root_.Go.OpenSpec := { _root_.Go.OpenSpec.ofChange s with cond := some uptoSmall }

/-- 'delverlaw04.HierExact', WHERE WHAT IT READS IS OF BULK AT MOST 1048576: true; the input reads as it did. -/
def hierExactUptoRow : OpenClaim := { program := "ytildjihgklgibaadoor", sum := "57003dfc613c45cf60fcb2a92a2450fd696483f4dd951b7064110f3742afac9d", func := "delver/delverlaw04.HierExact", spec := "hierExact", unfollowed := true, recurses := true, named := ["delver/parse.kept", "delver/parse.words"], apart := false, laid := [("delver/parse.kept", laid_delver_parse_kept), ("delver/parse.words", laid_delver_parse_words)], narrowed := true }
def HierExactUptoSaid : Prop := hierExactUptoRow.holds Tryd.pinned (OpenSpec.upto hierExactSpec)

/-- 'delverlaw04.HierOrder', WHERE WHAT IT READS IS OF BULK AT MOST 1048576: true; the input reads as it did. -/
def hierOrderUptoRow : OpenClaim := { program := "ytildjihgklgibaadoor", sum := "57003dfc613c45cf60fcb2a92a2450fd696483f4dd951b7064110f3742afac9d", func := "delver/delverlaw04.HierOrder", spec := "hierOrder", unfollowed := true, recurses := true, named := ["delver/parse.kept", "delver/parse.words"], apart := false, laid := [("delver/parse.kept", laid_delver_parse_kept), ("delver/parse.words", laid_delver_parse_words)], narrowed := true }
def HierOrderUptoSaid : Prop := hierOrderUptoRow.holds Tryd.pinned (OpenSpec.upto hierOrderSpec)

/-- 'delverlaw04.HierSupers', WHERE WHAT IT READS IS OF BULK AT MOST 1048576: true; the input reads as it did. -/
def hierSupersUptoRow : OpenClaim := { program := "ytildjihgklgibaadoor", sum := "57003dfc613c45cf60fcb2a92a2450fd696483f4dd951b7064110f3742afac9d", func := "delver/delverlaw04.HierSupers", spec := "hierSupers", unfollowed := true, recurses := true, named := ["delver/parse.kept", "delver/parse.words"], apart := false, laid := [("delver/parse.kept", laid_delver_parse_kept), ("delver/parse.words", laid_delver_parse_words)], narrowed := true }
def HierSupersUptoSaid : Prop := hierSupersUptoRow.holds Tryd.pinned (OpenSpec.upto hierSupersSpec)

/-- 'delverlaw04.HierKinds', WHERE WHAT IT READS IS OF BULK AT MOST 1048576: true; the input reads as it did. -/
def hierKindsUptoRow : OpenClaim := { program := "ytildjihgklgibaadoor", sum := "57003dfc613c45cf60fcb2a92a2450fd696483f4dd951b7064110f3742afac9d", func := "delver/delverlaw04.HierKinds", spec := "hierKinds", unfollowed := true, recurses := true, named := ["delver/parse.kept", "delver/parse.words"], apart := false, laid := [("delver/parse.kept", laid_delver_parse_kept), ("delver/parse.words", laid_delver_parse_words)], narrowed := true }
def HierKindsUptoSaid : Prop := hierKindsUptoRow.holds Tryd.pinned (OpenSpec.upto hierKindsSpec)

/-- 'delverlaw04.HierBent', WHERE WHAT IT READS IS OF BULK AT MOST 1048576: true; the input reads as it did. -/
def hierBentUptoRow : OpenClaim := { program := "ytildjihgklgibaadoor", sum := "57003dfc613c45cf60fcb2a92a2450fd696483f4dd951b7064110f3742afac9d", func := "delver/delverlaw04.HierBent", spec := "hierBent", unfollowed := true, recurses := true, named := ["delver/parse.kept", "delver/parse.words"], apart := false, laid := [("delver/parse.kept", laid_delver_parse_kept), ("delver/parse.words", laid_delver_parse_words)], narrowed := true }
def HierBentUptoSaid : Prop := hierBentUptoRow.holds Tryd.pinned (OpenSpec.upto hierBentSpec)

/-- 'delverlaw04.HierBase', WHERE WHAT IT READS IS OF BULK AT MOST 1048576: true; the input reads as it did. -/
def hierBaseUptoRow : OpenClaim := { program := "ytildjihgklgibaadoor", sum := "57003dfc613c45cf60fcb2a92a2450fd696483f4dd951b7064110f3742afac9d", func := "delver/delverlaw04.HierBase", spec := "hierBase", unfollowed := true, recurses := true, named := ["delver/parse.kept", "delver/parse.words"], apart := false, laid := [("delver/parse.kept", laid_delver_parse_kept), ("delver/parse.words", laid_delver_parse_words)], narrowed := true }
def HierBaseUptoSaid : Prop := hierBaseUptoRow.holds Tryd.pinned (OpenSpec.upto hierBaseSpec)

end Rows
end Go.Proofs.YtildjihgklgibaaDoor
