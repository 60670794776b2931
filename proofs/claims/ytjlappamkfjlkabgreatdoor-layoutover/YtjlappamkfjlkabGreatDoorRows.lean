/-
  NARROWER THAN 'FOR EVERY INPUT', by the rows' own cells (each row's printed sentence says how): LayoutOver: laid.
  DERIVED. THE GIVEN ROWS OF THIS SEAT. 1 by the template 'for every input the law returns true; each argument reads behind the call as it read before'; 0 by the template 'total and deterministic' (their statements: YtjlappamkfjlkabGreatDoorTotals.lean).
  GIVEN WITH THE SEED: the statements are not yours to turn. If you find one false, say at which input.
  Laid BY PROGRAM, IN A SANDBOX (cutbox-rows.mjs): the forced cells as the released guide's own fill.sh prints them over the translation f742fc23193d9c03… (all of the seat's roots in one cut). By AI agents, Wed Nov 11 2026. No macro, syntax, notation, axiom, sorry.
-/
import Derived.Test.YtjlappamkfjlkabGreatDoorChecked
import GoSem.Claim
import GoSem.ClaimJoined
import GoSem.ClaimMapViews
import Derived.JoinedTies
import Derived.KernelRfl
namespace Go.Proofs.YtjlappamkfjlkabGreatDoor
/- THE CELL 'sum', in the pinned program and in every row, IS THE sha256 OF THE DUMP (.gsa) THAT YtjlappamkfjlkabGreatDoorProg.lean LOADS. Nothing in Lean hashes anything: it is a label: what it is worth is what the hold of that sum in a sandbox is worth. -/
noncomputable def Tryz.pinned : Pinned := { name := "ytjlappamkfjlkabgreatdoor", sum := "f742fc23193d9c03a546855131801dde8166b7b559cc7310fa3ee2f8ac5295cc", checked := Tryz.checked }
namespace Rows
def none {H : Type} : Left H := { results := [], args := [] }

/- WHAT THE LISTED PACKAGE-LEVEL VARIABLES READ AS WHEN THE CALL BEGINS. Each datum BY PROGRAM (the guide's laid-datum.mjs) off the statement by which the dump's own 'gosem.cut.vars' lays the variable. In a bare row this is a premise. The card (YtjlappamkfjlkabGreatDoorCards.lean) ties it to the program's text. -/
def laid_delver_parse_kept {H : Type} : DataW H := .agg [.lit (.string [99, 108, 97, 115, 115]), .lit (.string [105, 110, 116, 101, 114, 102, 97, 99, 101]), .lit (.string [101, 120, 116, 101, 110, 100, 115]), .lit (.string [105, 109, 112, 108, 101, 109, 101, 110, 116, 115]), .lit (.string [102, 105, 101, 108, 100]), .lit (.string [115, 116, 97, 116, 105, 99]), .lit (.string [109, 101, 116, 104, 111, 100]), .lit (.string [102, 117, 110, 99, 116, 105, 111, 110]), .lit (.string [108, 111, 99, 97, 108, 115]), .lit (.string [99, 97, 116, 99, 104]), .lit (.string [105, 110, 116]), .lit (.string [118, 111, 105, 100])]
def laid_delver_parse_words {H : Type} : DataW H := .agg [.lit (.string [110, 111, 112]), .lit (.string [99, 111, 110, 115, 116]), .lit (.string [110, 117, 108, 108]), .lit (.string [108, 111, 97, 100]), .lit (.string [115, 116, 111, 114, 101]), .lit (.string [112, 111, 112]), .lit (.string [100, 117, 112]), .lit (.string [115, 119, 97, 112]), .lit (.string [97, 100, 100]), .lit (.string [115, 117, 98]), .lit (.string [109, 117, 108]), .lit (.string [100, 105, 118]), .lit (.string [114, 101, 109]), .lit (.string [110, 101, 103]), .lit (.string [103, 111, 116, 111]), .lit (.string [105, 102, 101, 113]), .lit (.string [105, 102, 110, 101]), .lit (.string [105, 102, 108, 116]), .lit (.string [105, 102, 103, 101]), .lit (.string [99, 109, 112, 101, 113]), .lit (.string [99, 109, 112, 110, 101]), .lit (.string [99, 109, 112, 108, 116]), .lit (.string [99, 109, 112, 103, 101]), .lit (.string [105, 102, 110, 117, 108, 108]), .lit (.string [105, 102, 114, 101, 102]), .lit (.string [115, 97, 109, 101]), .lit (.string [111, 116, 104, 101, 114]), .lit (.string [110, 101, 119]), .lit (.string [103, 101, 116]), .lit (.string [112, 117, 116]), .lit (.string [103, 101, 116, 115]), .lit (.string [112, 117, 116, 115]), .lit (.string [105, 110, 116, 115]), .lit (.string [114, 101, 102, 115]), .lit (.string [108, 101, 110]), .lit (.string [97, 116]), .lit (.string [115, 101, 116]), .lit (.string [105, 115]), .lit (.string [99, 97, 115, 116]), .lit (.string [99, 97, 108, 108]), .lit (.string [102, 117, 110, 99]), .lit (.string [114, 101, 116]), .lit (.string [108, 101, 97, 118, 101]), .lit (.string [116, 104, 114, 111, 119])]

/-- 'delverlaw05.LayoutOver': WHATEVER THE INPUT: true; the input reads as it did. -/
def layoutOverSpec : ChangeSpec := { name := "layoutOver", fn := fun _ => fun
  | [d] => { results := [.lit (.bool true)], args := [d] }
  | _ => none }
def layoutOverRow : OpenClaim := { program := "ytjlappamkfjlkabgreatdoor", sum := "f742fc23193d9c03a546855131801dde8166b7b559cc7310fa3ee2f8ac5295cc", func := "delver/delverlaw05.LayoutOver", spec := "layoutOver", inPlace := ["sync/atomic.LoadUint32", "(*internal/sync.Mutex).Lock", "internal/race.Disable", "sync/atomic.CompareAndSwapInt32", "internal/race.Enable", "internal/race.Acquire", "(*internal/sync.Mutex).lockSlow", "internal/sync.runtime_canSpin", "internal/sync.runtime_doSpin", "internal/sync.throw", "internal/sync.runtime_nanotime", "internal/sync.runtime_SemacquireMutex", "sync/atomic.AddInt32", "(*internal/sync.Mutex).Unlock", "internal/race.ReleaseMerge", "(*internal/sync.Mutex).unlockSlow", "internal/sync.fatal", "internal/sync.runtime_Semrelease", "sync/atomic.StoreUint32"], unfollowed := true, recurses := true, named := ["delver/parse.kept", "delver/parse.words"], apart := false, laid := [("delver/parse.kept", laid_delver_parse_kept), ("delver/parse.words", laid_delver_parse_words)] }
def LayoutOverSaid : Prop := layoutOverRow.holds Tryz.pinned (OpenSpec.ofChange layoutOverSpec)

/-- ITS FALSE NEIGHBOUR: 'it returns false'. Refute it at one input. -/
def layoutOverWrong : ChangeSpec := { name := "layoutOver", fn := fun _ => fun
  | [d] => { results := [.lit (.bool false)], args := [d] }
  | _ => none }
def LayoutOverWrongFalsely : Prop := layoutOverRow.holds Tryz.pinned (OpenSpec.ofChange layoutOverWrong)

/- THE SECOND FORM. 'bulk': how many values and letters a reading holds, each counted each time it is reached (what is shared counts as often as it is met; a slice's spare places count too). A statement '..UptoSaid' is the law's where the arguments, and the package variables that the reading takes, are together of bulk at most 1048576: NARROWER than '..Said'. Prove '..Said' where nothing that the law and all that it calls make is longer than what came in: it says more and counts as full. Else prove '..UptoSaid'. A law counts once. -/
mutual
def uptoBulk {H : Type} : DataW H → Nat
  | .lit (.string bytes) => bytes.length + 1
  | .lit _ => 1
  | .nil => 1
  | .ptr d => uptoBulk d + 1
  | .slice elems spare => uptoBulkAll elems + uptoBulkAll spare + 1
  | .agg parts => uptoBulkAll parts + 1
  | .iface _ d => uptoBulk d + 1
  | .map entries => uptoBulkEntries entries + 1
  | .held _ => 1
def uptoBulkAll {H : Type} : List (DataW H) → Nat
  | [] => 0
  | d :: r => uptoBulk d + uptoBulkAll r
def uptoBulkEntries {H : Type} : List (Lit × DataW H) → Nat
  | [] => 0
  | x :: r => uptoBulkEntry x + uptoBulkEntries r
def uptoBulkEntry {H : Type} : Lit × DataW H → Nat
  | (.string bytes, d) => bytes.length + uptoBulk d + 1
  | (_, d) => uptoBulk d + 1
 end
def uptoSmall : (H : Type) → List (DataW H) → Bool := fun _ ds => decide (uptoBulkAll ds ≤ 1048576)
def OpenSpec.upto (s : _root_.Go.ChangeSpec) : _root_.Go.OpenSpec := { _root_.Go.OpenSpec.ofChange s with cond := some uptoSmall }

/-- 'delverlaw05.LayoutOver', WHERE WHAT IT READS IS OF BULK AT MOST 1048576: true; the input reads as it did. -/
def layoutOverUptoRow : OpenClaim := { program := "ytjlappamkfjlkabgreatdoor", sum := "f742fc23193d9c03a546855131801dde8166b7b559cc7310fa3ee2f8ac5295cc", func := "delver/delverlaw05.LayoutOver", spec := "layoutOver", inPlace := ["sync/atomic.LoadUint32", "(*internal/sync.Mutex).Lock", "internal/race.Disable", "sync/atomic.CompareAndSwapInt32", "internal/race.Enable", "internal/race.Acquire", "(*internal/sync.Mutex).lockSlow", "internal/sync.runtime_canSpin", "internal/sync.runtime_doSpin", "internal/sync.throw", "internal/sync.runtime_nanotime", "internal/sync.runtime_SemacquireMutex", "sync/atomic.AddInt32", "(*internal/sync.Mutex).Unlock", "internal/race.ReleaseMerge", "(*internal/sync.Mutex).unlockSlow", "internal/sync.fatal", "internal/sync.runtime_Semrelease", "sync/atomic.StoreUint32"], unfollowed := true, recurses := true, named := ["delver/parse.kept", "delver/parse.words"], apart := false, laid := [("delver/parse.kept", laid_delver_parse_kept), ("delver/parse.words", laid_delver_parse_words)], narrowed := true }
def LayoutOverUptoSaid : Prop := layoutOverUptoRow.holds Tryz.pinned (OpenSpec.upto layoutOverSpec)

end Rows
end Go.Proofs.YtjlappamkfjlkabGreatDoor
