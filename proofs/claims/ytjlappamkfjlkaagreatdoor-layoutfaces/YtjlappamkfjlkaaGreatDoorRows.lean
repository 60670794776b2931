/-
  NARROWER THAN 'FOR EVERY INPUT', by the rows' own cells (each row's printed sentence says how): LayoutExact: laid · LayoutGrows: laid · LayoutMethods: laid · LayoutFaces: laid · LayoutBent: laid · LayoutStatics: laid.
  DERIVED. THE GIVEN ROWS OF THIS SEAT. 6 by the template 'for every input the law returns true; each argument reads behind the call as it read before'; 0 by the template 'total and deterministic' (their statements: YtjlappamkfjlkaaGreatDoorTotals.lean).
  GIVEN WITH THE SEED: the statements are not yours to turn. If you find one false, say at which input.
  Laid BY PROGRAM, IN A SANDBOX (cutbox-rows.mjs): the forced cells as the released guide's own fill.sh prints them over the translation 4216d2f0d2916d74… (all of the seat's roots in one cut). By AI agents, Wed Nov 11 2026. No macro, syntax, notation, axiom, sorry.
-/
import Derived.Test.YtjlappamkfjlkaaGreatDoorChecked
import GoSem.Claim
import GoSem.ClaimJoined
import GoSem.ClaimMapViews
import Derived.JoinedTies
import Derived.KernelRfl
namespace Go.Proofs.YtjlappamkfjlkaaGreatDoor
/- THE CELL 'sum', in the pinned program and in every row, IS THE sha256 OF THE DUMP (.gsa) THAT YtjlappamkfjlkaaGreatDoorProg.lean LOADS. Nothing in Lean hashes anything: it is a label: what it is worth is what the hold of that sum in a sandbox is worth. -/
noncomputable def Tryz.pinned : Pinned := { name := "ytjlappamkfjlkaagreatdoor", sum := "4216d2f0d2916d74915934279c6d0188fe91f4ecf99c2c2d9a6848b699ee6244", checked := Tryz.checked }
namespace Rows
def none {H : Type} : Left H := { results := [], args := [] }

/- WHAT THE LISTED PACKAGE-LEVEL VARIABLES READ AS WHEN THE CALL BEGINS. Each datum BY PROGRAM (the guide's laid-datum.mjs) off the statement by which the dump's own 'gosem.cut.vars' lays the variable. In a bare row this is a premise. The card (YtjlappamkfjlkaaGreatDoorCards.lean) ties it to the program's text. -/
def laid_delver_parse_kept {H : Type} : DataW H := .agg [.lit (.string [99, 108, 97, 115, 115]), .lit (.string [105, 110, 116, 101, 114, 102, 97, 99, 101]), .lit (.string [101, 120, 116, 101, 110, 100, 115]), .lit (.string [105, 109, 112, 108, 101, 109, 101, 110, 116, 115]), .lit (.string [102, 105, 101, 108, 100]), .lit (.string [115, 116, 97, 116, 105, 99]), .lit (.string [109, 101, 116, 104, 111, 100]), .lit (.string [102, 117, 110, 99, 116, 105, 111, 110]), .lit (.string [108, 111, 99, 97, 108, 115]), .lit (.string [99, 97, 116, 99, 104]), .lit (.string [105, 110, 116]), .lit (.string [118, 111, 105, 100])]
def laid_delver_parse_words {H : Type} : DataW H := .agg [.lit (.string [110, 111, 112]), .lit (.string [99, 111, 110, 115, 116]), .lit (.string [110, 117, 108, 108]), .lit (.string [108, 111, 97, 100]), .lit (.string [115, 116, 111, 114, 101]), .lit (.string [112, 111, 112]), .lit (.string [100, 117, 112]), .lit (.string [115, 119, 97, 112]), .lit (.string [97, 100, 100]), .lit (.string [115, 117, 98]), .lit (.string [109, 117, 108]), .lit (.string [100, 105, 118]), .lit (.string [114, 101, 109]), .lit (.string [110, 101, 103]), .lit (.string [103, 111, 116, 111]), .lit (.string [105, 102, 101, 113]), .lit (.string [105, 102, 110, 101]), .lit (.string [105, 102, 108, 116]), .lit (.string [105, 102, 103, 101]), .lit (.string [99, 109, 112, 101, 113]), .lit (.string [99, 109, 112, 110, 101]), .lit (.string [99, 109, 112, 108, 116]), .lit (.string [99, 109, 112, 103, 101]), .lit (.string [105, 102, 110, 117, 108, 108]), .lit (.string [105, 102, 114, 101, 102]), .lit (.string [115, 97, 109, 101]), .lit (.string [111, 116, 104, 101, 114]), .lit (.string [110, 101, 119]), .lit (.string [103, 101, 116]), .lit (.string [112, 117, 116]), .lit (.string [103, 101, 116, 115]), .lit (.string [112, 117, 116, 115]), .lit (.string [105, 110, 116, 115]), .lit (.string [114, 101, 102, 115]), .lit (.string [108, 101, 110]), .lit (.string [97, 116]), .lit (.string [115, 101, 116]), .lit (.string [105, 115]), .lit (.string [99, 97, 115, 116]), .lit (.string [99, 97, 108, 108]), .lit (.string [102, 117, 110, 99]), .lit (.string [114, 101, 116]), .lit (.string [108, 101, 97, 118, 101]), .lit (.string [116, 104, 114, 111, 119])]

/-- 'delverlaw05.LayoutExact': WHATEVER THE INPUT: true; the input reads as it did. -/
def layoutExactSpec : ChangeSpec := { name := "layoutExact", fn := fun _ => fun
  | [d1, d2, d3] => { results := [.lit (.bool true)], args := [d1, d2, d3] }
  | _ => none }
def layoutExactRow : OpenClaim := { program := "ytjlappamkfjlkaagreatdoor", sum := "4216d2f0d2916d74915934279c6d0188fe91f4ecf99c2c2d9a6848b699ee6244", func := "delver/delverlaw05.LayoutExact", spec := "layoutExact", inPlace := ["sync/atomic.LoadUint32", "(*internal/sync.Mutex).Lock", "internal/race.Disable", "sync/atomic.CompareAndSwapInt32", "internal/race.Enable", "internal/race.Acquire", "(*internal/sync.Mutex).lockSlow", "internal/sync.runtime_canSpin", "internal/sync.runtime_doSpin", "internal/sync.throw", "internal/sync.runtime_nanotime", "internal/sync.runtime_SemacquireMutex", "sync/atomic.AddInt32", "(*internal/sync.Mutex).Unlock", "internal/race.ReleaseMerge", "(*internal/sync.Mutex).unlockSlow", "internal/sync.fatal", "internal/sync.runtime_Semrelease", "sync/atomic.StoreUint32"], unfollowed := true, recurses := true, named := ["delver/parse.kept", "delver/parse.words"], apart := false, laid := [("delver/parse.kept", laid_delver_parse_kept), ("delver/parse.words", laid_delver_parse_words)] }
def LayoutExactSaid : Prop := layoutExactRow.holds Tryz.pinned (OpenSpec.ofChange layoutExactSpec)

/-- ITS FALSE NEIGHBOUR: 'it returns false'. Refute it at one input. -/
def layoutExactWrong : ChangeSpec := { name := "layoutExact", fn := fun _ => fun
  | [d1, d2, d3] => { results := [.lit (.bool false)], args := [d1, d2, d3] }
  | _ => none }
def LayoutExactWrongFalsely : Prop := layoutExactRow.holds Tryz.pinned (OpenSpec.ofChange layoutExactWrong)

/-- 'delverlaw05.LayoutGrows': WHATEVER THE INPUT: true; the input reads as it did. -/
def layoutGrowsSpec : ChangeSpec := { name := "layoutGrows", fn := fun _ => fun
  | [d1, d2] => { results := [.lit (.bool true)], args := [d1, d2] }
  | _ => none }
def layoutGrowsRow : OpenClaim := { program := "ytjlappamkfjlkaagreatdoor", sum := "4216d2f0d2916d74915934279c6d0188fe91f4ecf99c2c2d9a6848b699ee6244", func := "delver/delverlaw05.LayoutGrows", spec := "layoutGrows", inPlace := ["sync/atomic.LoadUint32", "(*internal/sync.Mutex).Lock", "internal/race.Disable", "sync/atomic.CompareAndSwapInt32", "internal/race.Enable", "internal/race.Acquire", "(*internal/sync.Mutex).lockSlow", "internal/sync.runtime_canSpin", "internal/sync.runtime_doSpin", "internal/sync.throw", "internal/sync.runtime_nanotime", "internal/sync.runtime_SemacquireMutex", "sync/atomic.AddInt32", "(*internal/sync.Mutex).Unlock", "internal/race.ReleaseMerge", "(*internal/sync.Mutex).unlockSlow", "internal/sync.fatal", "internal/sync.runtime_Semrelease", "sync/atomic.StoreUint32"], unfollowed := true, recurses := true, named := ["delver/parse.kept", "delver/parse.words"], apart := false, laid := [("delver/parse.kept", laid_delver_parse_kept), ("delver/parse.words", laid_delver_parse_words)] }
def LayoutGrowsSaid : Prop := layoutGrowsRow.holds Tryz.pinned (OpenSpec.ofChange layoutGrowsSpec)

/-- ITS FALSE NEIGHBOUR: 'it returns false'. Refute it at one input. -/
def layoutGrowsWrong : ChangeSpec := { name := "layoutGrows", fn := fun _ => fun
  | [d1, d2] => { results := [.lit (.bool false)], args := [d1, d2] }
  | _ => none }
def LayoutGrowsWrongFalsely : Prop := layoutGrowsRow.holds Tryz.pinned (OpenSpec.ofChange layoutGrowsWrong)

/-- 'delverlaw05.LayoutMethods': WHATEVER THE INPUT: true; the input reads as it did. -/
def layoutMethodsSpec : ChangeSpec := { name := "layoutMethods", fn := fun _ => fun
  | [d1, d2, d3] => { results := [.lit (.bool true)], args := [d1, d2, d3] }
  | _ => none }
def layoutMethodsRow : OpenClaim := { program := "ytjlappamkfjlkaagreatdoor", sum := "4216d2f0d2916d74915934279c6d0188fe91f4ecf99c2c2d9a6848b699ee6244", func := "delver/delverlaw05.LayoutMethods", spec := "layoutMethods", inPlace := ["sync/atomic.LoadUint32", "(*internal/sync.Mutex).Lock", "internal/race.Disable", "sync/atomic.CompareAndSwapInt32", "internal/race.Enable", "internal/race.Acquire", "(*internal/sync.Mutex).lockSlow", "internal/sync.runtime_canSpin", "internal/sync.runtime_doSpin", "internal/sync.throw", "internal/sync.runtime_nanotime", "internal/sync.runtime_SemacquireMutex", "sync/atomic.AddInt32", "(*internal/sync.Mutex).Unlock", "internal/race.ReleaseMerge", "(*internal/sync.Mutex).unlockSlow", "internal/sync.fatal", "internal/sync.runtime_Semrelease", "sync/atomic.StoreUint32"], unfollowed := true, recurses := true, named := ["delver/parse.kept", "delver/parse.words"], apart := false, laid := [("delver/parse.kept", laid_delver_parse_kept), ("delver/parse.words", laid_delver_parse_words)] }
def LayoutMethodsSaid : Prop := layoutMethodsRow.holds Tryz.pinned (OpenSpec.ofChange layoutMethodsSpec)

/-- ITS FALSE NEIGHBOUR: 'it returns false'. Refute it at one input. -/
def layoutMethodsWrong : ChangeSpec := { name := "layoutMethods", fn := fun _ => fun
  | [d1, d2, d3] => { results := [.lit (.bool false)], args := [d1, d2, d3] }
  | _ => none }
def LayoutMethodsWrongFalsely : Prop := layoutMethodsRow.holds Tryz.pinned (OpenSpec.ofChange layoutMethodsWrong)

/-- 'delverlaw05.LayoutFaces': WHATEVER THE INPUT: true; the input reads as it did. -/
def layoutFacesSpec : ChangeSpec := { name := "layoutFaces", fn := fun _ => fun
  | [d1, d2, d3] => { results := [.lit (.bool true)], args := [d1, d2, d3] }
  | _ => none }
def layoutFacesRow : OpenClaim := { program := "ytjlappamkfjlkaagreatdoor", sum := "4216d2f0d2916d74915934279c6d0188fe91f4ecf99c2c2d9a6848b699ee6244", func := "delver/delverlaw05.LayoutFaces", spec := "layoutFaces", inPlace := ["sync/atomic.LoadUint32", "(*internal/sync.Mutex).Lock", "internal/race.Disable", "sync/atomic.CompareAndSwapInt32", "internal/race.Enable", "internal/race.Acquire", "(*internal/sync.Mutex).lockSlow", "internal/sync.runtime_canSpin", "internal/sync.runtime_doSpin", "internal/sync.throw", "internal/sync.runtime_nanotime", "internal/sync.runtime_SemacquireMutex", "sync/atomic.AddInt32", "(*internal/sync.Mutex).Unlock", "internal/race.ReleaseMerge", "(*internal/sync.Mutex).unlockSlow", "internal/sync.fatal", "internal/sync.runtime_Semrelease", "sync/atomic.StoreUint32"], unfollowed := true, recurses := true, named := ["delver/parse.kept", "delver/parse.words"], apart := false, laid := [("delver/parse.kept", laid_delver_parse_kept), ("delver/parse.words", laid_delver_parse_words)] }
def LayoutFacesSaid : Prop := layoutFacesRow.holds Tryz.pinned (OpenSpec.ofChange layoutFacesSpec)

/-- ITS FALSE NEIGHBOUR: 'it returns false'. Refute it at one input. -/
def layoutFacesWrong : ChangeSpec := { name := "layoutFaces", fn := fun _ => fun
  | [d1, d2, d3] => { results := [.lit (.bool false)], args := [d1, d2, d3] }
  | _ => none }
def LayoutFacesWrongFalsely : Prop := layoutFacesRow.holds Tryz.pinned (OpenSpec.ofChange layoutFacesWrong)

/-- 'delverlaw05.LayoutBent': WHATEVER THE INPUT: true; the input reads as it did. -/
def layoutBentSpec : ChangeSpec := { name := "layoutBent", fn := fun _ => fun
  | [d1, d2, d3] => { results := [.lit (.bool true)], args := [d1, d2, d3] }
  | _ => none }
def layoutBentRow : OpenClaim := { program := "ytjlappamkfjlkaagreatdoor", sum := "4216d2f0d2916d74915934279c6d0188fe91f4ecf99c2c2d9a6848b699ee6244", func := "delver/delverlaw05.LayoutBent", spec := "layoutBent", inPlace := ["sync/atomic.LoadUint32", "(*internal/sync.Mutex).Lock", "internal/race.Disable", "sync/atomic.CompareAndSwapInt32", "internal/race.Enable", "internal/race.Acquire", "(*internal/sync.Mutex).lockSlow", "internal/sync.runtime_canSpin", "internal/sync.runtime_doSpin", "internal/sync.throw", "internal/sync.runtime_nanotime", "internal/sync.runtime_SemacquireMutex", "sync/atomic.AddInt32", "(*internal/sync.Mutex).Unlock", "internal/race.ReleaseMerge", "(*internal/sync.Mutex).unlockSlow", "internal/sync.fatal", "internal/sync.runtime_Semrelease", "sync/atomic.StoreUint32"], unfollowed := true, recurses := true, named := ["delver/parse.kept", "delver/parse.words"], apart := false, laid := [("delver/parse.kept", laid_delver_parse_kept), ("delver/parse.words", laid_delver_parse_words)] }
def LayoutBentSaid : Prop := layoutBentRow.holds Tryz.pinned (OpenSpec.ofChange layoutBentSpec)

/-- ITS FALSE NEIGHBOUR: 'it returns false'. Refute it at one input. -/
def layoutBentWrong : ChangeSpec := { name := "layoutBent", fn := fun _ => fun
  | [d1, d2, d3] => { results := [.lit (.bool false)], args := [d1, d2, d3] }
  | _ => none }
def LayoutBentWrongFalsely : Prop := layoutBentRow.holds Tryz.pinned (OpenSpec.ofChange layoutBentWrong)

/-- 'delverlaw05.LayoutStatics': WHATEVER THE INPUT: true; the input reads as it did. -/
def layoutStaticsSpec : ChangeSpec := { name := "layoutStatics", fn := fun _ => fun
  | [d] => { results := [.lit (.bool true)], args := [d] }
  | _ => none }
def layoutStaticsRow : OpenClaim := { program := "ytjlappamkfjlkaagreatdoor", sum := "4216d2f0d2916d74915934279c6d0188fe91f4ecf99c2c2d9a6848b699ee6244", func := "delver/delverlaw05.LayoutStatics", spec := "layoutStatics", inPlace := ["sync/atomic.LoadUint32", "(*internal/sync.Mutex).Lock", "internal/race.Disable", "sync/atomic.CompareAndSwapInt32", "internal/race.Enable", "internal/race.Acquire", "(*internal/sync.Mutex).lockSlow", "internal/sync.runtime_canSpin", "internal/sync.runtime_doSpin", "internal/sync.throw", "internal/sync.runtime_nanotime", "internal/sync.runtime_SemacquireMutex", "sync/atomic.AddInt32", "(*internal/sync.Mutex).Unlock", "internal/race.ReleaseMerge", "(*internal/sync.Mutex).unlockSlow", "internal/sync.fatal", "internal/sync.runtime_Semrelease", "sync/atomic.StoreUint32"], unfollowed := true, recurses := true, named := ["delver/parse.kept", "delver/parse.words"], apart := false, laid := [("delver/parse.kept", laid_delver_parse_kept), ("delver/parse.words", laid_delver_parse_words)] }
def LayoutStaticsSaid : Prop := layoutStaticsRow.holds Tryz.pinned (OpenSpec.ofChange layoutStaticsSpec)

/-- ITS FALSE NEIGHBOUR: 'it returns false'. Refute it at one input. -/
def layoutStaticsWrong : ChangeSpec := { name := "layoutStatics", fn := fun _ => fun
  | [d] => { results := [.lit (.bool false)], args := [d] }
  | _ => none }
def LayoutStaticsWrongFalsely : Prop := layoutStaticsRow.holds Tryz.pinned (OpenSpec.ofChange layoutStaticsWrong)

/- THE SECOND FORM. 'bulk': how many values and letters a reading holds, each counted each time it is reached (what is shared counts as often as it is met; a slice's spare places count too). A statement '..UptoSaid' is the law's where the arguments, and the package variables that the reading takes, are together of bulk at most 1048576: NARROWER than '..Said'. Prove '..Said' where nothing that the law and all that it calls make is longer than what came in: it says more and counts as full. Else prove '..UptoSaid'. A law counts once. -/
mutual
def uptoBulk {H : Type} : DataW H → Nat
  | .lit (.string bytes) => bytes.length + 1
  | .lit _ => 1
  | .nil => 1
  | .ptr d => uptoBulk d + 1
  | .slice elems spare => uptoBulkAll elems + uptoBulkAll spare + 1
  | .agg parts => uptoBulkAll parts + 1
  | .iface _ d => uptoBulk d + 1
  | .map entries => uptoBulkEntries entries + 1
  | .held _ => 1
def uptoBulkAll {H : Type} : List (DataW H) → Nat
  | [] => 0
  | d :: r => uptoBulk d + uptoBulkAll r
def uptoBulkEntries {H : Type} : List (Lit × DataW H) → Nat
  | [] => 0
  | x :: r => uptoBulkEntry x + uptoBulkEntries r
def uptoBulkEntry {H : Type} : Lit × DataW H → Nat
  | (.string bytes, d) => bytes.length + uptoBulk d + 1
  | (_, d) => uptoBulk d + 1
 end
def uptoSmall : (H : Type) → List (DataW H) → Bool := fun _ ds => decide (uptoBulkAll ds ≤ 1048576)
def OpenSpec.upto (s : _root_.Go.ChangeSpec) : _root_.Go.OpenSpec := { _root_.Go.OpenSpec.ofChange s with cond := some uptoSmall }

/-- 'delverlaw05.LayoutExact', WHERE WHAT IT READS IS OF BULK AT MOST 1048576: true; the input reads as it did. -/
def layoutExactUptoRow : OpenClaim := { program := "ytjlappamkfjlkaagreatdoor", sum := "4216d2f0d2916d74915934279c6d0188fe91f4ecf99c2c2d9a6848b699ee6244", func := "delver/delverlaw05.LayoutExact", spec := "layoutExact", inPlace := ["sync/atomic.LoadUint32", "(*internal/sync.Mutex).Lock", "internal/race.Disable", "sync/atomic.CompareAndSwapInt32", "internal/race.Enable", "internal/race.Acquire", "(*internal/sync.Mutex).lockSlow", "internal/sync.runtime_canSpin", "internal/sync.runtime_doSpin", "internal/sync.throw", "internal/sync.runtime_nanotime", "internal/sync.runtime_SemacquireMutex", "sync/atomic.AddInt32", "(*internal/sync.Mutex).Unlock", "internal/race.ReleaseMerge", "(*internal/sync.Mutex).unlockSlow", "internal/sync.fatal", "internal/sync.runtime_Semrelease", "sync/atomic.StoreUint32"], unfollowed := true, recurses := true, named := ["delver/parse.kept", "delver/parse.words"], apart := false, laid := [("delver/parse.kept", laid_delver_parse_kept), ("delver/parse.words", laid_delver_parse_words)], narrowed := true }
def LayoutExactUptoSaid : Prop := layoutExactUptoRow.holds Tryz.pinned (OpenSpec.upto layoutExactSpec)

/-- 'delverlaw05.LayoutGrows', WHERE WHAT IT READS IS OF BULK AT MOST 1048576: true; the input reads as it did. -/
def layoutGrowsUptoRow : OpenClaim := { program := "ytjlappamkfjlkaagreatdoor", sum := "4216d2f0d2916d74915934279c6d0188fe91f4ecf99c2c2d9a6848b699ee6244", func := "delver/delverlaw05.LayoutGrows", spec := "layoutGrows", inPlace := ["sync/atomic.LoadUint32", "(*internal/sync.Mutex).Lock", "internal/race.Disable", "sync/atomic.CompareAndSwapInt32", "internal/race.Enable", "internal/race.Acquire", "(*internal/sync.Mutex).lockSlow", "internal/sync.runtime_canSpin", "internal/sync.runtime_doSpin", "internal/sync.throw", "internal/sync.runtime_nanotime", "internal/sync.runtime_SemacquireMutex", "sync/atomic.AddInt32", "(*internal/sync.Mutex).Unlock", "internal/race.ReleaseMerge", "(*internal/sync.Mutex).unlockSlow", "internal/sync.fatal", "internal/sync.runtime_Semrelease", "sync/atomic.StoreUint32"], unfollowed := true, recurses := true, named := ["delver/parse.kept", "delver/parse.words"], apart := false, laid := [("delver/parse.kept", laid_delver_parse_kept), ("delver/parse.words", laid_delver_parse_words)], narrowed := true }
def LayoutGrowsUptoSaid : Prop := layoutGrowsUptoRow.holds Tryz.pinned (OpenSpec.upto layoutGrowsSpec)

/-- 'delverlaw05.LayoutMethods', WHERE WHAT IT READS IS OF BULK AT MOST 1048576: true; the input reads as it did. -/
def layoutMethodsUptoRow : OpenClaim := { program := "ytjlappamkfjlkaagreatdoor", sum := "4216d2f0d2916d74915934279c6d0188fe91f4ecf99c2c2d9a6848b699ee6244", func := "delver/delverlaw05.LayoutMethods", spec := "layoutMethods", inPlace := ["sync/atomic.LoadUint32", "(*internal/sync.Mutex).Lock", "internal/race.Disable", "sync/atomic.CompareAndSwapInt32", "internal/race.Enable", "internal/race.Acquire", "(*internal/sync.Mutex).lockSlow", "internal/sync.runtime_canSpin", "internal/sync.runtime_doSpin", "internal/sync.throw", "internal/sync.runtime_nanotime", "internal/sync.runtime_SemacquireMutex", "sync/atomic.AddInt32", "(*internal/sync.Mutex).Unlock", "internal/race.ReleaseMerge", "(*internal/sync.Mutex).unlockSlow", "internal/sync.fatal", "internal/sync.runtime_Semrelease", "sync/atomic.StoreUint32"], unfollowed := true, recurses := true, named := ["delver/parse.kept", "delver/parse.words"], apart := false, laid := [("delver/parse.kept", laid_delver_parse_kept), ("delver/parse.words", laid_delver_parse_words)], narrowed := true }
def LayoutMethodsUptoSaid : Prop := layoutMethodsUptoRow.holds Tryz.pinned (OpenSpec.upto layoutMethodsSpec)

/-- 'delverlaw05.LayoutFaces', WHERE WHAT IT READS IS OF BULK AT MOST 1048576: true; the input reads as it did. -/
def layoutFacesUptoRow : OpenClaim := { program := "ytjlappamkfjlkaagreatdoor", sum := "4216d2f0d2916d74915934279c6d0188fe91f4ecf99c2c2d9a6848b699ee6244", func := "delver/delverlaw05.LayoutFaces", spec := "layoutFaces", inPlace := ["sync/atomic.LoadUint32", "(*internal/sync.Mutex).Lock", "internal/race.Disable", "sync/atomic.CompareAndSwapInt32", "internal/race.Enable", "internal/race.Acquire", "(*internal/sync.Mutex).lockSlow", "internal/sync.runtime_canSpin", "internal/sync.runtime_doSpin", "internal/sync.throw", "internal/sync.runtime_nanotime", "internal/sync.runtime_SemacquireMutex", "sync/atomic.AddInt32", "(*internal/sync.Mutex).Unlock", "internal/race.ReleaseMerge", "(*internal/sync.Mutex).unlockSlow", "internal/sync.fatal", "internal/sync.runtime_Semrelease", "sync/atomic.StoreUint32"], unfollowed := true, recurses := true, named := ["delver/parse.kept", "delver/parse.words"], apart := false, laid := [("delver/parse.kept", laid_delver_parse_kept), ("delver/parse.words", laid_delver_parse_words)], narrowed := true }
def LayoutFacesUptoSaid : Prop := layoutFacesUptoRow.holds Tryz.pinned (OpenSpec.upto layoutFacesSpec)

/-- 'delverlaw05.LayoutBent', WHERE WHAT IT READS IS OF BULK AT MOST 1048576: true; the input reads as it did. -/
def layoutBentUptoRow : OpenClaim := { program := "ytjlappamkfjlkaagreatdoor", sum := "4216d2f0d2916d74915934279c6d0188fe91f4ecf99c2c2d9a6848b699ee6244", func := "delver/delverlaw05.LayoutBent", spec := "layoutBent", inPlace := ["sync/atomic.LoadUint32", "(*internal/sync.Mutex).Lock", "internal/race.Disable", "sync/atomic.CompareAndSwapInt32", "internal/race.Enable", "internal/race.Acquire", "(*internal/sync.Mutex).lockSlow", "internal/sync.runtime_canSpin", "internal/sync.runtime_doSpin", "internal/sync.throw", "internal/sync.runtime_nanotime", "internal/sync.runtime_SemacquireMutex", "sync/atomic.AddInt32", "(*internal/sync.Mutex).Unlock", "internal/race.ReleaseMerge", "(*internal/sync.Mutex).unlockSlow", "internal/sync.fatal", "internal/sync.runtime_Semrelease", "sync/atomic.StoreUint32"], unfollowed := true, recurses := true, named := ["delver/parse.kept", "delver/parse.words"], apart := false, laid := [("delver/parse.kept", laid_delver_parse_kept), ("delver/parse.words", laid_delver_parse_words)], narrowed := true }
def LayoutBentUptoSaid : Prop := layoutBentUptoRow.holds Tryz.pinned (OpenSpec.upto layoutBentSpec)

/-- 'delverlaw05.LayoutStatics', WHERE WHAT IT READS IS OF BULK AT MOST 1048576: true; the input reads as it did. -/
def layoutStaticsUptoRow : OpenClaim := { program := "ytjlappamkfjlkaagreatdoor", sum := "4216d2f0d2916d74915934279c6d0188fe91f4ecf99c2c2d9a6848b699ee6244", func := "delver/delverlaw05.LayoutStatics", spec := "layoutStatics", inPlace := ["sync/atomic.LoadUint32", "(*internal/sync.Mutex).Lock", "internal/race.Disable", "sync/atomic.CompareAndSwapInt32", "internal/race.Enable", "internal/race.Acquire", "(*internal/sync.Mutex).lockSlow", "internal/sync.runtime_canSpin", "internal/sync.runtime_doSpin", "internal/sync.throw", "internal/sync.runtime_nanotime", "internal/sync.runtime_SemacquireMutex", "sync/atomic.AddInt32", "(*internal/sync.Mutex).Unlock", "internal/race.ReleaseMerge", "(*internal/sync.Mutex).unlockSlow", "internal/sync.fatal", "internal/sync.runtime_Semrelease", "sync/atomic.StoreUint32"], unfollowed := true, recurses := true, named := ["delver/parse.kept", "delver/parse.words"], apart := false, laid := [("delver/parse.kept", laid_delver_parse_kept), ("delver/parse.words", laid_delver_parse_words)], narrowed := true }
def LayoutStaticsUptoSaid : Prop := layoutStaticsUptoRow.holds Tryz.pinned (OpenSpec.upto layoutStaticsSpec)

end Rows
end Go.Proofs.YtjlappamkfjlkaaGreatDoor
