/- The table of powers as the rows list it; rows of ints that came in. -/
import Derived.Test.YtpngpkbnhepleaaDoorDoorP
import Derived.Test.YtpngpkbnhepleaaDoorJoinA
namespace Go.Proofs.YtpngpkbnhepleaaDoor
open Go.ChangeShapes Go.WideShapes Go.ChangeAt Go.RowKit
set_option linter.unusedVariables false
set_option linter.unusedSimpArgs false

theorem gTabType : (Tryd.prog.globals[3]?).map (·.type) = some 127 := by kernel_rfl
theorem cellsPow : Tryd.prog.cellsOf 127 = 20 := by kernel_rfl
theorem elemPow : ∃ e, Tryd.prog.underlying 127 = some (.array 20 e) ∧ Tryd.prog.underlying e = some (.int .u64) ∧ Tryd.prog.cellsOf e = 1 := ⟨_, Tryd.underlying127, by kernel_rfl, by kernel_rfl⟩
theorem powData : (Rows.laid_internal_strconv_uint64pow10 : DataW Unit) = Lib.tabData .u64 Lib.pow10Tab := by kernel_rfl
theorem tabPow {W : World} {laid : List (String × DataW Unit)} (h : laidMetH Tryd.prog laid W) (e1 : (laid.filter fun x => x.1 == "internal/strconv.uint64pow10") = [("internal/strconv.uint64pow10", Rows.laid_internal_strconv_uint64pow10)]) : Tab W := by
  have h1 := h.filter fun x => x.1 == "internal/strconv.uint64pow10"
  rw [e1, powData] at h1
  have h2 : laidMet Tryd.prog [("internal/strconv.uint64pow10", Lib.tabData .u64 Lib.pow10Tab)] W := h1
  obtain ⟨e, ht, he, hc⟩ := elemPow
  exact Lib.tabIs_of_head (rest := []) gTab gTabType ht he hc cellsPow h2
def IsRow (k : IntKind) (w : World) (a : Option Addr) (len cap : Nat) (zs : List Int) : Prop :=
  (a = none ∧ len = 0 ∧ cap = 0 ∧ zs = []) ∨
  ∃ x, a = some x ∧ len ≤ cap ∧ cap ≤ maxLen ∧ zs.length = cap ∧ (∀ i, i < zs.length → w.cell? (x.add i) = some (.int k (zs.getD i 0))) ∧ ∀ n ∈ zs, (Lit.int k n).wf = true

end Go.Proofs.YtpngpkbnhepleaaDoor
