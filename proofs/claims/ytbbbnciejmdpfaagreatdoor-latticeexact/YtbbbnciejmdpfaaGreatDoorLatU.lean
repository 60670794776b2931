/- What fits, the same on both sides, whatever the types. -/
import Derived.Test.YtbbbnciejmdpfaaGreatDoorLatT
set_option maxRecDepth 100000
set_option maxHeartbeats 64000000
set_option linter.unusedVariables false
set_option linter.unusedSimpArgs false
namespace Go.Proofs.YtbbbnciejmdpfaaGreatDoor
open Go.RowKit
namespace Lx
open Pp Hr
theorem fitsX_P {cs : List XCls} (he : Ly.layE cs = 0) {a b : Ty} : fitsX cs a b = fitsP cs a.kind b.kind a.name b.name := by
 unfold fitsX fitsP
 have hl : lookOk cs [a, b] = (rightL (allL cs) a.kind a.name && rightL (allL cs) b.kind b.name) := by
  unfold lookOk allR; rw [he]; simp
 rw [hl]; cases ha : rightL (allL cs) a.kind a.name with
 | false => rfl
 | true =>
   cases hb : rightL (allL cs) b.kind b.name with
   | false => rfl
   | true =>
     simp only [Bool.true_and]; exact (fits_eq (lay_err he) ha hb).symm
end Lx
end Go.Proofs.YtbbbnciejmdpfaaGreatDoor
