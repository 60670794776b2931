/- The two tables of words stay. -/
import Derived.Test.YtdgfidaopkcjoaaGreatDoorRd
namespace Go.Proofs.YtdgfidaopkcjoaaGreatDoor
open Go.RowKit
theorem TabS.below {w w' : World} (h : TabS w) (hb : Below w.heap.size w w') : TabS w' := h.fr (S := []) (Fr.ofBelow hb) (fun x hx => by cases hx)
end Go.Proofs.YtdgfidaopkcjoaaGreatDoor
