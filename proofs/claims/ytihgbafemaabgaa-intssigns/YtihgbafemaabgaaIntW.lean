/- What every statement begins with. -/
import Derived.Test.YtihgbafemaabgaaIntA
namespace Go.Proofs.Ytihgbafemaabgaa
open Go.RowKit
set_option linter.unusedVariables false
set_option linter.unusedSimpArgs false

set_option maxRecDepth 100000 in
set_option maxHeartbeats 400000 in
theorem wakes_any (w : World) :
    Calls Try.prog 18 #[] w fun e w' => e = .returned (.bool true) ∧ w' = w := by
  go_enter Try.func18, Try.ntmps18
  go_wp2_with fail
  refine (Div_any _ _ _).mono ?_
  rintro e w1 ⟨rfl, rfl⟩
  rw [show Iz.divL (-2147483648) (-1) = (0, false) from by decide]
  go_wp2_with fail
  refine (Rem_any _ _ _).mono ?_
  rintro e w1 ⟨rfl, rfl⟩
  rw [show Iz.remL (-2147483648) (-1) = (0, true) from by decide]
  go_wp2_with fail
  refine (Add_any _ _ _).mono ?_
  rintro e w1 ⟨rfl, rfl⟩
  rw [show Iz.addL 2 3 = (5, true) from by decide]
  go_wp2_with fail
  refine (Fits_any _ _).mono ?_
  rintro e w1 ⟨rfl, rfl⟩
  rw [show Iz.fit 2147483647 = true from by decide]
  go_wp2_with fail
  refine (Fits_any _ _).mono ?_
  rintro e w1 ⟨rfl, rfl⟩
  rw [show Iz.fit 2147483648 = false from by decide]
  go_wp2_with fail
  go_ret
  exact ⟨rfl, rfl⟩

end Go.Proofs.Ytihgbafemaabgaa
