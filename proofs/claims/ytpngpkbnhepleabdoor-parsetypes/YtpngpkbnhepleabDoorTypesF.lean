/- ParseTypes: the walk as a whole. -/
import Derived.Test.YtpngpkbnhepleabDoorTypesL
import Derived.Test.YtpngpkbnhepleabDoorTypesL0
namespace Go.Proofs.YtpngpkbnhepleabDoor
open Go.RowKit
set_option linter.unusedVariables false
set_option linter.unusedSimpArgs false

set_option maxHeartbeats 1000000 in
theorem types_none (x : Int) (s : ByteArray) (w : World) (hs : s.size ≤ maxLen) (h : Lx.nameL s.data.toList = false) :
    Calls Tryd.prog 5 #[.int .i64 x, .string s] w fun e w' => e = .returned (.bool true) ∧ Below w.heap.size w w' := by
  have hN := hide (refName_is s false h hs w)
  clear h
  go_enter Tryd.func5, Tryd.ntmps5
  go_wp2_with fail
  refine hN.out.mono ?_
  rintro e wq ⟨rfl, hwq⟩
  have hwq := hwq.symm
  subst hwq
  clear hN
  go_wp2_with fail
  go_ret
  exact ⟨rfl, Below.refl _ _⟩
set_option maxHeartbeats 1000000 in
theorem types_kept (x : Int) (s : ByteArray) (w : World) (hs : s.size ≤ maxLen) (h : Lx.nameL s.data.toList = true) (hk : Pp.keptL s.data.toList = true) :
    Calls Tryd.prog 5 #[.int .i64 x, .string s] w fun e w' => e = .returned (.bool true) ∧ Below w.heap.size w w' := by
  have hN := hide (refName_is s true h hs w)
  have hK0 := refKept_any s.data.toList w
  rw [hk] at hK0
  have hK : Hid (Calls Tryd.prog 10 #[.string s] w fun e w' => e = .returned (.bool true) ∧ Below w.heap.size w w') := hK0
  clear h hk hK0
  go_enter Tryd.func5, Tryd.ntmps5
  go_wp2_with fail
  refine hN.out.mono ?_
  rintro e wq ⟨rfl, hwq⟩
  have hwq := hwq.symm
  subst hwq
  clear hN
  go_wp2_with fail
  refine hK.out.mono ?_
  clear hK
  rintro e w1 ⟨rfl, hb1⟩
  go_wp2_with fail
  go_ret
  exact ⟨rfl, hb1⟩
theorem types_any (x : Int) (s : ByteArray) (w : World) (ht : TabS w) (hs : s.size ≤ maxLen) :
    Calls Tryd.prog 5 #[.int .i64 x, .string s] w fun e w' => e = .returned (.bool true) ∧ Below w.heap.size w w' := by
  cases hn : Lx.nameL s.data.toList with
  | false => exact types_none x s w hs hn
  | true =>
    cases hk : Pp.keptL s.data.toList with
    | true => exact types_kept x s w hs hn hk
    | false =>
      obtain ⟨k, hk5, hkx⟩ := mod_range x 5 (by omega) (by omega)
      have hkx' : wrap64 ((IntKind.u64.wrap x).tmod 5) = (k : Int) := hkx
      match k, hk5, hkx' with
      | 0, _, h => exact types_walk0 x s.data.toList w ht hn hk h
      | 1, _, h => exact types_walk1 x s.data.toList w ht hn hk h
      | 2, _, h => exact types_walk2 x s.data.toList w ht hn hk h
      | 3, _, h => exact types_walk3 x s.data.toList w ht hn hk h
      | 4, _, h => exact types_walk4 x s.data.toList w ht hn hk h

end Go.Proofs.YtpngpkbnhepleabDoor
