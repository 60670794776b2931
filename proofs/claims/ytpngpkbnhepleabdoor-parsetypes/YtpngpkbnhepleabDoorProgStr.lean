/- Program over a text that was a string. -/
import Derived.Test.YtpngpkbnhepleabDoorWakes2
import Derived.Lib.ConvBytes
namespace Go.Proofs.YtpngpkbnhepleabDoor
open Go.RowKit
set_option linter.unusedVariables false
set_option linter.unusedSimpArgs false

theorem mod_range (n : Int) (c : Nat) (hc : 0 < c) (hc2 : c ≤ 1000) : ∃ m : Nat, m < c ∧ wrap64 ((IntKind.u64.wrap n).tmod (c : Int)) = (m : Int) := by
  have h0 : 0 ≤ IntKind.u64.wrap n := by
    rw [IntKind.wrap_u64]; omega
  generalize IntKind.u64.wrap n = u at h0
  have h1 : 0 ≤ u.tmod (c : Int) := Int.tmod_nonneg _ h0
  have h2 : u.tmod (c : Int) < (c : Int) := Int.tmod_lt_of_pos _ (by omega)
  generalize u.tmod (c : Int) = r at h1 h2
  refine ⟨r.toNat, by omega, ?_⟩
  unfold wrap64; omega
theorem Program_str (w : World) (ht : TabS w) (s : ByteArray) (hs : s.size ≤ 6000) :
    Calls Tryd.prog 6 #[.slice (some ⟨w.heap.size, 0, none⟩) s.size (grownCap w s.size 0 5)] (Lib.bytesWorld w 5 s) fun e w' => ∃ a c, e = .returned (.tuple #[.agg #[.slice a (Pp.program s.data.toList).1.length c], .int .i64 ((Pp.program s.data.toList).2.1 : Int), .int .i64 (Pp.program s.data.toList).2.2]) ∧ Below w.heap.size w w' := by
  have hb : Below w.heap.size w (Lib.bytesWorld w 5 s) := ⟨rfl, rfl, rfl, by rw [Lib.bytesWorld_size]; omega, fun k hk => Lib.bytesWorld_at_old w 5 s k hk⟩
  have hsc : Scans (Lib.bytesWorld w 5 s) (.slice (some ⟨w.heap.size, 0, none⟩) s.size (grownCap w s.size 0 5)) s.data.toList := by
    have h := scans_of (Lib.bytesWorld w 5 s) s.data.toList w.heap.size 0 (grownCap w s.size 0 5) (by rw [Lx.toList_len]; exact hs) (by rw [Lx.toList_len]; exact grownCap_ge _ _ _ _) (by rw [Lib.bytesWorld_size]; omega) (fun k hk => by rw [Nat.zero_add, Lib.bytesWorld_cell _ _ _ _ (by rw [← Lx.toList_len]; exact hk)])
    rw [Lx.toList_len] at h
    exact h
  refine (Program_any hsc (Lx.toList_len s).symm (by unfold maxLen; omega) (ht.below hb)).mono fun e w' ⟨v, h1, h2, h3⟩ => ?_
  obtain ⟨a, c, rfl⟩ := h2.shape
  exact ⟨a, c, h1, hb.trans (h3.mono (by rw [Lib.bytesWorld_size]; omega))⟩
end Go.Proofs.YtpngpkbnhepleabDoor
