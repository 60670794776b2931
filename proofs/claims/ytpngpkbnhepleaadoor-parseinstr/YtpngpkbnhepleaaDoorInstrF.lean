/- ParseInstr: the walk as a whole. -/
import Derived.Test.YtpngpkbnhepleaaDoorInstrLa
import Derived.Test.YtpngpkbnhepleaaDoorInstrLb
import Derived.Test.YtpngpkbnhepleaaDoorInstrLc
namespace Go.Proofs.YtpngpkbnhepleaaDoor
open Go.RowKit
set_option linter.unusedVariables false
set_option linter.unusedSimpArgs false

theorem mod_small (n : Int) (c : Nat) (hc : 0 < c) (hc2 : c ≤ 1000) : ∃ m : Nat, m < c ∧ wrap64 ((IntKind.u64.wrap n).tmod (c : Int)) = (m : Int) := by
  have h0 : 0 ≤ IntKind.u64.wrap n := by
    rw [IntKind.wrap_u64]; omega
  generalize IntKind.u64.wrap n = u at h0
  have h1 : 0 ≤ u.tmod (c : Int) := Int.tmod_nonneg _ h0
  have h2 : u.tmod (c : Int) < (c : Int) := Int.tmod_lt_of_pos _ (by omega)
  generalize u.tmod (c : Int) = r at h1 h2
  refine ⟨r.toNat, by omega, ?_⟩
  unfold wrap64; omega
theorem pinstr_any (x y : Int) (w : World) (ht : TabS w) :
    Calls Tryd.prog 8 #[.int .i64 x, .int .i64 y] w fun e w' => e = .returned (.bool true) ∧ Below w.heap.size w w' := by
  obtain ⟨op, hop, hox⟩ := mod_small x 44 (by omega) (by omega)
  have hox' : wrap64 ((IntKind.u64.wrap x).tmod 44) = (op : Int) := hox
  rcases Pp.shape_cases op with h | h | h | h | h | h
  · exact instr_w1 x y op hop h hox' w ht
  · obtain ⟨k, hk, hkx⟩ := mod_small y 8 (by omega) (by omega)
    exact instr_w2 x y k ⟨by omega, by omega⟩ hkx op hop h hox' w ht
  · obtain ⟨k, hk, hkx⟩ := mod_small y 48 (by omega) (by omega)
    exact instr_w3 x y k ⟨by omega, by omega⟩ hkx op hop h hox' w ht
  · exact instr_w4 x y op hop h hox' w ht
  · exact instr_w5 x y op hop h hox' w ht
  · exact instr_w0 x y op hop h hox' w ht

end Go.Proofs.YtpngpkbnhepleaaDoor
