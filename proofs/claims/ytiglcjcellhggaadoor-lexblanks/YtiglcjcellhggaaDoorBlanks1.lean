/- Blanks ahead of each word: small facts for the walk. -/
import Derived.Test.YtiglcjcellhggaaDoorCompare
import Derived.Lib.ConvBytes
namespace Go.Proofs.YtiglcjcellhggaaDoor
namespace Lx
set_option linter.unusedVariables false
set_option linter.unusedSimpArgs false

theorem textOf_snoc : ∀ (ts : List ATok) (b g l : List UInt8) (t : ATok), TextOf ts b → g.all blk = true → g ≠ [] → wordA t = some l → TextOf (ts ++ [t]) (b ++ (g ++ l))
  | [], b, g, l, t, h, hg, hne, hw => by
    have hb : b = [] := h
    subst hb
    exact ⟨g, l, [], by simp, hg, hw, rfl, .inl rfl⟩
  | x :: ts, b, g, l, t, h, hg, hne, hw => by
    obtain ⟨g0, l0, b', rfl, hg0, hw0, ht, ha⟩ := h
    refine ⟨g0, l0, b' ++ (g ++ l), by simp, hg0, hw0, textOf_snoc ts b' g l t ht hg hne hw, Ahead_app b' _ ha ?_⟩
    cases g with
    | nil => exact absurd rfl hne
    | cons c r =>
      simp only [List.all_cons, Bool.and_eq_true] at hg
      exact .inr ⟨c, r ++ l, rfl, hg.1⟩
theorem joinL_one (t : ATok) : joinL [t] = wordA t := by
  rw [joinL, joinGo]
  cases wordA t with
  | none => rfl
  | some l => rfl
def bl (q : Nat) : UInt8 := [32, 9, 10, 13].getD q 0
theorem bl_blk : ∀ q, q < 4 → blk (bl q) = true := by decide +kernel
theorem take_snocA (ts : List ATok) (k : Nat) (t : ATok) (h : ts[k]? = some t) : ts.take (k + 1) = ts.take k ++ [t] := by
  rw [List.take_add_one, h]; rfl

end Lx
open Go.RowKit
theorem pick5 (n : Int) : ∃ m : Nat, 1 ≤ m ∧ m ≤ 5 ∧ wrap64 (1 + wrap64 ((IntKind.u64.wrap n).tmod 5)) = (m : Int) := by
  have h0 : 0 ≤ IntKind.u64.wrap n := by
    simp only [IntKind.wrap, IntKind.bits, IntKind.signed]
    simp
    exact Int.emod_nonneg _ (by decide)
  generalize IntKind.u64.wrap n = u at h0
  have h1 : 0 ≤ u.tmod 5 := Int.tmod_nonneg _ h0
  have h2 : u.tmod 5 < 5 := Int.tmod_lt_of_pos _ (by omega)
  generalize u.tmod 5 = r at h1 h2
  refine ⟨(1 + r).toNat, by omega, by omega, ?_⟩
  have e1 : wrap64 r = r := wrap64_id r (by omega)
  have e2 : wrap64 (1 + r) = 1 + r := wrap64_id _ (by omega)
  rw [e1, e2]; omega
theorem conv_own (l : List UInt8) (w : World) (g cap : Nat) (h : ∀ j u, (l.map byteV)[j]? = some u → w.cell? ⟨g, j, none⟩ = some u) (c : Nat) :
    (convert 22 9 (.slice (some ⟨g, 0, none⟩) l.length c)).run Tryd.prog w = .ok (.string ⟨l.toArray⟩) w := by
  have := conv_bytes l w g 0 cap (fun k hk => by rw [Nat.zero_add]; apply h; simp [List.getD, hk, byteV]) 0 l.length c (by omega)
  simpa using this
theorem toksAt_one {w : World} {b off k : Nat} {ts : List Lx.ATok} {t : Lx.ATok} (h : ToksAt w b off ts) (hk : ts[k]? = some t) : ToksAt w b (off + k * 4) [t] := by
  intro j x hx
  have hj : j = 0 := by
    cases j with
    | zero => rfl
    | succ j => simp at hx
  subst hj
  simp at hx
  subst hx
  simpa using h k t hk

end Go.Proofs.YtiglcjcellhggaaDoor
