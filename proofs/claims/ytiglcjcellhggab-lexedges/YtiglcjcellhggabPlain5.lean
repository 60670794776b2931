/- A letter and a blank, again and again: what is scanned of them. No program is named here. -/
import Derived.Test.YtiglcjcellhggabPlain4
namespace Go.Proofs.Ytiglcjcellhggab
namespace Lx
set_option linter.unusedVariables false
set_option linter.unusedSimpArgs false

def alt (u : UInt8) : Nat → List UInt8
  | 0 => []
  | 1 => [u]
  | n + 2 => u :: 32 :: alt u n

theorem alt_len (u : UInt8) : ∀ n, (alt u n).length = n
  | 0 => rfl
  | 1 => rfl
  | n + 2 => by rw [alt, List.length_cons, List.length_cons, alt_len u n]
theorem alt_two (u : UInt8) : ∀ k, alt u (2 * k + 2) = alt u (2 * k) ++ [u, 32]
  | 0 => rfl
  | k + 1 => by
    rw [show 2 * (k + 1) + 2 = (2 * k + 2) + 2 from by omega, alt, alt_two u k, show 2 * (k + 1) = 2 * k + 2 from by omega, alt]
    rfl
theorem alt_take (u : UInt8) : ∀ n m, m ≤ n → (alt u n).take m = alt u m
  | n, 0, _ => rfl
  | 0, m + 1, h => by omega
  | 1, m + 1, h => by
    have : m = 0 := by omega
    subst this; rfl
  | n + 2, 1, _ => rfl
  | n + 2, m + 2, h => by
    rw [alt, List.take_succ_cons, List.take_succ_cons, alt_take u n m (by omega), alt]
theorem scan_alt (u : UInt8) (hu : inw u = true) (hn : nameL [u] = true) : ∀ (n f p : Nat) (acc : List Tok), n ≤ f → ∃ l, scanGo f (alt u n) p acc = (l, 0, 0) ∧ l.length = acc.length + (n + 1) / 2
  | 0, f, p, acc, h => ⟨acc, by cases f <;> rfl, by omega⟩
  | 1, f, p, acc, h => by
    obtain ⟨g, rfl⟩ : ∃ g, f = g + 1 := ⟨f - 1, by omega⟩
    obtain ⟨h1, h2, h3⟩ := inw_not u hu
    have hw : wordLen [u] = 1 := by
      rw [wordLen, if_neg (by rw [h2]; exact Bool.false_ne_true), if_neg h3, runLen_all _ (by simp [hu])]; rfl
    have ht : tokOf [u] p = some ⟨1, [u], 0, p⟩ := by rw [tokOf, if_pos hn]
    refine ⟨acc ++ [⟨1, [u], 0, p⟩], ?_, by simp⟩
    rw [alt, scanGo, if_neg (by rw [h1]; exact Bool.false_ne_true), wordOf, hw, List.take_succ_cons, List.take_zero, ht]
    show scanGo g [] _ _ = _
    cases g <;> rfl
  | n + 2, f, p, acc, h => by
    obtain ⟨g, rfl⟩ : ∃ g, f = g + 2 := ⟨f - 2, by omega⟩
    obtain ⟨h1, h2, h3⟩ := inw_not u hu
    have hw : wordLen (u :: 32 :: alt u n) = 1 := by
      rw [wordLen, if_neg (by rw [h2]; exact Bool.false_ne_true), if_neg h3, runLen, List.takeWhile_cons, if_pos hu, List.takeWhile_cons, if_neg (by decide)]; rfl
    have ht : tokOf [u] p = some ⟨1, [u], 0, p⟩ := by rw [tokOf, if_pos hn]
    obtain ⟨l, e, hl⟩ := scan_alt u hu hn n g (p + 2) (acc ++ [⟨1, [u], 0, p⟩]) (by omega)
    refine ⟨l, ?_, by rw [hl]; simp; omega⟩
    rw [alt, scanGo, if_neg (by rw [h1]; exact Bool.false_ne_true), wordOf, hw, List.take_succ_cons, List.take_zero, ht]
    show scanGo (g + 1) (32 :: alt u n) (p + 1) _ = _
    rw [scanGo, if_pos (by decide)]
    exact e
theorem scanL_alt (u : UInt8) (hu : inw u = true) (hn : nameL [u] = true) (n : Nat) (h : n ≤ 6000) : ∃ l, scanL (alt u n) = (l, 0, 0) ∧ l.length = (n + 1) / 2 := by
  obtain ⟨l, e, hl⟩ := scan_alt u hu hn n n 0 [] (Nat.le_refl _)
  exact ⟨l, by rw [scanL, alt_len, if_neg (by omega)]; exact e, by simpa using hl⟩
theorem nameL_rep (u : UInt8) (hu : inw u = true) (hd : dig u = false) (k : Nat) (h1 : 1 ≤ k) (h2 : k ≤ 20) : nameL (List.replicate k u) = true := by
  apply (nameL_iff _).2
  refine ⟨by simpa using h1, by simpa using h2, ?_, by simp [hu]⟩
  obtain ⟨j, rfl⟩ : ∃ j, k = j + 1 := ⟨k - 1, by omega⟩
  rw [List.replicate_succ, List.getD_cons_zero]; exact hd
theorem nameL_rep21 (u : UInt8) : nameL (List.replicate 20 u ++ [97]) = false := by
  apply nameL_no
  rintro ⟨_, h, _⟩
  simp at h
theorem low_plain : ∀ n : Nat, n < 256 → 97 ≤ n → n ≤ 122 → inwI (n : Int) = true ∧ digI (n : Int) = false := by decide +kernel
theorem low_inw (u : UInt8) (h1 : 97 ≤ u.toNat) (h2 : u.toNat ≤ 122) : inw u = true ∧ dig u = false := low_plain u.toNat u.toNat_lt h1 h2

end Lx
end Go.Proofs.Ytiglcjcellhggab
