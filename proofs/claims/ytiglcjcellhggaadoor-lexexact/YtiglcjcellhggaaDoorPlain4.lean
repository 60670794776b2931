/- Names: their beginnings, what stands behind them, what is scanned of one. No program is named here. -/
import Derived.Test.YtiglcjcellhggaaDoorPlain3
namespace Go.Proofs.YtiglcjcellhggaaDoor
namespace Lx
set_option linter.unusedVariables false
set_option linter.unusedSimpArgs false

theorem nameL_iff (l : List UInt8) : nameL l = true ↔ 1 ≤ l.length ∧ l.length ≤ 20 ∧ dig (l.getD 0 0) = false ∧ l.all inw = true := by
  cases l with
  | nil => simp [nameL]
  | cons c r =>
    simp only [nameL, Bool.and_eq_true, decide_eq_true_eq, Bool.not_eq_true', List.length_cons, List.getD_cons_zero]
    constructor
    · rintro ⟨⟨h1, h2⟩, h3⟩; exact ⟨by omega, by omega, h2, h3⟩
    · rintro ⟨_, h1, h2, h3⟩; exact ⟨⟨by omega, h2⟩, h3⟩
theorem nameL_no (l : List UInt8) (h : ¬ (1 ≤ l.length ∧ l.length ≤ 20 ∧ dig (l.getD 0 0) = false ∧ l.all inw = true)) : nameL l = false := by
  rw [← Bool.not_eq_true, nameL_iff]; exact h
theorem nameL_blank (l : List UInt8) : nameL (l ++ [32]) = false := by
  apply nameL_no
  rintro ⟨_, _, _, h⟩
  rw [all_snoc] at h
  simp [show inw 32 = false from rfl] at h
theorem nameL_take (l : List UInt8) (h : nameL l = true) (n : Nat) (h1 : 1 ≤ n) (h2 : n ≤ l.length) : nameL (l.take n) = true := by
  obtain ⟨a, b, c, d⟩ := (nameL_iff l).1 h
  apply (nameL_iff _).2
  refine ⟨by simp; omega, by simp; omega, ?_, ?_⟩
  · rw [← c]; simp [List.getD, show 0 < n from h1]
  · rw [List.all_eq_true] at d ⊢
    exact fun x hx => d x (List.mem_of_mem_take hx)
theorem nameL_digit (l : List UInt8) (h : nameL l = true) : nameL (l ++ [55]) = decide (l.length < 20) := by
  obtain ⟨a, b, c, d⟩ := (nameL_iff l).1 h
  by_cases hl : l.length < 20
  · rw [decide_eq_true hl]
    apply (nameL_iff _).2
    refine ⟨by simp, by simp; omega, ?_, ?_⟩
    · rw [← c]
      cases l with
      | nil => simp at a
      | cons x r => rfl
    · rw [all_snoc, d]; rfl
  · rw [decide_eq_false hl]
    apply nameL_no
    rintro ⟨_, h2, _⟩
    simp at h2; omega
theorem nameL_seven (l : List UInt8) : nameL (55 :: l) = false := by
  apply nameL_no
  rintro ⟨_, _, h, _⟩
  simp [show dig 55 = true from rfl] at h
theorem inw_plain : ∀ n : Nat, n < 256 → inwI (n : Int) = true → blkI (n : Int) = false ∧ sgnI (n : Int) = false ∧ n ≠ 45 := by decide +kernel
theorem inw_not (u : UInt8) (h : inw u = true) : blk u = false ∧ sgn u = false ∧ u.toNat ≠ 45 := inw_plain u.toNat u.toNat_lt h
theorem takeWhile_all (p : UInt8 → Bool) : ∀ l : List UInt8, l.all p = true → l.takeWhile p = l
  | [], _ => rfl
  | c :: r, h => by
    simp only [List.all_cons, Bool.and_eq_true] at h
    rw [List.takeWhile_cons, if_pos h.1, takeWhile_all p r h.2]
theorem runLen_all (l : List UInt8) (h : l.all inw = true) : runLen l = l.length := by
  rw [runLen, takeWhile_all inw l h]
theorem scanL_name (l : List UInt8) (h : nameL l = true) : scanL l = ([⟨1, l, 0, 0⟩], 0, 0) := by
  obtain ⟨a, b, c, d⟩ := (nameL_iff l).1 h
  rw [scanL, if_neg (by omega)]
  cases l with
  | nil => simp at a
  | cons x r =>
    have hx : inw x = true := by simp only [List.all_cons, Bool.and_eq_true] at d; exact d.1
    obtain ⟨h1, h2, h3⟩ := inw_not x hx
    have hw : wordLen (x :: r) = (x :: r).length := by
      rw [wordLen, if_neg (by rw [h2]; exact Bool.false_ne_true), if_neg h3, runLen_all _ d]
    have hwo : wordOf (x :: r) = x :: r := by rw [wordOf, hw, List.take_length]
    rw [List.length_cons, scanGo, if_neg (by rw [h1]; exact Bool.false_ne_true), hwo, hw, List.drop_length]
    have ht : tokOf (x :: r) 0 = some ⟨1, x :: r, 0, 0⟩ := by rw [tokOf, if_pos h]
    rw [ht]
    show scanGo r.length [] _ ([] ++ [_]) = _
    cases r.length <;> rfl

end Lx
end Go.Proofs.YtiglcjcellhggaaDoor
