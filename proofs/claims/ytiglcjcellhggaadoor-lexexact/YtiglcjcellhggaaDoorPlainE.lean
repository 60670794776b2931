/- Digits without a bound, the sign's word, and what a word that begins with no sign is. No program is named here. -/
import Derived.Test.YtiglcjcellhggaaDoorPlain7
namespace Go.Proofs.YtiglcjcellhggaaDoor
namespace Lx
set_option linter.unusedVariables false
set_option linter.unusedSimpArgs false

def valGo : List UInt8 → Nat → Option Nat
  | [], n => some n
  | c :: r, n => if dig c = true then valGo r (n * 10 + (c.toNat - 48)) else none
def capB (m : Nat) : Option Nat := if 2147483648 < m then none else some m
theorem valGo_ge : ∀ (l : List UInt8) (n m : Nat), valGo l n = some m → n * 10 ^ l.length ≤ m
  | [], n, m, h => by simp [valGo] at h; simp [h]
  | c :: r, n, m, h => by
    rw [valGo] at h
    by_cases hd : dig c = true
    · rw [if_pos hd] at h
      have h1 := valGo_ge r _ m h
      rw [List.length_cons, Nat.pow_succ]
      have h2 : n * (10 ^ r.length * 10) ≤ (n * 10 + (c.toNat - 48)) * 10 ^ r.length := by
        rw [Nat.add_mul, Nat.mul_comm (10 ^ r.length) 10, ← Nat.mul_assoc]; exact Nat.le_add_right _ _
      exact Nat.le_trans h2 h1
    · rw [if_neg hd] at h; cases h
theorem valGo_mono (l : List UInt8) (n m : Nat) (h : valGo l n = some m) : n ≤ m :=
  Nat.le_trans (Nat.le_mul_of_pos_right n (Nat.pow_pos (by decide))) (valGo_ge l n m h)
theorem sizeGo_val : ∀ (l : List UInt8) (n : Nat), n ≤ 2147483648 → sizeGo l n = (valGo l n).bind capB
  | [], n, h => by rw [sizeGo, valGo, Option.bind_some, capB, if_neg (by omega)]
  | c :: r, n, h => by
    rw [sizeGo, valGo]
    by_cases hd : dig c = true
    · rw [if_pos hd, if_pos hd]
      by_cases hb : 2147483648 < n * 10 + (c.toNat - 48)
      · rw [if_pos hb]
        cases e : valGo r (n * 10 + (c.toNat - 48)) with
        | none => rfl
        | some m =>
          have := valGo_mono _ _ _ e
          rw [Option.bind_some, capB, if_pos (by omega)]
      · rw [if_neg hb, sizeGo_val r _ (by omega)]
    · rw [if_neg hd, if_neg hd]; rfl
theorem valGo_pos (c : UInt8) (r : List UInt8) (m : Nat) (h : valGo (c :: r) 0 = some m) (h0 : c.toNat ≠ 48) : 10 ^ r.length ≤ m := by
  rw [valGo] at h
  by_cases hd : dig c = true
  · rw [if_pos hd] at h
    have hb := dig_bounds hd
    have h1 := valGo_ge r _ m h
    have h2 : 1 * 10 ^ r.length ≤ (0 * 10 + (c.toNat - 48)) * 10 ^ r.length := Nat.mul_le_mul_right _ (by omega)
    rw [Nat.one_mul] at h2
    exact Nat.le_trans h2 h1
  · rw [if_neg hd] at h; cases h
theorem sizeL_long (l : List UInt8) (h : 10 < l.length) : sizeL l = none := by
  cases l with
  | nil => rfl
  | cons c r =>
    rw [sizeL]
    by_cases hc : c.toNat = 48 ∧ r ≠ []
    · rw [if_pos hc]
    · rw [if_neg hc, sizeGo_val _ 0 (by omega)]
      simp only [List.length_cons] at h
      have hr : r ≠ [] := fun e => by rw [e] at h; simp at h
      cases e : valGo (c :: r) 0 with
      | none => rfl
      | some m =>
        have h1 := valGo_pos c r m e (fun x => hc ⟨x, hr⟩)
        have h2 : 10 ^ 10 ≤ 10 ^ r.length := Nat.pow_le_pow_right (by decide) (by omega)
        rw [Option.bind_some, capB, if_pos (by omega)]
theorem sizeL_val (s : ByteArray) (h : 0 < s.size) (hz : ¬ (s[0].toNat = 48 ∧ 1 < s.size)) : sizeL s.data.toList = (valGo s.data.toList 0).bind capB := by
  rw [sizeL_cons s h, if_neg hz, sizeGo_val _ 0 (by omega)]
theorem valGo_one (s : ByteArray) (h : 0 < s.size) (h0 : s[0].toNat ≠ 48) (m : Nat) (hv : valGo s.data.toList 0 = some m) : 1 ≤ m := by
  have hc := drop_cons s 0 h
  simp only [List.drop_zero] at hc
  rw [hc] at hv
  exact Nat.le_trans (Nat.pow_pos (by decide)) (valGo_pos _ _ m hv h0)
theorem valGo_step (s : ByteArray) (k : Nat) (h : k < s.size) (n : Nat) (hd : dig s[k] = true) : valGo (s.data.toList.drop k) n = valGo (s.data.toList.drop (k + 1)) (n * 10 + (s[k].toNat - 48)) := by
  rw [drop_cons s k h, valGo, if_pos hd]
theorem valGo_bad (s : ByteArray) (k : Nat) (h : k < s.size) (n : Nat) (hd : dig s[k] = false) : valGo (s.data.toList.drop k) n = none := by
  rw [drop_cons s k h, valGo, if_neg (by simp [hd])]
theorem valGo_end (s : ByteArray) (k : Nat) (h : ¬ k < s.size) (n : Nat) : valGo (s.data.toList.drop k) n = some n := by
  rw [List.drop_eq_nil_of_le (by simp; omega)]; rfl
theorem numL_zero (s : ByteArray) (h : 0 < s.size) (h45 : s[0].toNat = 45) (T : ByteArray) (hT : T = s.extract 1 s.size) (h1 : 0 < T.size) (h48 : T[0].toNat = 48) : numL s.data.toList = none := by
  subst hT
  rw [numL_neg s h h45, sizeL_cons _ h1]
  generalize s.extract 1 s.size = T at *
  by_cases h2 : 1 < T.size
  · rw [if_pos ⟨h48, h2⟩]; rfl
  · rw [if_neg (fun x => h2 x.2)]
    have hc := drop_cons T 0 h1
    simp only [List.drop_zero] at hc
    rw [hc, List.drop_eq_nil_of_le (by simp; omega), sizeGo]
    rw [h48]
    split <;> rfl

theorem sgnE_plain : ∀ n : Nat, n < 256 → sgnI (n : Int) = true → inwI (n : Int) = false ∧ digI (n : Int) = false ∧ n ≠ 45 := by decide +kernel
theorem tokOfE_sgn (c : UInt8) (p : Nat) (h : sgn c = true) : tokOf [c] p = some ⟨3, [c], 0, p⟩ := by
  obtain ⟨h1, h2, h3⟩ := sgnE_plain c.toNat c.toNat_lt h
  have a1 : inw c = false := h1
  have a2 : dig c = false := h2
  have n1 : nameL [c] = false := by simp [nameL, a1]
  have n2 : numL [c] = none := by
    rw [numL, if_neg h3, sizeL, if_neg (by simp), sizeGo, if_neg (by simp [a2])]; rfl
  simp [tokOf, n1, n2, signL, h]
theorem tokOfE_not (c : UInt8) (r : List UInt8) (p : Nat) (h : sgn c = false) : signL (wordOf (c :: r)) = false := by
  rw [wordOf]
  cases wordLen (c :: r) with
  | zero => rfl
  | succ n =>
    rw [List.take_succ_cons]
    cases hh : List.take n r with
    | nil => exact h
    | cons d q => rfl

end Lx
end Go.Proofs.YtiglcjcellhggaaDoor
