/- Words of a text: how long the word at a place is. No program is named here. -/
import Derived.Test.YtildjihgklgibaaDoorPlain
namespace Go.Proofs.YtildjihgklgibaaDoor
namespace Lx
set_option linter.unusedVariables false
set_option linter.unusedSimpArgs false

def runLen (l : List UInt8) : Nat := (l.takeWhile inw).length
def wordLen : List UInt8 → Nat
  | [] => 0
  | c :: r => if sgn c = true then 1 else if c.toNat = 45 then 1 + runLen r else runLen (c :: r)

theorem drop_at (bs : List UInt8) (k : Nat) (h : k < bs.length) : bs.drop k = bs.getD k 0 :: bs.drop (k + 1) := by
  rw [List.drop_eq_getElem_cons h]; simp [List.getD, h]
theorem runLen_in (bs : List UInt8) (k : Nat) (h : k < bs.length) (hi : inw (bs.getD k 0) = true) : runLen (bs.drop k) = 1 + runLen (bs.drop (k + 1)) := by
  rw [drop_at bs k h]; simp only [runLen, List.takeWhile_cons, hi, if_true, List.length_cons]; omega
theorem runLen_out (bs : List UInt8) (k : Nat) (h : k < bs.length) (hi : inw (bs.getD k 0) = false) : runLen (bs.drop k) = 0 := by
  rw [drop_at bs k h]; simp only [runLen, List.takeWhile_cons, hi]; rfl
theorem runLen_end (bs : List UInt8) (k : Nat) (h : ¬ k < bs.length) : runLen (bs.drop k) = 0 := by
  rw [List.drop_eq_nil_of_le (by omega)]; rfl
theorem wordLen_sgn (bs : List UInt8) (k : Nat) (h : k < bs.length) (hi : sgn (bs.getD k 0) = true) : wordLen (bs.drop k) = 1 := by
  rw [drop_at bs k h, wordLen, if_pos hi]
theorem wordLen_min (bs : List UInt8) (k : Nat) (h : k < bs.length) (hi : sgn (bs.getD k 0) = false) (h45 : (bs.getD k 0).toNat = 45) : wordLen (bs.drop k) = 1 + runLen (bs.drop (k + 1)) := by
  rw [drop_at bs k h, wordLen, if_neg (by rw [hi]; exact Bool.false_ne_true), if_pos h45]
theorem wordLen_run (bs : List UInt8) (k : Nat) (h : k < bs.length) (hi : sgn (bs.getD k 0) = false) (h45 : ¬ (bs.getD k 0).toNat = 45) : wordLen (bs.drop k) = runLen (bs.drop k) := by
  rw [drop_at bs k h, wordLen, if_neg (by rw [hi]; exact Bool.false_ne_true), if_neg h45]
theorem runLen_le (l : List UInt8) : runLen l ≤ l.length := by
  unfold runLen; exact (List.takeWhile_sublist _).length_le
theorem wordLen_le (l : List UInt8) : wordLen l ≤ l.length := by
  cases l with
  | nil => simp [wordLen]
  | cons c r =>
    rw [wordLen]
    have h1 := runLen_le r
    have h2 := runLen_le (c :: r)
    simp only [List.length_cons] at h2 ⊢
    split
    · omega
    · split <;> omega

end Lx
end Go.Proofs.YtildjihgklgibaaDoor
