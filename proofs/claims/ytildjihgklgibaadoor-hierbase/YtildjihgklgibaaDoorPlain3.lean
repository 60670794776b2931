/- The words of a text, one by one. No program is named here. -/
import Derived.Test.YtildjihgklgibaaDoorPlain2
namespace Go.Proofs.YtildjihgklgibaaDoor
namespace Lx
set_option linter.unusedVariables false
set_option linter.unusedSimpArgs false

structure Tok where
  kind : Int
  text : List UInt8
  num : Int
  pos : Nat

def tokOf (l : List UInt8) (p : Nat) : Option Tok :=
  if nameL l = true then some ⟨1, l, 0, p⟩ else
    match numL l with
    | some n => some ⟨2, [], n, p⟩
    | none => if signL l = true then some ⟨3, l, 0, p⟩ else none

def wordOf (l : List UInt8) : List UInt8 := l.take (wordLen l)

def scanGo : Nat → List UInt8 → Nat → List Tok → List Tok × Nat × Nat
  | 0, _, _, acc => (acc, 0, 0)
  | _ + 1, [], _, acc => (acc, 0, 0)
  | f + 1, c :: r, p, acc =>
    if blk c = true then scanGo f r (p + 1) acc else
      match tokOf (wordOf (c :: r)) p with
      | none => ([], p, 3)
      | some t => scanGo f ((c :: r).drop (wordLen (c :: r))) (p + wordLen (c :: r)) (acc ++ [t])

def scanL (bs : List UInt8) : List Tok × Nat × Nat := if 6000 < bs.length then ([], 0, 2) else scanGo bs.length bs 0 []

theorem scanGo_end (bs : List UInt8) (k f : Nat) (acc : List Tok) (h : ¬ k < bs.length) : scanGo f (bs.drop k) k acc = (acc, 0, 0) := by
  rw [List.drop_eq_nil_of_le (by omega)]; cases f <;> rfl
theorem scanGo_blk (bs : List UInt8) (k f : Nat) (acc : List Tok) (h : k < bs.length) (hb : blk (bs.getD k 0) = true) : scanGo (f + 1) (bs.drop k) k acc = scanGo f (bs.drop (k + 1)) (k + 1) acc := by
  rw [drop_at bs k h, scanGo, if_pos hb]
theorem scanGo_none (bs : List UInt8) (k f : Nat) (acc : List Tok) (h : k < bs.length) (hb : blk (bs.getD k 0) = false) (ht : tokOf (wordOf (bs.drop k)) k = none) : scanGo (f + 1) (bs.drop k) k acc = ([], k, 3) := by
  rw [drop_at bs k h] at ht ⊢
  rw [scanGo, if_neg (by rw [hb]; exact Bool.false_ne_true), ht]
theorem scanGo_some (bs : List UInt8) (k f : Nat) (acc : List Tok) (t : Tok) (h : k < bs.length) (hb : blk (bs.getD k 0) = false) (ht : tokOf (wordOf (bs.drop k)) k = some t) :
    scanGo (f + 1) (bs.drop k) k acc = scanGo f (bs.drop (k + wordLen (bs.drop k))) (k + wordLen (bs.drop k)) (acc ++ [t]) := by
  rw [← List.drop_drop, drop_at bs k h] at *
  rw [scanGo, if_neg (by rw [hb]; exact Bool.false_ne_true), ht]
theorem tokOf_nil (p : Nat) : tokOf [] p = none := rfl
theorem wordLen_pos (l : List UInt8) (p : Nat) (t : Tok) (h : tokOf (wordOf l) p = some t) : 0 < wordLen l := by
  rcases Nat.eq_zero_or_pos (wordLen l) with h0 | h0
  · rw [wordOf, h0, List.take_zero, tokOf_nil] at h; cases h
  · exact h0

end Lx
end Go.Proofs.YtildjihgklgibaaDoor
