/- Where the words of a text stand. No program is named here. -/
import Derived.Test.YtiglcjcellhggaaDoorPlain6
namespace Go.Proofs.YtiglcjcellhggaaDoor
namespace Lx
set_option linter.unusedVariables false
set_option linter.unusedSimpArgs false

def ltrI (c : Int) : Bool := decide ((97 ≤ c ∧ c ≤ 122) ∨ (65 ≤ c ∧ c ≤ 90) ∨ c = 95)
def ltr (u : UInt8) : Bool := ltrI (u.toNat : Int)
theorem inw_let (u : UInt8) : inw u = (ltr u || dig u) := by
  rw [Bool.eq_iff_iff]; simp [inw, ltr, dig, inwI, ltrI, digI]; omega
theorem let_inw (u : UInt8) : ltr u = (!dig u && inw u) := by
  rw [Bool.eq_iff_iff]; simp [inw, ltr, dig, inwI, ltrI, digI]; omega

def tokW (t : Tok) : List UInt8 := if t.kind = 2 then intL t.num else t.text
def ValidT (t : Tok) : Prop :=
  (t.kind = 1 ∧ nameL t.text = true ∧ t.num = 0) ∨ (t.kind = 3 ∧ signL t.text = true ∧ t.num = 0) ∨ (t.kind = 2 ∧ t.text = [] ∧ -2147483648 ≤ t.num ∧ t.num ≤ 2147483647)
theorem tokOf_some (l : List UInt8) (p : Nat) (t : Tok) (h : tokOf l p = some t) : ValidT t ∧ tokW t = l ∧ t.pos = p := by
  unfold tokOf at h
  cases h1 : nameL l with
  | true =>
    simp [h1] at h; subst h
    exact ⟨.inl ⟨rfl, h1, rfl⟩, by simp [tokW], rfl⟩
  | false =>
    cases h2 : numL l with
    | some n =>
      simp [h1, h2] at h; subst h
      have hb := numL_le l n h2
      exact ⟨.inr (.inr ⟨rfl, rfl, hb.1, hb.2⟩), by simp [tokW, intL_of_numL l n h2], rfl⟩
    | none =>
      cases h3 : signL l with
      | true =>
        simp [h1, h2, h3] at h; subst h
        exact ⟨.inr (.inl ⟨rfl, h3, rfl⟩), by simp [tokW], rfl⟩
      | false => simp [h1, h2, h3] at h
def Placed (bs : List UInt8) : Nat → List Tok → Prop
  | _, [] => True
  | p, t :: r => p ≤ t.pos ∧ ValidT t ∧ tokW t ≠ [] ∧ t.pos + (tokW t).length ≤ bs.length ∧ (bs.drop t.pos).take (tokW t).length = tokW t ∧ Placed bs (t.pos + (tokW t).length) r
theorem Placed_mono (bs : List UInt8) (p q : Nat) (l : List Tok) (h : Placed bs q l) (hpq : p ≤ q) : Placed bs p l := by
  cases l with
  | nil => trivial
  | cons t r => exact ⟨Nat.le_trans hpq h.1, h.2⟩
theorem scanGo_placed (bs : List UInt8) : ∀ (f k : Nat) (acc l : List Tok) (a e : Nat), scanGo f (bs.drop k) k acc = (l, a, e) →
    (e = 0 ∧ a = 0 ∧ ∃ r, l = acc ++ r ∧ Placed bs k r) ∨ (e = 3 ∧ l = [] ∧ a ≤ bs.length)
  | 0, k, acc, l, a, e, h => by
    simp [scanGo] at h
    obtain ⟨rfl, rfl, rfl⟩ := h
    exact .inl ⟨rfl, rfl, [], by simp, trivial⟩
  | f + 1, k, acc, l, a, e, h => by
    by_cases hk : k < bs.length
    · cases hb : blk (bs.getD k 0) with
      | true =>
        rw [scanGo_blk bs k f acc hk hb] at h
        rcases scanGo_placed bs f (k + 1) acc l a e h with ⟨h1, h2, r, h3, h4⟩ | h1
        · exact .inl ⟨h1, h2, r, h3, Placed_mono bs k (k + 1) r h4 (by omega)⟩
        · exact .inr h1
      | false =>
        cases ht : tokOf (wordOf (bs.drop k)) k with
        | none =>
          rw [scanGo_none bs k f acc hk hb ht] at h
          simp at h
          obtain ⟨rfl, rfl, rfl⟩ := h
          exact .inr ⟨rfl, rfl, by omega⟩
        | some t =>
          have hp := wordLen_pos _ k t ht
          have hle := wordLen_le (bs.drop k)
          rw [List.length_drop] at hle
          rw [scanGo_some bs k f acc t hk hb ht] at h
          obtain ⟨hv, hw, hpos⟩ := tokOf_some _ _ _ ht
          have hwl : (tokW t).length = wordLen (bs.drop k) := by rw [hw, wordOf, List.length_take, List.length_drop]; omega
          rcases scanGo_placed bs f _ _ l a e h with ⟨h1, h2, r, h3, h4⟩ | h1
          · refine .inl ⟨h1, h2, t :: r, by rw [h3]; simp, by omega, hv, ?_, by omega, ?_, ?_⟩
            · intro x; rw [x] at hwl; simp at hwl; omega
            · rw [hwl, hpos, hw, wordOf]
            · rw [hwl, hpos]; exact h4
          · exact .inr h1
    · rw [scanGo_end bs k (f + 1) acc hk] at h
      simp at h
      obtain ⟨rfl, rfl, rfl⟩ := h
      exact .inl ⟨rfl, rfl, [], by simp, trivial⟩
theorem scanL_placed (bs : List UInt8) (hn : bs.length ≤ 6000) (l : List Tok) (a e : Nat) (h : scanL bs = (l, a, e)) : (e = 0 ∧ a = 0 ∧ Placed bs 0 l) ∨ (e = 3 ∧ l = [] ∧ a ≤ bs.length) := by
  rw [scanL, if_neg (by omega)] at h
  rcases scanGo_placed bs bs.length 0 [] l a e h with ⟨h1, h2, r, h3, h4⟩ | h1
  · exact .inl ⟨h1, h2, by rw [h3]; exact h4⟩
  · exact .inr h1
theorem scanGo_count (bs : List UInt8) : ∀ (f k : Nat) (acc l : List Tok) (a e : Nat), scanGo f (bs.drop k) k acc = (l, a, e) → k ≤ bs.length → acc.length ≤ k → l.length ≤ bs.length
  | 0, k, acc, l, a, e, h, hk, hac => by
    simp [scanGo] at h
    obtain ⟨rfl, rfl, rfl⟩ := h
    omega
  | f + 1, k, acc, l, a, e, h, hk', hac => by
    by_cases hk : k < bs.length
    · cases hb : blk (bs.getD k 0) with
      | true =>
        rw [scanGo_blk bs k f acc hk hb] at h
        exact scanGo_count bs f (k + 1) acc l a e h (by omega) (by omega)
      | false =>
        cases ht : tokOf (wordOf (bs.drop k)) k with
        | none =>
          rw [scanGo_none bs k f acc hk hb ht] at h
          simp at h
          obtain ⟨rfl, rfl, rfl⟩ := h
          simp
        | some t =>
          have hp := wordLen_pos _ k t ht
          have hle := wordLen_le (bs.drop k)
          rw [List.length_drop] at hle
          rw [scanGo_some bs k f acc t hk hb ht] at h
          exact scanGo_count bs f _ _ l a e h (by omega) (by simp; omega)
    · rw [scanGo_end bs k (f + 1) acc hk] at h
      simp at h
      obtain ⟨rfl, rfl, rfl⟩ := h
      omega
theorem scanL_count (bs : List UInt8) : (scanL bs).1.length ≤ bs.length := by
  rw [scanL]
  split
  · simp
  · exact scanGo_count bs bs.length 0 [] _ _ _ rfl (by omega) (by simp)

end Lx
end Go.Proofs.YtiglcjcellhggaaDoor
