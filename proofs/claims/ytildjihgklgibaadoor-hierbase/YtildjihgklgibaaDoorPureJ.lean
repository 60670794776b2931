/- Names: their beginnings, what stands behind them, what is scanned of one. No program is named here. Digits: what number they are, and back. No program is named here. Where the words of a text stand. No program is named here. Words of tokens, one behind the other, a blank between each two. No program is named here. Words with blanks between them are scanned again. No program is named here. -/
import Derived.Test.YtildjihgklgibaaDoorPlain3
import Derived.Lib.ItoaNum
namespace Go.Proofs.YtildjihgklgibaaDoor
namespace Lx
set_option linter.unusedVariables false
set_option linter.unusedSimpArgs false

theorem nameL_iff (l : List UInt8) : nameL l = true ↔ 1 ≤ l.length ∧ l.length ≤ 20 ∧ dig (l.getD 0 0) = false ∧ l.all inw = true := by
  cases l with
  | nil => simp [nameL]
  | cons c r =>
    simp only [nameL, Bool.and_eq_true, decide_eq_true_eq, Bool.not_eq_true', List.length_cons, List.getD_cons_zero]
    constructor
    · rintro ⟨⟨h1, h2⟩, h3⟩; exact ⟨by omega, by omega, h2, h3⟩
    · rintro ⟨_, h1, h2, h3⟩; exact ⟨⟨by omega, h2⟩, h3⟩
theorem nameL_no (l : List UInt8) (h : ¬ (1 ≤ l.length ∧ l.length ≤ 20 ∧ dig (l.getD 0 0) = false ∧ l.all inw = true)) : nameL l = false := by
  rw [← Bool.not_eq_true, nameL_iff]; exact h
theorem nameL_blank (l : List UInt8) : nameL (l ++ [32]) = false := by
  apply nameL_no
  rintro ⟨_, _, _, h⟩
  rw [all_snoc] at h
  simp [show inw 32 = false from rfl] at h
theorem nameL_take (l : List UInt8) (h : nameL l = true) (n : Nat) (h1 : 1 ≤ n) (h2 : n ≤ l.length) : nameL (l.take n) = true := by
  obtain ⟨a, b, c, d⟩ := (nameL_iff l).1 h
  apply (nameL_iff _).2
  refine ⟨by simp; omega, by simp; omega, ?_, ?_⟩
  · rw [← c]; simp [List.getD, show 0 < n from h1]
  · rw [List.all_eq_true] at d ⊢
    exact fun x hx => d x (List.mem_of_mem_take hx)
theorem nameL_digit (l : List UInt8) (h : nameL l = true) : nameL (l ++ [55]) = decide (l.length < 20) := by
  obtain ⟨a, b, c, d⟩ := (nameL_iff l).1 h
  by_cases hl : l.length < 20
  · rw [decide_eq_true hl]
    apply (nameL_iff _).2
    refine ⟨by simp, by simp; omega, ?_, ?_⟩
    · rw [← c]
      cases l with
      | nil => simp at a
      | cons x r => rfl
    · rw [all_snoc, d]; rfl
  · rw [decide_eq_false hl]
    apply nameL_no
    rintro ⟨_, h2, _⟩
    simp at h2; omega
theorem nameL_seven (l : List UInt8) : nameL (55 :: l) = false := by
  apply nameL_no
  rintro ⟨_, _, h, _⟩
  simp [show dig 55 = true from rfl] at h
theorem inw_plain : ∀ n : Nat, n < 256 → inwI (n : Int) = true → blkI (n : Int) = false ∧ sgnI (n : Int) = false ∧ n ≠ 45 := by decide +kernel
theorem inw_not (u : UInt8) (h : inw u = true) : blk u = false ∧ sgn u = false ∧ u.toNat ≠ 45 := inw_plain u.toNat u.toNat_lt h
theorem takeWhile_all (p : UInt8 → Bool) : ∀ l : List UInt8, l.all p = true → l.takeWhile p = l
  | [], _ => rfl
  | c :: r, h => by
    simp only [List.all_cons, Bool.and_eq_true] at h
    rw [List.takeWhile_cons, if_pos h.1, takeWhile_all p r h.2]
theorem runLen_all (l : List UInt8) (h : l.all inw = true) : runLen l = l.length := by
  rw [runLen, takeWhile_all inw l h]
theorem scanL_name (l : List UInt8) (h : nameL l = true) : scanL l = ([⟨1, l, 0, 0⟩], 0, 0) := by
  obtain ⟨a, b, c, d⟩ := (nameL_iff l).1 h
  rw [scanL, if_neg (by omega)]
  cases l with
  | nil => simp at a
  | cons x r =>
    have hx : inw x = true := by simp only [List.all_cons, Bool.and_eq_true] at d; exact d.1
    obtain ⟨h1, h2, h3⟩ := inw_not x hx
    have hw : wordLen (x :: r) = (x :: r).length := by
      rw [wordLen, if_neg (by rw [h2]; exact Bool.false_ne_true), if_neg h3, runLen_all _ d]
    have hwo : wordOf (x :: r) = x :: r := by rw [wordOf, hw, List.take_length]
    rw [List.length_cons, scanGo, if_neg (by rw [h1]; exact Bool.false_ne_true), hwo, hw, List.drop_length]
    have ht : tokOf (x :: r) 0 = some ⟨1, x :: r, 0, 0⟩ := by rw [tokOf, if_pos h]
    rw [ht]
    show scanGo r.length [] _ ([] ++ [_]) = _
    cases r.length <;> rfl

end Lx
end Go.Proofs.YtildjihgklgibaaDoor

namespace Go.Proofs.YtildjihgklgibaaDoor
namespace Lx
set_option linter.unusedVariables false
set_option linter.unusedSimpArgs false

def dg (n : Nat) : UInt8 := UInt8.ofNat (48 + n % 10)
def digF : Nat → Nat → List UInt8
  | 0, n => [dg n]
  | f + 1, n => if n < 10 then [dg n] else digF f (n / 10) ++ [dg n]
def digL (n : Nat) : List UInt8 := digF 19 n
def intL (n : Int) : List UInt8 := if n < 0 then 45 :: digL n.natAbs else digL n.natAbs

theorem dg_nat (n : Nat) : (dg n).toNat = 48 + n % 10 := by
  rw [dg, UInt8.toNat_ofNat_of_lt' (by rw [show UInt8.size = 256 from rfl]; omega)]
theorem dg_dig (n : Nat) : dig (dg n) = true := by
  rw [dig, dg_nat]; simp [digI]; omega
theorem dig_is (c : UInt8) (h : dig c = true) : c = dg (c.toNat - 48) := by
  have := dig_bounds h
  apply UInt8.toNat_inj.1
  rw [dg_nat]; omega
theorem digF_fuel : ∀ (f g n : Nat), n < 10 ^ (f + 1) → n < 10 ^ (g + 1) → digF f n = digF g n
  | 0, 0, n, _, _ => rfl
  | 0, g + 1, n, h, _ => by rw [digF, digF, if_pos (by simpa using h)]
  | f + 1, 0, n, _, h => by rw [digF, digF, if_pos (by simpa using h)]
  | f + 1, g + 1, n, h1, h2 => by
    rw [digF, digF]
    by_cases hn : n < 10
    · rw [if_pos hn, if_pos hn]
    · rw [if_neg hn, if_neg hn, digF_fuel f g (n / 10) (by rw [Nat.pow_succ] at h1; omega) (by rw [Nat.pow_succ] at h2; omega)]
theorem digL_lt (n : Nat) (h : n < 10) : digL n = [dg n] := by rw [digL, digF, if_pos h]
theorem digL_ge (n : Nat) (h : ¬ n < 10) (hb : n < 10 ^ 19) : digL n = digL (n / 10) ++ [dg n] := by
  rw [digL, digF, if_neg h, digL, digF_fuel 18 19 (n / 10) (by omega) (by omega)]
theorem digF_len : ∀ f n, 1 ≤ (digF f n).length ∧ (digF f n).length ≤ f + 1
  | 0, n => by simp [digF]
  | f + 1, n => by
    rw [digF]
    have := digF_len f (n / 10)
    by_cases hn : n < 10
    · rw [if_pos hn]; simp
    · rw [if_neg hn]; simp; omega
theorem digL_len (n : Nat) : 1 ≤ (digL n).length ∧ (digL n).length ≤ 20 := digF_len 19 n
theorem intL_len (n : Int) : 1 ≤ (intL n).length ∧ (intL n).length ≤ 21 := by
  have := digL_len n.natAbs
  unfold intL
  split
  · rw [List.length_cons]; omega
  · omega
theorem digF_dig : ∀ f n, (digF f n).all dig = true
  | 0, n => by simp [digF, dg_dig]
  | f + 1, n => by
    rw [digF]
    by_cases hn : n < 10
    · rw [if_pos hn]; simp [dg_dig]
    · rw [if_neg hn, List.all_append, digF_dig f (n / 10)]; simp [dg_dig]
theorem digF_head : ∀ f n, 1 ≤ n → n < 10 ^ (f + 1) → ∃ c r, digF f n = c :: r ∧ c.toNat ≠ 48
  | 0, n, h, hb => ⟨dg n, [], rfl, by rw [dg_nat]; simp at hb; omega⟩
  | f + 1, n, h, hb => by
    rw [digF]
    by_cases hn : n < 10
    · rw [if_pos hn]; exact ⟨dg n, [], rfl, by rw [dg_nat]; omega⟩
    · rw [if_neg hn]
      obtain ⟨c, r, e, hc⟩ := digF_head f (n / 10) (by omega) (by rw [Nat.pow_succ] at hb; omega)
      exact ⟨c, r ++ [dg n], by rw [e]; rfl, hc⟩
theorem sizeGo_snoc : ∀ (l : List UInt8) (c : UInt8) (m : Nat), sizeGo (l ++ [c]) m = (sizeGo l m).bind fun k => sizeGo [c] k
  | [], c, m => rfl
  | d :: r, c, m => by
    rw [List.cons_append, sizeGo, sizeGo]
    by_cases hd : dig d = true
    · rw [if_pos hd, if_pos hd]
      by_cases hb : 2147483648 < m * 10 + (d.toNat - 48)
      · rw [if_pos hb, if_pos hb]; rfl
      · rw [if_neg hb, if_neg hb, sizeGo_snoc r c]
    · rw [if_neg hd, if_neg hd]; rfl
theorem sizeGo_one (n k : Nat) : sizeGo [dg n] k = if 2147483648 < k * 10 + n % 10 then none else some (k * 10 + n % 10) := by
  rw [sizeGo, if_pos (dg_dig n), dg_nat, show 48 + n % 10 - 48 = n % 10 from by omega, sizeGo]
theorem sizeGo_digF : ∀ f n, n < 10 ^ (f + 1) → sizeGo (digF f n) 0 = if 2147483648 < n then none else some n
  | 0, n, h => by
    rw [digF, sizeGo_one]
    simp at h
    rw [show 0 * 10 + n % 10 = n from by omega]
  | f + 1, n, h => by
    rw [digF]
    by_cases hn : n < 10
    · rw [if_pos hn, sizeGo_one, show 0 * 10 + n % 10 = n from by omega]
    · rw [if_neg hn, sizeGo_snoc, sizeGo_digF f (n / 10) (by rw [Nat.pow_succ] at h; omega)]
      by_cases hb : 2147483648 < n / 10
      · rw [if_pos hb, if_pos (by omega)]; rfl
      · rw [if_neg hb, Option.bind_some, sizeGo_one, show n / 10 * 10 + n % 10 = n from by omega]
theorem sizeL_dig (n : Nat) (h : n < 10 ^ 20) : sizeL (digL n) = if 2147483648 < n then none else some n := by
  rcases Nat.eq_zero_or_pos n with h0 | h0
  · subst h0; rfl
  · obtain ⟨c, r, e, hc⟩ := digF_head 19 n h0 h
    have := sizeGo_digF 19 n h
    rw [e] at this
    rw [digL, e, sizeL, if_neg (fun x => hc x.1), this]
theorem digL_cons (n : Nat) (h : n < 10 ^ 20) : ∃ c r, digL n = c :: r ∧ dig c = true := by
  cases e : digL n with
  | nil => have := digL_len n; rw [e] at this; simp at this
  | cons c r =>
    have := digF_dig 19 n
    rw [show digF 19 n = digL n from rfl, e] at this
    simp only [List.all_cons, Bool.and_eq_true] at this
    exact ⟨c, r, rfl, this.1⟩
theorem dig_not45 (c : UInt8) (h : dig c = true) : c.toNat ≠ 45 := by have := dig_bounds h; omega
theorem numL_int (n : Int) (h : n.natAbs < 10 ^ 20) : numL (intL n) = if -2147483648 ≤ n ∧ n ≤ 2147483647 then some n else none := by
  unfold intL
  by_cases hn : n < 0
  · rw [if_pos hn, numL, if_pos (by decide), sizeL_dig _ h]
    by_cases hb : 2147483648 < n.natAbs
    · rw [if_pos hb, if_neg (by omega)]; rfl
    · rw [if_neg hb, if_pos (by omega), negOf, if_neg (by omega)]
      congr 1; omega
  · rw [if_neg hn]
    obtain ⟨c, r, e, hc⟩ := digL_cons n.natAbs h
    have hs := sizeL_dig _ h
    rw [e] at hs ⊢
    rw [numL, if_neg (dig_not45 c hc), hs]
    by_cases hb : 2147483648 < n.natAbs
    · rw [if_pos hb, if_neg (by omega)]; rfl
    · rw [if_neg hb, posOf]
      by_cases h2 : 2147483647 < n.natAbs
      · rw [if_pos h2, if_neg (by omega)]
      · rw [if_neg h2, if_pos (by omega)]; congr 1; omega
theorem sizeL_snoc (l : List UInt8) (c : UInt8) (hc : dig c = false) : sizeL (l ++ [c]) = none := by
  have h1 : ∀ k, sizeGo [c] k = none := fun k => by rw [sizeGo, if_neg (by rw [hc]; exact Bool.false_ne_true)]
  have h2 : ∀ l m, sizeGo (l ++ [c]) m = none := fun l m => by
    rw [sizeGo_snoc]; cases sizeGo l m with
    | none => rfl
    | some k => exact h1 k
  cases l with
  | nil =>
    rw [List.nil_append, sizeL]
    split
    · rfl
    · exact h1 0
  | cons d r =>
    rw [List.cons_append, sizeL]
    split
    · rfl
    · exact h2 (d :: r) 0
theorem numL_snoc (l : List UInt8) (c : UInt8) (hc : dig c = false) : numL (l ++ [c]) = none := by
  cases l with
  | nil =>
    rw [List.nil_append, numL]
    have := sizeL_snoc [] c hc
    rw [List.nil_append] at this
    rw [this]; split <;> rfl
  | cons d r =>
    have h1 := sizeL_snoc r c hc
    have h2 := sizeL_snoc (d :: r) c hc
    rw [List.cons_append] at h2 ⊢
    rw [numL, h1, h2]; split <;> rfl
theorem numL_nought (l : List UInt8) (h : l ≠ []) : numL (48 :: l) = none := by
  rw [numL, if_neg (by decide), sizeL, if_pos ⟨by decide, h⟩]; rfl
theorem numL_plus (l : List UInt8) : numL (43 :: l) = none := by
  rw [numL, if_neg (by decide), sizeL, if_neg (fun h => absurd h.1 (by decide)), sizeGo, if_neg (by decide)]; rfl
theorem intL_ne (n : Int) : intL n ≠ [] := fun e => by have := intL_len n; rw [e] at this; simp at this

theorem digL_push (m d : Nat) (hm : 1 ≤ m) (hb : m < 10 ^ 12) (hd : d < 10) : digL (m * 10 + d) = digL m ++ [dg d] := by
  rw [digL_ge (m * 10 + d) (by omega) (by omega), show (m * 10 + d) / 10 = m from by omega]
  congr 2
  unfold dg; congr 1; omega
theorem digL_of_sizeGo : ∀ (l : List UInt8) (m n : Nat), 1 ≤ m → m ≤ 2147483648 → sizeGo l m = some n → digL n = digL m ++ l
  | [], m, n, _, _, h => by simp [sizeGo] at h; rw [h, List.append_nil]
  | c :: r, m, n, hm, hb, h => by
    rw [sizeGo] at h
    by_cases hd : dig c = true
    · rw [if_pos hd] at h
      by_cases hg : 2147483648 < m * 10 + (c.toNat - 48)
      · rw [if_pos hg] at h; cases h
      · rw [if_neg hg] at h
        have := dig_bounds hd
        rw [digL_of_sizeGo r _ n (by omega) (by omega) h, digL_push m (c.toNat - 48) hm (by omega) (by omega), ← dig_is c hd, List.append_assoc]
        rfl
    · rw [if_neg hd] at h; cases h
theorem digL_of_sizeL (l : List UInt8) (n : Nat) (h : sizeL l = some n) : digL n = l := by
  cases l with
  | nil => cases h
  | cons c r =>
    rw [sizeL] at h
    by_cases hc : c.toNat = 48 ∧ r ≠ []
    · rw [if_pos hc] at h; cases h
    · rw [if_neg hc, sizeGo] at h
      by_cases hd : dig c = true
      · rw [if_pos hd] at h
        have hb := dig_bounds hd
        rw [if_neg (by omega), Nat.zero_mul, Nat.zero_add] at h
        by_cases h0 : c.toNat = 48
        · have hr : r = [] := Classical.byContradiction fun x => hc ⟨h0, x⟩
          subst hr
          simp [sizeGo, h0] at h
          rw [← h, dig_is c hd, h0]; rfl
        · rw [digL_of_sizeGo r _ n (by omega) (by omega) h, digL_lt _ (by omega), ← dig_is c hd]; rfl
      · rw [if_neg hd] at h; cases h
theorem intL_of_numL (l : List UInt8) (n : Int) (h : numL l = some n) : intL n = l := by
  cases l with
  | nil => cases h
  | cons c r =>
    rw [numL] at h
    by_cases hc : c.toNat = 45
    · rw [if_pos hc] at h
      cases e : sizeL r with
      | none => rw [e] at h; cases h
      | some k =>
        rw [e, negOf] at h
        by_cases hk : k = 0
        · rw [if_pos hk] at h; cases h
        · rw [if_neg hk] at h
          have hn : n = -(k : Int) := by injection h with h; exact h.symm
          have : c = 45 := UInt8.toNat_inj.1 hc
          rw [intL, if_pos (by omega), show n.natAbs = k from by omega, digL_of_sizeL r k e, this]
    · rw [if_neg hc] at h
      cases e : sizeL (c :: r) with
      | none => rw [e] at h; cases h
      | some k =>
        rw [e, posOf] at h
        by_cases hk : 2147483647 < k
        · rw [if_pos hk] at h; cases h
        · rw [if_neg hk] at h
          have hn : n = (k : Int) := by injection h with h; exact h.symm
          rw [intL, if_neg (by omega), show n.natAbs = k from by omega, digL_of_sizeL _ k e]

end Lx
end Go.Proofs.YtildjihgklgibaaDoor

namespace Go.Proofs.YtildjihgklgibaaDoor
namespace Lx
set_option linter.unusedVariables false
set_option linter.unusedSimpArgs false

def ltrI (c : Int) : Bool := decide ((97 ≤ c ∧ c ≤ 122) ∨ (65 ≤ c ∧ c ≤ 90) ∨ c = 95)
def ltr (u : UInt8) : Bool := ltrI (u.toNat : Int)
theorem inw_let (u : UInt8) : inw u = (ltr u || dig u) := by
  rw [Bool.eq_iff_iff]; simp [inw, ltr, dig, inwI, ltrI, digI]; omega
theorem let_inw (u : UInt8) : ltr u = (!dig u && inw u) := by
  rw [Bool.eq_iff_iff]; simp [inw, ltr, dig, inwI, ltrI, digI]; omega

def tokW (t : Tok) : List UInt8 := if t.kind = 2 then intL t.num else t.text
def ValidT (t : Tok) : Prop :=
  (t.kind = 1 ∧ nameL t.text = true ∧ t.num = 0) ∨ (t.kind = 3 ∧ signL t.text = true ∧ t.num = 0) ∨ (t.kind = 2 ∧ t.text = [] ∧ -2147483648 ≤ t.num ∧ t.num ≤ 2147483647)
theorem tokOf_some (l : List UInt8) (p : Nat) (t : Tok) (h : tokOf l p = some t) : ValidT t ∧ tokW t = l ∧ t.pos = p := by
  unfold tokOf at h
  cases h1 : nameL l with
  | true =>
    simp [h1] at h; subst h
    exact ⟨.inl ⟨rfl, h1, rfl⟩, by simp [tokW], rfl⟩
  | false =>
    cases h2 : numL l with
    | some n =>
      simp [h1, h2] at h; subst h
      have hb := numL_le l n h2
      exact ⟨.inr (.inr ⟨rfl, rfl, hb.1, hb.2⟩), by simp [tokW, intL_of_numL l n h2], rfl⟩
    | none =>
      cases h3 : signL l with
      | true =>
        simp [h1, h2, h3] at h; subst h
        exact ⟨.inr (.inl ⟨rfl, h3, rfl⟩), by simp [tokW], rfl⟩
      | false => simp [h1, h2, h3] at h
def Placed (bs : List UInt8) : Nat → List Tok → Prop
  | _, [] => True
  | p, t :: r => p ≤ t.pos ∧ ValidT t ∧ tokW t ≠ [] ∧ t.pos + (tokW t).length ≤ bs.length ∧ (bs.drop t.pos).take (tokW t).length = tokW t ∧ Placed bs (t.pos + (tokW t).length) r
theorem Placed_mono (bs : List UInt8) (p q : Nat) (l : List Tok) (h : Placed bs q l) (hpq : p ≤ q) : Placed bs p l := by
  cases l with
  | nil => trivial
  | cons t r => exact ⟨Nat.le_trans hpq h.1, h.2⟩
theorem scanGo_placed (bs : List UInt8) : ∀ (f k : Nat) (acc l : List Tok) (a e : Nat), scanGo f (bs.drop k) k acc = (l, a, e) →
    (e = 0 ∧ a = 0 ∧ ∃ r, l = acc ++ r ∧ Placed bs k r) ∨ (e = 3 ∧ l = [] ∧ a ≤ bs.length)
  | 0, k, acc, l, a, e, h => by
    simp [scanGo] at h
    obtain ⟨rfl, rfl, rfl⟩ := h
    exact .inl ⟨rfl, rfl, [], by simp, trivial⟩
  | f + 1, k, acc, l, a, e, h => by
    by_cases hk : k < bs.length
    · cases hb : blk (bs.getD k 0) with
      | true =>
        rw [scanGo_blk bs k f acc hk hb] at h
        rcases scanGo_placed bs f (k + 1) acc l a e h with ⟨h1, h2, r, h3, h4⟩ | h1
        · exact .inl ⟨h1, h2, r, h3, Placed_mono bs k (k + 1) r h4 (by omega)⟩
        · exact .inr h1
      | false =>
        cases ht : tokOf (wordOf (bs.drop k)) k with
        | none =>
          rw [scanGo_none bs k f acc hk hb ht] at h
          simp at h
          obtain ⟨rfl, rfl, rfl⟩ := h
          exact .inr ⟨rfl, rfl, by omega⟩
        | some t =>
          have hp := wordLen_pos _ k t ht
          have hle := wordLen_le (bs.drop k)
          rw [List.length_drop] at hle
          rw [scanGo_some bs k f acc t hk hb ht] at h
          obtain ⟨hv, hw, hpos⟩ := tokOf_some _ _ _ ht
          have hwl : (tokW t).length = wordLen (bs.drop k) := by rw [hw, wordOf, List.length_take, List.length_drop]; omega
          rcases scanGo_placed bs f _ _ l a e h with ⟨h1, h2, r, h3, h4⟩ | h1
          · refine .inl ⟨h1, h2, t :: r, by rw [h3]; simp, by omega, hv, ?_, by omega, ?_, ?_⟩
            · intro x; rw [x] at hwl; simp at hwl; omega
            · rw [hwl, hpos, hw, wordOf]
            · rw [hwl, hpos]; exact h4
          · exact .inr h1
    · rw [scanGo_end bs k (f + 1) acc hk] at h
      simp at h
      obtain ⟨rfl, rfl, rfl⟩ := h
      exact .inl ⟨rfl, rfl, [], by simp, trivial⟩
theorem scanL_placed (bs : List UInt8) (hn : bs.length ≤ 6000) (l : List Tok) (a e : Nat) (h : scanL bs = (l, a, e)) : (e = 0 ∧ a = 0 ∧ Placed bs 0 l) ∨ (e = 3 ∧ l = [] ∧ a ≤ bs.length) := by
  rw [scanL, if_neg (by omega)] at h
  rcases scanGo_placed bs bs.length 0 [] l a e h with ⟨h1, h2, r, h3, h4⟩ | h1
  · exact .inl ⟨h1, h2, by rw [h3]; exact h4⟩
  · exact .inr h1
theorem scanGo_count (bs : List UInt8) : ∀ (f k : Nat) (acc l : List Tok) (a e : Nat), scanGo f (bs.drop k) k acc = (l, a, e) → k ≤ bs.length → acc.length ≤ k → l.length ≤ bs.length
  | 0, k, acc, l, a, e, h, hk, hac => by
    simp [scanGo] at h
    obtain ⟨rfl, rfl, rfl⟩ := h
    omega
  | f + 1, k, acc, l, a, e, h, hk', hac => by
    by_cases hk : k < bs.length
    · cases hb : blk (bs.getD k 0) with
      | true =>
        rw [scanGo_blk bs k f acc hk hb] at h
        exact scanGo_count bs f (k + 1) acc l a e h (by omega) (by omega)
      | false =>
        cases ht : tokOf (wordOf (bs.drop k)) k with
        | none =>
          rw [scanGo_none bs k f acc hk hb ht] at h
          simp at h
          obtain ⟨rfl, rfl, rfl⟩ := h
          simp
        | some t =>
          have hp := wordLen_pos _ k t ht
          have hle := wordLen_le (bs.drop k)
          rw [List.length_drop] at hle
          rw [scanGo_some bs k f acc t hk hb ht] at h
          exact scanGo_count bs f _ _ l a e h (by omega) (by simp; omega)
    · rw [scanGo_end bs k (f + 1) acc hk] at h
      simp at h
      obtain ⟨rfl, rfl, rfl⟩ := h
      omega
theorem scanL_count (bs : List UInt8) : (scanL bs).1.length ≤ bs.length := by
  rw [scanL]
  split
  · simp
  · exact scanGo_count bs bs.length 0 [] _ _ _ rfl (by omega) (by simp)

end Lx
end Go.Proofs.YtildjihgklgibaaDoor

namespace Go.Proofs.YtildjihgklgibaaDoor
namespace Lx
set_option linter.unusedVariables false
set_option linter.unusedSimpArgs false

structure ATok where
  kind : Int
  text : List UInt8
  num : Int
  pos : Int

def wordA (t : ATok) : Option (List UInt8) :=
  if t.kind = 1 then (if t.num = 0 ∧ nameL t.text = true then some t.text else none)
  else if t.kind = 2 then (if t.text = [] ∧ -2147483648 ≤ t.num ∧ t.num ≤ 2147483647 then some (intL t.num) else none)
  else if t.kind = 3 then (if t.num = 0 ∧ signL t.text = true then some t.text else none)
  else none

def joinGo : List ATok → Bool → List UInt8 → Option (List UInt8)
  | [], _, acc => some acc
  | t :: r, first, acc =>
    match wordA t with
    | none => none
    | some l => joinGo r false (if first = true then acc ++ l else acc ++ [32] ++ l)
def joinL (ts : List ATok) : Option (List UInt8) := joinGo ts true []

theorem dec_dig : ∀ (f n : Nat), n < 10 ^ (f + 1) → Lib.decDigits n = digF f n
  | 0, n, h => by rw [digF, Lib.decDigits_one (by simpa using h), dg]; congr 2; simp at h; omega
  | f + 1, n, h => by
    rw [digF]
    by_cases hn : n < 10
    · rw [if_pos hn, Lib.decDigits_one hn, dg]; congr 2; omega
    · rw [if_neg hn, Lib.decDigits, dif_neg hn, dec_dig f (n / 10) (by rw [Nat.pow_succ] at h; omega)]; rfl
theorem itoa_intL (n : Int) (h0 : -2147483648 ≤ n) (h1 : n ≤ 2147483647) : Lib.itoa n = intL n := by
  unfold Lib.itoa intL
  split
  · rw [dec_dig 19 _ (by omega)]; rfl
  · rw [dec_dig 19 _ (by omega)]
    show digF 19 n.toNat = digF 19 n.natAbs
    congr 1; omega
theorem nameL_len (l : List UInt8) (h : nameL l = true) : l.length ≤ 20 := ((nameL_iff l).1 h).2.1
theorem signL_len (l : List UInt8) (h : signL l = true) : l.length = 1 := by
  match l, h with
  | [c], _ => rfl
  | [], h => cases h
  | _ :: _ :: _, h => cases h
theorem wordA_len (t : ATok) (l : List UInt8) (h : wordA t = some l) : 1 ≤ l.length ∧ l.length ≤ 21 := by
  unfold wordA at h
  by_cases h1 : t.kind = 1
  · rw [if_pos h1] at h
    split at h
    · rename_i hc
      injection h with h; subst h
      obtain ⟨a, b, _⟩ := (nameL_iff _).1 hc.2
      omega
    · cases h
  · rw [if_neg h1] at h
    by_cases h2 : t.kind = 2
    · rw [if_pos h2] at h
      split at h
      · injection h with h; subst h; exact intL_len _
      · cases h
    · rw [if_neg h2] at h
      by_cases h3 : t.kind = 3
      · rw [if_pos h3] at h
        split at h
        · rename_i hc
          injection h with h; subst h
          have := signL_len _ hc.2
          omega
        · cases h
      · rw [if_neg h3] at h; cases h
theorem joinGo_len : ∀ (ts : List ATok) (f : Bool) (acc r : List UInt8), joinGo ts f acc = some r → r.length ≤ acc.length + 22 * ts.length
  | [], f, acc, r, h => by simp [joinGo] at h; subst h; omega
  | t :: ts, f, acc, r, h => by
    rw [joinGo] at h
    cases hw : wordA t with
    | none => rw [hw] at h; cases h
    | some l =>
      rw [hw] at h
      have hl := (wordA_len t l hw).2
      have := joinGo_len ts false _ r h
      cases f with
      | true => simp at this ⊢; omega
      | false => simp at this ⊢; omega
theorem joinGo_ge : ∀ (ts : List ATok) (f : Bool) (acc r : List UInt8), joinGo ts f acc = some r → acc.length ≤ r.length
  | [], f, acc, r, h => by simp [joinGo] at h; subst h; omega
  | t :: ts, f, acc, r, h => by
    rw [joinGo] at h
    cases hw : wordA t with
    | none => rw [hw] at h; cases h
    | some l =>
      rw [hw] at h
      have := joinGo_ge ts false _ r h
      cases f with
      | true => simp at this; omega
      | false => simp at this; omega
theorem joinL_pos (ts : List ATok) (r : List UInt8) (hne : ts ≠ []) (h : joinL ts = some r) : 1 ≤ r.length := by
  cases ts with
  | nil => exact absurd rfl hne
  | cons t ts =>
    rw [joinL, joinGo] at h
    cases hw : wordA t with
    | none => rw [hw] at h; cases h
    | some l =>
      rw [hw] at h
      have h1 := joinGo_ge ts false _ r h
      have h2 := (wordA_len t l hw).1
      simp at h1; omega
theorem joinGo_append : ∀ (a b : List ATok) (f : Bool) (acc : List UInt8), joinGo (a ++ b) f acc = (joinGo a f acc).bind fun r => joinGo b (f && a.isEmpty) r
  | [], b, f, acc => by simp [joinGo]
  | t :: a, b, f, acc => by
    rw [List.cons_append, joinGo, joinGo]
    cases hw : wordA t with
    | none => rfl
    | some l => simp only; rw [joinGo_append a b]; simp
theorem joinGo_acc : ∀ (a : List ATok) (acc : List UInt8), a ≠ [] → joinGo a false acc = (joinGo a true []).map fun r => acc ++ [32] ++ r
  | [], acc, h => absurd rfl h
  | [t], acc, _ => by
    rw [joinGo, joinGo]
    cases hw : wordA t with
    | none => rfl
    | some l => simp [joinGo]
  | t :: u :: a, acc, _ => by
    rw [joinGo, joinGo]
    cases hw : wordA t with
    | none => rfl
    | some l =>
      simp only
      rw [joinGo_acc (u :: a) _ (by simp), joinGo_acc (u :: a) _ (by simp)]
      cases joinGo (u :: a) true [] with
      | none => rfl
      | some r => simp
/-- Two lists joined: both texts, a blank between. -/
theorem joinL_two (a b : List ATok) (ha : a ≠ []) (hb : b ≠ []) : joinL (a ++ b) = (joinL a).bind fun x => (joinL b).map fun y => x ++ [32] ++ y := by
  unfold joinL
  rw [joinGo_append]
  cases joinGo a true [] with
  | none => rfl
  | some x =>
    have : (true && a.isEmpty) = false := by cases a with
      | nil => exact absurd rfl ha
      | cons c r => rfl
    simp only [Option.bind_some, this]
    rw [joinGo_acc b x hb]

end Lx
end Go.Proofs.YtildjihgklgibaaDoor

namespace Go.Proofs.YtildjihgklgibaaDoor
namespace Lx
set_option linter.unusedVariables false
set_option linter.unusedSimpArgs false

def Ahead (rest : List UInt8) : Prop := rest = [] ∨ ∃ c r, rest = c :: r ∧ blk c = true
theorem blk_plain : ∀ n : Nat, n < 256 → blkI (n : Int) = true → inwI (n : Int) = false ∧ sgnI (n : Int) = false := by decide +kernel
theorem blk_not (u : UInt8) (h : blk u = true) : inw u = false ∧ sgn u = false := blk_plain u.toNat u.toNat_lt h
theorem dig_plain : ∀ n : Nat, n < 256 → digI (n : Int) = true → inwI (n : Int) = true := by decide +kernel
theorem dig_inw (u : UInt8) (h : dig u = true) : inw u = true := dig_plain u.toNat u.toNat_lt h
theorem sgn_plain : ∀ n : Nat, n < 256 → sgnI (n : Int) = true → inwI (n : Int) = false ∧ blkI (n : Int) = false ∧ digI (n : Int) = false ∧ n ≠ 45 := by decide +kernel
theorem sgn_not (u : UInt8) (h : sgn u = true) : inw u = false ∧ blk u = false ∧ dig u = false ∧ u.toNat ≠ 45 := sgn_plain u.toNat u.toNat_lt h

theorem runLen_ahead : ∀ (l rest : List UInt8), l.all inw = true → Ahead rest → runLen (l ++ rest) = l.length
  | [], rest, _, h => by
    rcases h with rfl | ⟨c, r, rfl, hc⟩
    · rfl
    · show (List.takeWhile inw (c :: r)).length = 0
      rw [List.takeWhile_cons, if_neg (by rw [(blk_not c hc).1]; exact Bool.false_ne_true)]; rfl
  | c :: l, rest, h, hr => by
    simp only [List.all_cons, Bool.and_eq_true] at h
    have ih := runLen_ahead l rest h.2 hr
    unfold runLen at ih ⊢
    rw [List.cons_append, List.takeWhile_cons, if_pos h.1, List.length_cons, ih, List.length_cons]

/-- What a token's word is: how long it is with something behind it, that it begins with no blank, that it is that token again. -/
theorem word_facts (t : ATok) (l : List UInt8) (h : wordA t = some l) :
    (∀ rest, Ahead rest → wordLen (l ++ rest) = l.length) ∧ (∃ c r, l = c :: r ∧ blk c = false) ∧ (∀ p, tokOf l p = some ⟨t.kind, t.text, t.num, p⟩) := by
  obtain ⟨k, s, n, q⟩ := t
  unfold wordA at h
  simp only at h ⊢
  by_cases h1 : k = 1
  · rw [if_pos h1] at h
    split at h
    · rename_i hc
      injection h with h; subst h
      obtain ⟨hn, hnm⟩ := hc
      obtain ⟨a, b, c, d⟩ := (nameL_iff _).1 hnm
      cases s with
      | nil => simp at a
      | cons x r =>
        have hx : inw x = true := by simp only [List.all_cons, Bool.and_eq_true] at d; exact d.1
        obtain ⟨g1, g2, g3⟩ := inw_not x hx
        refine ⟨fun rest hr => ?_, ⟨x, r, rfl, g1⟩, fun p => ?_⟩
        · rw [List.cons_append, wordLen, if_neg (by rw [g2]; exact Bool.false_ne_true), if_neg g3, ← List.cons_append, runLen_ahead _ rest d hr]
        · rw [tokOf, if_pos hnm, h1, hn]
    · cases h
  · rw [if_neg h1] at h
    by_cases h2 : k = 2
    · rw [if_pos h2] at h
      split at h
      · rename_i hc
        injection h with h; subst h
        obtain ⟨hs, hn0, hn1⟩ := hc
        have hnum := numL_int n (by omega)
        rw [if_pos ⟨hn0, hn1⟩] at hnum
        have hall : (digL n.natAbs).all inw = true := by
          have := digF_dig 19 n.natAbs
          rw [List.all_eq_true] at this ⊢
          exact fun x hx => dig_inw x (this x hx)
        obtain ⟨d, r, hd, hdd⟩ := digL_cons n.natAbs (by omega)
        have hdi := dig_inw d hdd
        obtain ⟨g1, g2, g3⟩ := inw_not d hdi
        refine ⟨fun rest hr => ?_, ?_, fun p => ?_⟩
        · unfold intL
          by_cases hneg : n < 0
          · rw [if_pos hneg, List.cons_append, wordLen, if_neg (by decide), if_pos (by decide), runLen_ahead _ rest hall hr, List.length_cons]; omega
          · rw [if_neg hneg]
            have e := runLen_ahead _ rest hall hr
            rw [hd] at e ⊢
            rw [List.cons_append] at e ⊢
            rw [wordLen, if_neg (by rw [g2]; exact Bool.false_ne_true), if_neg g3, e]
        · unfold intL
          by_cases hneg : n < 0
          · rw [if_pos hneg]; exact ⟨45, _, rfl, by decide⟩
          · rw [if_neg hneg, hd]; exact ⟨d, r, rfl, g1⟩
        · have hnm : nameL (intL n) = false := by
            apply nameL_no
            rintro ⟨_, _, hd0, hal⟩
            unfold intL at hd0 hal
            by_cases hneg : n < 0
            · rw [if_pos hneg] at hal
              simp only [List.all_cons, Bool.and_eq_true] at hal
              exact absurd hal.1 (by decide)
            · rw [if_neg hneg, hd, List.getD_cons_zero, hdd] at hd0
              cases hd0
          rw [tokOf, if_neg (by rw [hnm]; exact Bool.false_ne_true), hnum, h2, hs]
      · cases h
    · rw [if_neg h2] at h
      by_cases h3 : k = 3
      · rw [if_pos h3] at h
        split at h
        · rename_i hc
          injection h with h; subst h
          obtain ⟨hn, hsg⟩ := hc
          match s, hsg with
          | [x], hsg =>
            have hx : sgn x = true := hsg
            obtain ⟨g1, g2, g3, g4⟩ := sgn_not x hx
            refine ⟨fun rest hr => ?_, ⟨x, [], rfl, g2⟩, fun p => ?_⟩
            · show wordLen (x :: rest) = 1
              rw [wordLen, if_pos hx]
            · have hnm : nameL [x] = false := by
                apply nameL_no
                rintro ⟨_, _, _, hal⟩
                simp [g1] at hal
              have hnu : numL [x] = none := by
                rw [numL, if_neg g4, sizeL, if_neg (fun h => h.2 rfl), sizeGo, if_neg (by rw [g3]; exact Bool.false_ne_true)]; rfl
              rw [tokOf, if_neg (by rw [hnm]; exact Bool.false_ne_true), hnu]
              simp only
              rw [if_pos hsg, h3, hn]
          | [], hsg => cases hsg
          | _ :: _ :: _, hsg => cases hsg
        · cases h
      · rw [if_neg h3] at h; cases h

def bare (t : Tok) : Int × List UInt8 × Int := (t.kind, t.text, t.num)
def bareA (t : ATok) : Int × List UInt8 × Int := (t.kind, t.text, t.num)

/-- Words, each with blanks ahead of it (perhaps none, where it is the first one). -/
def TextOf : List ATok → List UInt8 → Prop
  | [], b => b = []
  | t :: r, b => ∃ g l b', b = g ++ (l ++ b') ∧ g.all blk = true ∧ wordA t = some l ∧ TextOf r b' ∧ Ahead b'

theorem scan_blanks : ∀ (g r : List UInt8) (f p : Nat) (acc : List Tok), g.all blk = true → g.length ≤ f → scanGo f (g ++ r) p acc = scanGo (f - g.length) r (p + g.length) acc
  | [], r, f, p, acc, _, _ => rfl
  | c :: g, r, f, p, acc, h, hf => by
    simp only [List.all_cons, Bool.and_eq_true] at h
    obtain ⟨f, rfl⟩ : ∃ f', f = f' + 1 := ⟨f - 1, by simp at hf; omega⟩
    rw [List.cons_append, scanGo, if_pos h.1, scan_blanks g r f (p + 1) acc h.2 (by simp at hf; omega), List.length_cons]
    congr 1
    · omega
    · omega
theorem scan_word (t : ATok) (l rest : List UInt8) (h : wordA t = some l) (hr : Ahead rest) (f p : Nat) (acc : List Tok) : scanGo (f + 1) (l ++ rest) p acc = scanGo f rest (p + l.length) (acc ++ [⟨t.kind, t.text, t.num, p⟩]) := by
  obtain ⟨h1, ⟨c, r, rfl, hb⟩, h3⟩ := word_facts t l h
  have hw := h1 rest hr
  rw [List.cons_append] at hw ⊢
  rw [scanGo, if_neg (by rw [hb]; exact Bool.false_ne_true), wordOf, hw, ← List.cons_append, List.take_left, h3 p]
  simp only
  rw [List.drop_left]
theorem Ahead_app (b rest : List UInt8) (h : Ahead b) (hr : Ahead rest) : Ahead (b ++ rest) := by
  rcases h with rfl | ⟨c, r, rfl, hc⟩
  · exact hr
  · exact .inr ⟨c, r ++ rest, rfl, hc⟩
theorem scan_text : ∀ (ts : List ATok) (b rest : List UInt8) (f p : Nat) (acc : List Tok), TextOf ts b → Ahead rest → (b ++ rest).length ≤ f →
    ∃ l f', scanGo f (b ++ rest) p acc = scanGo f' rest (p + b.length) (acc ++ l) ∧ rest.length ≤ f' ∧ l.map bare = ts.map bareA
  | [], b, rest, f, p, acc, h, hr, hf => by
    have hb : b = [] := h
    subst hb
    exact ⟨[], f, by simp, by simpa using hf, rfl⟩
  | t :: ts, b, rest, f, p, acc, h, hr, hf => by
    obtain ⟨g, l, b', rfl, hg, hw, htx, hah⟩ := h
    have hl := (wordA_len t l hw).1
    simp only [List.length_append] at hf
    obtain ⟨f2, hf2⟩ : ∃ f2, f - g.length = f2 + 1 := ⟨f - g.length - 1, by omega⟩
    obtain ⟨l', f', e, hf', hm⟩ := scan_text ts b' rest f2 (p + g.length + l.length) (acc ++ [⟨t.kind, t.text, t.num, p + g.length⟩]) htx hr (by simp only [List.length_append]; omega)
    refine ⟨⟨t.kind, t.text, t.num, p + g.length⟩ :: l', f', ?_, hf', ?_⟩
    · rw [List.append_assoc, List.append_assoc, scan_blanks g _ f p acc hg (by omega), hf2, scan_word t l (b' ++ rest) hw (Ahead_app b' rest hah hr) f2, e]
      simp only [List.append_assoc, List.length_append, List.cons_append, List.nil_append]
      congr 1; omega
    · simp only [List.map_cons, hm]; rfl
theorem scanL_text (ts : List ATok) (b rest : List UInt8) (h : TextOf ts b) (hr : rest.all blk = true) (hn : (b ++ rest).length ≤ 6000) : ∃ l, scanL (b ++ rest) = (l, 0, 0) ∧ l.map bare = ts.map bareA := by
  have hah : Ahead rest := by
    cases rest with
    | nil => exact .inl rfl
    | cons c r => simp only [List.all_cons, Bool.and_eq_true] at hr; exact .inr ⟨c, r, rfl, hr.1⟩
  rw [scanL, if_neg (by omega)]
  obtain ⟨l, f', e, hf', hm⟩ := scan_text ts b rest _ 0 [] h hah (Nat.le_refl _)
  refine ⟨l, ?_, hm⟩
  have e2 := scan_blanks rest [] f' (0 + b.length) ([] ++ l) hr hf'
  rw [List.append_nil] at e2
  rw [e, e2]
  cases f' - rest.length <;> rfl
theorem textOf_false : ∀ (ts : List ATok) (acc b : List UInt8), joinGo ts false acc = some b → ∃ b', b = acc ++ b' ∧ TextOf ts b' ∧ Ahead b'
  | [], acc, b, h => by simp [joinGo] at h; subst h; exact ⟨[], by simp, rfl, .inl rfl⟩
  | t :: r, acc, b, h => by
    rw [joinGo] at h
    cases hw : wordA t with
    | none => rw [hw] at h; cases h
    | some l =>
      rw [hw] at h
      simp only at h
      obtain ⟨b', rfl, ht, ha⟩ := textOf_false r _ b h
      refine ⟨[32] ++ (l ++ b'), by simp, ⟨[32], l, b', rfl, by decide, hw, ht, ha⟩, .inr ⟨32, l ++ b', rfl, by decide⟩⟩
theorem textOf_joinL (ts : List ATok) (b : List UInt8) (h : joinL ts = some b) : TextOf ts b := by
  cases ts with
  | nil => simp [joinL, joinGo] at h; exact h
  | cons t r =>
    rw [joinL, joinGo] at h
    cases hw : wordA t with
    | none => rw [hw] at h; cases h
    | some l =>
      rw [hw] at h
      simp only at h
      obtain ⟨b', rfl, ht, ha⟩ := textOf_false r _ b h
      exact ⟨[], l, b', by simp, rfl, hw, ht, ha⟩
theorem scanL_joined (ts : List ATok) (b : List UInt8) (h : joinL ts = some b) (hn : b.length ≤ 6000) : ∃ l, scanL b = (l, 0, 0) ∧ l.map bare = ts.map bareA := by
  have := scanL_text ts b [] (textOf_joinL ts b h) rfl (by simpa using hn)
  simpa using this

end Lx
end Go.Proofs.YtildjihgklgibaaDoor
