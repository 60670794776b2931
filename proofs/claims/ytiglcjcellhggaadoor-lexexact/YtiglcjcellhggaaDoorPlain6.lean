/- Digits: what number they are, and back. No program is named here. -/
import Derived.Test.YtiglcjcellhggaaDoorPlain4
namespace Go.Proofs.YtiglcjcellhggaaDoor
namespace Lx
set_option linter.unusedVariables false
set_option linter.unusedSimpArgs false

def dg (n : Nat) : UInt8 := UInt8.ofNat (48 + n % 10)
def digF : Nat → Nat → List UInt8
  | 0, n => [dg n]
  | f + 1, n => if n < 10 then [dg n] else digF f (n / 10) ++ [dg n]
def digL (n : Nat) : List UInt8 := digF 19 n
def intL (n : Int) : List UInt8 := if n < 0 then 45 :: digL n.natAbs else digL n.natAbs

theorem dg_nat (n : Nat) : (dg n).toNat = 48 + n % 10 := by
  rw [dg, UInt8.toNat_ofNat_of_lt' (by rw [show UInt8.size = 256 from rfl]; omega)]
theorem dg_dig (n : Nat) : dig (dg n) = true := by
  rw [dig, dg_nat]; simp [digI]; omega
theorem dig_is (c : UInt8) (h : dig c = true) : c = dg (c.toNat - 48) := by
  have := dig_bounds h
  apply UInt8.toNat_inj.1
  rw [dg_nat]; omega
theorem digF_fuel : ∀ (f g n : Nat), n < 10 ^ (f + 1) → n < 10 ^ (g + 1) → digF f n = digF g n
  | 0, 0, n, _, _ => rfl
  | 0, g + 1, n, h, _ => by rw [digF, digF, if_pos (by simpa using h)]
  | f + 1, 0, n, _, h => by rw [digF, digF, if_pos (by simpa using h)]
  | f + 1, g + 1, n, h1, h2 => by
    rw [digF, digF]
    by_cases hn : n < 10
    · rw [if_pos hn, if_pos hn]
    · rw [if_neg hn, if_neg hn, digF_fuel f g (n / 10) (by rw [Nat.pow_succ] at h1; omega) (by rw [Nat.pow_succ] at h2; omega)]
theorem digL_lt (n : Nat) (h : n < 10) : digL n = [dg n] := by rw [digL, digF, if_pos h]
theorem digL_ge (n : Nat) (h : ¬ n < 10) (hb : n < 10 ^ 19) : digL n = digL (n / 10) ++ [dg n] := by
  rw [digL, digF, if_neg h, digL, digF_fuel 18 19 (n / 10) (by omega) (by omega)]
theorem digF_len : ∀ f n, 1 ≤ (digF f n).length ∧ (digF f n).length ≤ f + 1
  | 0, n => by simp [digF]
  | f + 1, n => by
    rw [digF]
    have := digF_len f (n / 10)
    by_cases hn : n < 10
    · rw [if_pos hn]; simp
    · rw [if_neg hn]; simp; omega
theorem digL_len (n : Nat) : 1 ≤ (digL n).length ∧ (digL n).length ≤ 20 := digF_len 19 n
theorem intL_len (n : Int) : 1 ≤ (intL n).length ∧ (intL n).length ≤ 21 := by
  have := digL_len n.natAbs
  unfold intL
  split
  · rw [List.length_cons]; omega
  · omega
theorem digF_dig : ∀ f n, (digF f n).all dig = true
  | 0, n => by simp [digF, dg_dig]
  | f + 1, n => by
    rw [digF]
    by_cases hn : n < 10
    · rw [if_pos hn]; simp [dg_dig]
    · rw [if_neg hn, List.all_append, digF_dig f (n / 10)]; simp [dg_dig]
theorem digF_head : ∀ f n, 1 ≤ n → n < 10 ^ (f + 1) → ∃ c r, digF f n = c :: r ∧ c.toNat ≠ 48
  | 0, n, h, hb => ⟨dg n, [], rfl, by rw [dg_nat]; simp at hb; omega⟩
  | f + 1, n, h, hb => by
    rw [digF]
    by_cases hn : n < 10
    · rw [if_pos hn]; exact ⟨dg n, [], rfl, by rw [dg_nat]; omega⟩
    · rw [if_neg hn]
      obtain ⟨c, r, e, hc⟩ := digF_head f (n / 10) (by omega) (by rw [Nat.pow_succ] at hb; omega)
      exact ⟨c, r ++ [dg n], by rw [e]; rfl, hc⟩
theorem sizeGo_snoc : ∀ (l : List UInt8) (c : UInt8) (m : Nat), sizeGo (l ++ [c]) m = (sizeGo l m).bind fun k => sizeGo [c] k
  | [], c, m => rfl
  | d :: r, c, m => by
    rw [List.cons_append, sizeGo, sizeGo]
    by_cases hd : dig d = true
    · rw [if_pos hd, if_pos hd]
      by_cases hb : 2147483648 < m * 10 + (d.toNat - 48)
      · rw [if_pos hb, if_pos hb]; rfl
      · rw [if_neg hb, if_neg hb, sizeGo_snoc r c]
    · rw [if_neg hd, if_neg hd]; rfl
theorem sizeGo_one (n k : Nat) : sizeGo [dg n] k = if 2147483648 < k * 10 + n % 10 then none else some (k * 10 + n % 10) := by
  rw [sizeGo, if_pos (dg_dig n), dg_nat, show 48 + n % 10 - 48 = n % 10 from by omega, sizeGo]
theorem sizeGo_digF : ∀ f n, n < 10 ^ (f + 1) → sizeGo (digF f n) 0 = if 2147483648 < n then none else some n
  | 0, n, h => by
    rw [digF, sizeGo_one]
    simp at h
    rw [show 0 * 10 + n % 10 = n from by omega]
  | f + 1, n, h => by
    rw [digF]
    by_cases hn : n < 10
    · rw [if_pos hn, sizeGo_one, show 0 * 10 + n % 10 = n from by omega]
    · rw [if_neg hn, sizeGo_snoc, sizeGo_digF f (n / 10) (by rw [Nat.pow_succ] at h; omega)]
      by_cases hb : 2147483648 < n / 10
      · rw [if_pos hb, if_pos (by omega)]; rfl
      · rw [if_neg hb, Option.bind_some, sizeGo_one, show n / 10 * 10 + n % 10 = n from by omega]
theorem sizeL_dig (n : Nat) (h : n < 10 ^ 20) : sizeL (digL n) = if 2147483648 < n then none else some n := by
  rcases Nat.eq_zero_or_pos n with h0 | h0
  · subst h0; rfl
  · obtain ⟨c, r, e, hc⟩ := digF_head 19 n h0 h
    have := sizeGo_digF 19 n h
    rw [e] at this
    rw [digL, e, sizeL, if_neg (fun x => hc x.1), this]
theorem digL_cons (n : Nat) (h : n < 10 ^ 20) : ∃ c r, digL n = c :: r ∧ dig c = true := by
  cases e : digL n with
  | nil => have := digL_len n; rw [e] at this; simp at this
  | cons c r =>
    have := digF_dig 19 n
    rw [show digF 19 n = digL n from rfl, e] at this
    simp only [List.all_cons, Bool.and_eq_true] at this
    exact ⟨c, r, rfl, this.1⟩
theorem dig_not45 (c : UInt8) (h : dig c = true) : c.toNat ≠ 45 := by have := dig_bounds h; omega
theorem numL_int (n : Int) (h : n.natAbs < 10 ^ 20) : numL (intL n) = if -2147483648 ≤ n ∧ n ≤ 2147483647 then some n else none := by
  unfold intL
  by_cases hn : n < 0
  · rw [if_pos hn, numL, if_pos (by decide), sizeL_dig _ h]
    by_cases hb : 2147483648 < n.natAbs
    · rw [if_pos hb, if_neg (by omega)]; rfl
    · rw [if_neg hb, if_pos (by omega), negOf, if_neg (by omega)]
      congr 1; omega
  · rw [if_neg hn]
    obtain ⟨c, r, e, hc⟩ := digL_cons n.natAbs h
    have hs := sizeL_dig _ h
    rw [e] at hs ⊢
    rw [numL, if_neg (dig_not45 c hc), hs]
    by_cases hb : 2147483648 < n.natAbs
    · rw [if_pos hb, if_neg (by omega)]; rfl
    · rw [if_neg hb, posOf]
      by_cases h2 : 2147483647 < n.natAbs
      · rw [if_pos h2, if_neg (by omega)]
      · rw [if_neg h2, if_pos (by omega)]; congr 1; omega
theorem sizeL_snoc (l : List UInt8) (c : UInt8) (hc : dig c = false) : sizeL (l ++ [c]) = none := by
  have h1 : ∀ k, sizeGo [c] k = none := fun k => by rw [sizeGo, if_neg (by rw [hc]; exact Bool.false_ne_true)]
  have h2 : ∀ l m, sizeGo (l ++ [c]) m = none := fun l m => by
    rw [sizeGo_snoc]; cases sizeGo l m with
    | none => rfl
    | some k => exact h1 k
  cases l with
  | nil =>
    rw [List.nil_append, sizeL]
    split
    · rfl
    · exact h1 0
  | cons d r =>
    rw [List.cons_append, sizeL]
    split
    · rfl
    · exact h2 (d :: r) 0
theorem numL_snoc (l : List UInt8) (c : UInt8) (hc : dig c = false) : numL (l ++ [c]) = none := by
  cases l with
  | nil =>
    rw [List.nil_append, numL]
    have := sizeL_snoc [] c hc
    rw [List.nil_append] at this
    rw [this]; split <;> rfl
  | cons d r =>
    have h1 := sizeL_snoc r c hc
    have h2 := sizeL_snoc (d :: r) c hc
    rw [List.cons_append] at h2 ⊢
    rw [numL, h1, h2]; split <;> rfl
theorem numL_nought (l : List UInt8) (h : l ≠ []) : numL (48 :: l) = none := by
  rw [numL, if_neg (by decide), sizeL, if_pos ⟨by decide, h⟩]; rfl
theorem numL_plus (l : List UInt8) : numL (43 :: l) = none := by
  rw [numL, if_neg (by decide), sizeL, if_neg (fun h => absurd h.1 (by decide)), sizeGo, if_neg (by decide)]; rfl
theorem intL_ne (n : Int) : intL n ≠ [] := fun e => by have := intL_len n; rw [e] at this; simp at this

theorem digL_push (m d : Nat) (hm : 1 ≤ m) (hb : m < 10 ^ 12) (hd : d < 10) : digL (m * 10 + d) = digL m ++ [dg d] := by
  rw [digL_ge (m * 10 + d) (by omega) (by omega), show (m * 10 + d) / 10 = m from by omega]
  congr 2
  unfold dg; congr 1; omega
theorem digL_of_sizeGo : ∀ (l : List UInt8) (m n : Nat), 1 ≤ m → m ≤ 2147483648 → sizeGo l m = some n → digL n = digL m ++ l
  | [], m, n, _, _, h => by simp [sizeGo] at h; rw [h, List.append_nil]
  | c :: r, m, n, hm, hb, h => by
    rw [sizeGo] at h
    by_cases hd : dig c = true
    · rw [if_pos hd] at h
      by_cases hg : 2147483648 < m * 10 + (c.toNat - 48)
      · rw [if_pos hg] at h; cases h
      · rw [if_neg hg] at h
        have := dig_bounds hd
        rw [digL_of_sizeGo r _ n (by omega) (by omega) h, digL_push m (c.toNat - 48) hm (by omega) (by omega), ← dig_is c hd, List.append_assoc]
        rfl
    · rw [if_neg hd] at h; cases h
theorem digL_of_sizeL (l : List UInt8) (n : Nat) (h : sizeL l = some n) : digL n = l := by
  cases l with
  | nil => cases h
  | cons c r =>
    rw [sizeL] at h
    by_cases hc : c.toNat = 48 ∧ r ≠ []
    · rw [if_pos hc] at h; cases h
    · rw [if_neg hc, sizeGo] at h
      by_cases hd : dig c = true
      · rw [if_pos hd] at h
        have hb := dig_bounds hd
        rw [if_neg (by omega), Nat.zero_mul, Nat.zero_add] at h
        by_cases h0 : c.toNat = 48
        · have hr : r = [] := Classical.byContradiction fun x => hc ⟨h0, x⟩
          subst hr
          simp [sizeGo, h0] at h
          rw [← h, dig_is c hd, h0]; rfl
        · rw [digL_of_sizeGo r _ n (by omega) (by omega) h, digL_lt _ (by omega), ← dig_is c hd]; rfl
      · rw [if_neg hd] at h; cases h
theorem intL_of_numL (l : List UInt8) (n : Int) (h : numL l = some n) : intL n = l := by
  cases l with
  | nil => cases h
  | cons c r =>
    rw [numL] at h
    by_cases hc : c.toNat = 45
    · rw [if_pos hc] at h
      cases e : sizeL r with
      | none => rw [e] at h; cases h
      | some k =>
        rw [e, negOf] at h
        by_cases hk : k = 0
        · rw [if_pos hk] at h; cases h
        · rw [if_neg hk] at h
          have hn : n = -(k : Int) := by injection h with h; exact h.symm
          have : c = 45 := UInt8.toNat_inj.1 hc
          rw [intL, if_pos (by omega), show n.natAbs = k from by omega, digL_of_sizeL r k e, this]
    · rw [if_neg hc] at h
      cases e : sizeL (c :: r) with
      | none => rw [e] at h; cases h
      | some k =>
        rw [e, posOf] at h
        by_cases hk : 2147483647 < k
        · rw [if_pos hk] at h; cases h
        · rw [if_neg hk] at h
          have hn : n = (k : Int) := by injection h with h; exact h.symm
          rw [intL, if_neg (by omega), show n.natAbs = k from by omega, digL_of_sizeL _ k e]

end Lx
end Go.Proofs.YtiglcjcellhggaaDoor
