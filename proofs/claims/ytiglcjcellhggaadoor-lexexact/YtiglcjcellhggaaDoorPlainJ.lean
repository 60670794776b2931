/- Words of tokens, one behind the other, a blank between each two. No program is named here. -/
import Derived.Test.YtiglcjcellhggaaDoorPlain7
import Derived.Lib.ItoaNum
namespace Go.Proofs.YtiglcjcellhggaaDoor
namespace Lx
set_option linter.unusedVariables false
set_option linter.unusedSimpArgs false

structure ATok where
  kind : Int
  text : List UInt8
  num : Int
  pos : Int

def wordA (t : ATok) : Option (List UInt8) :=
  if t.kind = 1 then (if t.num = 0 ∧ nameL t.text = true then some t.text else none)
  else if t.kind = 2 then (if t.text = [] ∧ -2147483648 ≤ t.num ∧ t.num ≤ 2147483647 then some (intL t.num) else none)
  else if t.kind = 3 then (if t.num = 0 ∧ signL t.text = true then some t.text else none)
  else none

def joinGo : List ATok → Bool → List UInt8 → Option (List UInt8)
  | [], _, acc => some acc
  | t :: r, first, acc =>
    match wordA t with
    | none => none
    | some l => joinGo r false (if first = true then acc ++ l else acc ++ [32] ++ l)
def joinL (ts : List ATok) : Option (List UInt8) := joinGo ts true []

theorem dec_dig : ∀ (f n : Nat), n < 10 ^ (f + 1) → Lib.decDigits n = digF f n
  | 0, n, h => by rw [digF, Lib.decDigits_one (by simpa using h), dg]; congr 2; simp at h; omega
  | f + 1, n, h => by
    rw [digF]
    by_cases hn : n < 10
    · rw [if_pos hn, Lib.decDigits_one hn, dg]; congr 2; omega
    · rw [if_neg hn, Lib.decDigits, dif_neg hn, dec_dig f (n / 10) (by rw [Nat.pow_succ] at h; omega)]; rfl
theorem itoa_intL (n : Int) (h0 : -2147483648 ≤ n) (h1 : n ≤ 2147483647) : Lib.itoa n = intL n := by
  unfold Lib.itoa intL
  split
  · rw [dec_dig 19 _ (by omega)]; rfl
  · rw [dec_dig 19 _ (by omega)]
    show digF 19 n.toNat = digF 19 n.natAbs
    congr 1; omega
theorem nameL_len (l : List UInt8) (h : nameL l = true) : l.length ≤ 20 := ((nameL_iff l).1 h).2.1
theorem signL_len (l : List UInt8) (h : signL l = true) : l.length = 1 := by
  match l, h with
  | [c], _ => rfl
  | [], h => cases h
  | _ :: _ :: _, h => cases h
theorem wordA_len (t : ATok) (l : List UInt8) (h : wordA t = some l) : 1 ≤ l.length ∧ l.length ≤ 21 := by
  unfold wordA at h
  by_cases h1 : t.kind = 1
  · rw [if_pos h1] at h
    split at h
    · rename_i hc
      injection h with h; subst h
      obtain ⟨a, b, _⟩ := (nameL_iff _).1 hc.2
      omega
    · cases h
  · rw [if_neg h1] at h
    by_cases h2 : t.kind = 2
    · rw [if_pos h2] at h
      split at h
      · injection h with h; subst h; exact intL_len _
      · cases h
    · rw [if_neg h2] at h
      by_cases h3 : t.kind = 3
      · rw [if_pos h3] at h
        split at h
        · rename_i hc
          injection h with h; subst h
          have := signL_len _ hc.2
          omega
        · cases h
      · rw [if_neg h3] at h; cases h
theorem joinGo_len : ∀ (ts : List ATok) (f : Bool) (acc r : List UInt8), joinGo ts f acc = some r → r.length ≤ acc.length + 22 * ts.length
  | [], f, acc, r, h => by simp [joinGo] at h; subst h; omega
  | t :: ts, f, acc, r, h => by
    rw [joinGo] at h
    cases hw : wordA t with
    | none => rw [hw] at h; cases h
    | some l =>
      rw [hw] at h
      have hl := (wordA_len t l hw).2
      have := joinGo_len ts false _ r h
      cases f with
      | true => simp at this ⊢; omega
      | false => simp at this ⊢; omega
theorem joinGo_ge : ∀ (ts : List ATok) (f : Bool) (acc r : List UInt8), joinGo ts f acc = some r → acc.length ≤ r.length
  | [], f, acc, r, h => by simp [joinGo] at h; subst h; omega
  | t :: ts, f, acc, r, h => by
    rw [joinGo] at h
    cases hw : wordA t with
    | none => rw [hw] at h; cases h
    | some l =>
      rw [hw] at h
      have := joinGo_ge ts false _ r h
      cases f with
      | true => simp at this; omega
      | false => simp at this; omega
theorem joinL_pos (ts : List ATok) (r : List UInt8) (hne : ts ≠ []) (h : joinL ts = some r) : 1 ≤ r.length := by
  cases ts with
  | nil => exact absurd rfl hne
  | cons t ts =>
    rw [joinL, joinGo] at h
    cases hw : wordA t with
    | none => rw [hw] at h; cases h
    | some l =>
      rw [hw] at h
      have h1 := joinGo_ge ts false _ r h
      have h2 := (wordA_len t l hw).1
      simp at h1; omega
theorem joinGo_append : ∀ (a b : List ATok) (f : Bool) (acc : List UInt8), joinGo (a ++ b) f acc = (joinGo a f acc).bind fun r => joinGo b (f && a.isEmpty) r
  | [], b, f, acc => by simp [joinGo]
  | t :: a, b, f, acc => by
    rw [List.cons_append, joinGo, joinGo]
    cases hw : wordA t with
    | none => rfl
    | some l => simp only; rw [joinGo_append a b]; simp
theorem joinGo_acc : ∀ (a : List ATok) (acc : List UInt8), a ≠ [] → joinGo a false acc = (joinGo a true []).map fun r => acc ++ [32] ++ r
  | [], acc, h => absurd rfl h
  | [t], acc, _ => by
    rw [joinGo, joinGo]
    cases hw : wordA t with
    | none => rfl
    | some l => simp [joinGo]
  | t :: u :: a, acc, _ => by
    rw [joinGo, joinGo]
    cases hw : wordA t with
    | none => rfl
    | some l =>
      simp only
      rw [joinGo_acc (u :: a) _ (by simp), joinGo_acc (u :: a) _ (by simp)]
      cases joinGo (u :: a) true [] with
      | none => rfl
      | some r => simp
/-- Two lists joined: both texts, a blank between. -/
theorem joinL_two (a b : List ATok) (ha : a ≠ []) (hb : b ≠ []) : joinL (a ++ b) = (joinL a).bind fun x => (joinL b).map fun y => x ++ [32] ++ y := by
  unfold joinL
  rw [joinGo_append]
  cases joinGo a true [] with
  | none => rfl
  | some x =>
    have : (true && a.isEmpty) = false := by cases a with
      | nil => exact absurd rfl ha
      | cons c r => rfl
    simp only [Option.bind_some, this]
    rw [joinGo_acc b x hb]

end Lx
end Go.Proofs.YtiglcjcellhggaaDoor
