/- Plain functions of words: digits, letters, blanks, signs; no program is named here. -/
namespace Go.Proofs.YtildjihgklgibaaDoor
namespace Lx
set_option linter.unusedVariables false
set_option linter.unusedSimpArgs false

def digI (c : Int) : Bool := decide (48 ≤ c ∧ c ≤ 57)
def inwI (c : Int) : Bool := decide ((97 ≤ c ∧ c ≤ 122) ∨ (65 ≤ c ∧ c ≤ 90) ∨ (48 ≤ c ∧ c ≤ 57) ∨ c = 95)
def blkI (c : Int) : Bool := decide (c = 32 ∨ c = 9 ∨ c = 10 ∨ c = 13)
def sgnI (c : Int) : Bool := decide (c = 123 ∨ c = 125 ∨ c = 40 ∨ c = 41 ∨ c = 58 ∨ c = 59 ∨ c = 44 ∨ c = 91 ∨ c = 93)

def dig (u : UInt8) : Bool := digI (u.toNat : Int)
def inw (u : UInt8) : Bool := inwI (u.toNat : Int)
def blk (u : UInt8) : Bool := blkI (u.toNat : Int)
def sgn (u : UInt8) : Bool := sgnI (u.toNat : Int)

theorem sgn_any_nat : ∀ n : Nat, n < 256 → (([123, 125, 40, 41, 58, 59, 44, 91, 93] : List UInt8).any (· == n.toUInt8)) = sgnI (n : Int) := by decide +kernel
theorem sgn_any (c : Int) (h0 : 0 ≤ c) (h1 : c ≤ 255) : (([123, 125, 40, 41, 58, 59, 44, 91, 93] : List UInt8).any (· == c.toNat.toUInt8)) = sgnI c := by
  obtain ⟨n, rfl⟩ := Int.eq_ofNat_of_zero_le h0
  rw [Int.toNat_natCast]
  exact sgn_any_nat n (by omega)

def nameL : List UInt8 → Bool
  | [] => false
  | c :: r => decide (r.length < 20) && !dig c && (c :: r).all inw

theorem take_snoc (s : ByteArray) (k : Nat) (h : k < s.size) : s.data.toList.take (k + 1) = s.data.toList.take k ++ [s[k]] := by
  rw [List.take_succ_eq_append_getElem (by simpa using h)]; rfl
theorem toList_len (s : ByteArray) : s.data.toList.length = s.size := by simp
theorem nameL_short (s : ByteArray) (h : s.size < 1) : nameL s.data.toList = false := by
  have hl := toList_len s
  cases e : s.data.toList with
  | nil => rfl
  | cons c r => rw [e] at hl; simp at hl; omega
theorem nameL_long (s : ByteArray) (h : 20 < s.size) : nameL s.data.toList = false := by
  have hl := toList_len s
  cases e : s.data.toList with
  | nil => rfl
  | cons c r => rw [e] at hl; simp at hl; simp [nameL]; intro h2; omega
theorem nameL_mid (s : ByteArray) (h : 1 ≤ s.size) (h20 : s.size ≤ 20) : nameL s.data.toList = (!dig s[0] && s.data.toList.all inw) := by
  have hl := toList_len s
  have h0 : s.data.toList[0]? = some s[0] := by
    rw [List.getElem?_eq_getElem (by omega)]; rfl
  cases e : s.data.toList with
  | nil => rw [e] at hl; simp at hl; omega
  | cons c r =>
    rw [e] at hl h0; simp at hl h0; subst h0; simp only [nameL]
    rw [show decide (r.length < 20) = true from by simp; omega]; simp
theorem all_snoc (l : List UInt8) (c : UInt8) (p : UInt8 → Bool) : (l ++ [c]).all p = (l.all p && p c) := by simp

def signL : List UInt8 → Bool
  | [c] => sgn c
  | _ => false
theorem signL_one (s : ByteArray) (h : s.size = 1) (hp : 0 < s.size) : signL s.data.toList = sgnI ((s[0]'hp).toNat : Int) := by
  have hl := toList_len s
  have h0 : s.data.toList[0]? = some s[0] := by
    rw [List.getElem?_eq_getElem (by omega)]; rfl
  cases e : s.data.toList with
  | nil => rw [e] at hl; simp at hl; omega
  | cons c r =>
    rw [e] at hl h0; simp at hl h0; subst h0
    cases r with
    | nil => rfl
    | cons d r => simp at hl; omega
theorem signL_not (s : ByteArray) (h : ¬ s.size = 1) : signL s.data.toList = false := by
  have hl := toList_len s
  cases e : s.data.toList with
  | nil => rfl
  | cons c r =>
    cases r with
    | nil => rw [e] at hl; simp at hl; omega
    | cons d r => rfl

def sizeGo : List UInt8 → Nat → Option Nat
  | [], n => some n
  | c :: r, n => if dig c = true then (if 2147483648 < n * 10 + (c.toNat - 48) then none else sizeGo r (n * 10 + (c.toNat - 48))) else none
def sizeL : List UInt8 → Option Nat
  | [] => none
  | c :: r => if c.toNat = 48 ∧ r ≠ [] then none else sizeGo (c :: r) 0
def negOf : Option Nat → Option Int
  | some n => if n = 0 then none else some (-(n : Int))
  | none => none
def posOf : Option Nat → Option Int
  | some n => if 2147483647 < n then none else some (n : Int)
  | none => none
def numL : List UInt8 → Option Int
  | [] => none
  | c :: r => if c.toNat = 45 then negOf (sizeL r) else posOf (sizeL (c :: r))

theorem drop_cons (s : ByteArray) (k : Nat) (h : k < s.size) : s.data.toList.drop k = s[k] :: s.data.toList.drop (k + 1) := by
  rw [List.drop_eq_getElem_cons (by simpa using h)]; rfl
theorem dig_bounds {u : UInt8} (h : dig u = true) : 48 ≤ u.toNat ∧ u.toNat ≤ 57 := by
  simp [dig, digI] at h; omega
theorem sizeGo_step (s : ByteArray) (k : Nat) (h : k < s.size) (n : Nat) (hd : dig s[k] = true) (hb : ¬ 2147483648 < n * 10 + (s[k].toNat - 48)) :
    sizeGo (s.data.toList.drop k) n = sizeGo (s.data.toList.drop (k + 1)) (n * 10 + (s[k].toNat - 48)) := by
  rw [drop_cons s k h, sizeGo, if_pos hd, if_neg hb]
theorem sizeGo_big (s : ByteArray) (k : Nat) (h : k < s.size) (n : Nat) (hb : 2147483648 < n * 10 + (s[k].toNat - 48)) :
    sizeGo (s.data.toList.drop k) n = none := by
  rw [drop_cons s k h, sizeGo, if_pos hb]; simp
theorem sizeGo_bad (s : ByteArray) (k : Nat) (h : k < s.size) (n : Nat) (hd : dig s[k] = false) :
    sizeGo (s.data.toList.drop k) n = none := by
  rw [drop_cons s k h, sizeGo, if_neg (by simp [hd])]
theorem sizeGo_end (s : ByteArray) (k : Nat) (h : ¬ k < s.size) (n : Nat) : sizeGo (s.data.toList.drop k) n = some n := by
  rw [List.drop_eq_nil_of_le (by simp; omega)]; rfl
theorem sizeL_nil (s : ByteArray) (h : ¬ 0 < s.size) : sizeL s.data.toList = none := by
  have hl := toList_len s
  cases e : s.data.toList with
  | nil => rfl
  | cons c r => rw [e] at hl; simp at hl; omega
theorem sizeL_cons (s : ByteArray) (h : 0 < s.size) : sizeL s.data.toList = if (s[0].toNat = 48 ∧ 1 < s.size) then none else sizeGo s.data.toList 0 := by
  have hl := toList_len s
  have hc := drop_cons s 0 h
  simp only [List.drop_zero] at hc
  rw [hc] at hl
  simp only [List.length_cons] at hl
  rw [hc, sizeL]
  by_cases hr : s.data.toList.drop (0 + 1) = []
  · rw [hr] at hl ⊢; simp at hl; rw [if_neg (by simp), if_neg (by omega)]
  · have : 0 < (s.data.toList.drop (0 + 1)).length := List.length_pos_iff.2 hr
    by_cases h0 : s[0].toNat = 48
    · rw [if_pos ⟨h0, hr⟩, if_pos ⟨h0, by omega⟩]
    · rw [if_neg (fun h => h0 h.1), if_neg (fun h => h0 h.1)]
theorem numL_nil (s : ByteArray) (h : ¬ 0 < s.size) : numL s.data.toList = none := by
  have hl := toList_len s
  cases e : s.data.toList with
  | nil => rfl
  | cons c r => rw [e] at hl; simp at hl; omega
theorem extract1 (s : ByteArray) (h : 0 < s.size) : (s.extract 1 s.size).data.toList = s.data.toList.drop 1 := by
  simp [ByteArray.data_extract]
  exact List.take_of_length_le (by simp)
theorem numL_neg (s : ByteArray) (h : 0 < s.size) (h0 : s[0].toNat = 45) : numL s.data.toList = negOf (sizeL (s.extract 1 s.size).data.toList) := by
  have hc := drop_cons s 0 h
  simp only [List.drop_zero] at hc
  rw [extract1 s h, hc, numL, if_pos h0]
  simp
theorem numL_pos (s : ByteArray) (h : 0 < s.size) (h0 : ¬ s[0].toNat = 45) : numL s.data.toList = posOf (sizeL s.data.toList) := by
  have hc := drop_cons s 0 h
  simp only [List.drop_zero] at hc
  rw [hc, numL, if_neg h0]
theorem sizeGo_le : ∀ (l : List UInt8) (n m : Nat), n ≤ 2147483648 → sizeGo l n = some m → m ≤ 2147483648
  | [], n, m, hn, h => by simp [sizeGo] at h; omega
  | c :: r, n, m, hn, h => by
    rw [sizeGo] at h
    by_cases hd : dig c = true
    · rw [if_pos hd] at h
      by_cases hb : 2147483648 < n * 10 + (c.toNat - 48)
      · rw [if_pos hb] at h; cases h
      · rw [if_neg hb] at h; exact sizeGo_le r _ m (by omega) h
    · rw [if_neg hd] at h; cases h
theorem sizeL_le (l : List UInt8) (m : Nat) (h : sizeL l = some m) : m ≤ 2147483648 := by
  cases l with
  | nil => cases h
  | cons c r =>
    rw [sizeL] at h
    by_cases hc : c.toNat = 48 ∧ r ≠ []
    · rw [if_pos hc] at h; cases h
    · rw [if_neg hc] at h; exact sizeGo_le _ 0 m (by omega) h
theorem numL_le (l : List UInt8) (m : Int) (h : numL l = some m) : -2147483648 ≤ m ∧ m ≤ 2147483647 := by
  cases l with
  | nil => cases h
  | cons c r =>
    rw [numL] at h
    by_cases hc : c.toNat = 45
    · rw [if_pos hc] at h
      cases e : sizeL r with
      | none => rw [e] at h; cases h
      | some n =>
        rw [e] at h; have := sizeL_le _ _ e
        by_cases hn : n = 0
        · simp [negOf, hn] at h
        · simp [negOf, hn] at h; omega
    · rw [if_neg hc] at h
      cases e : sizeL (c :: r) with
      | none => rw [e] at h; cases h
      | some n =>
        rw [e] at h; have := sizeL_le _ _ e
        by_cases hn : 2147483647 < n
        · simp [posOf, hn] at h
        · simp [posOf, hn] at h; omega

end Lx
end Go.Proofs.YtildjihgklgibaaDoor
