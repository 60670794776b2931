/- Plain functions of words: digits, letters, blanks, signs; no program is named here. Words of a text: how long the word at a place is. No program is named here. The words of a text, one by one. No program is named here. Parsers of words as trees, what they come to, and the tree of a program's text. No program is named here. What holds of every tree of the program's text: behind a fault nothing moves; places only rise; only words up to the last place matter; words ahead do not matter. No program is named here. Two lists of words one behind the other, read by the tree of a program. No program is named here. Words that are cut off, read by the tree of a program. No program is named here. A program's words, and that the tree reads them as that program. No program is named here. What is read without a fault is a program whose words can be written. No program is named here. Names: their beginnings, what stands behind them, what is scanned of one. No program is named here. Digits: what number they are, and back. No program is named here. Where the words of a text stand. No program is named here. Words of tokens, one behind the other, a blank between each two. No program is named here. Words with blanks between them are scanned again. No program is named here. Programs of any numbers: whether they can be shown, and their text. No program is named here. The words of a program that can be shown are words, and not too many. No program is named here. Programs that are not too great. No program is named here. The page's own text of a program, part by part: it is the text of the words. No program of the code is named here. -/
import Derived.Lib.ItoaNum
namespace Go.Proofs.YtdgfidaopkcjoaaDoor
namespace Lx
set_option linter.unusedVariables false
set_option linter.unusedSimpArgs false

def digI (c : Int) : Bool := decide (48 ≤ c ∧ c ≤ 57)
def inwI (c : Int) : Bool := decide ((97 ≤ c ∧ c ≤ 122) ∨ (65 ≤ c ∧ c ≤ 90) ∨ (48 ≤ c ∧ c ≤ 57) ∨ c = 95)
def blkI (c : Int) : Bool := decide (c = 32 ∨ c = 9 ∨ c = 10 ∨ c = 13)
def sgnI (c : Int) : Bool := decide (c = 123 ∨ c = 125 ∨ c = 40 ∨ c = 41 ∨ c = 58 ∨ c = 59 ∨ c = 44 ∨ c = 91 ∨ c = 93)

def dig (u : UInt8) : Bool := digI (u.toNat : Int)
def inw (u : UInt8) : Bool := inwI (u.toNat : Int)
def blk (u : UInt8) : Bool := blkI (u.toNat : Int)
def sgn (u : UInt8) : Bool := sgnI (u.toNat : Int)

theorem sgn_any_nat : ∀ n : Nat, n < 256 → (([123, 125, 40, 41, 58, 59, 44, 91, 93] : List UInt8).any (· == n.toUInt8)) = sgnI (n : Int) := by decide +kernel
theorem sgn_any (c : Int) (h0 : 0 ≤ c) (h1 : c ≤ 255) : (([123, 125, 40, 41, 58, 59, 44, 91, 93] : List UInt8).any (· == c.toNat.toUInt8)) = sgnI c := by
  obtain ⟨n, rfl⟩ := Int.eq_ofNat_of_zero_le h0
  rw [Int.toNat_natCast]
  exact sgn_any_nat n (by omega)

def nameL : List UInt8 → Bool
  | [] => false
  | c :: r => decide (r.length < 20) && !dig c && (c :: r).all inw

theorem take_snoc (s : ByteArray) (k : Nat) (h : k < s.size) : s.data.toList.take (k + 1) = s.data.toList.take k ++ [s[k]] := by
  rw [List.take_succ_eq_append_getElem (by simpa using h)]; rfl
theorem toList_len (s : ByteArray) : s.data.toList.length = s.size := by simp
theorem nameL_short (s : ByteArray) (h : s.size < 1) : nameL s.data.toList = false := by
  have hl := toList_len s
  cases e : s.data.toList with
  | nil => rfl
  | cons c r => rw [e] at hl; simp at hl; omega
theorem nameL_long (s : ByteArray) (h : 20 < s.size) : nameL s.data.toList = false := by
  have hl := toList_len s
  cases e : s.data.toList with
  | nil => rfl
  | cons c r => rw [e] at hl; simp at hl; simp [nameL]; intro h2; omega
theorem nameL_mid (s : ByteArray) (h : 1 ≤ s.size) (h20 : s.size ≤ 20) : nameL s.data.toList = (!dig s[0] && s.data.toList.all inw) := by
  have hl := toList_len s
  have h0 : s.data.toList[0]? = some s[0] := by
    rw [List.getElem?_eq_getElem (by omega)]; rfl
  cases e : s.data.toList with
  | nil => rw [e] at hl; simp at hl; omega
  | cons c r =>
    rw [e] at hl h0; simp at hl h0; subst h0; simp only [nameL]
    rw [show decide (r.length < 20) = true from by simp; omega]; simp
theorem all_snoc (l : List UInt8) (c : UInt8) (p : UInt8 → Bool) : (l ++ [c]).all p = (l.all p && p c) := by simp

def signL : List UInt8 → Bool
  | [c] => sgn c
  | _ => false
theorem signL_one (s : ByteArray) (h : s.size = 1) (hp : 0 < s.size) : signL s.data.toList = sgnI ((s[0]'hp).toNat : Int) := by
  have hl := toList_len s
  have h0 : s.data.toList[0]? = some s[0] := by
    rw [List.getElem?_eq_getElem (by omega)]; rfl
  cases e : s.data.toList with
  | nil => rw [e] at hl; simp at hl; omega
  | cons c r =>
    rw [e] at hl h0; simp at hl h0; subst h0
    cases r with
    | nil => rfl
    | cons d r => simp at hl; omega
theorem signL_not (s : ByteArray) (h : ¬ s.size = 1) : signL s.data.toList = false := by
  have hl := toList_len s
  cases e : s.data.toList with
  | nil => rfl
  | cons c r =>
    cases r with
    | nil => rw [e] at hl; simp at hl; omega
    | cons d r => rfl

def sizeGo : List UInt8 → Nat → Option Nat
  | [], n => some n
  | c :: r, n => if dig c = true then (if 2147483648 < n * 10 + (c.toNat - 48) then none else sizeGo r (n * 10 + (c.toNat - 48))) else none
def sizeL : List UInt8 → Option Nat
  | [] => none
  | c :: r => if c.toNat = 48 ∧ r ≠ [] then none else sizeGo (c :: r) 0
def negOf : Option Nat → Option Int
  | some n => if n = 0 then none else some (-(n : Int))
  | none => none
def posOf : Option Nat → Option Int
  | some n => if 2147483647 < n then none else some (n : Int)
  | none => none
def numL : List UInt8 → Option Int
  | [] => none
  | c :: r => if c.toNat = 45 then negOf (sizeL r) else posOf (sizeL (c :: r))

theorem drop_cons (s : ByteArray) (k : Nat) (h : k < s.size) : s.data.toList.drop k = s[k] :: s.data.toList.drop (k + 1) := by
  rw [List.drop_eq_getElem_cons (by simpa using h)]; rfl
theorem dig_bounds {u : UInt8} (h : dig u = true) : 48 ≤ u.toNat ∧ u.toNat ≤ 57 := by
  simp [dig, digI] at h; omega
theorem sizeGo_step (s : ByteArray) (k : Nat) (h : k < s.size) (n : Nat) (hd : dig s[k] = true) (hb : ¬ 2147483648 < n * 10 + (s[k].toNat - 48)) :
    sizeGo (s.data.toList.drop k) n = sizeGo (s.data.toList.drop (k + 1)) (n * 10 + (s[k].toNat - 48)) := by
  rw [drop_cons s k h, sizeGo, if_pos hd, if_neg hb]
theorem sizeGo_big (s : ByteArray) (k : Nat) (h : k < s.size) (n : Nat) (hb : 2147483648 < n * 10 + (s[k].toNat - 48)) :
    sizeGo (s.data.toList.drop k) n = none := by
  rw [drop_cons s k h, sizeGo, if_pos hb]; simp
theorem sizeGo_bad (s : ByteArray) (k : Nat) (h : k < s.size) (n : Nat) (hd : dig s[k] = false) :
    sizeGo (s.data.toList.drop k) n = none := by
  rw [drop_cons s k h, sizeGo, if_neg (by simp [hd])]
theorem sizeGo_end (s : ByteArray) (k : Nat) (h : ¬ k < s.size) (n : Nat) : sizeGo (s.data.toList.drop k) n = some n := by
  rw [List.drop_eq_nil_of_le (by simp; omega)]; rfl
theorem sizeL_nil (s : ByteArray) (h : ¬ 0 < s.size) : sizeL s.data.toList = none := by
  have hl := toList_len s
  cases e : s.data.toList with
  | nil => rfl
  | cons c r => rw [e] at hl; simp at hl; omega
theorem sizeL_cons (s : ByteArray) (h : 0 < s.size) : sizeL s.data.toList = if (s[0].toNat = 48 ∧ 1 < s.size) then none else sizeGo s.data.toList 0 := by
  have hl := toList_len s
  have hc := drop_cons s 0 h
  simp only [List.drop_zero] at hc
  rw [hc] at hl
  simp only [List.length_cons] at hl
  rw [hc, sizeL]
  by_cases hr : s.data.toList.drop (0 + 1) = []
  · rw [hr] at hl ⊢; simp at hl; rw [if_neg (by simp), if_neg (by omega)]
  · have : 0 < (s.data.toList.drop (0 + 1)).length := List.length_pos_iff.2 hr
    by_cases h0 : s[0].toNat = 48
    · rw [if_pos ⟨h0, hr⟩, if_pos ⟨h0, by omega⟩]
    · rw [if_neg (fun h => h0 h.1), if_neg (fun h => h0 h.1)]
theorem numL_nil (s : ByteArray) (h : ¬ 0 < s.size) : numL s.data.toList = none := by
  have hl := toList_len s
  cases e : s.data.toList with
  | nil => rfl
  | cons c r => rw [e] at hl; simp at hl; omega
theorem extract1 (s : ByteArray) (h : 0 < s.size) : (s.extract 1 s.size).data.toList = s.data.toList.drop 1 := by
  simp [ByteArray.data_extract]
  exact List.take_of_length_le (by simp)
theorem numL_neg (s : ByteArray) (h : 0 < s.size) (h0 : s[0].toNat = 45) : numL s.data.toList = negOf (sizeL (s.extract 1 s.size).data.toList) := by
  have hc := drop_cons s 0 h
  simp only [List.drop_zero] at hc
  rw [extract1 s h, hc, numL, if_pos h0]
  simp
theorem numL_pos (s : ByteArray) (h : 0 < s.size) (h0 : ¬ s[0].toNat = 45) : numL s.data.toList = posOf (sizeL s.data.toList) := by
  have hc := drop_cons s 0 h
  simp only [List.drop_zero] at hc
  rw [hc, numL, if_neg h0]
theorem sizeGo_le : ∀ (l : List UInt8) (n m : Nat), n ≤ 2147483648 → sizeGo l n = some m → m ≤ 2147483648
  | [], n, m, hn, h => by simp [sizeGo] at h; omega
  | c :: r, n, m, hn, h => by
    rw [sizeGo] at h
    by_cases hd : dig c = true
    · rw [if_pos hd] at h
      by_cases hb : 2147483648 < n * 10 + (c.toNat - 48)
      · rw [if_pos hb] at h; cases h
      · rw [if_neg hb] at h; exact sizeGo_le r _ m (by omega) h
    · rw [if_neg hd] at h; cases h
theorem sizeL_le (l : List UInt8) (m : Nat) (h : sizeL l = some m) : m ≤ 2147483648 := by
  cases l with
  | nil => cases h
  | cons c r =>
    rw [sizeL] at h
    by_cases hc : c.toNat = 48 ∧ r ≠ []
    · rw [if_pos hc] at h; cases h
    · rw [if_neg hc] at h; exact sizeGo_le _ 0 m (by omega) h
theorem numL_le (l : List UInt8) (m : Int) (h : numL l = some m) : -2147483648 ≤ m ∧ m ≤ 2147483647 := by
  cases l with
  | nil => cases h
  | cons c r =>
    rw [numL] at h
    by_cases hc : c.toNat = 45
    · rw [if_pos hc] at h
      cases e : sizeL r with
      | none => rw [e] at h; cases h
      | some n =>
        rw [e] at h; have := sizeL_le _ _ e
        by_cases hn : n = 0
        · simp [negOf, hn] at h
        · simp [negOf, hn] at h; omega
    · rw [if_neg hc] at h
      cases e : sizeL (c :: r) with
      | none => rw [e] at h; cases h
      | some n =>
        rw [e] at h; have := sizeL_le _ _ e
        by_cases hn : 2147483647 < n
        · simp [posOf, hn] at h
        · simp [posOf, hn] at h; omega

end Lx
end Go.Proofs.YtdgfidaopkcjoaaDoor

namespace Go.Proofs.YtdgfidaopkcjoaaDoor
namespace Lx
set_option linter.unusedVariables false
set_option linter.unusedSimpArgs false

def runLen (l : List UInt8) : Nat := (l.takeWhile inw).length
def wordLen : List UInt8 → Nat
  | [] => 0
  | c :: r => if sgn c = true then 1 else if c.toNat = 45 then 1 + runLen r else runLen (c :: r)

theorem drop_at (bs : List UInt8) (k : Nat) (h : k < bs.length) : bs.drop k = bs.getD k 0 :: bs.drop (k + 1) := by
  rw [List.drop_eq_getElem_cons h]; simp [List.getD, h]
theorem runLen_in (bs : List UInt8) (k : Nat) (h : k < bs.length) (hi : inw (bs.getD k 0) = true) : runLen (bs.drop k) = 1 + runLen (bs.drop (k + 1)) := by
  rw [drop_at bs k h]; simp only [runLen, List.takeWhile_cons, hi, if_true, List.length_cons]; omega
theorem runLen_out (bs : List UInt8) (k : Nat) (h : k < bs.length) (hi : inw (bs.getD k 0) = false) : runLen (bs.drop k) = 0 := by
  rw [drop_at bs k h]; simp only [runLen, List.takeWhile_cons, hi]; rfl
theorem runLen_end (bs : List UInt8) (k : Nat) (h : ¬ k < bs.length) : runLen (bs.drop k) = 0 := by
  rw [List.drop_eq_nil_of_le (by omega)]; rfl
theorem wordLen_sgn (bs : List UInt8) (k : Nat) (h : k < bs.length) (hi : sgn (bs.getD k 0) = true) : wordLen (bs.drop k) = 1 := by
  rw [drop_at bs k h, wordLen, if_pos hi]
theorem wordLen_min (bs : List UInt8) (k : Nat) (h : k < bs.length) (hi : sgn (bs.getD k 0) = false) (h45 : (bs.getD k 0).toNat = 45) : wordLen (bs.drop k) = 1 + runLen (bs.drop (k + 1)) := by
  rw [drop_at bs k h, wordLen, if_neg (by rw [hi]; exact Bool.false_ne_true), if_pos h45]
theorem wordLen_run (bs : List UInt8) (k : Nat) (h : k < bs.length) (hi : sgn (bs.getD k 0) = false) (h45 : ¬ (bs.getD k 0).toNat = 45) : wordLen (bs.drop k) = runLen (bs.drop k) := by
  rw [drop_at bs k h, wordLen, if_neg (by rw [hi]; exact Bool.false_ne_true), if_neg h45]
theorem runLen_le (l : List UInt8) : runLen l ≤ l.length := by
  unfold runLen; exact (List.takeWhile_sublist _).length_le
theorem wordLen_le (l : List UInt8) : wordLen l ≤ l.length := by
  cases l with
  | nil => simp [wordLen]
  | cons c r =>
    rw [wordLen]
    have h1 := runLen_le r
    have h2 := runLen_le (c :: r)
    simp only [List.length_cons] at h2 ⊢
    split
    · omega
    · split <;> omega

end Lx
end Go.Proofs.YtdgfidaopkcjoaaDoor

namespace Go.Proofs.YtdgfidaopkcjoaaDoor
namespace Lx
set_option linter.unusedVariables false
set_option linter.unusedSimpArgs false

structure Tok where
  kind : Int
  text : List UInt8
  num : Int
  pos : Nat

def tokOf (l : List UInt8) (p : Nat) : Option Tok :=
  if nameL l = true then some ⟨1, l, 0, p⟩ else
    match numL l with
    | some n => some ⟨2, [], n, p⟩
    | none => if signL l = true then some ⟨3, l, 0, p⟩ else none

def wordOf (l : List UInt8) : List UInt8 := l.take (wordLen l)

def scanGo : Nat → List UInt8 → Nat → List Tok → List Tok × Nat × Nat
  | 0, _, _, acc => (acc, 0, 0)
  | _ + 1, [], _, acc => (acc, 0, 0)
  | f + 1, c :: r, p, acc =>
    if blk c = true then scanGo f r (p + 1) acc else
      match tokOf (wordOf (c :: r)) p with
      | none => ([], p, 3)
      | some t => scanGo f ((c :: r).drop (wordLen (c :: r))) (p + wordLen (c :: r)) (acc ++ [t])

def scanL (bs : List UInt8) : List Tok × Nat × Nat := if 6000 < bs.length then ([], 0, 2) else scanGo bs.length bs 0 []

theorem scanGo_end (bs : List UInt8) (k f : Nat) (acc : List Tok) (h : ¬ k < bs.length) : scanGo f (bs.drop k) k acc = (acc, 0, 0) := by
  rw [List.drop_eq_nil_of_le (by omega)]; cases f <;> rfl
theorem scanGo_blk (bs : List UInt8) (k f : Nat) (acc : List Tok) (h : k < bs.length) (hb : blk (bs.getD k 0) = true) : scanGo (f + 1) (bs.drop k) k acc = scanGo f (bs.drop (k + 1)) (k + 1) acc := by
  rw [drop_at bs k h, scanGo, if_pos hb]
theorem scanGo_none (bs : List UInt8) (k f : Nat) (acc : List Tok) (h : k < bs.length) (hb : blk (bs.getD k 0) = false) (ht : tokOf (wordOf (bs.drop k)) k = none) : scanGo (f + 1) (bs.drop k) k acc = ([], k, 3) := by
  rw [drop_at bs k h] at ht ⊢
  rw [scanGo, if_neg (by rw [hb]; exact Bool.false_ne_true), ht]
theorem scanGo_some (bs : List UInt8) (k f : Nat) (acc : List Tok) (t : Tok) (h : k < bs.length) (hb : blk (bs.getD k 0) = false) (ht : tokOf (wordOf (bs.drop k)) k = some t) :
    scanGo (f + 1) (bs.drop k) k acc = scanGo f (bs.drop (k + wordLen (bs.drop k))) (k + wordLen (bs.drop k)) (acc ++ [t]) := by
  rw [← List.drop_drop, drop_at bs k h] at *
  rw [scanGo, if_neg (by rw [hb]; exact Bool.false_ne_true), ht]
theorem tokOf_nil (p : Nat) : tokOf [] p = none := rfl
theorem wordLen_pos (l : List UInt8) (p : Nat) (t : Tok) (h : tokOf (wordOf l) p = some t) : 0 < wordLen l := by
  rcases Nat.eq_zero_or_pos (wordLen l) with h0 | h0
  · rw [wordOf, h0, List.take_zero, tokOf_nil] at h; cases h
  · exact h0

end Lx
end Go.Proofs.YtdgfidaopkcjoaaDoor

namespace Go.Proofs.YtdgfidaopkcjoaaDoor
namespace Pp
set_option linter.unusedVariables false
set_option linter.unusedSimpArgs false

abbrev Bs := List UInt8
structure Wd where
  kind : Int
  text : Bs
  num : Int
def wd (t : Lx.Tok) : Wd := ⟨t.kind, t.text, t.num⟩
structure St where
  i : Nat
  e : Int
def cur (C : List Wd) (s : St) : Option Wd := if s.e = 0 then C[s.i]? else none
def failS (s : St) (k : Int) : St := if s.e = 0 then ⟨s.i, k⟩ else s
def St.adv (s : St) : St := ⟨s.i + 1, s.e⟩
def has (C : List Wd) (s : St) (q : Wd → Bool) : Bool := match cur C s with
  | some t => q t
  | none => false
/-- A tree of words: what it comes to over any words, from any state. -/
def Pr (α : Type) : Type := List Wd → St → α × St
def Pr.run {α : Type} (C : List Wd) (p : Pr α) (s : St) : α × St := p C s
def Pr.ret {α : Type} (a : α) : Pr α := fun _ s => (a, s)
def Pr.test {α : Type} (q : Wd → Bool) (y : Wd → Pr α) (n : Pr α) : Pr α := fun C s => if has C s q = true then (match cur C s with
  | some t => y t C s.adv
  | none => n C s) else n C s
def Pr.peek {α : Type} (q : Wd → Bool) (y n : Pr α) : Pr α := fun C s => if has C s q = true then y C s else n C s
def Pr.fail {α : Type} (k : Int) (p : Pr α) : Pr α := fun C s => p C (failS s k)
def Pr.bind {α β : Type} (p : Pr α) (f : α → Pr β) : Pr β := fun C s => f (p C s).1 C (p C s).2
theorem run_bind {α β : Type} (C : List Wd) (f : α → Pr β) (p : Pr α) (s : St) : (p.bind f).run C s = (f (p.run C s).1).run C (p.run C s).2 := rfl
theorem test_run {α : Type} (C : List Wd) (q : Wd → Bool) (y : Wd → Pr α) (n : Pr α) (s : St) : (Pr.test q y n).run C s = if has C s q = true then (match cur C s with
  | some t => (y t).run C s.adv
  | none => n.run C s) else n.run C s := rfl
theorem peek_run {α : Type} (C : List Wd) (q : Wd → Bool) (y n : Pr α) (s : St) : (Pr.peek q y n).run C s = if has C s q = true then y.run C s else n.run C s := rfl

structure Ty where
  kind : Int
  name : Bs
structure Fld where
  name : Bs
  ty : Ty
  stat : Bool
structure Ins where
  op : Nat
  n : Int
  a : Bs
  b : Bs
structure Ctc where
  name : Bs
  lo : Int
  hi : Int
  pc : Int
structure Mth where
  name : Bs
  stat : Bool
  abst : Bool
  params : List Ty
  ret : Ty
  locals : Int
  code : List Ins
  catches : List Ctc
structure Cls where
  name : Bs
  iface : Bool
  super : Bs
  ifaces : List Bs
  fields : List Fld
  methods : List Mth

def wClass : Bs := [99, 108, 97, 115, 115]
def wInterface : Bs := [105, 110, 116, 101, 114, 102, 97, 99, 101]
def wExtends : Bs := [101, 120, 116, 101, 110, 100, 115]
def wImplements : Bs := [105, 109, 112, 108, 101, 109, 101, 110, 116, 115]
def wField : Bs := [102, 105, 101, 108, 100]
def wStatic : Bs := [115, 116, 97, 116, 105, 99]
def wMethod : Bs := [109, 101, 116, 104, 111, 100]
def wFunction : Bs := [102, 117, 110, 99, 116, 105, 111, 110]
def wLocals : Bs := [108, 111, 99, 97, 108, 115]
def wCatch : Bs := [99, 97, 116, 99, 104]
def wInt : Bs := [105, 110, 116]
def wVoid : Bs := [118, 111, 105, 100]
def wLB : Bs := [123]
def wRB : Bs := [125]
def wLP : Bs := [40]
def wRP : Bs := [41]
def wColon : Bs := [58]
def wSemi : Bs := [59]
def wComma : Bs := [44]
def wLK : Bs := [91]
def wRK : Bs := [93]
def keptWords : List Bs := [wClass, wInterface, wExtends, wImplements, wField, wStatic, wMethod, wFunction, wLocals, wCatch, wInt, wVoid]
def keptL (s : Bs) : Bool := keptWords.any (· == s)
def opWords : List Bs := [[110, 111, 112], [99, 111, 110, 115, 116], [110, 117, 108, 108], [108, 111, 97, 100], [115, 116, 111, 114, 101], [112, 111, 112], [100, 117, 112], [115, 119, 97, 112], [97, 100, 100], [115, 117, 98], [109, 117, 108], [100, 105, 118], [114, 101, 109], [110, 101, 103], [103, 111, 116, 111], [105, 102, 101, 113], [105, 102, 110, 101], [105, 102, 108, 116], [105, 102, 103, 101], [99, 109, 112, 101, 113], [99, 109, 112, 110, 101], [99, 109, 112, 108, 116], [99, 109, 112, 103, 101], [105, 102, 110, 117, 108, 108], [105, 102, 114, 101, 102], [115, 97, 109, 101], [111, 116, 104, 101, 114], [110, 101, 119], [103, 101, 116], [112, 117, 116], [103, 101, 116, 115], [112, 117, 116, 115], [105, 110, 116, 115], [114, 101, 102, 115], [108, 101, 110], [97, 116], [115, 101, 116], [105, 115], [99, 97, 115, 116], [99, 97, 108, 108], [102, 117, 110, 99], [114, 101, 116], [108, 101, 97, 118, 101], [116, 104, 114, 111, 119]]
def opL (s : Bs) : Option Nat := opWords.findIdx? (· == s)

def isW (t : Bs) (w : Wd) : Bool := w.text == t
def isW2 (t u : Bs) (w : Wd) : Bool := w.text == t || w.text == u
def isFresh (w : Wd) : Bool := w.kind == 1 && !keptL w.text
def isNum (lo hi : Int) (w : Wd) : Bool := w.kind == 2 && (decide (lo ≤ w.num) && decide (w.num ≤ hi))
def isType (w : Wd) : Bool := isW2 wVoid wInt w || isFresh w
def isInstr (w : Wd) : Bool := (opL w.text).isSome

def want (t : Bs) : Pr Unit := .test (isW t) (fun _ => .ret ()) (.fail 4 (.ret ()))
def skip (t : Bs) : Pr Bool := .test (isW t) (fun _ => .ret true) (.ret false)
def first (a b : Bs) : Pr Bool := .test (isW a) (fun _ => .ret true) ((want b).bind fun _ => .ret false)
def fresh : Pr Bs := .test isFresh (fun w => .ret w.text) (.fail 4 (.ret []))
def number (lo hi : Int) : Pr Int := .test (isNum lo hi) (fun w => .ret w.num) (.fail 4 (.ret 0))
def rowOf (one row : Int) (n : Bs) : Pr Ty := .test (isW wLK) (fun _ => (want wRK).bind fun _ => .ret ⟨row, n⟩) (.ret ⟨one, n⟩)
def typed : Pr Ty := .test (isW wVoid) (fun _ => .ret ⟨1, []⟩) (.test (isW wInt) (fun _ => rowOf 2 4 []) (fresh.bind fun n => rowOf 3 5 n))
def listedGo {α : Type} (q : Wd → Bool) (item : Pr α) : Nat → List α → Pr (List α)
  | 0, acc => .test (isW wComma) (fun _ => .peek q (.fail 2 (.ret [])) (.fail 4 (.ret []))) (.ret acc)
  | n + 1, acc => .test (isW wComma) (fun _ => .peek q (item.bind fun a => listedGo q item n (acc ++ [a])) (.fail 4 (.ret []))) (.ret acc)
def listed {α : Type} (q : Wd → Bool) (item : Pr α) (most : Nat) : Pr (List α) := item.bind fun a => listedGo q item (most - 1) [a]
def many {α : Type} (q : Wd → Bool) (item : Pr α) : Nat → List α → Pr (List α)
  | 0, acc => .peek q (.fail 2 (.ret acc)) (.ret acc)
  | n + 1, acc => .peek q (item.bind fun a => many q item n (acc ++ [a])) (.ret acc)
def field : Pr Fld := (first wStatic wField).bind fun st => fresh.bind fun n => (want wColon).bind fun _ => typed.bind fun t => (want wSemi).bind fun _ => .ret ⟨n, t, st⟩
def shape (op : Nat) : Nat := if op = 1 then 1 else if op = 3 ∨ op = 4 then 2 else if 14 ≤ op ∧ op ≤ 26 then 3 else if op = 27 ∨ op = 33 ∨ op = 37 ∨ op = 38 then 4 else if (28 ≤ op ∧ op ≤ 31) ∨ op = 39 ∨ op = 40 then 5 else 0
def args (op : Nat) : Pr (Int × Bs × Bs) :=
  if shape op = 1 then (number (-2147483648) 2147483647).bind fun n => .ret (n, [], [])
  else if shape op = 2 then (number 0 7).bind fun n => .ret (n, [], [])
  else if shape op = 3 then (number 0 47).bind fun n => .ret (n, [], [])
  else if shape op = 4 then fresh.bind fun a => .ret (0, a, [])
  else if shape op = 5 then fresh.bind fun a => fresh.bind fun b => .ret (0, a, b)
  else .ret (0, [], [])
def instrOf (op : Nat) : Pr Ins := (args op).bind fun x => (want wSemi).bind fun _ => .ret ⟨op, x.1, x.2.1, x.2.2⟩
def instr : Pr Ins := .test isInstr (fun w => instrOf ((opL w.text).getD 0)) (.ret ⟨0, 0, [], []⟩)
def catch_ : Pr Ctc := (want wCatch).bind fun _ => fresh.bind fun n => (number 0 48).bind fun a => (number 0 48).bind fun b => (number 0 48).bind fun c => (want wSemi).bind fun _ => .ret ⟨n, a, b, c⟩
def body : Pr (Int × List Ins × List Ctc) := (want wLocals).bind fun _ => (number 0 8).bind fun n => (want wLB).bind fun _ => (many isInstr instr 48 []).bind fun c => (many (isW wCatch) catch_ 4 []).bind fun k => (want wRB).bind fun _ => .ret (n, c, k)
def params : Pr (List Ty) := .peek (isW wRP) (.ret []) (listed isType typed 4)
def bodyOr (ab : Bool) : Pr (Int × List Ins × List Ctc) := if ab = true then .ret (0, [], []) else body
def method : Pr Mth := (first wFunction wMethod).bind fun st => fresh.bind fun n => (want wLP).bind fun _ => params.bind fun ps => (want wRP).bind fun _ => typed.bind fun rt => (skip wSemi).bind fun ab =>
  (bodyOr ab).bind fun x => .ret ⟨n, st, ab, ps, rt, x.1, x.2.1, x.2.2⟩
def members : Nat → List Fld → List Mth → Pr (List Fld × List Mth)
  | 0, fs, ms => .peek (isW2 wField wStatic) (.fail 2 (.ret (fs, ms))) (.peek (isW2 wMethod wFunction) (.fail 2 (.ret (fs, ms))) (.ret (fs, ms)))
  | n + 1, fs, ms => .peek (isW2 wField wStatic) (if 6 ≤ fs.length then .fail 2 (.ret (fs, ms)) else field.bind fun f => members n (fs ++ [f]) ms)
      (.peek (isW2 wMethod wFunction) (if 6 ≤ ms.length then .fail 2 (.ret (fs, ms)) else method.bind fun m => members n fs (ms ++ [m])) (.ret (fs, ms)))
def superOr (ifc : Bool) : Pr Bs := if ifc = true then .ret [] else .test (isW wExtends) (fun _ => fresh) (.ret [])
def ifacesOf (t : Bs) : Pr (List Bs) := .test (isW t) (fun _ => listed isFresh fresh 4) (.ret [])
def cls : Pr Cls := (first wInterface wClass).bind fun ifc => fresh.bind fun n => (superOr ifc).bind fun sup => (ifacesOf (if ifc = true then wExtends else wImplements)).bind fun ifs =>
  (want wLB).bind fun _ => (members 12 [] []).bind fun m => (want wRB).bind fun _ => .ret ⟨n, ifc, sup, ifs, m.1, m.2⟩
def classes : Pr (List Cls) := many (isW2 wClass wInterface) cls 10 []
def progP : Pr (List Cls) := classes.bind fun cs => .peek (fun _ => true) (.fail 4 (.ret cs)) (.ret cs)

def place (tk : List Lx.Tok) (pl : Nat) (i : Nat) : Nat := match tk[i]? with
  | some t => t.pos
  | none => pl
def program (bs : List UInt8) : List Cls × Nat × Int :=
  let sc := Lx.scanL bs
  let r := progP.run (sc.1.map wd) ⟨0, (sc.2.2 : Int)⟩
  if r.2.e = 0 then (r.1, 0, 0) else ([], place sc.1 (if sc.2.2 = 0 then bs.length else sc.2.1) r.2.i, r.2.e)

theorem run_ret {α : Type} (C : List Wd) (a : α) (s : St) : (Pr.ret a).run C s = (a, s) := rfl
theorem run_fail {α : Type} (C : List Wd) (k : Int) (p : Pr α) (s : St) : (Pr.fail k p).run C s = p.run C (failS s k) := rfl
theorem run_peek {α : Type} (C : List Wd) (q : Wd → Bool) (y n : Pr α) (s : St) : (Pr.peek q y n).run C s = if has C s q = true then y.run C s else n.run C s := rfl

end Pp
end Go.Proofs.YtdgfidaopkcjoaaDoor

namespace Go.Proofs.YtdgfidaopkcjoaaDoor
namespace Pp
set_option linter.unusedVariables false
set_option linter.unusedSimpArgs false

theorem has_off (C : List Wd) (s : St) (q : Wd → Bool) (h : s.e ≠ 0) : has C s q = false := by simp [has, cur, h]
theorem failS_off (s : St) (k : Int) (h : s.e ≠ 0) : failS s k = s := by simp [failS, h]
theorem failS_i (s : St) (k : Int) : (failS s k).i = s.i := by unfold failS; split <;> rfl
theorem run_test {α : Type} (C : List Wd) (q : Wd → Bool) (y : Wd → Pr α) (n : Pr α) (s : St) (t : Wd) (h : has C s q = true) (ht : cur C s = some t) : (Pr.test q y n).run C s = (y t).run C s.adv := by
  rw [test_run, if_pos h, ht]
theorem run_test_no {α : Type} (C : List Wd) (q : Wd → Bool) (y : Wd → Pr α) (n : Pr α) (s : St) (h : has C s q = false) : (Pr.test q y n).run C s = n.run C s := by
  rw [test_run, if_neg (by rw [h]; exact Bool.false_ne_true)]
theorem run_peek_yes {α : Type} {C : List Wd} {q : Wd → Bool} {s : St} (h : has C s q = true) (y n : Pr α) : (Pr.peek q y n).run C s = y.run C s := by rw [peek_run, if_pos h]
theorem run_peek_no {α : Type} {C : List Wd} {q : Wd → Bool} {s : St} (h : has C s q = false) (y n : Pr α) : (Pr.peek q y n).run C s = n.run C s := by rw [peek_run, if_neg (by rw [h]; exact Bool.false_ne_true)]
theorem has_cur {C : List Wd} {s : St} {q : Wd → Bool} (h : has C s q = true) : ∃ t, cur C s = some t ∧ q t = true ∧ s.e = 0 := by
  unfold has at h
  split at h
  · rename_i t ht
    refine ⟨t, ht, h, ?_⟩
    unfold cur at ht
    split at ht
    · assumption
    · cases ht
  · cases h
theorem has_same {C C' : List Wd} {s : St} (h : C'[s.i]? = C[s.i]?) (q : Wd → Bool) : has C' s q = has C s q := by unfold has cur; rw [h]
theorem cur_same {C C' : List Wd} {s : St} (h : C'[s.i]? = C[s.i]?) : cur C' s = cur C s := by unfold cur; rw [h]
def St.up (n : Nat) (s : St) : St := ⟨n + s.i, s.e⟩
theorem has_shift (A B : List Wd) (s : St) (q : Wd → Bool) : has (A ++ B) (s.up A.length) q = has B s q := by
  unfold has cur St.up
  simp only
  rw [List.getElem?_append_right (by omega), Nat.add_sub_cancel_left]
theorem cur_shift (A B : List Wd) (s : St) : cur (A ++ B) (s.up A.length) = cur B s := by
  unfold cur St.up
  simp only
  rw [List.getElem?_append_right (by omega), Nat.add_sub_cancel_left]
theorem up_adv (n : Nat) (s : St) : (s.up n).adv = s.adv.up n := rfl
theorem up_fail (n : Nat) (s : St) (k : Int) : failS (s.up n) k = (failS s k).up n := by
  unfold failS St.up
  split <;> rfl

structure Law {α : Type} (p : Pr α) : Prop where
  stuck : ∀ C s, s.e ≠ 0 → (p.run C s).2 = s
  mono : ∀ C s, s.i ≤ (p.run C s).2.i
  loc : ∀ C C' s, (∀ j, s.i ≤ j → j ≤ (p.run C s).2.i → C'[j]? = C[j]?) → p.run C' s = p.run C s
  shift : ∀ A B s, p.run (A ++ B) (s.up A.length) = ((p.run B s).1, (p.run B s).2.up A.length)
section
variable {α β : Type}
theorem Law.ret (a : α) : Law (Pr.ret a) := ⟨fun _ _ _ => rfl, fun _ _ => Nat.le_refl _, fun _ _ _ _ => rfl, fun _ _ _ => rfl⟩
theorem Law.fail {p : Pr α} (h : Law p) (k : Int) : Law (Pr.fail k p) :=
  ⟨fun C s hs => by rw [run_fail, failS_off s k hs]; exact h.stuck C s hs,
   fun C s => by rw [run_fail]; have := h.mono C (failS s k); rw [failS_i] at this; exact this,
   fun C C' s hs => by rw [run_fail] at hs ⊢; rw [run_fail]; exact h.loc C C' (failS s k) (fun j hj hj2 => hs j (by rw [failS_i] at hj; exact hj) hj2),
   fun A B s => by rw [run_fail, run_fail, up_fail]; exact h.shift A B (failS s k)⟩
theorem Law.peek {y n : Pr α} (hy : Law y) (hn : Law n) (q : Wd → Bool) : Law (Pr.peek q y n) where
  stuck C s hs := by rw [run_peek_no (has_off C s q hs)]; exact hn.stuck C s hs
  mono C s := by
    cases h : has C s q with
    | true => rw [run_peek_yes h]; exact hy.mono C s
    | false => rw [run_peek_no h]; exact hn.mono C s
  loc C C' s hs := by
    have h0 : C'[s.i]? = C[s.i]? := hs s.i (Nat.le_refl _) (by
      cases h : has C s q with
      | true => rw [run_peek_yes h]; exact hy.mono C s
      | false => rw [run_peek_no h]; exact hn.mono C s)
    cases h : has C s q with
    | true =>
      rw [run_peek_yes h] at hs ⊢
      rw [run_peek_yes (by rw [has_same h0]; exact h)]
      exact hy.loc C C' s hs
    | false =>
      rw [run_peek_no h] at hs ⊢
      rw [run_peek_no (by rw [has_same h0]; exact h)]
      exact hn.loc C C' s hs
  shift A B s := by
    cases h : has B s q with
    | true => rw [run_peek_yes h, run_peek_yes (by rw [has_shift]; exact h)]; exact hy.shift A B s
    | false => rw [run_peek_no h, run_peek_no (by rw [has_shift]; exact h)]; exact hn.shift A B s
theorem Law.test {y : Wd → Pr α} {n : Pr α} (hy : ∀ t, Law (y t)) (hn : Law n) (q : Wd → Bool) : Law (Pr.test q y n) where
  stuck C s hs := by rw [run_test_no _ _ _ _ _ (has_off C s q hs)]; exact hn.stuck C s hs
  mono C s := by
    cases h : has C s q with
    | true =>
      obtain ⟨t, ht, _, _⟩ := has_cur h
      rw [run_test _ _ _ _ _ t h ht]
      exact Nat.le_trans (Nat.le_succ _) ((hy t).mono C s.adv)
    | false => rw [run_test_no _ _ _ _ _ h]; exact hn.mono C s
  loc C C' s hs := by
    have h0 : C'[s.i]? = C[s.i]? := hs s.i (Nat.le_refl _) (by
      cases h : has C s q with
      | true =>
        obtain ⟨t, ht, _, _⟩ := has_cur h
        rw [run_test _ _ _ _ _ t h ht]
        exact Nat.le_trans (Nat.le_succ _) ((hy t).mono C s.adv)
      | false => rw [run_test_no _ _ _ _ _ h]; exact hn.mono C s)
    cases h : has C s q with
    | true =>
      obtain ⟨t, ht, _, _⟩ := has_cur h
      rw [run_test C q y n s t h ht] at hs ⊢
      rw [run_test C' q y n s t (by rw [has_same h0]; exact h) (by rw [cur_same h0]; exact ht)]
      exact (hy t).loc C C' s.adv (fun j hj hj2 => hs j (Nat.le_trans (Nat.le_succ _) hj) hj2)
    | false =>
      rw [run_test_no C q y n s h] at hs ⊢
      rw [run_test_no C' q y n s (by rw [has_same h0]; exact h)]
      exact hn.loc C C' s hs
  shift A B s := by
    cases h : has B s q with
    | true =>
      obtain ⟨t, ht, _, _⟩ := has_cur h
      rw [run_test B q y n s t h ht, run_test (A ++ B) q y n _ t (by rw [has_shift]; exact h) (by rw [cur_shift]; exact ht), up_adv]
      exact (hy t).shift A B s.adv
    | false =>
      rw [run_test_no B q y n s h, run_test_no (A ++ B) q y n _ (by rw [has_shift]; exact h)]
      exact hn.shift A B s
theorem Law.bind {p : Pr α} {f : α → Pr β} (hp : Law p) (hf : ∀ a, Law (f a)) : Law (p.bind f) where
  stuck C s hs := by
    have h1 := hp.stuck C s hs
    rw [run_bind, h1]; exact (hf _).stuck C s hs
  mono C s := by rw [run_bind]; exact Nat.le_trans (hp.mono C s) ((hf _).mono C _)
  loc C C' s hs := by
    rw [run_bind] at hs ⊢
    have h1 : p.run C' s = p.run C s := hp.loc C C' s (fun j hj hj2 => hs j hj (Nat.le_trans hj2 ((hf _).mono C _)))
    rw [run_bind, h1]
    exact (hf _).loc C C' _ (fun j hj hj2 => hs j (Nat.le_trans (hp.mono C s) hj) hj2)
  shift A B s := by
    rw [run_bind, hp.shift A B s, run_bind]
    exact (hf _).shift A B _
theorem bind_assoc {γ : Type} (f : α → Pr β) (g : β → Pr γ) (p : Pr α) : (p.bind f).bind g = p.bind fun a => (f a).bind g := rfl
end
theorem law_want (t : Bs) : Law (want t) := Law.test (fun _ => Law.ret _) (Law.fail (Law.ret _) _) _
theorem law_skip (t : Bs) : Law (skip t) := Law.test (fun _ => Law.ret _) (Law.ret _) _
theorem law_first (a b : Bs) : Law (first a b) := Law.test (fun _ => Law.ret _) (Law.bind (law_want b) fun _ => Law.ret _) _
theorem law_fresh : Law fresh := Law.test (fun _ => Law.ret _) (Law.fail (Law.ret _) _) _
theorem law_number (lo hi : Int) : Law (number lo hi) := Law.test (fun _ => Law.ret _) (Law.fail (Law.ret _) _) _
theorem law_rowOf (a b : Int) (n : Bs) : Law (rowOf a b n) := Law.test (fun _ => Law.bind (law_want _) fun _ => Law.ret _) (Law.ret _) _
theorem law_typed : Law typed := Law.test (fun _ => Law.ret _) (Law.test (fun _ => law_rowOf _ _ _) (Law.bind law_fresh fun _ => law_rowOf _ _ _) _) _
theorem law_listedGo {α : Type} {q : Wd → Bool} {item : Pr α} (hi : Law item) : ∀ (n : Nat) (acc : List α), Law (listedGo q item n acc)
  | 0, acc => Law.test (fun _ => Law.peek (Law.fail (Law.ret _) _) (Law.fail (Law.ret _) _) _) (Law.ret _) _
  | n + 1, acc => Law.test (fun _ => Law.peek (Law.bind hi fun a => law_listedGo hi n _) (Law.fail (Law.ret _) _) _) (Law.ret _) _
theorem law_listed {α : Type} {q : Wd → Bool} {item : Pr α} (hi : Law item) (m : Nat) : Law (listed q item m) := Law.bind hi fun _ => law_listedGo hi _ _
theorem law_many {α : Type} {q : Wd → Bool} {item : Pr α} (hi : Law item) : ∀ (n : Nat) (acc : List α), Law (many q item n acc)
  | 0, acc => Law.peek (Law.fail (Law.ret _) _) (Law.ret _) _
  | n + 1, acc => Law.peek (Law.bind hi fun a => law_many hi n _) (Law.ret _) _
theorem law_field : Law field := Law.bind (law_first _ _) fun _ => Law.bind law_fresh fun _ => Law.bind (law_want _) fun _ => Law.bind law_typed fun _ => Law.bind (law_want _) fun _ => Law.ret _
theorem law_args (op : Nat) : Law (args op) := by
  unfold args
  split
  · exact Law.bind (law_number _ _) fun _ => Law.ret _
  split
  · exact Law.bind (law_number _ _) fun _ => Law.ret _
  split
  · exact Law.bind (law_number _ _) fun _ => Law.ret _
  split
  · exact Law.bind law_fresh fun _ => Law.ret _
  split
  · exact Law.bind law_fresh fun _ => Law.bind law_fresh fun _ => Law.ret _
  · exact Law.ret _
theorem law_instrOf (op : Nat) : Law (instrOf op) := Law.bind (law_args op) fun _ => Law.bind (law_want _) fun _ => Law.ret _
theorem law_instr : Law instr := Law.test (fun _ => law_instrOf _) (Law.ret _) _
theorem law_catch : Law catch_ := Law.bind (law_want _) fun _ => Law.bind law_fresh fun _ => Law.bind (law_number _ _) fun _ => Law.bind (law_number _ _) fun _ => Law.bind (law_number _ _) fun _ => Law.bind (law_want _) fun _ => Law.ret _
theorem law_body : Law body := Law.bind (law_want _) fun _ => Law.bind (law_number _ _) fun _ => Law.bind (law_want _) fun _ => Law.bind (law_many law_instr _ _) fun _ => Law.bind (law_many law_catch _ _) fun _ => Law.bind (law_want _) fun _ => Law.ret _
theorem law_params : Law params := Law.peek (Law.ret _) (law_listed law_typed _) _
theorem law_bodyOr (ab : Bool) : Law (bodyOr ab) := by unfold bodyOr; split; exact Law.ret _; exact law_body
theorem law_method : Law method := Law.bind (law_first _ _) fun _ => Law.bind law_fresh fun _ => Law.bind (law_want _) fun _ => Law.bind law_params fun _ => Law.bind (law_want _) fun _ => Law.bind law_typed fun _ => Law.bind (law_skip _) fun _ => Law.bind (law_bodyOr _) fun _ => Law.ret _
theorem law_members : ∀ (n : Nat) (fs : List Fld) (ms : List Mth), Law (members n fs ms)
  | 0, fs, ms => Law.peek (Law.fail (Law.ret _) _) (Law.peek (Law.fail (Law.ret _) _) (Law.ret _) _) _
  | n + 1, fs, ms => by
    rw [members]
    refine Law.peek ?_ (Law.peek ?_ (Law.ret _) _) _
    · split
      · exact Law.fail (Law.ret _) _
      · exact Law.bind law_field fun _ => law_members n _ _
    · split
      · exact Law.fail (Law.ret _) _
      · exact Law.bind law_method fun _ => law_members n _ _
theorem law_superOr (b : Bool) : Law (superOr b) := by unfold superOr; split; exact Law.ret _; exact Law.test (fun _ => law_fresh) (Law.ret _) _
theorem law_ifacesOf (t : Bs) : Law (ifacesOf t) := Law.test (fun _ => law_listed law_fresh _) (Law.ret _) _
/-- A class but for the sign that ends it. -/
def clsOpen : Pr Cls := (first wInterface wClass).bind fun ifc => fresh.bind fun n => (superOr ifc).bind fun sup => (ifacesOf (if ifc = true then wExtends else wImplements)).bind fun ifs =>
  (want wLB).bind fun _ => (members 12 [] []).bind fun m => .ret ⟨n, ifc, sup, ifs, m.1, m.2⟩
theorem law_clsOpen : Law clsOpen := Law.bind (law_first _ _) fun _ => Law.bind law_fresh fun _ => Law.bind (law_superOr _) fun _ => Law.bind (law_ifacesOf _) fun _ => Law.bind (law_want _) fun _ => Law.bind (law_members _ _ _) fun _ => Law.ret _
theorem cls_open : cls = clsOpen.bind fun c => (want wRB).bind fun _ => .ret c := rfl
theorem law_cls : Law cls := by rw [cls_open]; exact Law.bind law_clsOpen fun _ => Law.bind (law_want _) fun _ => Law.ret _
theorem law_classes : Law classes := law_many law_cls _ _
theorem law_progP : Law progP := Law.bind law_classes fun _ => Law.peek (Law.fail (Law.ret _) _) (Law.ret _) _

end Pp
end Go.Proofs.YtdgfidaopkcjoaaDoor

namespace Go.Proofs.YtdgfidaopkcjoaaDoor
namespace Pp
set_option linter.unusedVariables false
set_option linter.unusedSimpArgs false

theorem want_e (C : List Wd) (s : St) (t : Bs) (h : ((want t).run C s).2.e = 0) : has C s (isW t) = true ∧ ((want t).run C s).2 = s.adv := by
  cases hh : has C s (isW t) with
  | true =>
    obtain ⟨x, hx, _, _⟩ := has_cur hh
    refine ⟨rfl, ?_⟩
    rw [want, run_test _ _ _ _ _ x hh hx]; rfl
  | false =>
    exfalso
    rw [want, run_test_no _ _ _ _ _ hh] at h
    have h2 : (failS s 4).e = 0 := h
    unfold failS at h2
    split at h2
    · cases h2
    · contradiction
theorem has_lt' {C : List Wd} {s : St} {q : Wd → Bool} (h : has C s q = true) : s.i < C.length := by
  obtain ⟨t, ht, _, he⟩ := has_cur h
  unfold cur at ht
  rw [if_pos he] at ht
  rcases Nat.lt_or_ge s.i C.length with h1 | h1
  · exact h1
  · rw [List.getElem?_eq_none h1] at ht; cases ht
theorem want_yes (C : List Wd) (s : St) (t : Bs) (h : has C s (isW t) = true) : (want t).run C s = ((), s.adv) := by
  obtain ⟨x, hx, _, _⟩ := has_cur h
  rw [want, run_test _ _ _ _ _ x h hx]; rfl
theorem cls_run (C : List Wd) (s : St) : cls.run C s = ((clsOpen.run C s).1, ((want wRB).run C (clsOpen.run C s).2).2) := by
  rw [cls_open, run_bind, run_bind]; rfl
/-- A class that was read without a fault is read so, whatever stands behind it. -/
theorem cls_closed (A B : List Wd) (s : St) (h : (cls.run A s).2.e = 0) : cls.run (A ++ B) s = cls.run A s ∧ (cls.run A s).2.i ≤ A.length := by
  rw [cls_run] at h
  obtain ⟨h1, h2⟩ := want_e A _ wRB h
  have h3 := has_lt' h1
  have e1 : clsOpen.run (A ++ B) s = clsOpen.run A s := law_clsOpen.loc A (A ++ B) s (fun j hj hj2 => List.getElem?_append_left (by omega))
  have h4 : has (A ++ B) (clsOpen.run A s).2 (isW wRB) = true := by rw [has_same (C := A) (List.getElem?_append_left h3)]; exact h1
  refine ⟨?_, ?_⟩
  · rw [cls_run, cls_run, e1, want_yes _ _ _ h4, want_yes _ _ _ h1]
  · rw [cls_run, h2]; exact h3

theorem many_run_no {α : Type} {C : List Wd} {s : St} {q : Wd → Bool} (h : has C s q = false) (item : Pr α) (k : Nat) (acc : List α) : (many q item k acc).run C s = (acc, s) := by
  cases k with
  | zero => rw [many, run_peek_no h]; rfl
  | succ k => rw [many, run_peek_no h]; rfl
theorem many_run_full {α : Type} {C : List Wd} {s : St} {q : Wd → Bool} (h : has C s q = true) (item : Pr α) (acc : List α) : (many q item 0 acc).run C s = (acc, failS s 2) := by
  rw [many, run_peek_yes h]; rfl
theorem many_run_yes {α : Type} {C : List Wd} {s : St} {q : Wd → Bool} (h : has C s q = true) (item : Pr α) (k : Nat) (acc : List α) : (many q item (k + 1) acc).run C s = (many q item k (acc ++ [(item.run C s).1])).run C (item.run C s).2 := by
  rw [many, run_peek_yes h, run_bind]
theorem fail_two (s : St) (h : (failS s 2).e = 0) : False := by
  unfold failS at h
  split at h
  · cases h
  · contradiction

/-- Of A's words and B's: what is read of A's is read first. -/
theorem many_pre (A B : List Wd) (q : Wd → Bool) : ∀ (k : Nat) (acc : List Cls) (s : St), ((many q cls k acc).run A s).2.e = 0 →
    ∃ k', acc.length + k = ((many q cls k acc).run A s).1.length + k' ∧ (((many q cls k acc).run A s).2.i = A.length → (many q cls k acc).run (A ++ B) s = (many q cls k' ((many q cls k acc).run A s).1).run (A ++ B) ((many q cls k acc).run A s).2)
  | 0, acc, s, h => by
    cases hh : has A s q with
    | true => rw [many_run_full hh] at h; exact absurd h (fun h => fail_two s h)
    | false => rw [many_run_no hh]; exact ⟨0, rfl, fun _ => rfl⟩
  | k + 1, acc, s, h => by
    cases hh : has A s q with
    | false => rw [many_run_no hh]; exact ⟨k + 1, rfl, fun _ => rfl⟩
    | true =>
      rw [many_run_yes hh] at h ⊢
      have he : (cls.run A s).2.e = 0 := by
        rcases Decidable.em ((cls.run A s).2.e = 0) with h1 | h1
        · exact h1
        · rw [(law_many law_cls _ _).stuck A _ h1] at h; exact absurd h h1
      obtain ⟨c1, c2⟩ := cls_closed A B s he
      have h3 : has (A ++ B) s q = true := by rw [has_same (C := A) (List.getElem?_append_left (has_lt' hh))]; exact hh
      obtain ⟨k', e1, e2⟩ := many_pre A B q k (acc ++ [(cls.run A s).1]) (cls.run A s).2 h
      refine ⟨k', by rw [← e1]; simp; omega, fun hi => ?_⟩
      rw [many_run_yes h3, c1]
      exact e2 hi

/-- Another list ahead, another bound: the same items, as long as there is room. -/
theorem many_more (B : List Wd) (q : Wd → Bool) (item : Pr Cls) : ∀ (k : Nat) (acc : List Cls) (s : St), ((many q item k acc).run B s).2.e = 0 →
    ∃ ds, ((many q item k acc).run B s).1 = acc ++ ds ∧ ∀ (k2 : Nat) (acc2 : List Cls), (ds.length ≤ k2 → (many q item k2 acc2).run B s = (acc2 ++ ds, ((many q item k acc).run B s).2)) ∧ (k2 < ds.length → ((many q item k2 acc2).run B s).2.e = 2)
  | 0, acc, s, h => by
    cases hh : has B s q with
    | true => rw [many_run_full hh] at h; exact absurd h (fun h => fail_two s h)
    | false => rw [many_run_no hh]; exact ⟨[], by simp, fun k2 acc2 => ⟨fun _ => by rw [many_run_no hh]; simp, fun h => by simp at h⟩⟩
  | k + 1, acc, s, h => by
    cases hh : has B s q with
    | false => rw [many_run_no hh]; exact ⟨[], by simp, fun k2 acc2 => ⟨fun _ => by rw [many_run_no hh]; simp, fun h => by simp at h⟩⟩
    | true =>
      rw [many_run_yes hh] at h ⊢
      obtain ⟨ds, e1, e2⟩ := many_more B q item k (acc ++ [(item.run B s).1]) (item.run B s).2 h
      refine ⟨(item.run B s).1 :: ds, by rw [e1]; simp, fun k2 acc2 => ⟨fun hl => ?_, fun hl => ?_⟩⟩
      · cases k2 with
        | zero => simp at hl
        | succ k2 =>
          rw [many_run_yes hh, (e2 k2 (acc2 ++ [(item.run B s).1])).1 (by simp at hl; omega)]
          simp
      · cases k2 with
        | zero =>
          rw [many_run_full hh]
          obtain ⟨_, _, _, he⟩ := has_cur hh
          simp [failS, he]
        | succ k2 =>
          rw [many_run_yes hh]
          exact (e2 k2 _).2 (by simp at hl; omega)

/-- Two programs' words one behind the other. -/
theorem classes_join (A B : List Wd) (cs ds : List Cls) (hA : classes.run A ⟨0, 0⟩ = (cs, ⟨A.length, 0⟩)) (hB : classes.run B ⟨0, 0⟩ = (ds, ⟨B.length, 0⟩)) :
    (cs.length + ds.length ≤ 10 → classes.run (A ++ B) ⟨0, 0⟩ = (cs ++ ds, ⟨A.length + B.length, 0⟩)) ∧ (10 < cs.length + ds.length → (classes.run (A ++ B) ⟨0, 0⟩).2.e = 2) := by
  unfold classes at hA hB ⊢
  obtain ⟨k', e1, e2⟩ := many_pre A B (isW2 wClass wInterface) 10 [] ⟨0, 0⟩ (by rw [hA])
  rw [hA] at e1 e2
  have e3 := e2 rfl
  obtain ⟨ds', f1, f2⟩ := many_more B (isW2 wClass wInterface) cls 10 [] ⟨0, 0⟩ (by rw [hB])
  rw [hB] at f1 f2
  have hd : ds' = ds := by simpa using f1.symm
  subst hd
  have hs : (⟨A.length, 0⟩ : St) = (⟨0, 0⟩ : St).up A.length := by simp [St.up]
  have e4 : (many (isW2 wClass wInterface) cls k' cs).run (A ++ B) ⟨A.length, 0⟩ = (((many (isW2 wClass wInterface) cls k' cs).run B ⟨0, 0⟩).1, ((many (isW2 wClass wInterface) cls k' cs).run B ⟨0, 0⟩).2.up A.length) := by
    rw [hs]; exact (law_many law_cls _ _).shift A B ⟨0, 0⟩
  have hk : 10 = cs.length + k' := by simpa using e1
  constructor
  · intro hl
    rw [e3]
    show (many (isW2 wClass wInterface) cls k' cs).run (A ++ B) ⟨A.length, 0⟩ = _
    rw [e4, (f2 k' cs).1 (by omega)]
    rfl
  · intro hl
    rw [e3]
    show ((many (isW2 wClass wInterface) cls k' cs).run (A ++ B) ⟨A.length, 0⟩).2.e = 2
    rw [e4]
    exact (f2 k' cs).2 (by omega)

end Pp
end Go.Proofs.YtdgfidaopkcjoaaDoor

namespace Go.Proofs.YtdgfidaopkcjoaaDoor
namespace Pp
set_option linter.unusedVariables false
set_option linter.unusedSimpArgs false

theorem has_end (P : List Wd) (s : St) (q : Wd → Bool) (h : s.i = P.length) : has P s q = false := by
  unfold has cur
  split
  · rename_i t ht
    split at ht
    · rw [List.getElem?_eq_none (by omega)] at ht; cases ht
    · cases ht
  · rfl
/-- At the end of the words nothing but fault 4 can come up; cut off: the same, or it stands at the end. -/
structure Good {α : Type} (p : Pr α) : Prop where
  law : Law p
  fin : ∀ (P : List Wd) (s : St), s.e = 0 → s.i = P.length → (p.run P s).2.i = P.length ∧ ((p.run P s).2.e = 0 ∨ (p.run P s).2.e = 4)
  cut : ∀ (P R : List Wd) (s : St), s.e = 0 → s.i ≤ P.length → (p.run (P ++ R) s).2.e = 0 →
    (p.run P s = p.run (P ++ R) s ∧ (p.run (P ++ R) s).2.i ≤ P.length) ∨ ((p.run P s).2.i = P.length ∧ ((p.run P s).2.e = 0 ∨ (p.run P s).2.e = 4))
section
variable {α β : Type}
theorem Good.ret (a : α) : Good (Pr.ret a) := ⟨Law.ret a, fun P s he hi => ⟨hi, .inl he⟩, fun P R s he hi h => .inl ⟨rfl, hi⟩⟩
theorem fail_run {p : Pr α} (hp : Law p) {k : Int} (hk : k ≠ 0) (C : List Wd) (s : St) (he : s.e = 0) : ((Pr.fail k p).run C s).2 = ⟨s.i, k⟩ := by
  rw [run_fail, show failS s k = ⟨s.i, k⟩ from by simp [failS, he], hp.stuck _ _ hk]
theorem Good.fail {p : Pr α} (hp : Law p) : Good (Pr.fail 4 p) :=
  ⟨Law.fail hp 4, fun P s he hi => by rw [fail_run hp (by decide) P s he]; exact ⟨hi, .inr rfl⟩,
   fun P R s he hi h => by rw [fail_run hp (by decide) _ s he] at h; cases h⟩
theorem Good.test {y : Wd → Pr α} {n : Pr α} (hy : ∀ t, Good (y t)) (hn : Good n) (q : Wd → Bool) : Good (Pr.test q y n) := by
  have hfin : ∀ (P : List Wd) (s : St), s.e = 0 → s.i = P.length → ((Pr.test q y n).run P s).2.i = P.length ∧ (((Pr.test q y n).run P s).2.e = 0 ∨ ((Pr.test q y n).run P s).2.e = 4) := fun P s he hi => by
    rw [run_test_no _ _ _ _ _ (has_end P s q hi)]; exact hn.fin P s he hi
  refine ⟨Law.test (fun t => (hy t).law) hn.law q, hfin, fun P R s he hi h => ?_⟩
  rcases Nat.lt_or_ge s.i P.length with hl | hl
  · have h0 : P[s.i]? = (P ++ R)[s.i]? := (List.getElem?_append_left hl).symm
    cases hh : has (P ++ R) s q with
    | true =>
      obtain ⟨t, ht, _, _⟩ := has_cur hh
      rw [run_test (P ++ R) q y n s t hh ht] at h ⊢
      rw [run_test P q y n s t (by rw [has_same h0]; exact hh) (by rw [cur_same h0]; exact ht)]
      exact (hy t).cut P R s.adv he hl h
    | false =>
      rw [run_test_no (P ++ R) q y n s hh] at h ⊢
      rw [run_test_no P q y n s (by rw [has_same h0]; exact hh)]
      exact hn.cut P R s he hi h
  · exact .inr (hfin P s he (by omega))
theorem Good.peek {y n : Pr α} (hy : Good y) (hn : Good n) (q : Wd → Bool) : Good (Pr.peek q y n) := by
  have hfin : ∀ (P : List Wd) (s : St), s.e = 0 → s.i = P.length → ((Pr.peek q y n).run P s).2.i = P.length ∧ (((Pr.peek q y n).run P s).2.e = 0 ∨ ((Pr.peek q y n).run P s).2.e = 4) := fun P s he hi => by
    rw [run_peek_no (has_end P s q hi)]; exact hn.fin P s he hi
  refine ⟨Law.peek hy.law hn.law q, hfin, fun P R s he hi h => ?_⟩
  rcases Nat.lt_or_ge s.i P.length with hl | hl
  · have h0 : P[s.i]? = (P ++ R)[s.i]? := (List.getElem?_append_left hl).symm
    cases hh : has (P ++ R) s q with
    | true =>
      rw [run_peek_yes hh] at h ⊢
      rw [run_peek_yes (by rw [has_same h0]; exact hh)]
      exact hy.cut P R s he hi h
    | false =>
      rw [run_peek_no hh] at h ⊢
      rw [run_peek_no (by rw [has_same h0]; exact hh)]
      exact hn.cut P R s he hi h
  · exact .inr (hfin P s he (by omega))
theorem Good.peekF {p n : Pr α} (hp : Law p) {k : Int} (hk : k ≠ 0) (hn : Good n) (q : Wd → Bool) : Good (Pr.peek q (Pr.fail k p) n) := by
  have hfin : ∀ (P : List Wd) (s : St), s.e = 0 → s.i = P.length → ((Pr.peek q (Pr.fail k p) n).run P s).2.i = P.length ∧ (((Pr.peek q (Pr.fail k p) n).run P s).2.e = 0 ∨ ((Pr.peek q (Pr.fail k p) n).run P s).2.e = 4) := fun P s he hi => by
    rw [run_peek_no (has_end P s q hi)]; exact hn.fin P s he hi
  refine ⟨Law.peek (Law.fail hp k) hn.law q, hfin, fun P R s he hi h => ?_⟩
  rcases Nat.lt_or_ge s.i P.length with hl | hl
  · have h0 : P[s.i]? = (P ++ R)[s.i]? := (List.getElem?_append_left hl).symm
    cases hh : has (P ++ R) s q with
    | true =>
      rw [run_peek_yes hh, fail_run hp hk _ s he] at h
      exact absurd h hk
    | false =>
      rw [run_peek_no hh] at h ⊢
      rw [run_peek_no (by rw [has_same h0]; exact hh)]
      exact hn.cut P R s he hi h
  · exact .inr (hfin P s he (by omega))
theorem Good.bind {p : Pr α} {f : α → Pr β} (hp : Good p) (hf : ∀ a, Good (f a)) : Good (p.bind f) := by
  refine ⟨Law.bind hp.law fun a => (hf a).law, fun P s he hi => ?_, fun P R s he hi h => ?_⟩
  · rw [run_bind]
    obtain ⟨h1, h2 | h2⟩ := hp.fin P s he hi
    · exact (hf _).fin P _ h2 h1
    · rw [(hf _).law.stuck P _ (by rw [h2]; decide)]; exact ⟨h1, .inr h2⟩
  · rw [run_bind] at h ⊢
    rw [run_bind]
    have he1 : (p.run (P ++ R) s).2.e = 0 := by
      rcases Decidable.em ((p.run (P ++ R) s).2.e = 0) with h1 | h1
      · exact h1
      · rw [(hf _).law.stuck _ _ h1] at h; exact absurd h h1
    rcases hp.cut P R s he hi he1 with ⟨h1, h2⟩ | ⟨h1, h2 | h2⟩
    · rw [h1]
      exact (hf _).cut P R _ he1 h2 h
    · exact .inr ((hf _).fin P _ h2 h1)
    · right
      rw [(hf _).law.stuck P _ (by rw [h2]; decide)]; exact ⟨h1, .inr h2⟩
end
theorem good_want (t : Bs) : Good (want t) := Good.test (fun _ => Good.ret _) (Good.fail (Law.ret _)) _
theorem good_skip (t : Bs) : Good (skip t) := Good.test (fun _ => Good.ret _) (Good.ret _) _
theorem good_first (a b : Bs) : Good (first a b) := Good.test (fun _ => Good.ret _) (Good.bind (good_want b) fun _ => Good.ret _) _
theorem good_fresh : Good fresh := Good.test (fun _ => Good.ret _) (Good.fail (Law.ret _)) _
theorem good_number (lo hi : Int) : Good (number lo hi) := Good.test (fun _ => Good.ret _) (Good.fail (Law.ret _)) _
theorem good_rowOf (a b : Int) (n : Bs) : Good (rowOf a b n) := Good.test (fun _ => Good.bind (good_want _) fun _ => Good.ret _) (Good.ret _) _
theorem good_typed : Good typed := Good.test (fun _ => Good.ret _) (Good.test (fun _ => good_rowOf _ _ _) (Good.bind good_fresh fun _ => good_rowOf _ _ _) _) _
theorem good_listedGo {α : Type} {q : Wd → Bool} {item : Pr α} (hi : Good item) : ∀ (n : Nat) (acc : List α), Good (listedGo q item n acc)
  | 0, acc => Good.test (fun _ => Good.peekF (Law.ret _) (by decide) (Good.fail (Law.ret _)) _) (Good.ret _) _
  | n + 1, acc => Good.test (fun _ => Good.peek (Good.bind hi fun a => good_listedGo hi n _) (Good.fail (Law.ret _)) _) (Good.ret _) _
theorem good_listed {α : Type} {q : Wd → Bool} {item : Pr α} (hi : Good item) (m : Nat) : Good (listed q item m) := Good.bind hi fun _ => good_listedGo hi _ _
theorem good_many {α : Type} {q : Wd → Bool} {item : Pr α} (hi : Good item) : ∀ (n : Nat) (acc : List α), Good (many q item n acc)
  | 0, acc => Good.peekF (Law.ret _) (by decide) (Good.ret _) _
  | n + 1, acc => Good.peek (Good.bind hi fun a => good_many hi n _) (Good.ret _) _
theorem good_field : Good field := Good.bind (good_first _ _) fun _ => Good.bind good_fresh fun _ => Good.bind (good_want _) fun _ => Good.bind good_typed fun _ => Good.bind (good_want _) fun _ => Good.ret _
theorem good_args (op : Nat) : Good (args op) := by
  unfold args
  split
  · exact Good.bind (good_number _ _) fun _ => Good.ret _
  split
  · exact Good.bind (good_number _ _) fun _ => Good.ret _
  split
  · exact Good.bind (good_number _ _) fun _ => Good.ret _
  split
  · exact Good.bind good_fresh fun _ => Good.ret _
  split
  · exact Good.bind good_fresh fun _ => Good.bind good_fresh fun _ => Good.ret _
  · exact Good.ret _
theorem good_instrOf (op : Nat) : Good (instrOf op) := Good.bind (good_args op) fun _ => Good.bind (good_want _) fun _ => Good.ret _
theorem good_instr : Good instr := Good.test (fun _ => good_instrOf _) (Good.ret _) _
theorem good_catch : Good catch_ := Good.bind (good_want _) fun _ => Good.bind good_fresh fun _ => Good.bind (good_number _ _) fun _ => Good.bind (good_number _ _) fun _ => Good.bind (good_number _ _) fun _ => Good.bind (good_want _) fun _ => Good.ret _
theorem good_body : Good body := Good.bind (good_want _) fun _ => Good.bind (good_number _ _) fun _ => Good.bind (good_want _) fun _ => Good.bind (good_many good_instr _ _) fun _ => Good.bind (good_many good_catch _ _) fun _ => Good.bind (good_want _) fun _ => Good.ret _
theorem good_params : Good params := Good.peek (Good.ret _) (good_listed good_typed _) _
theorem good_bodyOr (ab : Bool) : Good (bodyOr ab) := by unfold bodyOr; split; exact Good.ret _; exact good_body
theorem good_method : Good method := Good.bind (good_first _ _) fun _ => Good.bind good_fresh fun _ => Good.bind (good_want _) fun _ => Good.bind good_params fun _ => Good.bind (good_want _) fun _ => Good.bind good_typed fun _ => Good.bind (good_skip _) fun _ => Good.bind (good_bodyOr _) fun _ => Good.ret _
theorem good_members : ∀ (n : Nat) (fs : List Fld) (ms : List Mth), Good (members n fs ms)
  | 0, fs, ms => Good.peekF (Law.ret _) (by decide) (Good.peekF (Law.ret _) (by decide) (Good.ret _) _) _
  | n + 1, fs, ms => by
    rw [members]
    have h2 : Good (Pr.peek (isW2 wMethod wFunction) (if 6 ≤ ms.length then .fail 2 (.ret (fs, ms)) else method.bind fun m => members n fs (ms ++ [m])) (.ret (fs, ms))) := by
      split
      · exact Good.peekF (Law.ret _) (by decide) (Good.ret _) _
      · exact Good.peek (Good.bind good_method fun _ => good_members n _ _) (Good.ret _) _
    split
    · exact Good.peekF (Law.ret _) (by decide) h2 _
    · exact Good.peek (Good.bind good_field fun _ => good_members n _ _) h2 _
theorem good_superOr (b : Bool) : Good (superOr b) := by unfold superOr; split; exact Good.ret _; exact Good.test (fun _ => good_fresh) (Good.ret _) _
theorem good_ifacesOf (t : Bs) : Good (ifacesOf t) := Good.test (fun _ => good_listed good_fresh _) (Good.ret _) _
theorem good_cls : Good cls := Good.bind (good_first _ _) fun _ => Good.bind good_fresh fun _ => Good.bind (good_superOr _) fun _ => Good.bind (good_ifacesOf _) fun _ => Good.bind (good_want _) fun _ => Good.bind (good_members _ _ _) fun _ => Good.bind (good_want _) fun _ => Good.ret _

/-- A class over words that are cut off: the same class, or fault 4 at the end. -/
theorem cls_cut (P R : List Wd) (s : St) (he : s.e = 0) (hi : s.i ≤ P.length) (h : (cls.run (P ++ R) s).2.e = 0) :
    (cls.run P s = cls.run (P ++ R) s ∧ (cls.run P s).2.i ≤ P.length ∧ (cls.run P s).2.e = 0) ∨ ((cls.run P s).2.i = P.length ∧ (cls.run P s).2.e = 4) := by
  rcases good_cls.cut P R s he hi h with ⟨h1, h2⟩ | ⟨h1, h2 | h2⟩
  · exact .inl ⟨h1, by rw [h1]; exact h2, by rw [h1]; exact h⟩
  · obtain ⟨c1, c2⟩ := cls_closed P R s h2
    exact .inl ⟨c1.symm, c2, h2⟩
  · exact .inr ⟨h1, h2⟩
theorem many_cut (P R : List Wd) (q : Wd → Bool) : ∀ (k : Nat) (acc : List Cls) (s : St), s.e = 0 → s.i ≤ P.length → ((many q cls k acc).run (P ++ R) s).2.e = 0 → (P.length ≤ ((many q cls k acc).run (P ++ R) s).2.i) →
    (((many q cls k acc).run P s).2.e = 0 ∧ ((many q cls k acc).run P s).2.i = P.length ∧ ∃ rest, ((many q cls k acc).run (P ++ R) s).1 = ((many q cls k acc).run P s).1 ++ rest) ∨ (((many q cls k acc).run P s).2.e = 4 ∧ ((many q cls k acc).run P s).2.i = P.length) := by
  intro k
  induction k with
  | zero =>
    intro acc s he hi h hx
    cases hh : has (P ++ R) s q with
    | true => rw [many_run_full hh] at h; exact absurd h (fun h => fail_two s h)
    | false =>
      rw [many_run_no hh] at hx ⊢
      have hx' : P.length ≤ s.i := hx
      have h2 := has_end P s q (by omega)
      rw [many_run_no h2]
      exact .inl ⟨he, by show s.i = _; omega, [], by simp⟩
  | succ k ih =>
    intro acc s he hi h hx
    cases hh : has (P ++ R) s q with
    | false =>
      rw [many_run_no hh] at hx ⊢
      have hx' : P.length ≤ s.i := hx
      have h2 := has_end P s q (by omega)
      rw [many_run_no h2]
      exact .inl ⟨he, by show s.i = _; omega, [], by simp⟩
    | true =>
      rcases Nat.lt_or_ge s.i P.length with hl | hl
      · have h3 : has P s q = true := by rw [has_same (C := P ++ R) (List.getElem?_append_left hl).symm]; exact hh
        rw [many_run_yes hh] at h hx ⊢
        rw [many_run_yes h3]
        have hc : (cls.run (P ++ R) s).2.e = 0 := by
          rcases Decidable.em ((cls.run (P ++ R) s).2.e = 0) with h1 | h1
          · exact h1
          · rw [(law_many law_cls _ _).stuck _ _ h1] at h; exact absurd h h1
        rcases cls_cut P R s he hi hc with ⟨c1, c2, c3⟩ | ⟨c1, c2⟩
        · rw [← c1] at h hx ⊢
          exact ih _ _ c3 c2 h hx
        · right
          rw [(law_many law_cls _ _).stuck P _ (by rw [c2]; decide)]
          exact ⟨c2, c1⟩
      · have h2 := has_end P s q (by omega)
        rw [many_run_no h2]
        refine .inl ⟨he, by show s.i = _; omega, ?_⟩
        obtain ⟨ds, e1, _⟩ := many_more (P ++ R) q cls (k + 1) acc s h
        exact ⟨ds, e1⟩

end Pp
end Go.Proofs.YtdgfidaopkcjoaaDoor

namespace Go.Proofs.YtdgfidaopkcjoaaDoor
namespace Pp
set_option linter.unusedVariables false
set_option linter.unusedSimpArgs false

def nm (s : Bs) : Wd := ⟨1, s, 0⟩
def sg (s : Bs) : Wd := ⟨3, s, 0⟩
def nu (n : Int) : Wd := ⟨2, [], n⟩
def tyW (t : Ty) : List Wd := if t.kind = 1 then [nm wVoid] else if t.kind = 2 then [nm wInt] else if t.kind = 4 then [nm wInt, sg wLK, sg wRK] else if t.kind = 3 then [nm t.name] else if t.kind = 5 then [nm t.name, sg wLK, sg wRK] else []
def fldW (f : Fld) : List Wd := [nm (if f.stat = true then wStatic else wField)] ++ ([nm f.name] ++ ([sg wColon] ++ (tyW f.ty ++ ([sg wSemi] ++ []))))
def argW (i : Ins) : List Wd := if shape i.op = 1 ∨ shape i.op = 2 ∨ shape i.op = 3 then [nu i.n] else if shape i.op = 4 then [nm i.a] else if shape i.op = 5 then [nm i.a, nm i.b] else []
def insW (i : Ins) : List Wd := nm (opWords.getD i.op []) :: (argW i ++ ([sg wSemi] ++ []))
def ctcW (c : Ctc) : List Wd := [nm wCatch] ++ ([nm c.name] ++ ([nu c.lo] ++ ([nu c.hi] ++ ([nu c.pc] ++ ([sg wSemi] ++ [])))))
def moreW {α : Type} (f : α → List Wd) : List α → List Wd
  | [] => []
  | a :: r => sg wComma :: (f a ++ moreW f r)
def commaW {α : Type} (f : α → List Wd) : List α → List Wd
  | [] => []
  | a :: r => f a ++ moreW f r
def manyW {α : Type} (f : α → List Wd) : List α → List Wd
  | [] => []
  | a :: r => f a ++ manyW f r
def bodyW (m : Mth) : List Wd := [nm wLocals] ++ ([nu m.locals] ++ ([sg wLB] ++ (manyW insW m.code ++ (manyW ctcW m.catches ++ ([sg wRB] ++ [])))))
def mthW (m : Mth) : List Wd := [nm (if m.stat = true then wFunction else wMethod)] ++ ([nm m.name] ++ ([sg wLP] ++ (commaW tyW m.params ++ ([sg wRP] ++ (tyW m.ret ++ ((if m.abst = true then [sg wSemi] else []) ++ ((if m.abst = true then [] else bodyW m) ++ [])))))))
def supW (c : Cls) : List Wd := if c.super = [] then [] else [nm wExtends, nm c.super]
def ifsW (c : Cls) : List Wd := if c.ifaces = [] then [] else nm (if c.iface = true then wExtends else wImplements) :: commaW (fun s => [nm s]) c.ifaces
def clsW (c : Cls) : List Wd := [nm (if c.iface = true then wInterface else wClass)] ++ ([nm c.name] ++ (supW c ++ (ifsW c ++ ([sg wLB] ++ ((manyW fldW c.fields ++ manyW mthW c.methods) ++ ([sg wRB] ++ []))))))

def okN (s : Bs) : Prop := Lx.nameL s = true ∧ keptL s = false
def okTy (t : Ty) : Prop := ((t.kind = 1 ∨ t.kind = 2 ∨ t.kind = 4) ∧ t.name = []) ∨ ((t.kind = 3 ∨ t.kind = 5) ∧ okN t.name)
def okFld (f : Fld) : Prop := okN f.name ∧ okTy f.ty
def okArg (i : Ins) : Prop := (shape i.op = 1 ∧ -2147483648 ≤ i.n ∧ i.n ≤ 2147483647 ∧ i.a = [] ∧ i.b = []) ∨ (shape i.op = 2 ∧ 0 ≤ i.n ∧ i.n ≤ 7 ∧ i.a = [] ∧ i.b = []) ∨ (shape i.op = 3 ∧ 0 ≤ i.n ∧ i.n ≤ 47 ∧ i.a = [] ∧ i.b = []) ∨
  (shape i.op = 4 ∧ i.n = 0 ∧ okN i.a ∧ i.b = []) ∨ (shape i.op = 5 ∧ i.n = 0 ∧ okN i.a ∧ okN i.b) ∨ (shape i.op = 0 ∧ i.n = 0 ∧ i.a = [] ∧ i.b = [])
def okIns (i : Ins) : Prop := i.op < 44 ∧ okArg i
def okCtc (c : Ctc) : Prop := okN c.name ∧ (0 ≤ c.lo ∧ c.lo ≤ 48) ∧ (0 ≤ c.hi ∧ c.hi ≤ 48) ∧ (0 ≤ c.pc ∧ c.pc ≤ 48)
def okBody (m : Mth) : Prop := (m.abst = true ∧ m.locals = 0 ∧ m.code = [] ∧ m.catches = []) ∨ (m.abst = false ∧ (0 ≤ m.locals ∧ m.locals ≤ 8) ∧ (m.code.length ≤ 48 ∧ ∀ i ∈ m.code, okIns i) ∧ (m.catches.length ≤ 4 ∧ ∀ c ∈ m.catches, okCtc c))
def okMth (m : Mth) : Prop := okN m.name ∧ (m.params.length ≤ 4 ∧ ∀ t ∈ m.params, okTy t) ∧ okTy m.ret ∧ okBody m
def okCls (c : Cls) : Prop := okN c.name ∧ (c.super = [] ∨ (c.iface = false ∧ okN c.super)) ∧ (c.ifaces.length ≤ 4 ∧ ∀ s ∈ c.ifaces, okN s) ∧ (c.fields.length ≤ 6 ∧ ∀ f ∈ c.fields, okFld f) ∧ (c.methods.length ≤ 6 ∧ ∀ m ∈ c.methods, okMth m)
def okProg (cs : List Cls) : Prop := cs.length ≤ 10 ∧ ∀ c ∈ cs, okCls c

def hd (l : List Wd) (q : Wd → Bool) : Bool := match l with
  | [] => false
  | w :: _ => q w
theorem has_at (A l : List Wd) (q : Wd → Bool) : has (A ++ l) ⟨A.length, 0⟩ q = hd l q := by
  unfold has cur hd
  simp only [if_true]
  rw [List.getElem?_append_right (Nat.le_refl _), Nat.sub_self]
  cases l <;> rfl
/-- The tree reads these words, with those behind, as that. -/
def Reads {α : Type} (p : Pr α) (ws rest : List Wd) (a : α) : Prop := ∀ A : List Wd, p.run (A ++ (ws ++ rest)) ⟨A.length, 0⟩ = (a, ⟨A.length + ws.length, 0⟩)
section
variable {α β : Type}
theorem Reads.ret (a : α) (rest : List Wd) : Reads (Pr.ret a) [] rest a := fun A => rfl
theorem Reads.bind {p : Pr α} {f : α → Pr β} {u v rest : List Wd} {a : α} {b : β} (hp : Reads p u (v ++ rest) a) (hf : Reads (f a) v rest b) : Reads (p.bind f) (u ++ v) rest b := fun A => by
  rw [run_bind, List.append_assoc, hp A]
  have h := hf (A ++ u)
  rw [List.append_assoc, List.length_append] at h
  rw [h, List.length_append, Nat.add_assoc]
theorem Reads.test {q : Wd → Bool} {y : Wd → Pr α} {n : Pr α} {w : Wd} {ws rest : List Wd} {a : α} (hq : q w = true) (hy : Reads (y w) ws rest a) : Reads (Pr.test q y n) (w :: ws) rest a := fun A => by
  rw [test_run, if_pos (by rw [has_at]; exact hq)]
  have hc : cur (A ++ (w :: ws ++ rest)) ⟨A.length, 0⟩ = some w := by
    unfold cur
    simp only [if_true]
    rw [List.getElem?_append_right (Nat.le_refl _), Nat.sub_self]; rfl
  rw [hc]
  have h := hy (A ++ [w])
  rw [List.append_assoc, List.length_append] at h
  show (y w).run (A ++ (w :: ws ++ rest)) ⟨A.length + 1, 0⟩ = _
  have e : A ++ (w :: ws ++ rest) = A ++ ([w] ++ (ws ++ rest)) := rfl
  rw [e]
  refine h.trans ?_
  simp only [List.length_cons, List.length_nil, Nat.zero_add, Prod.mk.injEq, true_and]
  congr 1
  omega
theorem Reads.testNo {q : Wd → Bool} {y : Wd → Pr α} {n : Pr α} {ws rest : List Wd} {a : α} (hq : hd (ws ++ rest) q = false) (hn : Reads n ws rest a) : Reads (Pr.test q y n) ws rest a := fun A => by
  rw [test_run, if_neg (by rw [has_at, hq]; exact Bool.false_ne_true)]; exact hn A
theorem Reads.peek {q : Wd → Bool} {y n : Pr α} {ws rest : List Wd} {a : α} (hq : hd (ws ++ rest) q = true) (hy : Reads y ws rest a) : Reads (Pr.peek q y n) ws rest a := fun A => by
  rw [peek_run, if_pos (by rw [has_at, hq])]; exact hy A
theorem Reads.peekNo {q : Wd → Bool} {y n : Pr α} {ws rest : List Wd} {a : α} (hq : hd (ws ++ rest) q = false) (hn : Reads n ws rest a) : Reads (Pr.peek q y n) ws rest a := fun A => by
  rw [peek_run, if_neg (by rw [has_at, hq]; exact Bool.false_ne_true)]; exact hn A
end
theorem kept_ne {s t : Bs} (h : keptL s = false) (ht : t ∈ keptWords) : (s == t) = false := by
  unfold keptL at h
  rw [List.any_eq_false] at h
  have := h t ht
  rw [Bool.not_eq_true] at this
  rw [← this]
  simp [BEq.comm]
theorem name_ne {s : Bs} {c : UInt8} (h : Lx.nameL s = true) (hc : Lx.inw c = false) : (s == [c]) = false := by
  cases s with
  | nil => rfl
  | cons x r =>
    cases hb : (x :: r == [c]) with
    | false => rfl
    | true =>
      have e : x :: r = [c] := by simpa using hb
      injection e with e1 e2
      subst e1; subst e2
      simp [Lx.nameL, hc] at h
theorem reads_want {t : Bs} {w : Wd} (h : (w.text == t) = true) (rest : List Wd) : Reads (want t) [w] rest () := Reads.test h (Reads.ret _ _)
theorem reads_fresh {s : Bs} (h : okN s) (rest : List Wd) : Reads fresh [nm s] rest s := Reads.test (by simp [isFresh, nm, h.2]) (Reads.ret _ _)
theorem reads_number {lo hi n : Int} (h1 : lo ≤ n) (h2 : n ≤ hi) (rest : List Wd) : Reads (number lo hi) [nu n] rest n := Reads.test (by simp [isNum, nu, h1, h2]) (Reads.ret _ _)
theorem reads_first {a b : Bs} (h : (b == a) = false) (st : Bool) (rest : List Wd) : Reads (first a b) [nm (if st = true then a else b)] rest st := by
  cases st with
  | true => exact Reads.test (by simp [isW, nm]) (Reads.ret _ _)
  | false => exact Reads.testNo h (Reads.bind (u := [nm b]) (v := []) (reads_want (by simp [nm]) _) (Reads.ret _ _))
theorem hd_text {q : Wd → Bool} {w : Wd} {l : List Wd} (h : q w = false) : hd (w :: l) q = false := h
theorem reads_row {one row : Int} {n : Bs} (rest : List Wd) : Reads (rowOf one row n) [sg wLK, sg wRK] rest ⟨row, n⟩ :=
  Reads.test (by decide) (Reads.bind (u := [sg wRK]) (v := []) (reads_want (by decide) _) (Reads.ret _ _))
theorem reads_one {one row : Int} {n : Bs} {rest : List Wd} (h : hd rest (isW wLK) = false) : Reads (rowOf one row n) [] rest ⟨one, n⟩ := Reads.testNo h (Reads.ret _ _)
theorem isW_nm (s t : Bs) : isW t (nm s) = (s == t) := rfl
theorem reads_typed {t : Ty} (ht : okTy t) {rest : List Wd} (h : hd rest (isW wLK) = false) : Reads typed (tyW t) rest t := by
  obtain ⟨k, n⟩ := t
  rcases ht with ⟨hk, hn⟩ | ⟨hk, hn⟩
  · simp only at hk hn
    subst hn
    rcases hk with rfl | rfl | rfl
    · exact Reads.test (w := nm wVoid) (ws := []) (by decide) (Reads.ret _ _)
    · exact Reads.testNo (ws := [nm wInt]) (hd_text (by decide)) (Reads.test (w := nm wInt) (ws := []) (by decide) (reads_one h))
    · exact Reads.testNo (ws := [nm wInt, sg wLK, sg wRK]) (hd_text (by decide)) (Reads.test (w := nm wInt) (ws := [sg wLK, sg wRK]) (by decide) (reads_row _))
  · simp only at hk hn
    have h1 : isW wVoid (nm n) = false := kept_ne hn.2 (by decide)
    have h2 : isW wInt (nm n) = false := kept_ne hn.2 (by decide)
    rcases hk with rfl | rfl
    · exact Reads.testNo (ws := [nm n]) (hd_text h1) (Reads.testNo (hd_text h2) (Reads.bind (u := [nm n]) (v := []) (reads_fresh hn _) (reads_one h)))
    · exact Reads.testNo (ws := [nm n, sg wLK, sg wRK]) (hd_text h1) (Reads.testNo (hd_text h2) (Reads.bind (u := [nm n]) (v := [sg wLK, sg wRK]) (reads_fresh hn _) (reads_row _)))
theorem reads_field {f : Fld} (h : okFld f) (rest : List Wd) : Reads field (fldW f) rest f := by
  obtain ⟨n, t, st⟩ := f
  exact Reads.bind (reads_first (by decide) st _) (Reads.bind (reads_fresh h.1 _) (Reads.bind (reads_want (by decide) _) (Reads.bind (reads_typed h.2 (hd_text (by decide))) (Reads.bind (reads_want (by decide) _) (Reads.ret _ _)))))
theorem op_word : ∀ k, k < 44 → opL (opWords.getD k []) = some k := by decide +kernel
theorem reads_args {i : Ins} (h : okArg i) (rest : List Wd) : Reads (args i.op) (argW i) rest (i.n, i.a, i.b) := by
  obtain ⟨op, n, a, b⟩ := i
  unfold args argW
  simp only [okArg] at h ⊢
  rcases h with ⟨hs, h1, h2, rfl, rfl⟩ | ⟨hs, h1, h2, rfl, rfl⟩ | ⟨hs, h1, h2, rfl, rfl⟩ | ⟨hs, rfl, h1, rfl⟩ | ⟨hs, rfl, h1, h2⟩ | ⟨hs, rfl, rfl, rfl⟩
  · rw [hs]; exact (show Reads ((number (-2147483648) 2147483647).bind fun n => .ret (n, [], [])) ([nu n] ++ []) rest (n, [], []) from Reads.bind (reads_number h1 h2 _) (Reads.ret _ _))
  · rw [hs]; exact (show Reads ((number 0 7).bind fun n => .ret (n, [], [])) ([nu n] ++ []) rest (n, [], []) from Reads.bind (reads_number h1 h2 _) (Reads.ret _ _))
  · rw [hs]; exact (show Reads ((number 0 47).bind fun n => .ret (n, [], [])) ([nu n] ++ []) rest (n, [], []) from Reads.bind (reads_number h1 h2 _) (Reads.ret _ _))
  · rw [hs, if_neg (show ¬ (4 : Nat) = 1 by decide), if_neg (show ¬ (4 : Nat) = 2 by decide), if_neg (show ¬ (4 : Nat) = 3 by decide), if_pos rfl, if_neg (show ¬ ((4 : Nat) = 1 ∨ (4 : Nat) = 2 ∨ (4 : Nat) = 3) by decide), if_pos rfl]; exact (show Reads (fresh.bind fun a => .ret ((0 : Int), a, [])) ([nm a] ++ []) rest (0, a, []) from Reads.bind (reads_fresh h1 _) (Reads.ret _ _))
  · rw [hs, if_neg (show ¬ (5 : Nat) = 1 by decide), if_neg (show ¬ (5 : Nat) = 2 by decide), if_neg (show ¬ (5 : Nat) = 3 by decide), if_neg (show ¬ (5 : Nat) = 4 by decide), if_pos rfl, if_neg (show ¬ ((5 : Nat) = 1 ∨ (5 : Nat) = 2 ∨ (5 : Nat) = 3) by decide), if_neg (show ¬ (5 : Nat) = 4 by decide), if_pos rfl]; exact (show Reads (fresh.bind fun a => fresh.bind fun b => .ret ((0 : Int), a, b)) ([nm a] ++ ([nm b] ++ [])) rest (0, a, b) from Reads.bind (reads_fresh h1 _) (Reads.bind (reads_fresh h2 _) (Reads.ret _ _)))
  · rw [hs]; exact Reads.ret _ _
theorem reads_instr {i : Ins} (h : okIns i) (rest : List Wd) : Reads instr (insW i) rest i := by
  have e := op_word i.op h.1
  have e2 : opL (nm (opWords.getD i.op [])).text = some i.op := e
  refine Reads.test (w := nm (opWords.getD i.op [])) (by simp only [isInstr, e2]; rfl) ?_
  simp only [e2, Option.getD_some]
  exact Reads.bind (reads_args h.2 _) (Reads.bind (reads_want (by decide) _) (Reads.ret _ _))
theorem reads_catch {c : Ctc} (h : okCtc c) (rest : List Wd) : Reads catch_ (ctcW c) rest c := by
  obtain ⟨n, x, y, z⟩ := c
  obtain ⟨h0, ⟨h1, h2⟩, ⟨h3, h4⟩, h5, h6⟩ := h
  exact Reads.bind (reads_want (by decide) _) (Reads.bind (reads_fresh h0 _) (Reads.bind (reads_number h1 h2 _) (Reads.bind (reads_number h3 h4 _) (Reads.bind (reads_number h5 h6 _) (Reads.bind (reads_want (by decide) _) (Reads.ret _ _))))))
theorem reads_many {α : Type} {q : Wd → Bool} {item : Pr α} {f : α → List Wd} {ok : α → Prop} (hi : ∀ a rest, ok a → Reads item (f a) rest a) (hq : ∀ a rest, ok a → hd (f a ++ rest) q = true) : ∀ (l : List α) (k : Nat) (acc : List α) (rest : List Wd), l.length ≤ k → (∀ a ∈ l, ok a) → hd rest q = false → Reads (many q item k acc) (manyW f l) rest (acc ++ l)
  | [], k, acc, rest, hk, ha, hr => by
    rw [List.append_nil]
    cases k with
    | zero => exact Reads.peekNo hr (Reads.ret _ _)
    | succ k => exact Reads.peekNo hr (Reads.ret _ _)
  | a :: l, 0, acc, rest, hk, ha, hr => by simp at hk
  | a :: l, k + 1, acc, rest, hk, ha, hr => by
    have h1 := ha a (by simp)
    refine Reads.peek (by rw [manyW, List.append_assoc]; exact hq a _ h1) ?_
    have h2 := reads_many hi hq l k (acc ++ [a]) rest (by simpa using hk) (fun x hx => ha x (by simp [hx])) hr
    rw [List.append_assoc] at h2
    exact Reads.bind (hi a _ h1) h2
theorem reads_listedGo {α : Type} {q : Wd → Bool} {item : Pr α} {f : α → List Wd} {ok : α → Prop} (hi : ∀ a rest, ok a → hd rest (isW wLK) = false → Reads item (f a) rest a) (hq : ∀ a rest, ok a → hd (f a ++ rest) q = true) : ∀ (l : List α) (k : Nat) (acc : List α) (rest : List Wd), l.length ≤ k → (∀ a ∈ l, ok a) → hd rest (isW wComma) = false → hd rest (isW wLK) = false → Reads (listedGo q item k acc) (moreW f l) rest (acc ++ l)
  | [], k, acc, rest, hk, ha, hr, hr2 => by
    rw [List.append_nil]
    cases k with
    | zero => exact Reads.testNo hr (Reads.ret _ _)
    | succ k => exact Reads.testNo hr (Reads.ret _ _)
  | a :: l, 0, acc, rest, hk, ha, hr, hr2 => by simp at hk
  | a :: l, k + 1, acc, rest, hk, ha, hr, hr2 => by
    have h1 := ha a (by simp)
    have h2 := reads_listedGo hi hq l k (acc ++ [a]) rest (by simpa using hk) (fun x hx => ha x (by simp [hx])) hr hr2
    rw [List.append_assoc] at h2
    have h3 : hd (moreW f l ++ rest) (isW wLK) = false := by
      cases l with
      | nil => exact hr2
      | cons b l => exact hd_text (by decide)
    exact Reads.test (by decide) (Reads.peek (by rw [List.append_assoc]; exact hq a _ h1) (Reads.bind (hi a _ h1 h3) h2))
theorem reads_listed {α : Type} {q : Wd → Bool} {item : Pr α} {f : α → List Wd} {ok : α → Prop} (hi : ∀ a rest, ok a → hd rest (isW wLK) = false → Reads item (f a) rest a) (hq : ∀ a rest, ok a → hd (f a ++ rest) q = true) (a : α) (l : List α) (m : Nat) (rest : List Wd) (hm : (a :: l).length ≤ m) (ha : ∀ x ∈ a :: l, ok x) (hr : hd rest (isW wComma) = false) (hr2 : hd rest (isW wLK) = false) : Reads (listed q item m) (commaW f (a :: l)) rest (a :: l) := by
  have h3 : hd (moreW f l ++ rest) (isW wLK) = false := by
    cases l with
    | nil => exact hr2
    | cons b l => exact hd_text (by decide)
  exact Reads.bind (hi a _ (ha a (by simp)) h3) (reads_listedGo hi hq l (m - 1) [a] rest (by simp at hm; omega) (fun x hx => ha x (by simp [hx])) hr hr2)
theorem ty_head {t : Ty} (h : okTy t) (rest : List Wd) : hd (tyW t ++ rest) isType = true ∧ hd (tyW t ++ rest) (isW wRP) = false := by
  obtain ⟨k, n⟩ := t
  rcases h with ⟨hk, hn⟩ | ⟨hk, hn⟩
  · simp only at hk hn
    rcases hk with rfl | rfl | rfl
    · exact ⟨show isType (nm wVoid) = true by decide, show isW wRP (nm wVoid) = false by decide⟩
    · exact ⟨show isType (nm wInt) = true by decide, show isW wRP (nm wInt) = false by decide⟩
    · exact ⟨show isType (nm wInt) = true by decide, show isW wRP (nm wInt) = false by decide⟩
  · simp only at hk hn
    have h1 : isType (nm n) = true := by simp [isType, isFresh, nm, hn.2]
    have h2 : isW wRP (nm n) = false := name_ne hn.1 (by decide)
    rcases hk with rfl | rfl
    · exact ⟨h1, h2⟩
    · exact ⟨h1, h2⟩
theorem reads_params {l : List Ty} (h : l.length ≤ 4) (ha : ∀ t ∈ l, okTy t) {rest : List Wd} (hr : hd rest (isW wRP) = true) (hr1 : hd rest (isW wComma) = false) (hr2 : hd rest (isW wLK) = false) : Reads params (commaW tyW l) rest l := by
  cases l with
  | nil => exact Reads.peek hr (Reads.ret _ _)
  | cons a l =>
    refine Reads.peekNo (by rw [commaW, List.append_assoc]; exact (ty_head (ha a (by simp)) _).2) ?_
    exact reads_listed (ok := okTy) (fun a rest ho hl => reads_typed ho hl) (fun a rest ho => (ty_head ho rest).1) a l 4 rest h ha hr1 hr2
theorem ins_head (i : Ins) (rest : List Wd) (h : okIns i) : hd (insW i ++ rest) isInstr = true := by
  have e2 : opL (nm (opWords.getD i.op [])).text = some i.op := op_word i.op h.1
  show (opL (nm (opWords.getD i.op [])).text).isSome = true
  rw [e2]; rfl
theorem reads_body {m : Mth} (h : (0 ≤ m.locals ∧ m.locals ≤ 8) ∧ (m.code.length ≤ 48 ∧ ∀ i ∈ m.code, okIns i) ∧ (m.catches.length ≤ 4 ∧ ∀ c ∈ m.catches, okCtc c)) (rest : List Wd) : Reads body (bodyW m) rest (m.locals, m.code, m.catches) := by
  obtain ⟨⟨h1, h2⟩, ⟨h3, h4⟩, h5, h6⟩ := h
  have hc : hd (([sg wRB] ++ []) ++ rest) (isW wCatch) = false := hd_text (by decide)
  have hb : hd ((manyW ctcW m.catches ++ ([sg wRB] ++ [])) ++ rest) isInstr = false := by
    cases m.catches with
    | nil => exact hd_text (by decide)
    | cons c l => exact hd_text (by decide)
  have r1 := reads_many (q := isInstr) (item := instr) (ok := okIns) (fun a rest ho => reads_instr ho rest) ins_head m.code 48 [] _ h3 h4 hb
  have r2 := reads_many (q := isW wCatch) (item := catch_) (ok := okCtc) (fun a rest ho => reads_catch ho rest) (fun a rest ho => by show isW wCatch (nm wCatch) = true; decide) m.catches 4 [] _ h5 h6 hc
  rw [List.nil_append] at r1 r2
  exact Reads.bind (reads_want (by decide) _) (Reads.bind (reads_number h1 h2 _) (Reads.bind (reads_want (by decide) _) (Reads.bind r1 (Reads.bind r2 (Reads.bind (reads_want (by decide) _) (Reads.ret _ _))))))
theorem reads_method {m : Mth} (h : okMth m) (rest : List Wd) : Reads method (mthW m) rest m := by
  obtain ⟨n, st, ab, ps, rt, lo, co, ca⟩ := m
  obtain ⟨h1, ⟨h2, h3⟩, h4, h5⟩ := h
  simp only at h1 h2 h3 h4
  have hsk : ∀ r2, Reads (skip wSemi) (if ab = true then [sg wSemi] else []) ((if ab = true then [] else bodyW ⟨n, st, ab, ps, rt, lo, co, ca⟩) ++ r2) ab := fun r2 => by
    cases ab with
    | true => exact Reads.test (by decide) (Reads.ret _ _)
    | false => exact Reads.testNo (show hd (bodyW _ ++ r2) (isW wSemi) = false from hd_text (by decide)) (Reads.ret _ _)
  have hbo : ∀ r2, Reads (bodyOr ab) (if ab = true then [] else bodyW ⟨n, st, ab, ps, rt, lo, co, ca⟩) r2 (lo, co, ca) := fun r2 => by
    rcases h5 with ⟨e0, e1, e2, e3⟩ | ⟨e0, e1⟩
    · simp only at e0 e1 e2 e3
      subst e0 e1 e2 e3
      exact Reads.ret _ _
    · simp only at e0
      subst e0
      exact reads_body e1 r2
  have hlk : ∀ r2, hd (((if ab = true then [sg wSemi] else []) ++ ((if ab = true then [] else bodyW ⟨n, st, ab, ps, rt, lo, co, ca⟩) ++ [])) ++ r2) (isW wLK) = false := fun r2 => by
    cases ab with
    | true => exact hd_text (by decide)
    | false => exact (show hd ((bodyW _ ++ []) ++ r2) (isW wLK) = false from hd_text (by decide))
  refine Reads.bind (reads_first (by decide) st _) (Reads.bind (reads_fresh h1 _) (Reads.bind (reads_want (by decide) _) (Reads.bind (reads_params h2 h3 ?_ ?_ ?_) (Reads.bind (reads_want (by decide) _) (Reads.bind (reads_typed h4 (hlk _)) (Reads.bind ?_ (Reads.bind (hbo _) (Reads.ret _ _))))))))
  · exact (show isW wRP (sg wRP) = true by decide)
  · exact (show isW wComma (sg wRP) = false by decide)
  · exact (show isW wLK (sg wRP) = false by decide)
  · rw [List.append_nil]; exact hsk rest
theorem fld_head (f : Fld) (rest : List Wd) : hd (fldW f ++ rest) (isW2 wField wStatic) = true := by
  show isW2 wField wStatic (nm (if f.stat = true then wStatic else wField)) = true
  cases f.stat <;> decide
theorem mth_head (m : Mth) (rest : List Wd) : hd (mthW m ++ rest) (isW2 wField wStatic) = false ∧ hd (mthW m ++ rest) (isW2 wMethod wFunction) = true := by
  constructor
  · show isW2 wField wStatic (nm (if m.stat = true then wFunction else wMethod)) = false
    cases m.stat <;> decide
  · show isW2 wMethod wFunction (nm (if m.stat = true then wFunction else wMethod)) = true
    cases m.stat <;> decide
theorem reads_members2 : ∀ (ms : List Mth) (k : Nat) (fs0 : List Fld) (ms0 : List Mth) (rest : List Wd), ms.length ≤ k → ms0.length + ms.length ≤ 6 → (∀ m ∈ ms, okMth m) → hd rest (isW2 wField wStatic) = false → hd rest (isW2 wMethod wFunction) = false → Reads (members k fs0 ms0) (manyW mthW ms) rest (fs0, ms0 ++ ms)
  | [], k, fs0, ms0, rest, hk, h6, ha, hr1, hr2 => by
    rw [List.append_nil]
    cases k with
    | zero => exact Reads.peekNo hr1 (Reads.peekNo hr2 (Reads.ret _ _))
    | succ k => exact Reads.peekNo hr1 (Reads.peekNo hr2 (Reads.ret _ _))
  | m :: ms, 0, fs0, ms0, rest, hk, h6, ha, hr1, hr2 => by simp at hk
  | m :: ms, k + 1, fs0, ms0, rest, hk, h6, ha, hr1, hr2 => by
    rw [members]
    refine Reads.peekNo (by rw [manyW, List.append_assoc]; exact (mth_head m _).1) (Reads.peek (by rw [manyW, List.append_assoc]; exact (mth_head m _).2) ?_)
    rw [if_neg (by simp at h6; omega)]
    have h2 := reads_members2 ms k fs0 (ms0 ++ [m]) rest (by simpa using hk) (by simp at h6 ⊢; omega) (fun x hx => ha x (by simp [hx])) hr1 hr2
    rw [List.append_assoc] at h2
    exact Reads.bind (reads_method (ha m (by simp)) _) h2
theorem reads_members : ∀ (fs : List Fld) (ms : List Mth) (k : Nat) (fs0 : List Fld) (rest : List Wd), fs.length + ms.length ≤ k → fs0.length + fs.length ≤ 6 → ms.length ≤ 6 → (∀ f ∈ fs, okFld f) → (∀ m ∈ ms, okMth m) → hd rest (isW2 wField wStatic) = false → hd rest (isW2 wMethod wFunction) = false → Reads (members k fs0 []) (manyW fldW fs ++ manyW mthW ms) rest (fs0 ++ fs, ms)
  | [], ms, k, fs0, rest, hk, h6, h7, ha, hb, hr1, hr2 => by
    rw [List.append_nil]
    exact reads_members2 ms k fs0 [] rest (by simpa using hk) (by simpa using h7) hb hr1 hr2
  | f :: fs, ms, 0, fs0, rest, hk, h6, h7, ha, hb, hr1, hr2 => by simp at hk
  | f :: fs, ms, k + 1, fs0, rest, hk, h6, h7, ha, hb, hr1, hr2 => by
    rw [members]
    refine Reads.peek (by rw [manyW, List.append_assoc, List.append_assoc]; exact fld_head f _) ?_
    rw [if_neg (by simp at h6; omega)]
    have h2 := reads_members fs ms k (fs0 ++ [f]) rest (by simp at hk; omega) (by simp at h6 ⊢; omega) h7 (fun x hx => ha x (by simp [hx])) hb hr1 hr2
    rw [List.append_assoc] at h2
    rw [manyW, List.append_assoc]
    exact Reads.bind (reads_field (ha f (by simp)) _) h2
theorem reads_cls {c : Cls} (h : okCls c) (rest : List Wd) : Reads cls (clsW c) rest c := by
  obtain ⟨n, ic, sup, ifs, fs, ms⟩ := c
  obtain ⟨h1, h2, ⟨h3, h4⟩, ⟨h5, h6⟩, h7, h8⟩ := h
  simp only at h1 h2 h3 h4 h5 h6 h7 h8
  have hif : ∀ r2, hd r2 (isW wComma) = false → hd r2 (isW wLK) = false → hd r2 (isW (if ic = true then wExtends else wImplements)) = false → Reads (ifacesOf (if ic = true then wExtends else wImplements)) (ifsW ⟨n, ic, sup, ifs, fs, ms⟩) r2 ifs := fun r2 g1 g2 g3 => by
    unfold ifsW
    cases ifs with
    | nil => exact Reads.testNo g3 (Reads.ret _ _)
    | cons a l =>
      rw [if_neg (show ¬ (a :: l = []) by simp)]
      exact Reads.test (by rw [isW_nm]; exact beq_self_eq_true _) (reads_listed (ok := okN) (fun a rest ho _ => reads_fresh ho rest) (fun a rest ho => by show isFresh (nm a) = true; simp [isFresh, nm, ho.2]) a l 4 r2 h3 h4 g1 g2)
  have hsup : ∀ r2, hd r2 (isW wExtends) = false ∨ ic = true → Reads (superOr ic) (supW ⟨n, ic, sup, ifs, fs, ms⟩) r2 sup := fun r2 g => by
    unfold supW superOr
    simp only
    rcases h2 with rfl | ⟨rfl, h2⟩
    · rw [if_pos rfl]
      cases ic with
      | true => exact Reads.ret _ _
      | false =>
        rcases g with g | g
        · exact Reads.testNo g (Reads.ret _ _)
        · cases g
    · rw [if_neg (show ¬ (false = true) by simp), if_neg (fun e : sup = [] => by have h0 := h2.1; rw [e] at h0; simp [Lx.nameL] at h0)]
      exact Reads.test (by decide) (reads_fresh h2 _)
  have hlb : ∀ (q : Wd → Bool) (r2 : List Wd), q (sg wLB) = false → (ifs ≠ [] → q (nm (if ic = true then wExtends else wImplements)) = false) → hd ((ifsW ⟨n, ic, sup, ifs, fs, ms⟩ ++ ([sg wLB] ++ r2))) q = false := fun q r2 g1 g2 => by
    unfold ifsW
    cases ifs with
    | nil => exact g1
    | cons a l => rw [if_neg (show ¬ (a :: l = []) by simp)]; exact g2 (by simp)
  refine Reads.bind (reads_first (by decide) ic _) (Reads.bind (reads_fresh h1 _) (Reads.bind (hsup _ ?_) (Reads.bind (hif _ ?_ ?_ ?_) (Reads.bind (reads_want (by decide) _) (Reads.bind (reads_members fs ms 12 [] _ (by omega) (by simpa using h5) h7 h6 h8 ?_ ?_) (Reads.bind (reads_want (by decide) _) (Reads.ret _ _)))))))
  · cases ic with
    | true => exact .inr rfl
    | false =>
      left
      rw [List.append_assoc]
      exact hlb _ _ (by decide) (fun _ => by decide)
  · exact (show isW wComma (sg wLB) = false by decide)
  · exact (show isW wLK (sg wLB) = false by decide)
  · show isW _ (sg wLB) = false
    cases ic <;> decide
  · exact (show isW2 wField wStatic (sg wRB) = false by decide)
  · exact (show isW2 wMethod wFunction (sg wRB) = false by decide)
theorem cls_head (c : Cls) (rest : List Wd) (h : okCls c) : hd (clsW c ++ rest) (isW2 wClass wInterface) = true := by
  show isW2 wClass wInterface (nm (if c.iface = true then wInterface else wClass)) = true
  cases c.iface <;> decide
/-- A program's words are read as that program. -/
theorem reads_prog {cs : List Cls} (h : okProg cs) : progP.run (manyW clsW cs) ⟨0, 0⟩ = (cs, ⟨(manyW clsW cs).length, 0⟩) := by
  have r1 := reads_many (q := isW2 wClass wInterface) (item := cls) (ok := okCls) (fun a rest ho => reads_cls ho rest) cls_head cs 10 [] [] h.1 h.2 rfl
  have r2 : Reads progP (manyW clsW cs) [] cs := by
    have := Reads.bind (v := []) (f := fun cs => Pr.peek (fun _ => true) (.fail 4 (.ret cs)) (.ret cs)) (b := cs) (rest := []) r1 (Reads.peekNo rfl (Reads.ret _ _))
    rw [List.append_nil] at this
    exact this
  have h3 := r2 []
  simp only [List.nil_append, List.append_nil, List.length_nil, Nat.zero_add] at h3
  exact h3

end Pp
end Go.Proofs.YtdgfidaopkcjoaaDoor

namespace Go.Proofs.YtdgfidaopkcjoaaDoor
namespace Pp
set_option linter.unusedVariables false
set_option linter.unusedSimpArgs false

def VW (C : List Wd) : Prop := ∀ w ∈ C, w.kind = 1 → Lx.nameL w.text = true
def Ens {α : Type} (p : Pr α) (P : α → Prop) : Prop := ∀ C s, VW C → (p.run C s).2.e = 0 → P (p.run C s).1
section
variable {α β : Type}
theorem Ens.ret {a : α} {P : α → Prop} (h : P a) : Ens (Pr.ret a) P := fun _ _ _ _ => h
theorem Ens.fail {p : Pr α} {P : α → Prop} (hp : Law p) {k : Int} (hk : k ≠ 0) : Ens (Pr.fail k p) P := fun C s _ h => by
  exfalso
  rw [run_fail] at h
  by_cases he : s.e = 0
  · rw [show failS s k = ⟨s.i, k⟩ from by simp [failS, he], hp.stuck _ _ hk] at h
    exact hk h
  · rw [failS_off s k he, hp.stuck _ _ he] at h
    exact he h
theorem Ens.test {q : Wd → Bool} {y : Wd → Pr α} {n : Pr α} {P : α → Prop} (hy : ∀ t, (t.kind = 1 → Lx.nameL t.text = true) → q t = true → Ens (y t) P) (hn : Ens n P) : Ens (Pr.test q y n) P := fun C s hC h => by
  cases hh : has C s q with
  | true =>
    obtain ⟨t, ht, hq, he⟩ := has_cur hh
    rw [run_test C q y n s t hh ht] at h ⊢
    refine hy t (hC t ?_) hq C s.adv hC h
    unfold cur at ht
    rw [if_pos he] at ht
    exact List.mem_of_getElem? ht
  | false =>
    rw [run_test_no C q y n s hh] at h ⊢
    exact hn C s hC h
theorem Ens.peek {q : Wd → Bool} {y n : Pr α} {P : α → Prop} (hy : Ens y P) (hn : Ens n P) : Ens (Pr.peek q y n) P := fun C s hC h => by
  cases hh : has C s q with
  | true => rw [run_peek_yes hh] at h ⊢; exact hy C s hC h
  | false => rw [run_peek_no hh] at h ⊢; exact hn C s hC h
theorem Ens.bind {p : Pr α} {f : α → Pr β} {Q : α → Prop} {P : β → Prop} (hp : Ens p Q) (hl : ∀ a, Law (f a)) (hf : ∀ a, Q a → Ens (f a) P) : Ens (p.bind f) P := fun C s hC h => by
  rw [run_bind] at h ⊢
  have he : (p.run C s).2.e = 0 := by
    rcases Decidable.em ((p.run C s).2.e = 0) with h1 | h1
    · exact h1
    · rw [(hl _).stuck C _ h1] at h; exact absurd h h1
  exact hf _ (hp C s hC he) C _ hC h
theorem Ens.any (p : Pr α) : Ens p (fun _ => True) := fun _ _ _ _ => trivial
theorem Ens.mono {p : Pr α} {P Q : α → Prop} (h : Ens p P) (hq : ∀ a, P a → Q a) : Ens p Q := fun C s hC he => hq _ (h C s hC he)
end
theorem ens_fresh : Ens fresh okN := Ens.test (fun t hv hq => Ens.ret (by
  simp only [isFresh, Bool.and_eq_true, beq_iff_eq, Bool.not_eq_true'] at hq
  exact ⟨hv hq.1, hq.2⟩)) (Ens.fail (Law.ret _) (by decide))
theorem ens_number (lo hi : Int) : Ens (number lo hi) (fun n => lo ≤ n ∧ n ≤ hi) := Ens.test (fun t hv hq => Ens.ret (by
  simp only [isNum, Bool.and_eq_true, decide_eq_true_eq] at hq
  exact hq.2)) (Ens.fail (Law.ret _) (by decide))
theorem ens_rowOf (one row : Int) (n : Bs) : Ens (rowOf one row n) (fun t => (t.kind = one ∨ t.kind = row) ∧ t.name = n) :=
  Ens.test (fun t hv hq => Ens.bind (Ens.any _) (fun _ => Law.ret _) fun _ _ => Ens.ret ⟨.inr rfl, rfl⟩) (Ens.ret ⟨.inl rfl, rfl⟩)
theorem ens_typed : Ens typed okTy := Ens.test (fun t hv hq => Ens.ret (.inl ⟨.inl rfl, rfl⟩)) (Ens.test (fun t hv hq => (ens_rowOf _ _ _).mono fun a h => .inl ⟨by rcases h.1 with h | h; exact .inr (.inl h); exact .inr (.inr h), h.2⟩)
  (Ens.bind ens_fresh (fun _ => law_rowOf _ _ _) fun n hn => (ens_rowOf _ _ _).mono fun a h => .inr ⟨h.1, by rw [h.2]; exact hn⟩))
theorem ens_listedGo {α : Type} {q : Wd → Bool} {item : Pr α} {ok : α → Prop} (hl : Law item) (hi : Ens item ok) : ∀ (n : Nat) (acc : List α), (∀ a ∈ acc, ok a) → Ens (listedGo q item n acc) (fun l => l.length ≤ acc.length + n ∧ ∀ a ∈ l, ok a)
  | 0, acc, h => Ens.test (fun _ _ _ => Ens.peek (Ens.fail (Law.ret _) (by decide)) (Ens.fail (Law.ret _) (by decide))) (Ens.ret ⟨by omega, h⟩)
  | n + 1, acc, h => Ens.test (fun _ _ _ => Ens.peek (Ens.bind hi (fun a => law_listedGo hl n _) fun a ha => (ens_listedGo hl hi n (acc ++ [a]) (fun x hx => by
      rcases List.mem_append.1 hx with h1 | h1
      · exact h x h1
      · simp at h1; subst h1; exact ha)).mono fun l hx => ⟨by have := hx.1; simp at this; omega, hx.2⟩) (Ens.fail (Law.ret _) (by decide))) (Ens.ret ⟨by omega, h⟩)
theorem ens_listed {α : Type} {q : Wd → Bool} {item : Pr α} {ok : α → Prop} (hl : Law item) (hi : Ens item ok) (m : Nat) (hm : 1 ≤ m) : Ens (listed q item m) (fun l => l.length ≤ m ∧ ∀ a ∈ l, ok a) :=
  Ens.bind hi (fun a => law_listedGo hl _ _) fun a ha => (ens_listedGo hl hi (m - 1) [a] (fun x hx => by simp at hx; subst hx; exact ha)).mono fun l hx => ⟨by have := hx.1; simp at this; omega, hx.2⟩
theorem ens_many {α : Type} {q : Wd → Bool} {item : Pr α} {ok : α → Prop} (hl : Law item) (hi : Ens item ok) : ∀ (n : Nat) (acc : List α), (∀ a ∈ acc, ok a) → Ens (many q item n acc) (fun l => l.length ≤ acc.length + n ∧ ∀ a ∈ l, ok a)
  | 0, acc, h => Ens.peek (Ens.fail (Law.ret _) (by decide)) (Ens.ret ⟨by omega, h⟩)
  | n + 1, acc, h => Ens.peek (Ens.bind hi (fun a => law_many hl n _) fun a ha => (ens_many hl hi n (acc ++ [a]) (fun x hx => by
      rcases List.mem_append.1 hx with h1 | h1
      · exact h x h1
      · simp at h1; subst h1; exact ha)).mono fun l hx => ⟨by have := hx.1; simp at this; omega, hx.2⟩) (Ens.ret ⟨by omega, h⟩)
theorem ens_field : Ens field okFld := Ens.bind (Ens.any _) (fun _ => Law.bind law_fresh fun _ => Law.bind (law_want _) fun _ => Law.bind law_typed fun _ => Law.bind (law_want _) fun _ => Law.ret _) fun _ _ =>
  Ens.bind ens_fresh (fun _ => Law.bind (law_want _) fun _ => Law.bind law_typed fun _ => Law.bind (law_want _) fun _ => Law.ret _) fun _ hn =>
  Ens.bind (Ens.any _) (fun _ => Law.bind law_typed fun _ => Law.bind (law_want _) fun _ => Law.ret _) fun _ _ =>
  Ens.bind ens_typed (fun _ => Law.bind (law_want _) fun _ => Law.ret _) fun _ ht => Ens.bind (Ens.any _) (fun _ => Law.ret _) fun _ _ => Ens.ret ⟨hn, ht⟩
theorem shape_cases (op : Nat) : shape op = 1 ∨ shape op = 2 ∨ shape op = 3 ∨ shape op = 4 ∨ shape op = 5 ∨ shape op = 0 := by
  unfold shape
  repeat' split
  all_goals simp
theorem ens_args (op : Nat) : Ens (args op) (fun x => okArg ⟨op, x.1, x.2.1, x.2.2⟩) := by
  unfold args
  rcases shape_cases op with h | h | h | h | h | h
  · rw [if_pos h]
    exact Ens.bind (ens_number _ _) (fun _ => Law.ret _) fun n hn => Ens.ret (.inl ⟨h, hn.1, hn.2, rfl, rfl⟩)
  · rw [if_neg (by omega), if_pos h]
    exact Ens.bind (ens_number _ _) (fun _ => Law.ret _) fun n hn => Ens.ret (.inr (.inl ⟨h, hn.1, hn.2, rfl, rfl⟩))
  · rw [if_neg (by omega), if_neg (by omega), if_pos h]
    exact Ens.bind (ens_number _ _) (fun _ => Law.ret _) fun n hn => Ens.ret (.inr (.inr (.inl ⟨h, hn.1, hn.2, rfl, rfl⟩)))
  · rw [if_neg (by omega), if_neg (by omega), if_neg (by omega), if_pos h]
    exact Ens.bind ens_fresh (fun _ => Law.ret _) fun n hn => Ens.ret (.inr (.inr (.inr (.inl ⟨h, rfl, hn, rfl⟩))))
  · rw [if_neg (by omega), if_neg (by omega), if_neg (by omega), if_neg (by omega), if_pos h]
    exact Ens.bind ens_fresh (fun _ => Law.bind law_fresh fun _ => Law.ret _) fun n hn => Ens.bind ens_fresh (fun _ => Law.ret _) fun m hm => Ens.ret (.inr (.inr (.inr (.inr (.inl ⟨h, rfl, hn, hm⟩)))))
  · rw [if_neg (by omega), if_neg (by omega), if_neg (by omega), if_neg (by omega), if_neg (by omega)]
    exact Ens.ret (.inr (.inr (.inr (.inr (.inr ⟨h, rfl, rfl, rfl⟩)))))
theorem opL_lt {s : Bs} {k : Nat} (h : opL s = some k) : k < 44 := by
  unfold opL at h
  have := List.findIdx?_eq_some_iff_getElem.1 h
  obtain ⟨h1, _⟩ := this
  exact h1
theorem ens_instr : Ens instr okIns := Ens.test (fun t hv hq => by
  simp only [isInstr, Option.isSome_iff_exists] at hq
  obtain ⟨k, hk⟩ := hq
  rw [hk, Option.getD_some]
  exact Ens.bind (ens_args k) (fun _ => Law.bind (law_want _) fun _ => Law.ret _) fun x hx => Ens.bind (Ens.any _) (fun _ => Law.ret _) fun _ _ => Ens.ret ⟨opL_lt hk, hx⟩) (Ens.ret ⟨by show 0 < 44; omega, .inr (.inr (.inr (.inr (.inr ⟨rfl, rfl, rfl, rfl⟩))))⟩)
theorem ens_catch : Ens catch_ okCtc := Ens.bind (Ens.any _) (fun _ => Law.bind law_fresh fun _ => Law.bind (law_number _ _) fun _ => Law.bind (law_number _ _) fun _ => Law.bind (law_number _ _) fun _ => Law.bind (law_want _) fun _ => Law.ret _) fun _ _ =>
  Ens.bind ens_fresh (fun _ => Law.bind (law_number _ _) fun _ => Law.bind (law_number _ _) fun _ => Law.bind (law_number _ _) fun _ => Law.bind (law_want _) fun _ => Law.ret _) fun _ h1 =>
  Ens.bind (ens_number _ _) (fun _ => Law.bind (law_number _ _) fun _ => Law.bind (law_number _ _) fun _ => Law.bind (law_want _) fun _ => Law.ret _) fun _ h2 =>
  Ens.bind (ens_number _ _) (fun _ => Law.bind (law_number _ _) fun _ => Law.bind (law_want _) fun _ => Law.ret _) fun _ h3 =>
  Ens.bind (ens_number _ _) (fun _ => Law.bind (law_want _) fun _ => Law.ret _) fun _ h4 => Ens.bind (Ens.any _) (fun _ => Law.ret _) fun _ _ => Ens.ret ⟨h1, h2, h3, h4⟩
def okB (x : Int × List Ins × List Ctc) : Prop := (0 ≤ x.1 ∧ x.1 ≤ 8) ∧ (x.2.1.length ≤ 48 ∧ ∀ i ∈ x.2.1, okIns i) ∧ (x.2.2.length ≤ 4 ∧ ∀ c ∈ x.2.2, okCtc c)
theorem ens_body : Ens body okB := Ens.bind (Ens.any _) (fun _ => Law.bind (law_number _ _) fun _ => Law.bind (law_want _) fun _ => Law.bind (law_many law_instr _ _) fun _ => Law.bind (law_many law_catch _ _) fun _ => Law.bind (law_want _) fun _ => Law.ret _) fun _ _ =>
  Ens.bind (ens_number _ _) (fun _ => Law.bind (law_want _) fun _ => Law.bind (law_many law_instr _ _) fun _ => Law.bind (law_many law_catch _ _) fun _ => Law.bind (law_want _) fun _ => Law.ret _) fun _ h1 =>
  Ens.bind (Ens.any _) (fun _ => Law.bind (law_many law_instr _ _) fun _ => Law.bind (law_many law_catch _ _) fun _ => Law.bind (law_want _) fun _ => Law.ret _) fun _ _ =>
  Ens.bind (ens_many law_instr ens_instr 48 [] (fun x hx => by simp at hx)) (fun _ => Law.bind (law_many law_catch _ _) fun _ => Law.bind (law_want _) fun _ => Law.ret _) fun _ h2 =>
  Ens.bind (ens_many law_catch ens_catch 4 [] (fun x hx => by simp at hx)) (fun _ => Law.bind (law_want _) fun _ => Law.ret _) fun _ h3 => Ens.bind (Ens.any _) (fun _ => Law.ret _) fun _ _ => Ens.ret ⟨h1, ⟨by simpa using h2.1, h2.2⟩, by simpa using h3.1, h3.2⟩
theorem ens_params : Ens params (fun l => l.length ≤ 4 ∧ ∀ t ∈ l, okTy t) := Ens.peek (Ens.ret ⟨by simp, by simp⟩) (ens_listed law_typed ens_typed 4 (by omega))
theorem ens_bodyOr (ab : Bool) : Ens (bodyOr ab) (fun x => (ab = true ∧ x.1 = 0 ∧ x.2.1 = [] ∧ x.2.2 = []) ∨ (ab = false ∧ okB x)) := by
  unfold bodyOr
  cases ab with
  | true => exact Ens.ret (.inl ⟨rfl, rfl, rfl, rfl⟩)
  | false => exact ens_body.mono fun a h => .inr ⟨rfl, h⟩
theorem ens_method : Ens method okMth := Ens.bind (Ens.any _) (fun _ => Law.bind law_fresh fun _ => Law.bind (law_want _) fun _ => Law.bind law_params fun _ => Law.bind (law_want _) fun _ => Law.bind law_typed fun _ => Law.bind (law_skip _) fun _ => Law.bind (law_bodyOr _) fun _ => Law.ret _) fun _ _ =>
  Ens.bind ens_fresh (fun _ => Law.bind (law_want _) fun _ => Law.bind law_params fun _ => Law.bind (law_want _) fun _ => Law.bind law_typed fun _ => Law.bind (law_skip _) fun _ => Law.bind (law_bodyOr _) fun _ => Law.ret _) fun _ h1 =>
  Ens.bind (Ens.any _) (fun _ => Law.bind law_params fun _ => Law.bind (law_want _) fun _ => Law.bind law_typed fun _ => Law.bind (law_skip _) fun _ => Law.bind (law_bodyOr _) fun _ => Law.ret _) fun _ _ =>
  Ens.bind ens_params (fun _ => Law.bind (law_want _) fun _ => Law.bind law_typed fun _ => Law.bind (law_skip _) fun _ => Law.bind (law_bodyOr _) fun _ => Law.ret _) fun _ h2 =>
  Ens.bind (Ens.any _) (fun _ => Law.bind law_typed fun _ => Law.bind (law_skip _) fun _ => Law.bind (law_bodyOr _) fun _ => Law.ret _) fun _ _ =>
  Ens.bind ens_typed (fun _ => Law.bind (law_skip _) fun _ => Law.bind (law_bodyOr _) fun _ => Law.ret _) fun _ h3 =>
  Ens.bind (Ens.any _) (fun _ => Law.bind (law_bodyOr _) fun _ => Law.ret _) fun ab _ => Ens.bind (ens_bodyOr ab) (fun _ => Law.ret _) fun _ h4 => Ens.ret ⟨h1, h2, h3, h4⟩
theorem ens_members : ∀ (n : Nat) (fs : List Fld) (ms : List Mth), (fs.length ≤ 6 ∧ ∀ f ∈ fs, okFld f) → (ms.length ≤ 6 ∧ ∀ m ∈ ms, okMth m) → Ens (members n fs ms) (fun x => (x.1.length ≤ 6 ∧ ∀ f ∈ x.1, okFld f) ∧ (x.2.length ≤ 6 ∧ ∀ m ∈ x.2, okMth m))
  | 0, fs, ms, h1, h2 => Ens.peek (Ens.fail (Law.ret _) (by decide)) (Ens.peek (Ens.fail (Law.ret _) (by decide)) (Ens.ret ⟨h1, h2⟩))
  | n + 1, fs, ms, h1, h2 => by
    rw [members]
    refine Ens.peek ?_ (Ens.peek ?_ (Ens.ret ⟨h1, h2⟩))
    · split
      · exact Ens.fail (Law.ret _) (by decide)
      · refine Ens.bind ens_field (fun _ => law_members n _ _) fun f hf => ens_members n _ _ ⟨by simp; omega, fun x hx => ?_⟩ h2
        rcases List.mem_append.1 hx with g | g
        · exact h1.2 x g
        · simp at g; subst g; exact hf
    · split
      · exact Ens.fail (Law.ret _) (by decide)
      · refine Ens.bind ens_method (fun _ => law_members n _ _) fun f hf => ens_members n _ _ h1 ⟨by simp; omega, fun x hx => ?_⟩
        rcases List.mem_append.1 hx with g | g
        · exact h2.2 x g
        · simp at g; subst g; exact hf
theorem ens_superOr (ic : Bool) : Ens (superOr ic) (fun s => s = [] ∨ (ic = false ∧ okN s)) := by
  unfold superOr
  cases ic with
  | true => exact Ens.ret (.inl rfl)
  | false => exact Ens.test (fun t _ _ => ens_fresh.mono fun a h => .inr ⟨rfl, h⟩) (Ens.ret (.inl rfl))
theorem ens_ifacesOf (t : Bs) : Ens (ifacesOf t) (fun l => l.length ≤ 4 ∧ ∀ s ∈ l, okN s) := Ens.test (fun _ _ _ => ens_listed law_fresh ens_fresh 4 (by omega)) (Ens.ret ⟨by simp, by simp⟩)
theorem ens_cls : Ens cls okCls := Ens.bind (Ens.any _) (fun _ => Law.bind law_fresh fun _ => Law.bind (law_superOr _) fun _ => Law.bind (law_ifacesOf _) fun _ => Law.bind (law_want _) fun _ => Law.bind (law_members _ _ _) fun _ => Law.bind (law_want _) fun _ => Law.ret _) fun ic _ =>
  Ens.bind ens_fresh (fun _ => Law.bind (law_superOr _) fun _ => Law.bind (law_ifacesOf _) fun _ => Law.bind (law_want _) fun _ => Law.bind (law_members _ _ _) fun _ => Law.bind (law_want _) fun _ => Law.ret _) fun _ h1 =>
  Ens.bind (ens_superOr ic) (fun _ => Law.bind (law_ifacesOf _) fun _ => Law.bind (law_want _) fun _ => Law.bind (law_members _ _ _) fun _ => Law.bind (law_want _) fun _ => Law.ret _) fun _ h2 =>
  Ens.bind (ens_ifacesOf _) (fun _ => Law.bind (law_want _) fun _ => Law.bind (law_members _ _ _) fun _ => Law.bind (law_want _) fun _ => Law.ret _) fun _ h3 =>
  Ens.bind (Ens.any _) (fun _ => Law.bind (law_members _ _ _) fun _ => Law.bind (law_want _) fun _ => Law.ret _) fun _ _ =>
  Ens.bind (ens_members 12 [] [] ⟨by simp, by simp⟩ ⟨by simp, by simp⟩) (fun _ => Law.bind (law_want _) fun _ => Law.ret _) fun _ h4 => Ens.bind (Ens.any _) (fun _ => Law.ret _) fun _ _ => Ens.ret ⟨h1, h2, h3, h4.1, h4.2⟩
theorem ens_progP : Ens progP okProg := Ens.bind (ens_many law_cls ens_cls 10 [] (fun x hx => by simp at hx)) (fun _ => Law.peek (Law.fail (Law.ret _) _) (Law.ret _) _) fun cs h => Ens.peek (Ens.fail (Law.ret _) (by decide)) (Ens.ret ⟨by simpa using h.1, h.2⟩)

end Pp
end Go.Proofs.YtdgfidaopkcjoaaDoor

namespace Go.Proofs.YtdgfidaopkcjoaaDoor
namespace Lx
set_option linter.unusedVariables false
set_option linter.unusedSimpArgs false

theorem nameL_iff (l : List UInt8) : nameL l = true ↔ 1 ≤ l.length ∧ l.length ≤ 20 ∧ dig (l.getD 0 0) = false ∧ l.all inw = true := by
  cases l with
  | nil => simp [nameL]
  | cons c r =>
    simp only [nameL, Bool.and_eq_true, decide_eq_true_eq, Bool.not_eq_true', List.length_cons, List.getD_cons_zero]
    constructor
    · rintro ⟨⟨h1, h2⟩, h3⟩; exact ⟨by omega, by omega, h2, h3⟩
    · rintro ⟨_, h1, h2, h3⟩; exact ⟨⟨by omega, h2⟩, h3⟩
theorem nameL_no (l : List UInt8) (h : ¬ (1 ≤ l.length ∧ l.length ≤ 20 ∧ dig (l.getD 0 0) = false ∧ l.all inw = true)) : nameL l = false := by
  rw [← Bool.not_eq_true, nameL_iff]; exact h
theorem nameL_blank (l : List UInt8) : nameL (l ++ [32]) = false := by
  apply nameL_no
  rintro ⟨_, _, _, h⟩
  rw [all_snoc] at h
  simp [show inw 32 = false from rfl] at h
theorem nameL_take (l : List UInt8) (h : nameL l = true) (n : Nat) (h1 : 1 ≤ n) (h2 : n ≤ l.length) : nameL (l.take n) = true := by
  obtain ⟨a, b, c, d⟩ := (nameL_iff l).1 h
  apply (nameL_iff _).2
  refine ⟨by simp; omega, by simp; omega, ?_, ?_⟩
  · rw [← c]; simp [List.getD, show 0 < n from h1]
  · rw [List.all_eq_true] at d ⊢
    exact fun x hx => d x (List.mem_of_mem_take hx)
theorem nameL_digit (l : List UInt8) (h : nameL l = true) : nameL (l ++ [55]) = decide (l.length < 20) := by
  obtain ⟨a, b, c, d⟩ := (nameL_iff l).1 h
  by_cases hl : l.length < 20
  · rw [decide_eq_true hl]
    apply (nameL_iff _).2
    refine ⟨by simp, by simp; omega, ?_, ?_⟩
    · rw [← c]
      cases l with
      | nil => simp at a
      | cons x r => rfl
    · rw [all_snoc, d]; rfl
  · rw [decide_eq_false hl]
    apply nameL_no
    rintro ⟨_, h2, _⟩
    simp at h2; omega
theorem nameL_seven (l : List UInt8) : nameL (55 :: l) = false := by
  apply nameL_no
  rintro ⟨_, _, h, _⟩
  simp [show dig 55 = true from rfl] at h
theorem inw_plain : ∀ n : Nat, n < 256 → inwI (n : Int) = true → blkI (n : Int) = false ∧ sgnI (n : Int) = false ∧ n ≠ 45 := by decide +kernel
theorem inw_not (u : UInt8) (h : inw u = true) : blk u = false ∧ sgn u = false ∧ u.toNat ≠ 45 := inw_plain u.toNat u.toNat_lt h
theorem takeWhile_all (p : UInt8 → Bool) : ∀ l : List UInt8, l.all p = true → l.takeWhile p = l
  | [], _ => rfl
  | c :: r, h => by
    simp only [List.all_cons, Bool.and_eq_true] at h
    rw [List.takeWhile_cons, if_pos h.1, takeWhile_all p r h.2]
theorem runLen_all (l : List UInt8) (h : l.all inw = true) : runLen l = l.length := by
  rw [runLen, takeWhile_all inw l h]
theorem scanL_name (l : List UInt8) (h : nameL l = true) : scanL l = ([⟨1, l, 0, 0⟩], 0, 0) := by
  obtain ⟨a, b, c, d⟩ := (nameL_iff l).1 h
  rw [scanL, if_neg (by omega)]
  cases l with
  | nil => simp at a
  | cons x r =>
    have hx : inw x = true := by simp only [List.all_cons, Bool.and_eq_true] at d; exact d.1
    obtain ⟨h1, h2, h3⟩ := inw_not x hx
    have hw : wordLen (x :: r) = (x :: r).length := by
      rw [wordLen, if_neg (by rw [h2]; exact Bool.false_ne_true), if_neg h3, runLen_all _ d]
    have hwo : wordOf (x :: r) = x :: r := by rw [wordOf, hw, List.take_length]
    rw [List.length_cons, scanGo, if_neg (by rw [h1]; exact Bool.false_ne_true), hwo, hw, List.drop_length]
    have ht : tokOf (x :: r) 0 = some ⟨1, x :: r, 0, 0⟩ := by rw [tokOf, if_pos h]
    rw [ht]
    show scanGo r.length [] _ ([] ++ [_]) = _
    cases r.length <;> rfl

end Lx
end Go.Proofs.YtdgfidaopkcjoaaDoor

namespace Go.Proofs.YtdgfidaopkcjoaaDoor
namespace Lx
set_option linter.unusedVariables false
set_option linter.unusedSimpArgs false

def dg (n : Nat) : UInt8 := UInt8.ofNat (48 + n % 10)
def digF : Nat → Nat → List UInt8
  | 0, n => [dg n]
  | f + 1, n => if n < 10 then [dg n] else digF f (n / 10) ++ [dg n]
def digL (n : Nat) : List UInt8 := digF 19 n
def intL (n : Int) : List UInt8 := if n < 0 then 45 :: digL n.natAbs else digL n.natAbs

theorem dg_nat (n : Nat) : (dg n).toNat = 48 + n % 10 := by
  rw [dg, UInt8.toNat_ofNat_of_lt' (by rw [show UInt8.size = 256 from rfl]; omega)]
theorem dg_dig (n : Nat) : dig (dg n) = true := by
  rw [dig, dg_nat]; simp [digI]; omega
theorem dig_is (c : UInt8) (h : dig c = true) : c = dg (c.toNat - 48) := by
  have := dig_bounds h
  apply UInt8.toNat_inj.1
  rw [dg_nat]; omega
theorem digF_fuel : ∀ (f g n : Nat), n < 10 ^ (f + 1) → n < 10 ^ (g + 1) → digF f n = digF g n
  | 0, 0, n, _, _ => rfl
  | 0, g + 1, n, h, _ => by rw [digF, digF, if_pos (by simpa using h)]
  | f + 1, 0, n, _, h => by rw [digF, digF, if_pos (by simpa using h)]
  | f + 1, g + 1, n, h1, h2 => by
    rw [digF, digF]
    by_cases hn : n < 10
    · rw [if_pos hn, if_pos hn]
    · rw [if_neg hn, if_neg hn, digF_fuel f g (n / 10) (by rw [Nat.pow_succ] at h1; omega) (by rw [Nat.pow_succ] at h2; omega)]
theorem digL_lt (n : Nat) (h : n < 10) : digL n = [dg n] := by rw [digL, digF, if_pos h]
theorem digL_ge (n : Nat) (h : ¬ n < 10) (hb : n < 10 ^ 19) : digL n = digL (n / 10) ++ [dg n] := by
  rw [digL, digF, if_neg h, digL, digF_fuel 18 19 (n / 10) (by omega) (by omega)]
theorem digF_len : ∀ f n, 1 ≤ (digF f n).length ∧ (digF f n).length ≤ f + 1
  | 0, n => by simp [digF]
  | f + 1, n => by
    rw [digF]
    have := digF_len f (n / 10)
    by_cases hn : n < 10
    · rw [if_pos hn]; simp
    · rw [if_neg hn]; simp; omega
theorem digL_len (n : Nat) : 1 ≤ (digL n).length ∧ (digL n).length ≤ 20 := digF_len 19 n
theorem intL_len (n : Int) : 1 ≤ (intL n).length ∧ (intL n).length ≤ 21 := by
  have := digL_len n.natAbs
  unfold intL
  split
  · rw [List.length_cons]; omega
  · omega
theorem digF_dig : ∀ f n, (digF f n).all dig = true
  | 0, n => by simp [digF, dg_dig]
  | f + 1, n => by
    rw [digF]
    by_cases hn : n < 10
    · rw [if_pos hn]; simp [dg_dig]
    · rw [if_neg hn, List.all_append, digF_dig f (n / 10)]; simp [dg_dig]
theorem digF_head : ∀ f n, 1 ≤ n → n < 10 ^ (f + 1) → ∃ c r, digF f n = c :: r ∧ c.toNat ≠ 48
  | 0, n, h, hb => ⟨dg n, [], rfl, by rw [dg_nat]; simp at hb; omega⟩
  | f + 1, n, h, hb => by
    rw [digF]
    by_cases hn : n < 10
    · rw [if_pos hn]; exact ⟨dg n, [], rfl, by rw [dg_nat]; omega⟩
    · rw [if_neg hn]
      obtain ⟨c, r, e, hc⟩ := digF_head f (n / 10) (by omega) (by rw [Nat.pow_succ] at hb; omega)
      exact ⟨c, r ++ [dg n], by rw [e]; rfl, hc⟩
theorem sizeGo_snoc : ∀ (l : List UInt8) (c : UInt8) (m : Nat), sizeGo (l ++ [c]) m = (sizeGo l m).bind fun k => sizeGo [c] k
  | [], c, m => rfl
  | d :: r, c, m => by
    rw [List.cons_append, sizeGo, sizeGo]
    by_cases hd : dig d = true
    · rw [if_pos hd, if_pos hd]
      by_cases hb : 2147483648 < m * 10 + (d.toNat - 48)
      · rw [if_pos hb, if_pos hb]; rfl
      · rw [if_neg hb, if_neg hb, sizeGo_snoc r c]
    · rw [if_neg hd, if_neg hd]; rfl
theorem sizeGo_one (n k : Nat) : sizeGo [dg n] k = if 2147483648 < k * 10 + n % 10 then none else some (k * 10 + n % 10) := by
  rw [sizeGo, if_pos (dg_dig n), dg_nat, show 48 + n % 10 - 48 = n % 10 from by omega, sizeGo]
theorem sizeGo_digF : ∀ f n, n < 10 ^ (f + 1) → sizeGo (digF f n) 0 = if 2147483648 < n then none else some n
  | 0, n, h => by
    rw [digF, sizeGo_one]
    simp at h
    rw [show 0 * 10 + n % 10 = n from by omega]
  | f + 1, n, h => by
    rw [digF]
    by_cases hn : n < 10
    · rw [if_pos hn, sizeGo_one, show 0 * 10 + n % 10 = n from by omega]
    · rw [if_neg hn, sizeGo_snoc, sizeGo_digF f (n / 10) (by rw [Nat.pow_succ] at h; omega)]
      by_cases hb : 2147483648 < n / 10
      · rw [if_pos hb, if_pos (by omega)]; rfl
      · rw [if_neg hb, Option.bind_some, sizeGo_one, show n / 10 * 10 + n % 10 = n from by omega]
theorem sizeL_dig (n : Nat) (h : n < 10 ^ 20) : sizeL (digL n) = if 2147483648 < n then none else some n := by
  rcases Nat.eq_zero_or_pos n with h0 | h0
  · subst h0; rfl
  · obtain ⟨c, r, e, hc⟩ := digF_head 19 n h0 h
    have := sizeGo_digF 19 n h
    rw [e] at this
    rw [digL, e, sizeL, if_neg (fun x => hc x.1), this]
theorem digL_cons (n : Nat) (h : n < 10 ^ 20) : ∃ c r, digL n = c :: r ∧ dig c = true := by
  cases e : digL n with
  | nil => have := digL_len n; rw [e] at this; simp at this
  | cons c r =>
    have := digF_dig 19 n
    rw [show digF 19 n = digL n from rfl, e] at this
    simp only [List.all_cons, Bool.and_eq_true] at this
    exact ⟨c, r, rfl, this.1⟩
theorem dig_not45 (c : UInt8) (h : dig c = true) : c.toNat ≠ 45 := by have := dig_bounds h; omega
theorem numL_int (n : Int) (h : n.natAbs < 10 ^ 20) : numL (intL n) = if -2147483648 ≤ n ∧ n ≤ 2147483647 then some n else none := by
  unfold intL
  by_cases hn : n < 0
  · rw [if_pos hn, numL, if_pos (by decide), sizeL_dig _ h]
    by_cases hb : 2147483648 < n.natAbs
    · rw [if_pos hb, if_neg (by omega)]; rfl
    · rw [if_neg hb, if_pos (by omega), negOf, if_neg (by omega)]
      congr 1; omega
  · rw [if_neg hn]
    obtain ⟨c, r, e, hc⟩ := digL_cons n.natAbs h
    have hs := sizeL_dig _ h
    rw [e] at hs ⊢
    rw [numL, if_neg (dig_not45 c hc), hs]
    by_cases hb : 2147483648 < n.natAbs
    · rw [if_pos hb, if_neg (by omega)]; rfl
    · rw [if_neg hb, posOf]
      by_cases h2 : 2147483647 < n.natAbs
      · rw [if_pos h2, if_neg (by omega)]
      · rw [if_neg h2, if_pos (by omega)]; congr 1; omega
theorem sizeL_snoc (l : List UInt8) (c : UInt8) (hc : dig c = false) : sizeL (l ++ [c]) = none := by
  have h1 : ∀ k, sizeGo [c] k = none := fun k => by rw [sizeGo, if_neg (by rw [hc]; exact Bool.false_ne_true)]
  have h2 : ∀ l m, sizeGo (l ++ [c]) m = none := fun l m => by
    rw [sizeGo_snoc]; cases sizeGo l m with
    | none => rfl
    | some k => exact h1 k
  cases l with
  | nil =>
    rw [List.nil_append, sizeL]
    split
    · rfl
    · exact h1 0
  | cons d r =>
    rw [List.cons_append, sizeL]
    split
    · rfl
    · exact h2 (d :: r) 0
theorem numL_snoc (l : List UInt8) (c : UInt8) (hc : dig c = false) : numL (l ++ [c]) = none := by
  cases l with
  | nil =>
    rw [List.nil_append, numL]
    have := sizeL_snoc [] c hc
    rw [List.nil_append] at this
    rw [this]; split <;> rfl
  | cons d r =>
    have h1 := sizeL_snoc r c hc
    have h2 := sizeL_snoc (d :: r) c hc
    rw [List.cons_append] at h2 ⊢
    rw [numL, h1, h2]; split <;> rfl
theorem numL_nought (l : List UInt8) (h : l ≠ []) : numL (48 :: l) = none := by
  rw [numL, if_neg (by decide), sizeL, if_pos ⟨by decide, h⟩]; rfl
theorem numL_plus (l : List UInt8) : numL (43 :: l) = none := by
  rw [numL, if_neg (by decide), sizeL, if_neg (fun h => absurd h.1 (by decide)), sizeGo, if_neg (by decide)]; rfl
theorem intL_ne (n : Int) : intL n ≠ [] := fun e => by have := intL_len n; rw [e] at this; simp at this

theorem digL_push (m d : Nat) (hm : 1 ≤ m) (hb : m < 10 ^ 12) (hd : d < 10) : digL (m * 10 + d) = digL m ++ [dg d] := by
  rw [digL_ge (m * 10 + d) (by omega) (by omega), show (m * 10 + d) / 10 = m from by omega]
  congr 2
  unfold dg; congr 1; omega
theorem digL_of_sizeGo : ∀ (l : List UInt8) (m n : Nat), 1 ≤ m → m ≤ 2147483648 → sizeGo l m = some n → digL n = digL m ++ l
  | [], m, n, _, _, h => by simp [sizeGo] at h; rw [h, List.append_nil]
  | c :: r, m, n, hm, hb, h => by
    rw [sizeGo] at h
    by_cases hd : dig c = true
    · rw [if_pos hd] at h
      by_cases hg : 2147483648 < m * 10 + (c.toNat - 48)
      · rw [if_pos hg] at h; cases h
      · rw [if_neg hg] at h
        have := dig_bounds hd
        rw [digL_of_sizeGo r _ n (by omega) (by omega) h, digL_push m (c.toNat - 48) hm (by omega) (by omega), ← dig_is c hd, List.append_assoc]
        rfl
    · rw [if_neg hd] at h; cases h
theorem digL_of_sizeL (l : List UInt8) (n : Nat) (h : sizeL l = some n) : digL n = l := by
  cases l with
  | nil => cases h
  | cons c r =>
    rw [sizeL] at h
    by_cases hc : c.toNat = 48 ∧ r ≠ []
    · rw [if_pos hc] at h; cases h
    · rw [if_neg hc, sizeGo] at h
      by_cases hd : dig c = true
      · rw [if_pos hd] at h
        have hb := dig_bounds hd
        rw [if_neg (by omega), Nat.zero_mul, Nat.zero_add] at h
        by_cases h0 : c.toNat = 48
        · have hr : r = [] := Classical.byContradiction fun x => hc ⟨h0, x⟩
          subst hr
          simp [sizeGo, h0] at h
          rw [← h, dig_is c hd, h0]; rfl
        · rw [digL_of_sizeGo r _ n (by omega) (by omega) h, digL_lt _ (by omega), ← dig_is c hd]; rfl
      · rw [if_neg hd] at h; cases h
theorem intL_of_numL (l : List UInt8) (n : Int) (h : numL l = some n) : intL n = l := by
  cases l with
  | nil => cases h
  | cons c r =>
    rw [numL] at h
    by_cases hc : c.toNat = 45
    · rw [if_pos hc] at h
      cases e : sizeL r with
      | none => rw [e] at h; cases h
      | some k =>
        rw [e, negOf] at h
        by_cases hk : k = 0
        · rw [if_pos hk] at h; cases h
        · rw [if_neg hk] at h
          have hn : n = -(k : Int) := by injection h with h; exact h.symm
          have : c = 45 := UInt8.toNat_inj.1 hc
          rw [intL, if_pos (by omega), show n.natAbs = k from by omega, digL_of_sizeL r k e, this]
    · rw [if_neg hc] at h
      cases e : sizeL (c :: r) with
      | none => rw [e] at h; cases h
      | some k =>
        rw [e, posOf] at h
        by_cases hk : 2147483647 < k
        · rw [if_pos hk] at h; cases h
        · rw [if_neg hk] at h
          have hn : n = (k : Int) := by injection h with h; exact h.symm
          rw [intL, if_neg (by omega), show n.natAbs = k from by omega, digL_of_sizeL _ k e]

end Lx
end Go.Proofs.YtdgfidaopkcjoaaDoor

namespace Go.Proofs.YtdgfidaopkcjoaaDoor
namespace Lx
set_option linter.unusedVariables false
set_option linter.unusedSimpArgs false

def ltrI (c : Int) : Bool := decide ((97 ≤ c ∧ c ≤ 122) ∨ (65 ≤ c ∧ c ≤ 90) ∨ c = 95)
def ltr (u : UInt8) : Bool := ltrI (u.toNat : Int)
theorem inw_let (u : UInt8) : inw u = (ltr u || dig u) := by
  rw [Bool.eq_iff_iff]; simp [inw, ltr, dig, inwI, ltrI, digI]; omega
theorem let_inw (u : UInt8) : ltr u = (!dig u && inw u) := by
  rw [Bool.eq_iff_iff]; simp [inw, ltr, dig, inwI, ltrI, digI]; omega

def tokW (t : Tok) : List UInt8 := if t.kind = 2 then intL t.num else t.text
def ValidT (t : Tok) : Prop :=
  (t.kind = 1 ∧ nameL t.text = true ∧ t.num = 0) ∨ (t.kind = 3 ∧ signL t.text = true ∧ t.num = 0) ∨ (t.kind = 2 ∧ t.text = [] ∧ -2147483648 ≤ t.num ∧ t.num ≤ 2147483647)
theorem tokOf_some (l : List UInt8) (p : Nat) (t : Tok) (h : tokOf l p = some t) : ValidT t ∧ tokW t = l ∧ t.pos = p := by
  unfold tokOf at h
  cases h1 : nameL l with
  | true =>
    simp [h1] at h; subst h
    exact ⟨.inl ⟨rfl, h1, rfl⟩, by simp [tokW], rfl⟩
  | false =>
    cases h2 : numL l with
    | some n =>
      simp [h1, h2] at h; subst h
      have hb := numL_le l n h2
      exact ⟨.inr (.inr ⟨rfl, rfl, hb.1, hb.2⟩), by simp [tokW, intL_of_numL l n h2], rfl⟩
    | none =>
      cases h3 : signL l with
      | true =>
        simp [h1, h2, h3] at h; subst h
        exact ⟨.inr (.inl ⟨rfl, h3, rfl⟩), by simp [tokW], rfl⟩
      | false => simp [h1, h2, h3] at h
def Placed (bs : List UInt8) : Nat → List Tok → Prop
  | _, [] => True
  | p, t :: r => p ≤ t.pos ∧ ValidT t ∧ tokW t ≠ [] ∧ t.pos + (tokW t).length ≤ bs.length ∧ (bs.drop t.pos).take (tokW t).length = tokW t ∧ Placed bs (t.pos + (tokW t).length) r
theorem Placed_mono (bs : List UInt8) (p q : Nat) (l : List Tok) (h : Placed bs q l) (hpq : p ≤ q) : Placed bs p l := by
  cases l with
  | nil => trivial
  | cons t r => exact ⟨Nat.le_trans hpq h.1, h.2⟩
theorem scanGo_placed (bs : List UInt8) : ∀ (f k : Nat) (acc l : List Tok) (a e : Nat), scanGo f (bs.drop k) k acc = (l, a, e) →
    (e = 0 ∧ a = 0 ∧ ∃ r, l = acc ++ r ∧ Placed bs k r) ∨ (e = 3 ∧ l = [] ∧ a ≤ bs.length)
  | 0, k, acc, l, a, e, h => by
    simp [scanGo] at h
    obtain ⟨rfl, rfl, rfl⟩ := h
    exact .inl ⟨rfl, rfl, [], by simp, trivial⟩
  | f + 1, k, acc, l, a, e, h => by
    by_cases hk : k < bs.length
    · cases hb : blk (bs.getD k 0) with
      | true =>
        rw [scanGo_blk bs k f acc hk hb] at h
        rcases scanGo_placed bs f (k + 1) acc l a e h with ⟨h1, h2, r, h3, h4⟩ | h1
        · exact .inl ⟨h1, h2, r, h3, Placed_mono bs k (k + 1) r h4 (by omega)⟩
        · exact .inr h1
      | false =>
        cases ht : tokOf (wordOf (bs.drop k)) k with
        | none =>
          rw [scanGo_none bs k f acc hk hb ht] at h
          simp at h
          obtain ⟨rfl, rfl, rfl⟩ := h
          exact .inr ⟨rfl, rfl, by omega⟩
        | some t =>
          have hp := wordLen_pos _ k t ht
          have hle := wordLen_le (bs.drop k)
          rw [List.length_drop] at hle
          rw [scanGo_some bs k f acc t hk hb ht] at h
          obtain ⟨hv, hw, hpos⟩ := tokOf_some _ _ _ ht
          have hwl : (tokW t).length = wordLen (bs.drop k) := by rw [hw, wordOf, List.length_take, List.length_drop]; omega
          rcases scanGo_placed bs f _ _ l a e h with ⟨h1, h2, r, h3, h4⟩ | h1
          · refine .inl ⟨h1, h2, t :: r, by rw [h3]; simp, by omega, hv, ?_, by omega, ?_, ?_⟩
            · intro x; rw [x] at hwl; simp at hwl; omega
            · rw [hwl, hpos, hw, wordOf]
            · rw [hwl, hpos]; exact h4
          · exact .inr h1
    · rw [scanGo_end bs k (f + 1) acc hk] at h
      simp at h
      obtain ⟨rfl, rfl, rfl⟩ := h
      exact .inl ⟨rfl, rfl, [], by simp, trivial⟩
theorem scanL_placed (bs : List UInt8) (hn : bs.length ≤ 6000) (l : List Tok) (a e : Nat) (h : scanL bs = (l, a, e)) : (e = 0 ∧ a = 0 ∧ Placed bs 0 l) ∨ (e = 3 ∧ l = [] ∧ a ≤ bs.length) := by
  rw [scanL, if_neg (by omega)] at h
  rcases scanGo_placed bs bs.length 0 [] l a e h with ⟨h1, h2, r, h3, h4⟩ | h1
  · exact .inl ⟨h1, h2, by rw [h3]; exact h4⟩
  · exact .inr h1
theorem scanGo_count (bs : List UInt8) : ∀ (f k : Nat) (acc l : List Tok) (a e : Nat), scanGo f (bs.drop k) k acc = (l, a, e) → k ≤ bs.length → acc.length ≤ k → l.length ≤ bs.length
  | 0, k, acc, l, a, e, h, hk, hac => by
    simp [scanGo] at h
    obtain ⟨rfl, rfl, rfl⟩ := h
    omega
  | f + 1, k, acc, l, a, e, h, hk', hac => by
    by_cases hk : k < bs.length
    · cases hb : blk (bs.getD k 0) with
      | true =>
        rw [scanGo_blk bs k f acc hk hb] at h
        exact scanGo_count bs f (k + 1) acc l a e h (by omega) (by omega)
      | false =>
        cases ht : tokOf (wordOf (bs.drop k)) k with
        | none =>
          rw [scanGo_none bs k f acc hk hb ht] at h
          simp at h
          obtain ⟨rfl, rfl, rfl⟩ := h
          simp
        | some t =>
          have hp := wordLen_pos _ k t ht
          have hle := wordLen_le (bs.drop k)
          rw [List.length_drop] at hle
          rw [scanGo_some bs k f acc t hk hb ht] at h
          exact scanGo_count bs f _ _ l a e h (by omega) (by simp; omega)
    · rw [scanGo_end bs k (f + 1) acc hk] at h
      simp at h
      obtain ⟨rfl, rfl, rfl⟩ := h
      omega
theorem scanL_count (bs : List UInt8) : (scanL bs).1.length ≤ bs.length := by
  rw [scanL]
  split
  · simp
  · exact scanGo_count bs bs.length 0 [] _ _ _ rfl (by omega) (by simp)

end Lx
end Go.Proofs.YtdgfidaopkcjoaaDoor

namespace Go.Proofs.YtdgfidaopkcjoaaDoor
namespace Lx
set_option linter.unusedVariables false
set_option linter.unusedSimpArgs false

structure ATok where
  kind : Int
  text : List UInt8
  num : Int
  pos : Int

def wordA (t : ATok) : Option (List UInt8) :=
  if t.kind = 1 then (if t.num = 0 ∧ nameL t.text = true then some t.text else none)
  else if t.kind = 2 then (if t.text = [] ∧ -2147483648 ≤ t.num ∧ t.num ≤ 2147483647 then some (intL t.num) else none)
  else if t.kind = 3 then (if t.num = 0 ∧ signL t.text = true then some t.text else none)
  else none

def joinGo : List ATok → Bool → List UInt8 → Option (List UInt8)
  | [], _, acc => some acc
  | t :: r, first, acc =>
    match wordA t with
    | none => none
    | some l => joinGo r false (if first = true then acc ++ l else acc ++ [32] ++ l)
def joinL (ts : List ATok) : Option (List UInt8) := joinGo ts true []

theorem dec_dig : ∀ (f n : Nat), n < 10 ^ (f + 1) → Lib.decDigits n = digF f n
  | 0, n, h => by rw [digF, Lib.decDigits_one (by simpa using h), dg]; congr 2; simp at h; omega
  | f + 1, n, h => by
    rw [digF]
    by_cases hn : n < 10
    · rw [if_pos hn, Lib.decDigits_one hn, dg]; congr 2; omega
    · rw [if_neg hn, Lib.decDigits, dif_neg hn, dec_dig f (n / 10) (by rw [Nat.pow_succ] at h; omega)]; rfl
theorem itoa_intL (n : Int) (h0 : -2147483648 ≤ n) (h1 : n ≤ 2147483647) : Lib.itoa n = intL n := by
  unfold Lib.itoa intL
  split
  · rw [dec_dig 19 _ (by omega)]; rfl
  · rw [dec_dig 19 _ (by omega)]
    show digF 19 n.toNat = digF 19 n.natAbs
    congr 1; omega
theorem nameL_len (l : List UInt8) (h : nameL l = true) : l.length ≤ 20 := ((nameL_iff l).1 h).2.1
theorem signL_len (l : List UInt8) (h : signL l = true) : l.length = 1 := by
  match l, h with
  | [c], _ => rfl
  | [], h => cases h
  | _ :: _ :: _, h => cases h
theorem wordA_len (t : ATok) (l : List UInt8) (h : wordA t = some l) : 1 ≤ l.length ∧ l.length ≤ 21 := by
  unfold wordA at h
  by_cases h1 : t.kind = 1
  · rw [if_pos h1] at h
    split at h
    · rename_i hc
      injection h with h; subst h
      obtain ⟨a, b, _⟩ := (nameL_iff _).1 hc.2
      omega
    · cases h
  · rw [if_neg h1] at h
    by_cases h2 : t.kind = 2
    · rw [if_pos h2] at h
      split at h
      · injection h with h; subst h; exact intL_len _
      · cases h
    · rw [if_neg h2] at h
      by_cases h3 : t.kind = 3
      · rw [if_pos h3] at h
        split at h
        · rename_i hc
          injection h with h; subst h
          have := signL_len _ hc.2
          omega
        · cases h
      · rw [if_neg h3] at h; cases h
theorem joinGo_len : ∀ (ts : List ATok) (f : Bool) (acc r : List UInt8), joinGo ts f acc = some r → r.length ≤ acc.length + 22 * ts.length
  | [], f, acc, r, h => by simp [joinGo] at h; subst h; omega
  | t :: ts, f, acc, r, h => by
    rw [joinGo] at h
    cases hw : wordA t with
    | none => rw [hw] at h; cases h
    | some l =>
      rw [hw] at h
      have hl := (wordA_len t l hw).2
      have := joinGo_len ts false _ r h
      cases f with
      | true => simp at this ⊢; omega
      | false => simp at this ⊢; omega
theorem joinGo_ge : ∀ (ts : List ATok) (f : Bool) (acc r : List UInt8), joinGo ts f acc = some r → acc.length ≤ r.length
  | [], f, acc, r, h => by simp [joinGo] at h; subst h; omega
  | t :: ts, f, acc, r, h => by
    rw [joinGo] at h
    cases hw : wordA t with
    | none => rw [hw] at h; cases h
    | some l =>
      rw [hw] at h
      have := joinGo_ge ts false _ r h
      cases f with
      | true => simp at this; omega
      | false => simp at this; omega
theorem joinL_pos (ts : List ATok) (r : List UInt8) (hne : ts ≠ []) (h : joinL ts = some r) : 1 ≤ r.length := by
  cases ts with
  | nil => exact absurd rfl hne
  | cons t ts =>
    rw [joinL, joinGo] at h
    cases hw : wordA t with
    | none => rw [hw] at h; cases h
    | some l =>
      rw [hw] at h
      have h1 := joinGo_ge ts false _ r h
      have h2 := (wordA_len t l hw).1
      simp at h1; omega
theorem joinGo_append : ∀ (a b : List ATok) (f : Bool) (acc : List UInt8), joinGo (a ++ b) f acc = (joinGo a f acc).bind fun r => joinGo b (f && a.isEmpty) r
  | [], b, f, acc => by simp [joinGo]
  | t :: a, b, f, acc => by
    rw [List.cons_append, joinGo, joinGo]
    cases hw : wordA t with
    | none => rfl
    | some l => simp only; rw [joinGo_append a b]; simp
theorem joinGo_acc : ∀ (a : List ATok) (acc : List UInt8), a ≠ [] → joinGo a false acc = (joinGo a true []).map fun r => acc ++ [32] ++ r
  | [], acc, h => absurd rfl h
  | [t], acc, _ => by
    rw [joinGo, joinGo]
    cases hw : wordA t with
    | none => rfl
    | some l => simp [joinGo]
  | t :: u :: a, acc, _ => by
    rw [joinGo, joinGo]
    cases hw : wordA t with
    | none => rfl
    | some l =>
      simp only
      rw [joinGo_acc (u :: a) _ (by simp), joinGo_acc (u :: a) _ (by simp)]
      cases joinGo (u :: a) true [] with
      | none => rfl
      | some r => simp
/-- Two lists joined: both texts, a blank between. -/
theorem joinL_two (a b : List ATok) (ha : a ≠ []) (hb : b ≠ []) : joinL (a ++ b) = (joinL a).bind fun x => (joinL b).map fun y => x ++ [32] ++ y := by
  unfold joinL
  rw [joinGo_append]
  cases joinGo a true [] with
  | none => rfl
  | some x =>
    have : (true && a.isEmpty) = false := by cases a with
      | nil => exact absurd rfl ha
      | cons c r => rfl
    simp only [Option.bind_some, this]
    rw [joinGo_acc b x hb]

end Lx
end Go.Proofs.YtdgfidaopkcjoaaDoor

namespace Go.Proofs.YtdgfidaopkcjoaaDoor
namespace Lx
set_option linter.unusedVariables false
set_option linter.unusedSimpArgs false

def Ahead (rest : List UInt8) : Prop := rest = [] ∨ ∃ c r, rest = c :: r ∧ blk c = true
theorem blk_plain : ∀ n : Nat, n < 256 → blkI (n : Int) = true → inwI (n : Int) = false ∧ sgnI (n : Int) = false := by decide +kernel
theorem blk_not (u : UInt8) (h : blk u = true) : inw u = false ∧ sgn u = false := blk_plain u.toNat u.toNat_lt h
theorem dig_plain : ∀ n : Nat, n < 256 → digI (n : Int) = true → inwI (n : Int) = true := by decide +kernel
theorem dig_inw (u : UInt8) (h : dig u = true) : inw u = true := dig_plain u.toNat u.toNat_lt h
theorem sgn_plain : ∀ n : Nat, n < 256 → sgnI (n : Int) = true → inwI (n : Int) = false ∧ blkI (n : Int) = false ∧ digI (n : Int) = false ∧ n ≠ 45 := by decide +kernel
theorem sgn_not (u : UInt8) (h : sgn u = true) : inw u = false ∧ blk u = false ∧ dig u = false ∧ u.toNat ≠ 45 := sgn_plain u.toNat u.toNat_lt h

theorem runLen_ahead : ∀ (l rest : List UInt8), l.all inw = true → Ahead rest → runLen (l ++ rest) = l.length
  | [], rest, _, h => by
    rcases h with rfl | ⟨c, r, rfl, hc⟩
    · rfl
    · show (List.takeWhile inw (c :: r)).length = 0
      rw [List.takeWhile_cons, if_neg (by rw [(blk_not c hc).1]; exact Bool.false_ne_true)]; rfl
  | c :: l, rest, h, hr => by
    simp only [List.all_cons, Bool.and_eq_true] at h
    have ih := runLen_ahead l rest h.2 hr
    unfold runLen at ih ⊢
    rw [List.cons_append, List.takeWhile_cons, if_pos h.1, List.length_cons, ih, List.length_cons]

/-- What a token's word is: how long it is with something behind it, that it begins with no blank, that it is that token again. -/
theorem word_facts (t : ATok) (l : List UInt8) (h : wordA t = some l) :
    (∀ rest, Ahead rest → wordLen (l ++ rest) = l.length) ∧ (∃ c r, l = c :: r ∧ blk c = false) ∧ (∀ p, tokOf l p = some ⟨t.kind, t.text, t.num, p⟩) := by
  obtain ⟨k, s, n, q⟩ := t
  unfold wordA at h
  simp only at h ⊢
  by_cases h1 : k = 1
  · rw [if_pos h1] at h
    split at h
    · rename_i hc
      injection h with h; subst h
      obtain ⟨hn, hnm⟩ := hc
      obtain ⟨a, b, c, d⟩ := (nameL_iff _).1 hnm
      cases s with
      | nil => simp at a
      | cons x r =>
        have hx : inw x = true := by simp only [List.all_cons, Bool.and_eq_true] at d; exact d.1
        obtain ⟨g1, g2, g3⟩ := inw_not x hx
        refine ⟨fun rest hr => ?_, ⟨x, r, rfl, g1⟩, fun p => ?_⟩
        · rw [List.cons_append, wordLen, if_neg (by rw [g2]; exact Bool.false_ne_true), if_neg g3, ← List.cons_append, runLen_ahead _ rest d hr]
        · rw [tokOf, if_pos hnm, h1, hn]
    · cases h
  · rw [if_neg h1] at h
    by_cases h2 : k = 2
    · rw [if_pos h2] at h
      split at h
      · rename_i hc
        injection h with h; subst h
        obtain ⟨hs, hn0, hn1⟩ := hc
        have hnum := numL_int n (by omega)
        rw [if_pos ⟨hn0, hn1⟩] at hnum
        have hall : (digL n.natAbs).all inw = true := by
          have := digF_dig 19 n.natAbs
          rw [List.all_eq_true] at this ⊢
          exact fun x hx => dig_inw x (this x hx)
        obtain ⟨d, r, hd, hdd⟩ := digL_cons n.natAbs (by omega)
        have hdi := dig_inw d hdd
        obtain ⟨g1, g2, g3⟩ := inw_not d hdi
        refine ⟨fun rest hr => ?_, ?_, fun p => ?_⟩
        · unfold intL
          by_cases hneg : n < 0
          · rw [if_pos hneg, List.cons_append, wordLen, if_neg (by decide), if_pos (by decide), runLen_ahead _ rest hall hr, List.length_cons]; omega
          · rw [if_neg hneg]
            have e := runLen_ahead _ rest hall hr
            rw [hd] at e ⊢
            rw [List.cons_append] at e ⊢
            rw [wordLen, if_neg (by rw [g2]; exact Bool.false_ne_true), if_neg g3, e]
        · unfold intL
          by_cases hneg : n < 0
          · rw [if_pos hneg]; exact ⟨45, _, rfl, by decide⟩
          · rw [if_neg hneg, hd]; exact ⟨d, r, rfl, g1⟩
        · have hnm : nameL (intL n) = false := by
            apply nameL_no
            rintro ⟨_, _, hd0, hal⟩
            unfold intL at hd0 hal
            by_cases hneg : n < 0
            · rw [if_pos hneg] at hal
              simp only [List.all_cons, Bool.and_eq_true] at hal
              exact absurd hal.1 (by decide)
            · rw [if_neg hneg, hd, List.getD_cons_zero, hdd] at hd0
              cases hd0
          rw [tokOf, if_neg (by rw [hnm]; exact Bool.false_ne_true), hnum, h2, hs]
      · cases h
    · rw [if_neg h2] at h
      by_cases h3 : k = 3
      · rw [if_pos h3] at h
        split at h
        · rename_i hc
          injection h with h; subst h
          obtain ⟨hn, hsg⟩ := hc
          match s, hsg with
          | [x], hsg =>
            have hx : sgn x = true := hsg
            obtain ⟨g1, g2, g3, g4⟩ := sgn_not x hx
            refine ⟨fun rest hr => ?_, ⟨x, [], rfl, g2⟩, fun p => ?_⟩
            · show wordLen (x :: rest) = 1
              rw [wordLen, if_pos hx]
            · have hnm : nameL [x] = false := by
                apply nameL_no
                rintro ⟨_, _, _, hal⟩
                simp [g1] at hal
              have hnu : numL [x] = none := by
                rw [numL, if_neg g4, sizeL, if_neg (fun h => h.2 rfl), sizeGo, if_neg (by rw [g3]; exact Bool.false_ne_true)]; rfl
              rw [tokOf, if_neg (by rw [hnm]; exact Bool.false_ne_true), hnu]
              simp only
              rw [if_pos hsg, h3, hn]
          | [], hsg => cases hsg
          | _ :: _ :: _, hsg => cases hsg
        · cases h
      · rw [if_neg h3] at h; cases h

def bare (t : Tok) : Int × List UInt8 × Int := (t.kind, t.text, t.num)
def bareA (t : ATok) : Int × List UInt8 × Int := (t.kind, t.text, t.num)

/-- Words, each with blanks ahead of it (perhaps none, where it is the first one). -/
def TextOf : List ATok → List UInt8 → Prop
  | [], b => b = []
  | t :: r, b => ∃ g l b', b = g ++ (l ++ b') ∧ g.all blk = true ∧ wordA t = some l ∧ TextOf r b' ∧ Ahead b'

theorem scan_blanks : ∀ (g r : List UInt8) (f p : Nat) (acc : List Tok), g.all blk = true → g.length ≤ f → scanGo f (g ++ r) p acc = scanGo (f - g.length) r (p + g.length) acc
  | [], r, f, p, acc, _, _ => rfl
  | c :: g, r, f, p, acc, h, hf => by
    simp only [List.all_cons, Bool.and_eq_true] at h
    obtain ⟨f, rfl⟩ : ∃ f', f = f' + 1 := ⟨f - 1, by simp at hf; omega⟩
    rw [List.cons_append, scanGo, if_pos h.1, scan_blanks g r f (p + 1) acc h.2 (by simp at hf; omega), List.length_cons]
    congr 1
    · omega
    · omega
theorem scan_word (t : ATok) (l rest : List UInt8) (h : wordA t = some l) (hr : Ahead rest) (f p : Nat) (acc : List Tok) : scanGo (f + 1) (l ++ rest) p acc = scanGo f rest (p + l.length) (acc ++ [⟨t.kind, t.text, t.num, p⟩]) := by
  obtain ⟨h1, ⟨c, r, rfl, hb⟩, h3⟩ := word_facts t l h
  have hw := h1 rest hr
  rw [List.cons_append] at hw ⊢
  rw [scanGo, if_neg (by rw [hb]; exact Bool.false_ne_true), wordOf, hw, ← List.cons_append, List.take_left, h3 p]
  simp only
  rw [List.drop_left]
theorem Ahead_app (b rest : List UInt8) (h : Ahead b) (hr : Ahead rest) : Ahead (b ++ rest) := by
  rcases h with rfl | ⟨c, r, rfl, hc⟩
  · exact hr
  · exact .inr ⟨c, r ++ rest, rfl, hc⟩
theorem scan_text : ∀ (ts : List ATok) (b rest : List UInt8) (f p : Nat) (acc : List Tok), TextOf ts b → Ahead rest → (b ++ rest).length ≤ f →
    ∃ l f', scanGo f (b ++ rest) p acc = scanGo f' rest (p + b.length) (acc ++ l) ∧ rest.length ≤ f' ∧ l.map bare = ts.map bareA
  | [], b, rest, f, p, acc, h, hr, hf => by
    have hb : b = [] := h
    subst hb
    exact ⟨[], f, by simp, by simpa using hf, rfl⟩
  | t :: ts, b, rest, f, p, acc, h, hr, hf => by
    obtain ⟨g, l, b', rfl, hg, hw, htx, hah⟩ := h
    have hl := (wordA_len t l hw).1
    simp only [List.length_append] at hf
    obtain ⟨f2, hf2⟩ : ∃ f2, f - g.length = f2 + 1 := ⟨f - g.length - 1, by omega⟩
    obtain ⟨l', f', e, hf', hm⟩ := scan_text ts b' rest f2 (p + g.length + l.length) (acc ++ [⟨t.kind, t.text, t.num, p + g.length⟩]) htx hr (by simp only [List.length_append]; omega)
    refine ⟨⟨t.kind, t.text, t.num, p + g.length⟩ :: l', f', ?_, hf', ?_⟩
    · rw [List.append_assoc, List.append_assoc, scan_blanks g _ f p acc hg (by omega), hf2, scan_word t l (b' ++ rest) hw (Ahead_app b' rest hah hr) f2, e]
      simp only [List.append_assoc, List.length_append, List.cons_append, List.nil_append]
      congr 1; omega
    · simp only [List.map_cons, hm]; rfl
theorem scanL_text (ts : List ATok) (b rest : List UInt8) (h : TextOf ts b) (hr : rest.all blk = true) (hn : (b ++ rest).length ≤ 6000) : ∃ l, scanL (b ++ rest) = (l, 0, 0) ∧ l.map bare = ts.map bareA := by
  have hah : Ahead rest := by
    cases rest with
    | nil => exact .inl rfl
    | cons c r => simp only [List.all_cons, Bool.and_eq_true] at hr; exact .inr ⟨c, r, rfl, hr.1⟩
  rw [scanL, if_neg (by omega)]
  obtain ⟨l, f', e, hf', hm⟩ := scan_text ts b rest _ 0 [] h hah (Nat.le_refl _)
  refine ⟨l, ?_, hm⟩
  have e2 := scan_blanks rest [] f' (0 + b.length) ([] ++ l) hr hf'
  rw [List.append_nil] at e2
  rw [e, e2]
  cases f' - rest.length <;> rfl
theorem textOf_false : ∀ (ts : List ATok) (acc b : List UInt8), joinGo ts false acc = some b → ∃ b', b = acc ++ b' ∧ TextOf ts b' ∧ Ahead b'
  | [], acc, b, h => by simp [joinGo] at h; subst h; exact ⟨[], by simp, rfl, .inl rfl⟩
  | t :: r, acc, b, h => by
    rw [joinGo] at h
    cases hw : wordA t with
    | none => rw [hw] at h; cases h
    | some l =>
      rw [hw] at h
      simp only at h
      obtain ⟨b', rfl, ht, ha⟩ := textOf_false r _ b h
      refine ⟨[32] ++ (l ++ b'), by simp, ⟨[32], l, b', rfl, by decide, hw, ht, ha⟩, .inr ⟨32, l ++ b', rfl, by decide⟩⟩
theorem textOf_joinL (ts : List ATok) (b : List UInt8) (h : joinL ts = some b) : TextOf ts b := by
  cases ts with
  | nil => simp [joinL, joinGo] at h; exact h
  | cons t r =>
    rw [joinL, joinGo] at h
    cases hw : wordA t with
    | none => rw [hw] at h; cases h
    | some l =>
      rw [hw] at h
      simp only at h
      obtain ⟨b', rfl, ht, ha⟩ := textOf_false r _ b h
      exact ⟨[], l, b', by simp, rfl, hw, ht, ha⟩
theorem scanL_joined (ts : List ATok) (b : List UInt8) (h : joinL ts = some b) (hn : b.length ≤ 6000) : ∃ l, scanL b = (l, 0, 0) ∧ l.map bare = ts.map bareA := by
  have := scanL_text ts b [] (textOf_joinL ts b h) rfl (by simpa using hn)
  simpa using this

end Lx
end Go.Proofs.YtdgfidaopkcjoaaDoor

namespace Go.Proofs.YtdgfidaopkcjoaaDoor
namespace Pp
set_option linter.unusedVariables false
set_option linter.unusedSimpArgs false

structure XIns where
  op : Int
  n : Int
  a : Bs
  b : Bs
structure XMth where
  name : Bs
  stat : Bool
  abst : Bool
  params : List Ty
  ret : Ty
  locals : Int
  code : List XIns
  catches : List Ctc
structure XCls where
  name : Bs
  iface : Bool
  super : Bs
  ifaces : List Bs
  fields : List Fld
  methods : List XMth
def XIns.toP (i : XIns) : Ins := ⟨i.op.toNat, i.n, i.a, i.b⟩
def XMth.toP (m : XMth) : Mth := ⟨m.name, m.stat, m.abst, m.params, m.ret, m.locals, m.code.map XIns.toP, m.catches⟩
def XCls.toP (c : XCls) : Cls := ⟨c.name, c.iface, c.super, c.ifaces, c.fields, c.methods.map XMth.toP⟩
def insX (i : Ins) : XIns := ⟨(i.op : Int), i.n, i.a, i.b⟩
def mthX (m : Mth) : XMth := ⟨m.name, m.stat, m.abst, m.params, m.ret, m.locals, m.code.map insX, m.catches⟩
def clsX (c : Cls) : XCls := ⟨c.name, c.iface, c.super, c.ifaces, c.fields, c.methods.map mthX⟩
theorem toP_ins (i : Ins) : (insX i).toP = i := by cases i; simp [insX, XIns.toP]
theorem toP_mth (m : Mth) : (mthX m).toP = m := by
  obtain ⟨n, st, ab, ps, rt, lo, co, ca⟩ := m
  simp only [mthX, XMth.toP, List.map_map, Mth.mk.injEq, true_and, and_true]
  exact (List.map_congr_left (fun i _ => toP_ins i)).trans (List.map_id _)
theorem toP_cls (c : Cls) : (clsX c).toP = c := by
  obtain ⟨n, ic, su, ifs, fs, ms⟩ := c
  simp only [clsX, XCls.toP, List.map_map, Cls.mk.injEq, true_and, and_true]
  exact (List.map_congr_left (fun i _ => toP_mth i)).trans (List.map_id _)

def freshB (s : Bs) : Bool := Lx.nameL s && !keptL s
theorem freshB_iff (s : Bs) : freshB s = true ↔ okN s := by simp [freshB, okN]
def typeB (t : Ty) : Bool := if t.kind = 1 ∨ t.kind = 2 ∨ t.kind = 4 then t.name == [] else if t.kind = 3 ∨ t.kind = 5 then freshB t.name else false
theorem typeB_iff (t : Ty) : typeB t = true ↔ okTy t := by
  unfold typeB okTy
  by_cases h1 : t.kind = 1 ∨ t.kind = 2 ∨ t.kind = 4
  · rw [if_pos h1]
    constructor
    · intro h; exact .inl ⟨h1, by simpa using h⟩
    · rintro (⟨_, h⟩ | ⟨h, _⟩)
      · simp [h]
      · omega
  · rw [if_neg h1]
    by_cases h2 : t.kind = 3 ∨ t.kind = 5
    · rw [if_pos h2, freshB_iff]
      constructor
      · intro h; exact .inr ⟨h2, h⟩
      · rintro (⟨h, _⟩ | ⟨_, h⟩)
        · exact absurd h h1
        · exact h
    · rw [if_neg h2]
      constructor
      · intro h; cases h
      · rintro (⟨h, _⟩ | ⟨h, _⟩)
        · exact absurd h h1
        · exact absurd h h2
def withinB (n lo hi : Int) : Bool := decide (lo ≤ n) && decide (n ≤ hi)
def eachB {α : Type} (l : List α) (most : Nat) (f : α → Bool) : Bool := decide (l.length ≤ most) && l.all f
def fldB (f : Fld) : Bool := freshB f.name && typeB f.ty
/-- What stands behind an instruction's word: whether a number, from where, up to where, how many names. -/
def argsX (op : Int) : Bool × Int × Int × Int :=
  if op = 1 then (true, -2147483648, 2147483647, 0) else if op = 3 ∨ op = 4 then (true, 0, 7, 0) else if 14 ≤ op ∧ op ≤ 26 then (true, 0, 47, 0)
  else if op = 27 ∨ op = 33 ∨ op = 37 ∨ op = 38 then (false, 0, 0, 1) else if (28 ≤ op ∧ op ≤ 31) ∨ op = 39 ∨ op = 40 then (false, 0, 0, 2) else (false, 0, 0, 0)
def argB (s : Bs) (has : Bool) : Bool := if has = true then freshB s else s == []
def insB (i : XIns) : Bool := (decide (0 ≤ i.op) && decide (i.op < 44)) && (withinB i.n (argsX i.op).2.1 (argsX i.op).2.2.1 && (argB i.a (decide (1 ≤ (argsX i.op).2.2.2)) && argB i.b (decide (2 ≤ (argsX i.op).2.2.2))))
def ctcB (c : Ctc) : Bool := freshB c.name && (withinB c.lo 0 48 && (withinB c.hi 0 48 && withinB c.pc 0 48))
def bodyB (m : XMth) : Bool := if m.abst = true then m.locals == 0 && (m.code.isEmpty && m.catches.isEmpty) else withinB m.locals 0 8 && (eachB m.code 48 insB && eachB m.catches 4 ctcB)
def mthB (m : XMth) : Bool := freshB m.name && (eachB m.params 4 typeB && (typeB m.ret && bodyB m))
def supB (c : XCls) : Bool := c.super == [] || (!c.iface && freshB c.super)
def clsB (c : XCls) : Bool := freshB c.name && (supB c && (eachB c.ifaces 4 freshB && (eachB c.fields 6 fldB && eachB c.methods 6 mthB)))
def progB (cs : List XCls) : Bool := eachB cs 10 clsB

theorem withinB_iff (n lo hi : Int) : withinB n lo hi = true ↔ lo ≤ n ∧ n ≤ hi := by simp [withinB]
theorem eachB_iff {α : Type} (l : List α) (most : Nat) (f : α → Bool) : eachB l most f = true ↔ l.length ≤ most ∧ ∀ x ∈ l, f x = true := by simp [eachB]
theorem fldB_iff (f : Fld) : fldB f = true ↔ okFld f := by simp [fldB, okFld, freshB_iff, typeB_iff]
theorem ctcB_iff (c : Ctc) : ctcB c = true ↔ okCtc c := by simp [ctcB, okCtc, freshB_iff, withinB_iff]
theorem argB_yes (s : Bs) : argB s true = true ↔ okN s := by simp [argB, freshB_iff]
theorem argB_no (s : Bs) : argB s false = true ↔ s = [] := by simp [argB]
/-- An instruction's arguments by its shape. -/
theorem argsX_shape (k : Nat) (hk : k < 44) : argsX (k : Int) = if shape k = 1 then (true, -2147483648, 2147483647, 0) else if shape k = 2 then (true, 0, 7, 0) else if shape k = 3 then (true, 0, 47, 0) else if shape k = 4 then (false, 0, 0, 1) else if shape k = 5 then (false, 0, 0, 2) else (false, 0, 0, 0) := by
  revert k; decide +kernel
theorem shape_le (k : Nat) : shape k ≤ 5 := by unfold shape; repeat (first | split | omega)
theorem insB_iff (i : XIns) : insB i = true ↔ 0 ≤ i.op ∧ okIns i.toP := by
  obtain ⟨op, n, a, b⟩ := i
  unfold insB okIns XIns.toP
  simp only [Bool.and_eq_true, decide_eq_true_eq]
  by_cases h0 : 0 ≤ op
  · obtain ⟨k, rfl⟩ := Int.eq_ofNat_of_zero_le h0
    simp only [Int.toNat_natCast]
    by_cases hk : k < 44
    · rw [argsX_shape k hk]
      have hl := shape_le k
      unfold okArg
      simp only
      generalize shape k = sh at *
      rcases (show sh = 0 ∨ sh = 1 ∨ sh = 2 ∨ sh = 3 ∨ sh = 4 ∨ sh = 5 by omega) with rfl | rfl | rfl | rfl | rfl | rfl
      all_goals simp only [if_true, if_false, Nat.reduceEqDiff, reduceCtorEq, withinB_iff, false_and, true_and, or_false, false_or, Int.reduceLE, decide_true, decide_false, argB_yes, argB_no]
      all_goals (constructor <;> intro h)
      all_goals (first | (obtain ⟨⟨x1, x2⟩, ⟨x3, x4⟩, x5, x6⟩ := h; refine ⟨h0, hk, ?_⟩; first | exact ⟨by omega, x5, x6⟩ | exact ⟨x3, x4, x5, x6⟩) | skip)
      all_goals (obtain ⟨x1, x2, x3⟩ := h; refine ⟨⟨h0, by omega⟩, ?_⟩; first | exact ⟨⟨x3.1, x3.2.1⟩, x3.2.2⟩ | exact ⟨by omega, x3.2⟩)
    · constructor
      · rintro ⟨⟨_, h⟩, _⟩; omega
      · rintro ⟨_, h, _⟩; exact absurd h hk
  · constructor
    · rintro ⟨⟨h, _⟩, _⟩; exact absurd h h0
    · rintro ⟨h, _⟩; exact absurd h h0
theorem bodyB_iff (m : XMth) : bodyB m = true ↔ (∀ i ∈ m.code, 0 ≤ i.op) ∧ okBody m.toP := by
  obtain ⟨n, st, ab, ps, rt, lo, co, ca⟩ := m
  unfold bodyB okBody XMth.toP
  cases ab with
  | true =>
    simp only [if_true, Bool.and_eq_true, beq_iff_eq, List.isEmpty_iff, List.map_eq_nil_iff, true_and]
    constructor
    · rintro ⟨h1, rfl, h3⟩; exact ⟨by simp, .inl ⟨h1, rfl, h3⟩⟩
    · rintro ⟨_, ⟨h1, h2, h3⟩ | ⟨h, _⟩⟩
      · exact ⟨h1, h2, h3⟩
      · cases h
  | false =>
    simp only [Bool.false_eq_true, if_false, Bool.and_eq_true, withinB_iff, eachB_iff, false_and, false_or, true_and, List.length_map, List.mem_map, forall_exists_index, and_imp, forall_apply_eq_imp_iff₂, insB_iff, ctcB_iff]
    constructor
    · rintro ⟨h1, ⟨h2, h3⟩, h4⟩; exact ⟨fun i hi => (h3 i hi).1, h1, ⟨h2, fun i hi => (h3 i hi).2⟩, h4⟩
    · rintro ⟨h0, h1, ⟨h2, h3⟩, h4⟩; exact ⟨h1, ⟨h2, fun i hi => ⟨h0 i hi, h3 i hi⟩⟩, h4⟩
theorem mthB_iff (m : XMth) : mthB m = true ↔ (∀ i ∈ m.code, 0 ≤ i.op) ∧ okMth m.toP := by
  unfold mthB okMth
  simp only [Bool.and_eq_true, freshB_iff, eachB_iff, typeB_iff, bodyB_iff]
  constructor
  · rintro ⟨h1, h2, h3, h4, h5⟩; exact ⟨h4, h1, h2, h3, h5⟩
  · rintro ⟨h4, h1, h2, h3, h5⟩; exact ⟨h1, h2, h3, h4, h5⟩
def posX (c : XCls) : Prop := ∀ m ∈ c.methods, ∀ i ∈ m.code, 0 ≤ i.op
theorem clsB_iff (c : XCls) : clsB c = true ↔ posX c ∧ okCls c.toP := by
  obtain ⟨n, ic, su, ifs, fs, ms⟩ := c
  unfold clsB okCls supB XCls.toP posX
  simp only [Bool.and_eq_true, Bool.or_eq_true, Bool.not_eq_true', freshB_iff, eachB_iff, fldB_iff, mthB_iff, beq_iff_eq, List.length_map, List.mem_map, forall_exists_index, and_imp, forall_apply_eq_imp_iff₂]
  constructor
  · rintro ⟨h1, h2, h3, h4, h5, h6⟩; exact ⟨fun m hm => (h6 m hm).1, h1, h2, h3, h4, h5, fun m hm => (h6 m hm).2⟩
  · rintro ⟨h0, h1, h2, h3, h4, h5, h6⟩; exact ⟨h1, h2, h3, h4, h5, fun m hm => ⟨h0 m hm, h6 m hm⟩⟩
theorem progB_iff (cs : List XCls) : progB cs = true ↔ (∀ c ∈ cs, posX c) ∧ okProg (cs.map XCls.toP) := by
  unfold progB okProg
  simp only [eachB_iff, clsB_iff, List.length_map, List.mem_map, forall_exists_index, and_imp, forall_apply_eq_imp_iff₂]
  constructor
  · rintro ⟨h1, h2⟩; exact ⟨fun c hc => (h2 c hc).1, h1, fun c hc => (h2 c hc).2⟩
  · rintro ⟨h0, h1, h2⟩; exact ⟨h1, fun c hc => ⟨h0 c hc, h2 c hc⟩⟩

/-- The byte behind a word, and what a writer says of words. -/
def behL (s : Bs) : UInt8 := if s = wLB ∨ s = wRB ∨ s = wSemi then 10 else 32
def sayL : List Bs → Bs
  | [] => []
  | s :: r => s ++ (behL s :: sayL r)
theorem sayL_app (a b : List Bs) : sayL (a ++ b) = sayL a ++ sayL b := by
  induction a with
  | nil => rfl
  | cons s r ih => simp only [List.cons_append, sayL, ih, List.append_assoc]
def wtx (w : Wd) : Bs := if w.kind = 2 then Lx.intL w.num else w.text
def wordsT (ws : List Wd) : Bs := sayL (ws.map wtx)
theorem wordsT_app (a b : List Wd) : wordsT (a ++ b) = wordsT a ++ wordsT b := by simp [wordsT, sayL_app]
def textX (cs : List XCls) : Bs := wordsT (manyW clsW (cs.map XCls.toP))

end Pp
end Go.Proofs.YtdgfidaopkcjoaaDoor

namespace Go.Proofs.YtdgfidaopkcjoaaDoor
namespace Pp
set_option linter.unusedVariables false
set_option linter.unusedSimpArgs false

/-- A word that can be written, as it is written; so many of them. -/
def GW (w : Wd) : Prop := Lx.wordA ⟨w.kind, w.text, w.num, 0⟩ = some (wtx w)
def GWs (n : Nat) (ws : List Wd) : Prop := (∀ w ∈ ws, GW w) ∧ ws.length ≤ n
theorem gw_nm {s : Bs} (h : Lx.nameL s = true) : GW (nm s) := by simp [GW, nm, Lx.wordA, wtx, h]
theorem gw_sg {s : Bs} (h : Lx.signL s = true) : GW (sg s) := by simp [GW, sg, Lx.wordA, wtx, h]
theorem gw_nu {n : Int} (h : -2147483648 ≤ n ∧ n ≤ 2147483647) : GW (nu n) := by simp [GW, nu, Lx.wordA, wtx, h.1, h.2]
theorem gws_nil (n : Nat) : GWs n [] := ⟨by simp, by simp⟩
theorem gws_one {w : Wd} (h : GW w) : GWs 1 [w] := ⟨by simp [h], by simp⟩
theorem gws_cons {n : Nat} {w : Wd} {ws : List Wd} (h : GW w) (hs : GWs n ws) : GWs (n + 1) (w :: ws) := ⟨by intro x hx; simp at hx; rcases hx with rfl | hx; exact h; exact hs.1 x hx, by simp; exact hs.2⟩
theorem gws_app {n m : Nat} {a b : List Wd} (ha : GWs n a) (hb : GWs m b) : GWs (n + m) (a ++ b) := ⟨by intro x hx; simp at hx; rcases hx with hx | hx; exact ha.1 x hx; exact hb.1 x hx, by simp; have := ha.2; have := hb.2; omega⟩
theorem gws_mono {n m : Nat} {a : List Wd} (h : GWs n a) (hn : n ≤ m) : GWs m a := ⟨h.1, by have := h.2; omega⟩
theorem gw_ty {t : Ty} (h : okTy t) : GWs 3 (tyW t) := by
  obtain ⟨k, n⟩ := t
  have hi : GW (nm wInt) := gw_nm (by decide)
  have hv : GW (nm wVoid) := gw_nm (by decide)
  have hl : GW (sg wLK) := gw_sg (by decide)
  have hr : GW (sg wRK) := gw_sg (by decide)
  unfold tyW
  rcases h with ⟨h, _⟩ | ⟨h, h2⟩
  · simp only at h
    rcases h with rfl | rfl | rfl
    · exact gws_mono (gws_one hv) (by omega)
    · exact gws_mono (gws_one hi) (by omega)
    · exact gws_cons hi (gws_cons hl (gws_one hr))
  · simp only at h h2
    rcases h with rfl | rfl
    · exact gws_mono (gws_one (gw_nm h2.1)) (by omega)
    · exact gws_cons (gw_nm h2.1) (gws_cons hl (gws_one hr))
theorem gw_fld {f : Fld} (h : okFld f) : GWs 7 (fldW f) := by
  unfold fldW
  exact gws_mono (gws_app (gws_one (gw_nm (by cases f.stat <;> decide))) (gws_app (gws_one (gw_nm h.1.1)) (gws_app (gws_one (gw_sg (by decide))) (gws_app (gw_ty h.2) (gws_app (gws_one (gw_sg (by decide))) (gws_nil 0)))))) (by omega)
theorem op_name : ∀ k, k < 44 → Lx.nameL (opWords.getD k []) = true := by decide +kernel
theorem gw_ins {i : Ins} (h : okIns i) : GWs 4 (insW i) := by
  have ha : GWs 2 (argW i) := by
    unfold argW
    rcases h.2 with ⟨e, c1, c2, c3, c4⟩ | ⟨e, c1, c2, c3, c4⟩ | ⟨e, c1, c2, c3, c4⟩ | ⟨e, c1, c2, c3⟩ | ⟨e, c1, c2, c3⟩ | ⟨e, c1, c2, c3⟩
    · rw [if_pos (by omega)]; exact gws_mono (gws_one (gw_nu (by omega))) (by omega)
    · rw [if_pos (by omega)]; exact gws_mono (gws_one (gw_nu (by omega))) (by omega)
    · rw [if_pos (by omega)]; exact gws_mono (gws_one (gw_nu (by omega))) (by omega)
    · rw [if_neg (by omega), if_pos e]; exact gws_mono (gws_one (gw_nm c2.1)) (by omega)
    · rw [if_neg (by omega), if_neg (by omega), if_pos e]; exact gws_cons (gw_nm c2.1) (gws_one (gw_nm c3.1))
    · rw [if_neg (by omega), if_neg (by omega), if_neg (by omega)]; exact gws_nil _
  unfold insW
  exact gws_mono (gws_cons (gw_nm (op_name i.op h.1)) (gws_app ha (gws_app (gws_one (gw_sg (by decide))) (gws_nil 0)))) (by omega)
theorem gw_ctc {c : Ctc} (h : okCtc c) : GWs 6 (ctcW c) := by
  unfold ctcW
  exact gws_mono (gws_app (gws_one (gw_nm (by decide))) (gws_app (gws_one (gw_nm h.1.1)) (gws_app (gws_one (gw_nu (by have := h.2.1; omega))) (gws_app (gws_one (gw_nu (by have := h.2.2.1; omega))) (gws_app (gws_one (gw_nu (by have := h.2.2.2; omega))) (gws_app (gws_one (gw_sg (by decide))) (gws_nil 0))))))) (by omega)
theorem gw_many {α : Type} {f : α → List Wd} {n : Nat} : ∀ (l : List α), (∀ x ∈ l, GWs n (f x)) → GWs (l.length * n) (manyW f l)
  | [], _ => gws_nil _
  | x :: r, h => by
    have h1 := gws_app (h x (by simp)) (gw_many r fun y hy => h y (by simp [hy]))
    refine gws_mono h1 ?_
    rw [List.length_cons, Nat.add_mul]; omega
theorem gw_more {α : Type} {f : α → List Wd} {n : Nat} : ∀ (l : List α), (∀ x ∈ l, GWs n (f x)) → GWs (l.length * (n + 1)) (moreW f l)
  | [], _ => gws_nil _
  | x :: r, h => by
    have h1 := gws_cons (gw_sg (s := wComma) (by decide)) (gws_app (h x (by simp)) (gw_more r fun y hy => h y (by simp [hy])))
    refine gws_mono h1 ?_
    rw [List.length_cons, Nat.add_mul]; omega
theorem gw_comma {α : Type} {f : α → List Wd} {n : Nat} (l : List α) (h : ∀ x ∈ l, GWs n (f x)) : GWs (l.length * (n + 1)) (commaW f l) := by
  cases l with
  | nil => exact gws_nil _
  | cons x r =>
    have h1 := gws_app (h x (by simp)) (gw_more r fun y hy => h y (by simp [hy]))
    refine gws_mono h1 ?_
    rw [List.length_cons, Nat.add_mul]; omega
theorem gw_body {m : Mth} (h : (0 ≤ m.locals ∧ m.locals ≤ 8) ∧ (m.code.length ≤ 48 ∧ ∀ i ∈ m.code, okIns i) ∧ (m.catches.length ≤ 4 ∧ ∀ c ∈ m.catches, okCtc c)) : GWs 220 (bodyW m) := by
  unfold bodyW
  refine gws_mono (gws_app (gws_one (gw_nm (by decide))) (gws_app (gws_one (gw_nu (by omega))) (gws_app (gws_one (gw_sg (by decide))) (gws_app (gw_many m.code fun i hi => gw_ins (h.2.1.2 i hi)) (gws_app (gw_many m.catches fun i hi => gw_ctc (h.2.2.2 i hi)) (gws_app (gws_one (gw_sg (by decide))) (gws_nil 0))))))) ?_
  omega
theorem gw_mth {m : Mth} (h : okMth m) : GWs 245 (mthW m) := by
  obtain ⟨h1, ⟨h2, h3⟩, h4, h5⟩ := h
  have hs : GWs 1 (if m.abst = true then [sg wSemi] else []) := by
    split
    · exact gws_one (gw_sg (by decide))
    · exact gws_nil _
  have hb : GWs 220 (if m.abst = true then [] else bodyW m) := by
    rcases h5 with ⟨e, _⟩ | ⟨e, h5⟩
    · rw [if_pos e]; exact gws_nil _
    · rw [if_neg (by rw [e]; exact Bool.false_ne_true)]; exact gw_body h5
  unfold mthW
  refine gws_mono (gws_app (gws_one (gw_nm (by cases m.stat <;> decide))) (gws_app (gws_one (gw_nm h1.1)) (gws_app (gws_one (gw_sg (by decide))) (gws_app (gw_comma m.params fun t ht => gw_ty (h3 t ht)) (gws_app (gws_one (gw_sg (by decide))) (gws_app (gw_ty h4) (gws_app hs (gws_app hb (gws_nil 0))))))))) ?_
  omega
theorem gw_cls {c : Cls} (h : okCls c) : GWs 1600 (clsW c) := by
  obtain ⟨h1, h2, ⟨h3, h4⟩, ⟨h5, h6⟩, h7, h8⟩ := h
  have hs : GWs 2 (supW c) := by
    unfold supW
    split
    · exact gws_nil _
    · rename_i hn
      rcases h2 with e | ⟨_, e⟩
      · exact absurd e hn
      · exact gws_cons (gw_nm (by decide)) (gws_one (gw_nm e.1))
  have hi : GWs 9 (ifsW c) := by
    unfold ifsW
    split
    · exact gws_nil _
    · refine gws_mono (gws_cons (gw_nm (by cases c.iface <;> decide)) (gw_comma c.ifaces fun s hs => gws_one (gw_nm (h4 s hs).1))) ?_
      omega
  unfold clsW
  refine gws_mono (gws_app (gws_one (gw_nm (by cases c.iface <;> decide))) (gws_app (gws_one (gw_nm h1.1)) (gws_app hs (gws_app hi (gws_app (gws_one (gw_sg (by decide))) (gws_app (gws_app (gw_many c.fields fun f hf => gw_fld (h6 f hf)) (gw_many c.methods fun m hm => gw_mth (h8 m hm))) (gws_app (gws_one (gw_sg (by decide))) (gws_nil 0)))))))) ?_
  omega
theorem gw_prog {cs : List Cls} (h : okProg cs) : GWs 16000 (manyW clsW cs) := by
  refine gws_mono (gw_many cs fun c hc => gw_cls (h.2 c hc)) ?_
  have := h.1
  omega
theorem wordsT_len : ∀ (ws : List Wd), (∀ w ∈ ws, GW w) → (wordsT ws).length ≤ 22 * ws.length
  | [], _ => by simp [wordsT, sayL]
  | w :: r, h => by
    have h1 := Lx.wordA_len _ _ (h w (by simp))
    have h2 := wordsT_len r fun x hx => h x (by simp [hx])
    have e : wordsT (w :: r) = wtx w ++ (behL (wtx w) :: wordsT r) := rfl
    rw [e, List.length_append, List.length_cons, List.length_cons]
    omega
theorem textX_len {cs : List XCls} (h : progB cs = true) : (textX cs).length ≤ 352000 := by
  have h1 := gw_prog ((progB_iff cs).1 h).2
  have h2 := wordsT_len _ h1.1
  have h3 := h1.2
  unfold textX
  omega

end Pp
end Go.Proofs.YtdgfidaopkcjoaaDoor

namespace Go.Proofs.YtdgfidaopkcjoaaDoor
namespace Pp
set_option linter.unusedVariables false
set_option linter.unusedSimpArgs false

def LtF (f : Fld) : Prop := f.name.length ≤ 60 ∧ f.ty.name.length ≤ 60
def LtI (x : XIns) : Prop := x.a.length ≤ 60 ∧ x.b.length ≤ 60
def LtT (t : Ty) : Prop := t.name.length ≤ 60
def LtK (c : Ctc) : Prop := c.name.length ≤ 60
def LtS (s : Bs) : Prop := s.length ≤ 60
def LtM (m : XMth) : Prop := (m.name.length ≤ 60 ∧ m.params.length ≤ 10 ∧ m.code.length ≤ 60 ∧ m.catches.length ≤ 10 ∧ m.ret.name.length ≤ 60) ∧ (∀ x ∈ m.code, LtI x) ∧ (∀ t ∈ m.params, LtT t) ∧ (∀ c ∈ m.catches, LtK c)
def LtC (c : XCls) : Prop := (c.fields.length ≤ 14 ∧ c.methods.length ≤ 14 ∧ c.ifaces.length ≤ 10 ∧ c.name.length ≤ 60 ∧ c.super.length ≤ 60) ∧ (∀ f ∈ c.fields, LtF f) ∧ (∀ s ∈ c.ifaces, LtS s) ∧ (∀ m ∈ c.methods, LtM m)
/-- A program that is not too great to be played. -/
def Light (cs : List XCls) : Prop := cs.length ≤ 14 ∧ ∀ c ∈ cs, LtC c
theorem all_take {α : Type} {P : α → Prop} {l : List α} {k : Nat} {x : α} (h : ∀ y ∈ l.take k, P y) (hx : l[k]? = some x) (hp : P x) : ∀ y ∈ l.take (k + 1), P y := by
  rw [List.take_add_one, hx]
  intro y hy
  rw [List.mem_append] at hy
  rcases hy with hy | hy
  · exact h y hy
  · simp at hy; subst hy; exact hp
theorem all_end {α : Type} {P : α → Prop} {l : List α} {k : Nat} (h : ∀ y ∈ l.take k, P y) (hk : l.length ≤ k) : ∀ y ∈ l, P y := by
  rw [List.take_of_length_le hk] at h; exact h

end Pp
end Go.Proofs.YtdgfidaopkcjoaaDoor

namespace Go.Proofs.YtdgfidaopkcjoaaDoor
namespace Pp
set_option linter.unusedVariables false
set_option linter.unusedSimpArgs false

def typeT2 (t : Ty) : Bs := if typeB t = true then ((tyW t).map wtx).flatten else []
def tws (t : Ty) : Bs := if t.kind = 4 then [105, 110, 116, 32, 91, 32, 93] else if t.kind = 5 then t.name ++ [32, 91, 32, 93] else typeT2 t
def argT (i : Ins) : Bs := if shape i.op = 1 ∨ shape i.op = 2 ∨ shape i.op = 3 then [32] ++ Lx.intL i.n else if shape i.op = 4 then [32] ++ i.a else if shape i.op = 5 then [32] ++ i.a ++ [32] ++ i.b else []
def insT (i : Ins) : Bs := opWords.getD i.op [] ++ argT i ++ [32, 59, 10]
def ctcT (c : Ctc) : Bs := [99, 97, 116, 99, 104, 32] ++ c.name ++ [32] ++ Lx.intL c.lo ++ [32] ++ Lx.intL c.hi ++ [32] ++ Lx.intL c.pc ++ [32, 59, 10]
def parT : List Ty → Bs
  | [] => []
  | t :: r => [32] ++ tws t ++ r.flatMap fun u => [32, 44, 32] ++ tws u
def fldT (f : Fld) : Bs := (if f.stat = true then [115, 116, 97, 116, 105, 99, 32] else [102, 105, 101, 108, 100, 32]) ++ f.name ++ [32, 58, 32] ++ tws f.ty ++ [32, 59, 10]
def headT (st : Bool) : Bs := if st = true then [102, 117, 110, 99, 116, 105, 111, 110, 32] else [109, 101, 116, 104, 111, 100, 32]
def mthH (m : Mth) : Bs := headT m.stat ++ m.name ++ [32, 40] ++ parT m.params ++ [32, 41, 32] ++ tws m.ret
def mthB1 (m : Mth) : Bs := [32, 108, 111, 99, 97, 108, 115, 32] ++ Lx.intL m.locals ++ [32, 123, 10]
def mthT (m : Mth) : Bs := if m.abst = true then mthH m ++ [32, 59, 10] else mthH m ++ mthB1 m ++ m.code.flatMap insT ++ m.catches.flatMap ctcT ++ [125, 10]
def ifsH (ic : Bool) : Bs := if ic = true then [32, 101, 120, 116, 101, 110, 100, 115, 32] else [32, 105, 109, 112, 108, 101, 109, 101, 110, 116, 115, 32]
def ifsT (ic : Bool) : List Bs → Bs
  | [] => []
  | s :: r => ifsH ic ++ s ++ r.flatMap fun u => [32, 44, 32] ++ u
def clsH (c : Cls) : Bs := (if c.iface = true then [105, 110, 116, 101, 114, 102, 97, 99, 101, 32] else [99, 108, 97, 115, 115, 32]) ++ c.name ++ (if c.super = [] then [] else [32, 101, 120, 116, 101, 110, 100, 115, 32] ++ c.super)
def clsT (c : Cls) : Bs := clsH c ++ ifsT c.iface c.ifaces ++ [32, 123, 10] ++ c.fields.flatMap fldT ++ c.methods.flatMap mthT ++ [125, 10]

theorem parT_snoc (l : List Ty) (t : Ty) : parT (l ++ [t]) = parT l ++ (if 0 < l.length then [32, 44] else []) ++ ([32] ++ tws t) := by
  cases l with
  | nil => simp [parT]
  | cons x r => simp [parT]
theorem ifsT_snoc (ic : Bool) (l : List Bs) (s : Bs) : ifsT ic (l ++ [s]) = ifsT ic l ++ ((if 0 < l.length then [32, 44, 32] else ifsH ic) ++ s) := by
  cases l with
  | nil => simp [ifsT]
  | cons x r => simp [ifsT]
theorem flat_len {α : Type} (f : α → Bs) (b : Nat) : ∀ l : List α, (∀ x ∈ l, (f x).length ≤ b) → (l.flatMap f).length ≤ b * l.length
  | [], _ => by simp
  | x :: r, h => by
    have h1 := h x (by simp)
    have h2 := flat_len f b r fun y hy => h y (by simp [hy])
    rw [List.flatMap_cons, List.length_append, List.length_cons, Nat.mul_add]
    omega

theorem beh_name {s : Bs} (h : Lx.nameL s = true) : behL s = 32 := by
  unfold behL
  rw [if_neg]
  rintro (rfl | rfl | rfl) <;> exact absurd h (by decide)
theorem beh_int {n : Int} (h : -2147483648 ≤ n ∧ n ≤ 2147483647) : behL (Lx.intL n) = 32 := by
  have h1 := Lx.numL_int n (by omega)
  rw [if_pos h] at h1
  unfold behL
  rw [if_neg]
  rintro (e | e | e)
  · rw [e, show Lx.numL wLB = none from by decide] at h1; cases h1
  · rw [e, show Lx.numL wRB = none from by decide] at h1; cases h1
  · rw [e, show Lx.numL wSemi = none from by decide] at h1; cases h1
theorem wordsT_nm {s : Bs} (h : Lx.nameL s = true) : wordsT [nm s] = s ++ [32] := by
  have e : wordsT [nm s] = wtx (nm s) ++ [behL (wtx (nm s))] := rfl
  have e2 : wtx (nm s) = s := by simp [wtx, nm]
  rw [e, e2, beh_name h]
theorem wordsT_nu {n : Int} (h : -2147483648 ≤ n ∧ n ≤ 2147483647) : wordsT [nu n] = Lx.intL n ++ [32] := by
  have e : wordsT [nu n] = wtx (nu n) ++ [behL (wtx (nu n))] := rfl
  have e2 : wtx (nu n) = Lx.intL n := by simp [wtx, nu]
  rw [e, e2, beh_int h]
theorem wordsT_one (w : Wd) (l : List Wd) : wordsT (w :: l) = wordsT [w] ++ wordsT l := wordsT_app [w] l
theorem wordsT_nil : wordsT [] = [] := rfl
theorem wordsT_ty {t : Ty} (h : okTy t) : wordsT (tyW t) = tws t ++ [32] := by
  have hb := (typeB_iff t).2 h
  obtain ⟨k, n⟩ := t
  unfold tws typeT2
  rw [if_pos hb]
  rcases h with ⟨h, h2⟩ | ⟨h, h2⟩
  · simp only at h h2
    subst h2
    rcases h with rfl | rfl | rfl <;> decide
  · simp only at h h2
    have e := wordsT_nm h2.1
    have e2 : wtx (nm n) = n := by simp [wtx, nm]
    rcases h with rfl | rfl
    · simp [tyW, e, e2]
    · have e5 : tyW ⟨5, n⟩ = [nm n] ++ [sg wLK, sg wRK] := rfl
      rw [e5, wordsT_app, e]
      have e3 : wordsT [sg wLK, sg wRK] = [91, 32, 93, 32] := by decide
      rw [e3]; simp
theorem wordsT_fld {f : Fld} (h : okFld f) : wordsT (fldW f) = fldT f := by
  have h1 : wordsT [nm (if f.stat = true then wStatic else wField)] = (if f.stat = true then [115, 116, 97, 116, 105, 99, 32] else [102, 105, 101, 108, 100, 32]) := by cases f.stat <;> decide
  have h2 : wordsT [sg wColon] = [58, 32] := by decide
  have h3 : wordsT [sg wSemi] = [59, 10] := by decide
  unfold fldW fldT
  simp only [wordsT_app, h1, wordsT_nm h.1.1, h2, wordsT_ty h.2, h3, wordsT_nil]
  simp
theorem wordsT_ins {i : Ins} (h : okIns i) : wordsT (insW i) = insT i := by
  have h1 := wordsT_nm (op_name i.op h.1)
  have h3 : wordsT [sg wSemi] = [59, 10] := by decide
  have ha : [32] ++ wordsT (argW i) = argT i ++ [32] := by
    unfold argW argT
    rcases h.2 with ⟨s, a1, a2, _⟩ | ⟨s, a1, a2, _⟩ | ⟨s, a1, a2, _⟩ | ⟨s, _, a1, _⟩ | ⟨s, _, a1, a2⟩ | ⟨s, _⟩
    · rw [s]; simp [wordsT_nu ⟨a1, a2⟩]
    · rw [s]; simp [wordsT_nu (n := i.n) ⟨by omega, by omega⟩]
    · rw [s]; simp [wordsT_nu (n := i.n) ⟨by omega, by omega⟩]
    · rw [s]; simp [wordsT_nm a1.1]
    · rw [s]
      simp only [Nat.reduceEqDiff, or_self, if_false, if_true]
      rw [wordsT_one, wordsT_nm a1.1, wordsT_nm a2.1]; simp
    · rw [s]; simp [wordsT_nil]
  unfold insW insT
  rw [wordsT_one, h1, wordsT_app, wordsT_app, h3, wordsT_nil]
  have e : opWords.getD i.op [] ++ [32] ++ (wordsT (argW i) ++ ([59, 10] ++ [])) = opWords.getD i.op [] ++ ([32] ++ wordsT (argW i)) ++ [59, 10] := by simp
  rw [e, ha]; simp
theorem wordsT_ctc {c : Ctc} (h : okCtc c) : wordsT (ctcW c) = ctcT c := by
  obtain ⟨h1, h2, h3, h4⟩ := h
  have e1 : wordsT [nm wCatch] = [99, 97, 116, 99, 104, 32] := by decide
  have e2 : wordsT [sg wSemi] = [59, 10] := by decide
  unfold ctcW ctcT
  simp only [wordsT_app, e1, wordsT_nm h1.1, wordsT_nu (n := c.lo) ⟨by omega, by omega⟩, wordsT_nu (n := c.hi) ⟨by omega, by omega⟩, wordsT_nu (n := c.pc) ⟨by omega, by omega⟩, e2, wordsT_nil]
  simp
theorem wordsT_many {α : Type} {f : α → List Wd} {g : α → Bs} : ∀ (l : List α), (∀ x ∈ l, wordsT (f x) = g x) → wordsT (manyW f l) = l.flatMap g
  | [], _ => rfl
  | x :: r, h => by
    rw [manyW, wordsT_app, h x (by simp), wordsT_many r fun y hy => h y (by simp [hy]), List.flatMap_cons]
theorem wordsT_more {α : Type} {f : α → List Wd} {g : α → Bs} : ∀ (l : List α), (∀ x ∈ l, wordsT (f x) = g x ++ [32]) → [32] ++ wordsT (moreW f l) = (l.flatMap fun u => [32, 44, 32] ++ g u) ++ [32]
  | [], _ => rfl
  | x :: r, h => by
    have ih := wordsT_more r fun y hy => h y (by simp [hy])
    have e : wordsT [sg wComma] = [44, 32] := by decide
    rw [moreW, wordsT_one, e, wordsT_app, h x (by simp), List.flatMap_cons]
    have e2 : [32] ++ ([44, 32] ++ (g x ++ [32] ++ wordsT (moreW f r))) = [32, 44, 32] ++ g x ++ ([32] ++ wordsT (moreW f r)) := by simp
    rw [e2, ih]; simp
theorem wordsT_par (l : List Ty) (h : ∀ t ∈ l, okTy t) : [32] ++ wordsT (commaW tyW l) = parT l ++ [32] := by
  cases l with
  | nil => rfl
  | cons t r =>
    have h1 := wordsT_more (f := tyW) (g := tws) r fun y hy => wordsT_ty (h y (by simp [hy]))
    rw [commaW, wordsT_app, wordsT_ty (h t (by simp)), parT]
    have e : [32] ++ (tws t ++ [32] ++ wordsT (moreW tyW r)) = [32] ++ tws t ++ ([32] ++ wordsT (moreW tyW r)) := by simp
    rw [e, h1]; simp
theorem wordsT_mth {m : Mth} (h : okMth m) : wordsT (mthW m) = mthT m := by
  obtain ⟨h1, ⟨_, h2⟩, h3, h4⟩ := h
  have e1 : wordsT [nm (if m.stat = true then wFunction else wMethod)] = headT m.stat := by cases m.stat <;> decide
  have e2 : wordsT [sg wLP] = [40, 32] := by decide
  have e3 : wordsT [sg wRP] = [41, 32] := by decide
  have e4 : wordsT [sg wSemi] = [59, 10] := by decide
  have e5 : wordsT [nm wLocals] = [108, 111, 99, 97, 108, 115, 32] := by decide
  have e6 : wordsT [sg wLB] = [123, 10] := by decide
  have e7 : wordsT [sg wRB] = [125, 10] := by decide
  have hp := wordsT_par m.params h2
  have hh : ∀ x, wordsT ([nm (if m.stat = true then wFunction else wMethod)] ++ ([nm m.name] ++ ([sg wLP] ++ (commaW tyW m.params ++ ([sg wRP] ++ (tyW m.ret ++ x)))))) = mthH m ++ [32] ++ wordsT x := by
    intro x
    simp only [wordsT_app, e1, wordsT_nm h1.1, e2, e3, wordsT_ty h3]
    unfold mthH
    have e : headT m.stat ++ (m.name ++ [32] ++ ([40, 32] ++ (wordsT (commaW tyW m.params) ++ ([41, 32] ++ (tws m.ret ++ [32] ++ wordsT x))))) = headT m.stat ++ m.name ++ [32, 40] ++ ([32] ++ wordsT (commaW tyW m.params)) ++ [41, 32] ++ tws m.ret ++ [32] ++ wordsT x := by simp
    rw [e, hp]; simp
  unfold mthW
  rw [hh]
  unfold mthT
  rcases h4 with ⟨ha, _⟩ | ⟨ha, hl, ⟨_, hc⟩, _, hk⟩
  · rw [ha]; simp [e4, wordsT_nil]
  · rw [ha]
    simp only [Bool.false_eq_true, if_false]
    unfold bodyW mthB1
    simp only [wordsT_app, wordsT_nil, List.nil_append, List.append_nil, e5, wordsT_nu (n := m.locals) ⟨by omega, by omega⟩, e6, e7, wordsT_many m.code fun i hi => wordsT_ins (hc i hi), wordsT_many m.catches fun c hc => wordsT_ctc (hk c hc)]
    simp
theorem wordsT_ifs {c : Cls} (h : ∀ s ∈ c.ifaces, okN s) : [32] ++ wordsT (ifsW c) = ifsT c.iface c.ifaces ++ [32] := by
  unfold ifsW
  cases hi : c.ifaces with
  | nil => rfl
  | cons s r =>
    rw [hi] at h
    have h1 := wordsT_more (f := fun s => [nm s]) (g := fun s => s) r fun y hy => wordsT_nm (h y (by simp [hy])).1
    have e1 : [32] ++ wordsT [nm (if c.iface = true then wExtends else wImplements)] = ifsH c.iface := by cases c.iface <;> decide
    rw [if_neg (by simp), wordsT_one, commaW, wordsT_app, wordsT_nm (h s (by simp)).1, ifsT]
    have e : [32] ++ (wordsT [nm (if c.iface = true then wExtends else wImplements)] ++ (s ++ [32] ++ wordsT (moreW (fun s => [nm s]) r))) = ([32] ++ wordsT [nm (if c.iface = true then wExtends else wImplements)]) ++ s ++ ([32] ++ wordsT (moreW (fun s => [nm s]) r)) := by simp
    rw [e, e1, h1]; simp
theorem wordsT_cls {c : Cls} (h : okCls c) : wordsT (clsW c) = clsT c := by
  obtain ⟨h1, h2, ⟨_, h3⟩, ⟨_, h4⟩, _, h5⟩ := h
  have e1 : wordsT [nm (if c.iface = true then wInterface else wClass)] = (if c.iface = true then [105, 110, 116, 101, 114, 102, 97, 99, 101, 32] else [99, 108, 97, 115, 115, 32]) := by cases c.iface <;> decide
  have e2 : wordsT [sg wLB] = [123, 10] := by decide
  have e3 : wordsT [sg wRB] = [125, 10] := by decide
  have hs : [32] ++ wordsT (supW c) = (if c.super = [] then [] else [32, 101, 120, 116, 101, 110, 100, 115, 32] ++ c.super) ++ [32] := by
    unfold supW
    by_cases h0 : c.super = []
    · rw [if_pos h0, if_pos h0]; rfl
    · rw [if_neg h0, if_neg h0, wordsT_one]
      have hn : Lx.nameL c.super = true := by
        rcases h2 with h2 | ⟨_, h2⟩
        · exact absurd h2 h0
        · exact h2.1
      rw [wordsT_nm hn, show wordsT [nm wExtends] = [101, 120, 116, 101, 110, 100, 115, 32] from by decide]
      simp
  have hi := wordsT_ifs h3
  unfold clsW clsT clsH
  simp only [wordsT_app, e1, wordsT_nm h1.1, e2, e3, wordsT_nil, List.append_nil, wordsT_many c.fields fun f hf => wordsT_fld (h4 f hf), wordsT_many c.methods fun m hm => wordsT_mth (h5 m hm)]
  generalize (if c.iface = true then [105, 110, 116, 101, 114, 102, 97, 99, 101, 32] else [99, 108, 97, 115, 115, 32] : Bs) = A
  generalize (if c.super = [] then [] else [32, 101, 120, 116, 101, 110, 100, 115, 32] ++ c.super : Bs) = S at *
  have e : A ++ (c.name ++ [32] ++ (wordsT (supW c) ++ (wordsT (ifsW c) ++ ([123, 10] ++ (c.fields.flatMap fldT ++ c.methods.flatMap mthT ++ [125, 10]))))) = A ++ c.name ++ ([32] ++ wordsT (supW c)) ++ (wordsT (ifsW c) ++ ([123, 10] ++ (c.fields.flatMap fldT ++ c.methods.flatMap mthT ++ [125, 10]))) := by simp
  rw [e, hs]
  have e4 : A ++ c.name ++ (S ++ [32]) ++ (wordsT (ifsW c) ++ ([123, 10] ++ (c.fields.flatMap fldT ++ c.methods.flatMap mthT ++ [125, 10]))) = A ++ c.name ++ S ++ ([32] ++ wordsT (ifsW c)) ++ ([123, 10] ++ (c.fields.flatMap fldT ++ c.methods.flatMap mthT ++ [125, 10])) := by simp
  rw [e4, hi]; simp
theorem textX_page {cs : List XCls} (h : progB cs = true) : textX cs = (cs.map XCls.toP).flatMap clsT := by
  have hk := ((progB_iff cs).1 h).2
  unfold textX
  exact wordsT_many _ fun c hc => wordsT_cls (hk.2 c hc)

end Pp
end Go.Proofs.YtdgfidaopkcjoaaDoor
