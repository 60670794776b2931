/- Who comes of whom: the classes that always stand, places, supers, rings; as the code tells them. -/
import Derived.Test.YtildjihgklgibaaDoorShowP
namespace Go.Proofs.YtildjihgklgibaaDoor
set_option linter.unusedVariables false
set_option linter.unusedSimpArgs false
namespace Hr
open Pp
def objN : Bs := [79, 98, 106, 101, 99, 116]
def errN : Bs := [69, 114, 114, 111, 114]
def subs : List Bs := [[78, 117, 108, 108, 69, 114, 114, 111, 114], [82, 97, 110, 103, 101, 69, 114, 114, 111, 114], [67, 97, 115, 116, 69, 114, 114, 111, 114], [78, 117, 109, 69, 114, 114, 111, 114], [83, 105, 122, 101, 69, 114, 114, 111, 114], [68, 101, 112, 116, 104, 69, 114, 114, 111, 114]]
def plain (n s : Bs) : XCls := ⟨n, false, s, [], [], []⟩
def base : List XCls := plain objN [] :: plain errN objN :: subs.map (plain · errN)
def allL (cs : List XCls) : List XCls := base ++ cs
/-- The first place of a name. -/
def placeL : List XCls → Bs → Option Nat
  | [], _ => none
  | c :: l, n => if c.name = n then some 0 else (placeL l n).map (· + 1)
def pairP : Option Nat → Nat × Bool
  | none => (0, false)
  | some k => (k, true)
theorem placeL_lt {l : List XCls} {n : Bs} {k : Nat} (h : placeL l n = some k) : ∃ c, l[k]? = some c ∧ c.name = n ∧ ∀ (j : Nat) (d : XCls), j < k → l[j]? = some d → d.name ≠ n := by
  induction l generalizing k with
  | nil => simp [placeL] at h
  | cons a l ih =>
    unfold placeL at h
    split at h
    · cases h
      exact ⟨a, rfl, by assumption, fun j d hj => absurd hj (Nat.not_lt_zero _)⟩
    · rename_i hne
      cases hp : placeL l n with
      | none => rw [hp] at h; cases h
      | some m =>
        rw [hp] at h
        cases h
        obtain ⟨c, h1, h2, h3⟩ := ih hp
        refine ⟨c, by simpa using h1, h2, fun j d hj hd => ?_⟩
        cases j with
        | zero => simp at hd; subst hd; exact hne
        | succ j => exact h3 j d (by have : j + 1 < m + 1 := hj; omega) (by simpa using hd)
theorem placeL_none {l : List XCls} {n : Bs} : placeL l n = none ↔ ∀ (j : Nat) (d : XCls), l[j]? = some d → d.name ≠ n := by
  induction l with
  | nil => simp [placeL]
  | cons a l ih =>
    unfold placeL
    split
    · rename_i h
      constructor
      · intro h'; cases h'
      · intro h'; exact absurd h (h' 0 a rfl)
    · rename_i h
      constructor
      · intro h' j d hd
        cases j with
        | zero => simp at hd; subst hd; exact h
        | succ j =>
          refine ih.1 ?_ j d (by simpa using hd)
          cases hp : placeL l n with
          | none => rfl
          | some m => rw [hp] at h'; cases h'
      · intro h'
        rw [ih.2 fun j d hd => h' (j + 1) d (by simpa using hd)]
        rfl
theorem placeL_at {l : List XCls} {n : Bs} {k : Nat} {c : XCls} (h : l[k]? = some c) (hc : c.name = n) (hf : ∀ (j : Nat) (d : XCls), j < k → l[j]? = some d → d.name ≠ n) : placeL l n = some k := by
  cases hp : placeL l n with
  | none => exact absurd hc (placeL_none.1 hp k c h)
  | some m =>
    obtain ⟨d, h1, h2, h3⟩ := placeL_lt hp
    rcases Nat.lt_trichotomy m k with hm | hm | hm
    · exact absurd h2 (hf m d hm h1)
    · rw [hm]
    · exact absurd hc (h3 k c hm h)
/-- No two have one name. -/
def oneL (l : List XCls) : Prop := ∀ (j : Nat) (c : XCls), l[j]? = some c → placeL l c.name = some j
def oneB (l : List XCls) : Bool := (List.range l.length).all fun j => match l[j]? with | none => true | some c => placeL l c.name == some j
theorem oneB_iff (l : List XCls) : oneB l = true ↔ oneL l := by
  unfold oneB oneL
  simp only [List.all_eq_true, List.mem_range]
  constructor
  · intro h j c hc
    have := h j (by rw [List.getElem?_eq_some_iff] at hc; exact hc.1)
    rw [hc] at this
    simpa using this
  · intro h j hj
    have hc := List.getElem?_eq_getElem hj
    rw [hc]
    simpa using h j _ hc
def superL (c : XCls) : Option Bs := if c.iface = true ∨ c.name = objN then none else if c.super = [] then some objN else some c.super
def pairS : Option Bs → Bs × Bool
  | none => ([], false)
  | some s => (s, true)
/-- The place of a name that must be an interface's, or a class'. -/
def upL (l : List XCls) (want : Bool) (n : Bs) : Option Nat := match placeL l n with
  | none => none
  | some k => match l[k]? with
    | none => none
    | some c => if c.iface = want then some k else none
def supL (l : List XCls) (c : XCls) : Option (List Nat) := match superL c with
  | none => some []
  | some n => (upL l false n).map fun k => [k]
def ifsL (l : List XCls) : List Bs → Option (List Nat)
  | [] => some []
  | n :: ns => match upL l true n with
    | none => none
    | some k => (ifsL l ns).map fun r => k :: r
def upsL (l : List XCls) (c : XCls) : Option (List Nat) := match supL l c with
  | none => none
  | some a => (ifsL l c.ifaces).map fun b => a ++ b
def growL (l : List XCls) : List XCls → Option (List (List Nat))
  | [] => some []
  | c :: cs => match upsL l c with
    | none => none
    | some u => (growL l cs).map fun r => u :: r
theorem ifsL_step {l : List XCls} {ns : List Bs} {k : Nat} {n : Bs} (h : ns[k]? = some n) : ifsL l (ns.take (k + 1)) = match ifsL l (ns.take k), upL l true n with | some r, some u => some (r ++ [u]) | _, _ => none := by
  induction ns generalizing k with
  | nil => simp at h
  | cons a ns ih =>
    cases k with
    | zero =>
      simp at h; subst h
      simp only [Nat.zero_add, List.take_succ_cons, List.take_zero, ifsL]
      cases upL l true a <;> rfl
    | succ k =>
      have := ih (k := k) (by simpa using h)
      rw [List.take_succ_cons, List.take_succ_cons]
      simp only [ifsL]
      rw [this]
      cases upL l true a with
      | none => rfl
      | some u =>
        cases ifsL l (ns.take k) with
        | none => rfl
        | some r => cases upL l true n <;> rfl
theorem ifsL_take {l : List XCls} {ns : List Bs} {k : Nat} (h : ifsL l (ns.take k) = none) : ifsL l ns = none := by
  induction ns generalizing k with
  | nil => simp [ifsL] at h
  | cons a ns ih =>
    cases k with
    | zero => simp [ifsL] at h
    | succ k =>
      rw [List.take_succ_cons] at h
      simp only [ifsL] at h ⊢
      cases hu : upL l true a with
      | none => rfl
      | some u =>
        rw [hu] at h
        cases hr : ifsL l (ns.take k) with
        | none => rw [ih hr]; rfl
        | some r => simp [hr] at h
theorem growL_step {l cs : List XCls} {k : Nat} {c : XCls} (h : cs[k]? = some c) : growL l (cs.take (k + 1)) = match growL l (cs.take k), upsL l c with | some r, some u => some (r ++ [u]) | _, _ => none := by
  induction cs generalizing k with
  | nil => simp at h
  | cons a cs ih =>
    cases k with
    | zero =>
      simp at h; subst h
      simp only [Nat.zero_add, List.take_succ_cons, List.take_zero, growL]
      cases upsL l a <;> rfl
    | succ k =>
      have := ih (k := k) (by simpa using h)
      rw [List.take_succ_cons, List.take_succ_cons]
      simp only [growL]
      rw [this]
      cases upsL l a with
      | none => rfl
      | some u =>
        cases growL l (cs.take k) with
        | none => rfl
        | some r => cases upsL l c <;> rfl
theorem growL_take {l cs : List XCls} {k : Nat} (h : growL l (cs.take k) = none) : growL l cs = none := by
  induction cs generalizing k with
  | nil => simp [growL] at h
  | cons a cs ih =>
    cases k with
    | zero => simp [growL] at h
    | succ k =>
      rw [List.take_succ_cons] at h
      simp only [growL] at h ⊢
      cases hu : upsL l a with
      | none => rfl
      | some u =>
        rw [hu] at h
        cases hr : growL l (cs.take k) with
        | none => rw [ih hr]; rfl
        | some r => simp [hr] at h
theorem growL_len {l cs : List XCls} {r : List (List Nat)} (h : growL l cs = some r) : r.length = cs.length := by
  induction cs generalizing r with
  | nil => simp [growL] at h; subst h; rfl
  | cons a cs ih =>
    simp only [growL] at h
    cases hu : upsL l a with
    | none => rw [hu] at h; cases h
    | some u =>
      rw [hu] at h
      cases hr : growL l cs with
      | none => rw [hr] at h; cases h
      | some s => rw [hr] at h; cases h; simp [ih hr]
theorem growL_at {l cs : List XCls} {r : List (List Nat)} (h : growL l cs = some r) {k : Nat} {c : XCls} (hc : cs[k]? = some c) : ∃ u, r[k]? = some u ∧ upsL l c = some u := by
  induction cs generalizing r k with
  | nil => simp at hc
  | cons a cs ih =>
    simp only [growL] at h
    cases hu : upsL l a with
    | none => rw [hu] at h; cases h
    | some u =>
      rw [hu] at h
      cases hr : growL l cs with
      | none => rw [hr] at h; cases h
      | some s =>
        rw [hr] at h; cases h
        cases k with
        | zero => simp at hc; subst hc; exact ⟨u, rfl, hu⟩
        | succ k => obtain ⟨v, h1, h2⟩ := ih hr (k := k) (by simpa using hc); exact ⟨v, by simpa using h1, h2⟩
theorem upL_lt {l : List XCls} {b : Bool} {n : Bs} {k : Nat} (h : upL l b n = some k) : k < l.length ∧ placeL l n = some k ∧ ∃ c, l[k]? = some c ∧ c.iface = b := by
  unfold upL at h
  cases hp : placeL l n with
  | none => rw [hp] at h; cases h
  | some m =>
    rw [hp] at h
    obtain ⟨c, h1, h2, h3⟩ := placeL_lt hp
    simp only [h1] at h
    split at h
    · cases h; exact ⟨(List.getElem?_eq_some_iff.1 h1).1, rfl, c, h1, by assumption⟩
    · cases h
theorem ifsL_lt {l : List XCls} {ns : List Bs} {r : List Nat} (h : ifsL l ns = some r) : ∀ k ∈ r, k < l.length := by
  induction ns generalizing r with
  | nil => simp [ifsL] at h; subst h; simp
  | cons a ns ih =>
    simp only [ifsL] at h
    cases hu : upL l true a with
    | none => rw [hu] at h; cases h
    | some u =>
      rw [hu] at h
      cases hr : ifsL l ns with
      | none => rw [hr] at h; cases h
      | some s =>
        rw [hr] at h; cases h
        intro k hk
        rcases List.mem_cons.1 hk with rfl | hk
        · exact (upL_lt hu).1
        · exact ih hr k hk
theorem upsL_lt {l : List XCls} {c : XCls} {r : List Nat} (h : upsL l c = some r) : ∀ k ∈ r, k < l.length := by
  unfold upsL at h
  cases hs : supL l c with
  | none => rw [hs] at h; cases h
  | some a =>
    rw [hs] at h
    cases hi : ifsL l c.ifaces with
    | none => rw [hi] at h; cases h
    | some b =>
      rw [hi] at h; cases h
      intro k hk
      rcases List.mem_append.1 hk with hk | hk
      · unfold supL at hs
        cases hsu : superL c with
        | none => rw [hsu] at hs; cases hs; simp at hk
        | some n =>
          rw [hsu] at hs
          cases hu : upL l false n with
          | none => simp only [hu] at hs; cases hs
          | some u => simp only [hu] at hs; cases hs; simp at hk; subst hk; exact (upL_lt hu).1
      · exact ifsL_lt hi k hk
theorem growL_lt {l cs : List XCls} {r : List (List Nat)} (h : growL l cs = some r) : ∀ u ∈ r, ∀ k ∈ u, k < l.length := by
  induction cs generalizing r with
  | nil => simp [growL] at h; subst h; simp
  | cons a cs ih =>
    simp only [growL] at h
    cases hu : upsL l a with
    | none => rw [hu] at h; cases h
    | some u =>
      rw [hu] at h
      cases hr : growL l cs with
      | none => rw [hr] at h; cases h
      | some s =>
        rw [hr] at h; cases h
        intro v hv
        rcases List.mem_cons.1 hv with rfl | hv
        · exact upsL_lt hu
        · exact ih hr v hv
/-- One step up, by places. -/
def Step (up : List (List Nat)) (i j : Nat) : Prop := ∃ u, up[i]? = some u ∧ j ∈ u
/-- So many steps up, and one more. -/
def FarN (up : List (List Nat)) : Nat → Nat → Nat → Prop
  | 0, i, j => Step up i j
  | n + 1, i, k => ∃ j, FarN up n i j ∧ Step up j k
/-- One step up or more. -/
def Far (up : List (List Nat)) (i j : Nat) : Prop := ∃ n, FarN up n i j
theorem Far.one {up : List (List Nat)} {i j : Nat} (h : Step up i j) : Far up i j := ⟨0, h⟩
theorem Far.more {up : List (List Nat)} {i j k : Nat} (h : Far up i j) (s : Step up j k) : Far up i k := by
  obtain ⟨n, h⟩ := h; exact ⟨n + 1, j, h, s⟩
theorem Far.ind {up : List (List Nat)} {C : Nat → Nat → Prop} (one : ∀ {i j : Nat}, Step up i j → C i j) (more : ∀ {i j k : Nat}, Far up i j → Step up j k → C i j → C i k) {i j : Nat} (h : Far up i j) : C i j := by
  obtain ⟨n, h⟩ := h
  induction n generalizing j with
  | zero => exact one h
  | succ n ih => obtain ⟨m, h1, h2⟩ := h; exact more ⟨n, h1⟩ h2 (ih h1)
theorem Far.trans {up : List (List Nat)} {i j k : Nat} (h : Far up i j) (h' : Far up j k) : Far up i k := by
  revert h
  refine Far.ind (C := fun j k => Far up i j → Far up i k) (fun s h => .more h s) (fun _ s ih h => .more (ih h) s) h'
def Ring (up : List (List Nat)) : Prop := ∃ i, Far up i i
end Hr
end Go.Proofs.YtildjihgklgibaaDoor
