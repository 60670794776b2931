/- Who comes of whom: the classes that always stand, places, supers, rings; as the code tells them. What superOf, place, twice answer. What ups answers. What is met by steps up from a place: the loop's invariants. -/
import Derived.Test.YtbbbnciejmdpfaaGreatDoorPkAa
set_option maxRecDepth 100000
set_option maxHeartbeats 64000000
set_option linter.unusedVariables false
set_option linter.unusedSimpArgs false
namespace Go.Proofs.YtbbbnciejmdpfaaGreatDoor
namespace Hr
open Pp
def objN : Bs := [79, 98, 106, 101, 99, 116]
def errN : Bs := [69, 114, 114, 111, 114]
def subs : List Bs := [[78, 117, 108, 108, 69, 114, 114, 111, 114], [82, 97, 110, 103, 101, 69, 114, 114, 111, 114], [67, 97, 115, 116, 69, 114, 114, 111, 114], [78, 117, 109, 69, 114, 114, 111, 114], [83, 105, 122, 101, 69, 114, 114, 111, 114], [68, 101, 112, 116, 104, 69, 114, 114, 111, 114]]
def plain (n s : Bs) : XCls := ⟨n, false, s, [], [], []⟩
def base : List XCls := plain objN [] :: plain errN objN :: subs.map (plain · errN)
def allL (cs : List XCls) : List XCls := base ++ cs
def placeL : List XCls → Bs → Option Nat
  | [], _ => none
  | c :: l, n => if c.name = n then some 0 else (placeL l n).map (· + 1)
def pairP : Option Nat → Nat × Bool
  | none => (0, false)
  | some k => (k, true)
theorem placeL_lt {l : List XCls} {n : Bs} {k : Nat} (h : placeL l n = some k) : ∃ c, l[k]? = some c ∧ c.name = n ∧ ∀ (j : Nat) (d : XCls), j < k → l[j]? = some d → d.name ≠ n := by
  induction l generalizing k with
  | nil => simp [placeL] at h
  | cons a l ih =>
    unfold placeL at h
    split at h
    · cases h
      exact ⟨a, rfl, by assumption, fun j d hj => absurd hj (Nat.not_lt_zero _)⟩
    · rename_i hne
      cases hp : placeL l n with
      | none => rw [hp] at h; cases h
      | some m =>
        rw [hp] at h
        cases h
        obtain ⟨c, h1, h2, h3⟩ := ih hp
        refine ⟨c, by simpa using h1, h2, fun j d hj hd => ?_⟩
        cases j with
        | zero => simp at hd; subst hd; exact hne
        | succ j => exact h3 j d (by have : j + 1 < m + 1 := hj; omega) (by simpa using hd)
theorem placeL_none {l : List XCls} {n : Bs} : placeL l n = none ↔ ∀ (j : Nat) (d : XCls), l[j]? = some d → d.name ≠ n := by
  induction l with
  | nil => simp [placeL]
  | cons a l ih =>
    unfold placeL
    split
    · rename_i h
      constructor
      · intro h'; cases h'
      · intro h'; exact absurd h (h' 0 a rfl)
    · rename_i h
      constructor
      · intro h' j d hd
        cases j with
        | zero => simp at hd; subst hd; exact h
        | succ j =>
          refine ih.1 ?_ j d (by simpa using hd)
          cases hp : placeL l n with
          | none => rfl
          | some m => rw [hp] at h'; cases h'
      · intro h'
        rw [ih.2 fun j d hd => h' (j + 1) d (by simpa using hd)]
        rfl
theorem placeL_at {l : List XCls} {n : Bs} {k : Nat} {c : XCls} (h : l[k]? = some c) (hc : c.name = n) (hf : ∀ (j : Nat) (d : XCls), j < k → l[j]? = some d → d.name ≠ n) : placeL l n = some k := by
  cases hp : placeL l n with
  | none => exact absurd hc (placeL_none.1 hp k c h)
  | some m =>
    obtain ⟨d, h1, h2, h3⟩ := placeL_lt hp
    rcases Nat.lt_trichotomy m k with hm | hm | hm
    · exact absurd h2 (hf m d hm h1)
    · rw [hm]
    · exact absurd hc (h3 k c hm h)
def oneL (l : List XCls) : Prop := ∀ (j : Nat) (c : XCls), l[j]? = some c → placeL l c.name = some j
def oneB (l : List XCls) : Bool := (List.range l.length).all fun j => match l[j]? with | none => true | some c => placeL l c.name == some j
theorem oneB_iff (l : List XCls) : oneB l = true ↔ oneL l := by
  unfold oneB oneL
  simp only [List.all_eq_true, List.mem_range]
  constructor
  · intro h j c hc
    have := h j (by rw [List.getElem?_eq_some_iff] at hc; exact hc.1)
    rw [hc] at this
    simpa using this
  · intro h j hj
    have hc := List.getElem?_eq_getElem hj
    rw [hc]
    simpa using h j _ hc
def superL (c : XCls) : Option Bs := if c.iface = true ∨ c.name = objN then none else if c.super = [] then some objN else some c.super
def pairS : Option Bs → Bs × Bool
  | none => ([], false)
  | some s => (s, true)
def upL (l : List XCls) (want : Bool) (n : Bs) : Option Nat := match placeL l n with
  | none => none
  | some k => match l[k]? with
    | none => none
    | some c => if c.iface = want then some k else none
def supL (l : List XCls) (c : XCls) : Option (List Nat) := match superL c with
  | none => some []
  | some n => (upL l false n).map fun k => [k]
def ifsL (l : List XCls) : List Bs → Option (List Nat)
  | [] => some []
  | n :: ns => match upL l true n with
    | none => none
    | some k => (ifsL l ns).map fun r => k :: r
def upsL (l : List XCls) (c : XCls) : Option (List Nat) := match supL l c with
  | none => none
  | some a => (ifsL l c.ifaces).map fun b => a ++ b
def growL (l : List XCls) : List XCls → Option (List (List Nat))
  | [] => some []
  | c :: cs => match upsL l c with
    | none => none
    | some u => (growL l cs).map fun r => u :: r
theorem ifsL_step {l : List XCls} {ns : List Bs} {k : Nat} {n : Bs} (h : ns[k]? = some n) : ifsL l (ns.take (k + 1)) = match ifsL l (ns.take k), upL l true n with | some r, some u => some (r ++ [u]) | _, _ => none := by
  induction ns generalizing k with
  | nil => simp at h
  | cons a ns ih =>
    cases k with
    | zero =>
      simp at h; subst h
      simp only [Nat.zero_add, List.take_succ_cons, List.take_zero, ifsL]
      cases upL l true a <;> rfl
    | succ k =>
      have := ih (k := k) (by simpa using h)
      rw [List.take_succ_cons, List.take_succ_cons]
      simp only [ifsL]
      rw [this]
      cases upL l true a with
      | none => rfl
      | some u =>
        cases ifsL l (ns.take k) with
        | none => rfl
        | some r => cases upL l true n <;> rfl
theorem ifsL_take {l : List XCls} {ns : List Bs} {k : Nat} (h : ifsL l (ns.take k) = none) : ifsL l ns = none := by
  induction ns generalizing k with
  | nil => simp [ifsL] at h
  | cons a ns ih =>
    cases k with
    | zero => simp [ifsL] at h
    | succ k =>
      rw [List.take_succ_cons] at h
      simp only [ifsL] at h ⊢
      cases hu : upL l true a with
      | none => rfl
      | some u =>
        rw [hu] at h
        cases hr : ifsL l (ns.take k) with
        | none => rw [ih hr]; rfl
        | some r => simp [hr] at h
theorem growL_step {l cs : List XCls} {k : Nat} {c : XCls} (h : cs[k]? = some c) : growL l (cs.take (k + 1)) = match growL l (cs.take k), upsL l c with | some r, some u => some (r ++ [u]) | _, _ => none := by
  induction cs generalizing k with
  | nil => simp at h
  | cons a cs ih =>
    cases k with
    | zero =>
      simp at h; subst h
      simp only [Nat.zero_add, List.take_succ_cons, List.take_zero, growL]
      cases upsL l a <;> rfl
    | succ k =>
      have := ih (k := k) (by simpa using h)
      rw [List.take_succ_cons, List.take_succ_cons]
      simp only [growL]
      rw [this]
      cases upsL l a with
      | none => rfl
      | some u =>
        cases growL l (cs.take k) with
        | none => rfl
        | some r => cases upsL l c <;> rfl
theorem growL_take {l cs : List XCls} {k : Nat} (h : growL l (cs.take k) = none) : growL l cs = none := by
  induction cs generalizing k with
  | nil => simp [growL] at h
  | cons a cs ih =>
    cases k with
    | zero => simp [growL] at h
    | succ k =>
      rw [List.take_succ_cons] at h
      simp only [growL] at h ⊢
      cases hu : upsL l a with
      | none => rfl
      | some u =>
        rw [hu] at h
        cases hr : growL l (cs.take k) with
        | none => rw [ih hr]; rfl
        | some r => simp [hr] at h
theorem growL_len {l cs : List XCls} {r : List (List Nat)} (h : growL l cs = some r) : r.length = cs.length := by
  induction cs generalizing r with
  | nil => simp [growL] at h; subst h; rfl
  | cons a cs ih =>
    simp only [growL] at h
    cases hu : upsL l a with
    | none => rw [hu] at h; cases h
    | some u =>
      rw [hu] at h
      cases hr : growL l cs with
      | none => rw [hr] at h; cases h
      | some s => rw [hr] at h; cases h; simp [ih hr]
theorem growL_at {l cs : List XCls} {r : List (List Nat)} (h : growL l cs = some r) {k : Nat} {c : XCls} (hc : cs[k]? = some c) : ∃ u, r[k]? = some u ∧ upsL l c = some u := by
  induction cs generalizing r k with
  | nil => simp at hc
  | cons a cs ih =>
    simp only [growL] at h
    cases hu : upsL l a with
    | none => rw [hu] at h; cases h
    | some u =>
      rw [hu] at h
      cases hr : growL l cs with
      | none => rw [hr] at h; cases h
      | some s =>
        rw [hr] at h; cases h
        cases k with
        | zero => simp at hc; subst hc; exact ⟨u, rfl, hu⟩
        | succ k => obtain ⟨v, h1, h2⟩ := ih hr (k := k) (by simpa using hc); exact ⟨v, by simpa using h1, h2⟩
theorem upL_lt {l : List XCls} {b : Bool} {n : Bs} {k : Nat} (h : upL l b n = some k) : k < l.length ∧ placeL l n = some k ∧ ∃ c, l[k]? = some c ∧ c.iface = b := by
  unfold upL at h
  cases hp : placeL l n with
  | none => rw [hp] at h; cases h
  | some m =>
    rw [hp] at h
    obtain ⟨c, h1, h2, h3⟩ := placeL_lt hp
    simp only [h1] at h
    split at h
    · cases h; exact ⟨(List.getElem?_eq_some_iff.1 h1).1, rfl, c, h1, by assumption⟩
    · cases h
theorem ifsL_lt {l : List XCls} {ns : List Bs} {r : List Nat} (h : ifsL l ns = some r) : ∀ k ∈ r, k < l.length := by
  induction ns generalizing r with
  | nil => simp [ifsL] at h; subst h; simp
  | cons a ns ih =>
    simp only [ifsL] at h
    cases hu : upL l true a with
    | none => rw [hu] at h; cases h
    | some u =>
      rw [hu] at h
      cases hr : ifsL l ns with
      | none => rw [hr] at h; cases h
      | some s =>
        rw [hr] at h; cases h
        intro k hk
        rcases List.mem_cons.1 hk with rfl | hk
        · exact (upL_lt hu).1
        · exact ih hr k hk
theorem upsL_lt {l : List XCls} {c : XCls} {r : List Nat} (h : upsL l c = some r) : ∀ k ∈ r, k < l.length := by
  unfold upsL at h
  cases hs : supL l c with
  | none => rw [hs] at h; cases h
  | some a =>
    rw [hs] at h
    cases hi : ifsL l c.ifaces with
    | none => rw [hi] at h; cases h
    | some b =>
      rw [hi] at h; cases h
      intro k hk
      rcases List.mem_append.1 hk with hk | hk
      · unfold supL at hs
        cases hsu : superL c with
        | none => rw [hsu] at hs; cases hs; simp at hk
        | some n =>
          rw [hsu] at hs
          cases hu : upL l false n with
          | none => simp only [hu] at hs; cases hs
          | some u => simp only [hu] at hs; cases hs; simp at hk; subst hk; exact (upL_lt hu).1
      · exact ifsL_lt hi k hk
theorem growL_lt {l cs : List XCls} {r : List (List Nat)} (h : growL l cs = some r) : ∀ u ∈ r, ∀ k ∈ u, k < l.length := by
  induction cs generalizing r with
  | nil => simp [growL] at h; subst h; simp
  | cons a cs ih =>
    simp only [growL] at h
    cases hu : upsL l a with
    | none => rw [hu] at h; cases h
    | some u =>
      rw [hu] at h
      cases hr : growL l cs with
      | none => rw [hr] at h; cases h
      | some s =>
        rw [hr] at h; cases h
        intro v hv
        rcases List.mem_cons.1 hv with rfl | hv
        · exact upsL_lt hu
        · exact ih hr v hv
def Step (up : List (List Nat)) (i j : Nat) : Prop := ∃ u, up[i]? = some u ∧ j ∈ u
def FarN (up : List (List Nat)) : Nat → Nat → Nat → Prop
  | 0, i, j => Step up i j
  | n + 1, i, k => ∃ j, FarN up n i j ∧ Step up j k
def Far (up : List (List Nat)) (i j : Nat) : Prop := ∃ n, FarN up n i j
theorem Far.one {up : List (List Nat)} {i j : Nat} (h : Step up i j) : Far up i j := ⟨0, h⟩
theorem Far.more {up : List (List Nat)} {i j k : Nat} (h : Far up i j) (s : Step up j k) : Far up i k := by
  obtain ⟨n, h⟩ := h; exact ⟨n + 1, j, h, s⟩
theorem Far.ind {up : List (List Nat)} {C : Nat → Nat → Prop} (one : ∀ {i j : Nat}, Step up i j → C i j) (more : ∀ {i j k : Nat}, Far up i j → Step up j k → C i j → C i k) {i j : Nat} (h : Far up i j) : C i j := by
  obtain ⟨n, h⟩ := h
  induction n generalizing j with
  | zero => exact one h
  | succ n ih => obtain ⟨m, h1, h2⟩ := h; exact more ⟨n, h1⟩ h2 (ih h1)
theorem Far.trans {up : List (List Nat)} {i j k : Nat} (h : Far up i j) (h' : Far up j k) : Far up i k := by
  revert h
  refine Far.ind (C := fun j k => Far up i j → Far up i k) (fun s h => .more h s) (fun _ s ih h => .more (ih h) s) h'
def Ring (up : List (List Nat)) : Prop := ∃ i, Far up i i
end Hr
end Go.Proofs.YtbbbnciejmdpfaaGreatDoor
namespace Go.Proofs.YtbbbnciejmdpfaaGreatDoor
open Go.RowKit
namespace Hr
theorem row_at {α : Type} {W : World} {sz : Nat} {P : α → List Value → Prop} {a : Option Addr} {n c : Nat} {l : List α} (h : RowX W sz P (.slice a n c) l) {k : Nat} {x : α} (hx : l[k]? = some x) : ∃ b o, a = some ⟨b, o, none⟩ ∧ ∃ ys, P x ys ∧ ∀ wx, Below W.heap.size W wx → ∀ (j : Nat) (u : Value), ys[j]? = some u → wx.cell? ⟨b, o + k * sz + j, none⟩ = some u := by
  obtain ⟨a', c', e, hc, h⟩ := h
  injection e with e1 e2 e3
  subst e1
  rcases h with rfl | ⟨b, o, rfl, hlt, hr⟩
  · simp at hx
  · obtain ⟨ys, h1, h2⟩ := hr k x hx
    exact ⟨b, o, rfl, ys, h1, fun wx hb j u hj => (hb.cell (by exact hlt)).trans (h2 j u hj)⟩
end Hr
theorem superOf_any (c : Pp.XCls) (ys : List Value) (w : World) (h : ClsX w c ys) :
    Calls Tryz.prog 80 #[.agg ys.toArray] w fun e w' => e = .returned (.tuple #[.string ⟨(Hr.pairS (Hr.superL c)).1.toArray⟩, .bool (Hr.pairS (Hr.superL c)).2]) ∧ Below w.heap.size w w' := by
  obtain ⟨vp, vc, vk, rfl, p1, i1, k1, z1⟩ := h
  clear p1 i1 k1
  simp only [clsXL, List.toArray]
  by_cases hi : c.iface = true
  · have hr : Hid (Hr.superL c = none) := hide (by simp [Hr.superL, hi])
    rw [hi]
    generalize (⟨c.name.toArray⟩ : ByteArray) = y0
    generalize (⟨c.super.toArray⟩ : ByteArray) = y2
    rw [hr.out]
    go_enter Tryz.func80, Tryz.ntmps80
    go_wp2
    go_ret2
    exact ⟨rfl, (Below.refl _ _).alloc (Nat.le_refl _) _⟩
  · have hi' : c.iface = false := by simpa using hi
    by_cases hn : c.name = Hr.objN
    · have hr : Hid (Hr.superL c = none) := hide (by simp [Hr.superL, hn])
      rw [hi', hn, hr.out]
      generalize (⟨c.super.toArray⟩ : ByteArray) = y2
      go_enter Tryz.func80, Tryz.ntmps80
      go_wp2
      go_ret2
      exact ⟨rfl, (Below.refl _ _).alloc (Nat.le_refl _) _⟩
    · have hne : (c.name == Hr.objN) = false := by simp [hn]
      simp only [Hr.objN] at hne
      by_cases hs : c.super = []
      · have hr : Hid (Hr.superL c = some Hr.objN) := hide (by simp [Hr.superL, hn, hi', hs])
        rw [hi', hs, hr.out]
        generalize c.name = y0 at *
        go_enter Tryz.func80, Tryz.ntmps80
        go_wp2
        go_ret2
        exact ⟨rfl, (Below.refl _ _).alloc (Nat.le_refl _) _⟩
      · have hse : (c.super == []) = false := by simp [hs]
        have hr : Hid (Hr.superL c = some c.super) := hide (by simp [Hr.superL, hn, hi', hs])
        rw [hi', hr.out]
        simp only [Hr.pairS]
        clear hr hs hn
        generalize c.name = y0 at *
        generalize c.super = y2 at *
        go_enter Tryz.func80, Tryz.ntmps80
        go_wp2
        go_ret2
        exact ⟨rfl, (Below.refl _ _).alloc (Nat.le_refl _) _⟩
theorem place_any (l : List Pp.XCls) (v : Value) (n : Pp.Bs) (w : World) (h : RowX w 6 (ClsX w) v l) (hlen : l.length ≤ maxLen) :
    Calls Tryz.prog 38 #[v, .string ⟨n.toArray⟩] w fun e w' => e = .returned (.tuple #[.int .i64 (Hr.pairP (Hr.placeL l n)).1, .bool (Hr.pairP (Hr.placeL l n)).2]) ∧ Below w.heap.size w w' := by
  obtain ⟨pa, pc, rfl, _⟩ := h.len
  have H := hide h
  obtain ⟨m, hm⟩ : ∃ m, m = l.length := ⟨_, rfl⟩
  have HM := hide hm
  rw [← hm] at H hlen ⊢
  clear h hm
  have hmx : (m : Int) ≤ 9223372036854775807 := by unfold maxLen at hlen; omega
  go_enter Tryz.func38, Tryz.ntmps38
  go_wp2_with fail
  go_loopw [10] (fun i wr => ∃ k : Nat, k ≤ m ∧ i = .int .i64 k ∧ Below w.heap.size w wr ∧ Hid (∀ (j : Nat) (d : Pp.XCls), j < k → l[j]? = some d → d.name ≠ n)) (fun i _ => m - (intOf i).toNat)
  case atStart => exact ⟨0, by omega, rfl, Below.refl _ _, hide fun j d hj => absurd hj (Nat.not_lt_zero _)⟩
  case round =>
    obtain ⟨k, hk, rfl, hbw, hp⟩ := hrel
    by_cases hlt : k < m
    · obtain ⟨x, hx⟩ : ∃ x, l[k]? = some x := ⟨l[k]'(by rw [← HM.out]; exact hlt), List.getElem?_eq_getElem _⟩
      obtain ⟨g1, o1, rfl, ys1, w1', hc1⟩ := Hr.row_at H.out hx
      have hG := hide (hc1 wr hbw)
      clear hc1
      obtain ⟨vp, vc, vk, rfl, x1, x2, x3, _⟩ := w1'
      obtain ⟨va1, vd1, rfl, _⟩ := x1.len
      obtain ⟨va2, vd2, rfl, _⟩ := x2.len
      obtain ⟨va3, vd3, rfl, _⟩ := x3.len
      clear x1 x2 x3
      have r0 := hG.out 0 _ rfl
      have r1 := hG.out 1 _ rfl
      have r2 := hG.out 2 _ rfl
      have r3 := hG.out 3 _ rfl
      have r4 := hG.out 4 _ rfl
      have r5 := hG.out 5 _ rfl
      rw [Nat.add_zero] at r0
      clear hG
      have hlt' : (k : Int) < (m : Int) := by omega
      generalize x.iface = y1 at *
      generalize (⟨x.super.toArray⟩ : ByteArray) = y2 at *
      generalize x.ifaces.length = n1 at *
      generalize x.fields.length = n2 at *
      generalize x.methods.length = n3 at *
      by_cases hn : x.name = n
      · have hr := hide (Hr.placeL_at hx hn hp.out)
        rw [hn] at r0
        clear hx hn
        go_wp2
        go_ret2
        rw [hr.out]
        exact ⟨rfl, hbw.alloc hbw.size _⟩
      · have hne : (x.name == n) = false := by simp [hn]
        have hr : Hid (∀ (j : Nat) (d : Pp.XCls), j < k + 1 → l[j]? = some d → d.name ≠ n) := hide fun j d hj hd => by
          rcases Nat.lt_or_eq_of_le (Nat.le_of_lt_succ hj) with h | rfl
          · exact hp.out j d h hd
          · rw [hx] at hd; cases hd; exact hn
        clear hx hn hp
        generalize x.name = y0 at *
        go_wp2
        go_roundw
        case rel => exact ⟨k + 1, by omega, by go_num, hbw.alloc hbw.size _, hr⟩
        case measure => simp [intOf]; omega
    · have hr : Hid (Hr.placeL l n = none) := hide (Hr.placeL_none.2 fun j d hd => hp.out j d (by have := (List.getElem?_eq_some_iff.1 hd).1; have := HM.out; omega) hd)
      go_wp2
      go_ret2
      rw [hr.out]
      exact ⟨rfl, hbw⟩
theorem twice_any (l : List Pp.XCls) (v : Value) (w : World) (h : RowX w 6 (ClsX w) v l) (hlen : l.length ≤ maxLen) :
    Calls Tryz.prog 74 #[v] w fun e w' => e = .returned (.bool (!Hr.oneB l)) ∧ Below w.heap.size w w' := by
  have HP := hide (fun (n : Pp.Bs) wx (hb : Below w.heap.size w wx) => place_any l v n wx (h.on hb fun _ _ h => h.on hb) hlen)
  obtain ⟨pa, pc, rfl, _⟩ := h.len
  have H := hide h
  obtain ⟨m, hm⟩ : ∃ m, m = l.length := ⟨_, rfl⟩
  have HM := hide hm
  rw [← hm] at H hlen HP ⊢
  clear h hm
  have hmx : (m : Int) ≤ 9223372036854775807 := by unfold maxLen at hlen; omega
  go_enter Tryz.func74, Tryz.ntmps74
  go_wp2_with fail
  go_loopw [9] (fun i wr => ∃ k : Nat, k ≤ m ∧ i = .int .i64 k ∧ Below w.heap.size w wr ∧ Hid (∀ (j : Nat) (d : Pp.XCls), j < k → l[j]? = some d → Hr.placeL l d.name = some j)) (fun i _ => m - (intOf i).toNat)
  case atStart => exact ⟨0, by omega, rfl, Below.refl _ _, hide fun j d hj => absurd hj (Nat.not_lt_zero _)⟩
  case round =>
    obtain ⟨k, hk, rfl, hbw, hp⟩ := hrel
    by_cases hlt : k < m
    · obtain ⟨x, hx⟩ : ∃ x, l[k]? = some x := ⟨l[k]'(by rw [← HM.out]; exact hlt), List.getElem?_eq_getElem _⟩
      obtain ⟨g1, o1, rfl, ys1, w1', hc1⟩ := Hr.row_at H.out hx
      have hG := hide (hc1 wr hbw)
      clear hc1
      obtain ⟨vp, vc, vk, rfl, x1, x2, x3, _⟩ := w1'
      obtain ⟨va1, vd1, rfl, _⟩ := x1.len
      obtain ⟨va2, vd2, rfl, _⟩ := x2.len
      obtain ⟨va3, vd3, rfl, _⟩ := x3.len
      clear x1 x2 x3
      have r0 := hG.out 0 _ rfl
      have r1 := hG.out 1 _ rfl
      have r2 := hG.out 2 _ rfl
      have r3 := hG.out 3 _ rfl
      have r4 := hG.out 4 _ rfl
      have r5 := hG.out 5 _ rfl
      rw [Nat.add_zero] at r0
      clear hG
      have hlt' : (k : Int) < (m : Int) := by omega
      have HC := hide (fun wx (hb : Below w.heap.size w wx) => HP.out x.name wx hb)
      have hst : Hid (Hr.placeL l x.name = some k → ∀ (j : Nat) (d : Pp.XCls), j < k + 1 → l[j]? = some d → Hr.placeL l d.name = some j) := hide fun he j d hj hd => by
          rcases Nat.lt_or_eq_of_le (Nat.le_of_lt_succ hj) with h | rfl
          · exact hp.out j d h hd
          · rw [hx] at hd; cases hd; exact he
      have hpl : ∃ q c, Hr.placeL l x.name = some q ∧ l[q]? = some c ∧ q ≤ k := by
        cases hq : Hr.placeL l x.name with
        | none => exact absurd rfl (Hr.placeL_none.1 hq k x hx)
        | some q =>
          obtain ⟨c, h1, h2, h3⟩ := Hr.placeL_lt hq
          refine ⟨q, c, rfl, h1, ?_⟩
          rcases Nat.lt_or_ge k q with h | h
          · exact absurd rfl (h3 k x h hx)
          · exact h
      obtain ⟨q, cq, hq, _, hqk⟩ := hpl
      have hno : Hid (q ≠ k → Hr.oneB l = false) := hide fun hne => by
        cases hb : Hr.oneB l with
        | false => rfl
        | true =>
          have := (Hr.oneB_iff l).1 hb k x hx
          rw [hq] at this
          cases this
          exact absurd rfl hne
      rw [hq] at hst
      have HQ : Hid (∀ wx, Below w.heap.size w wx → Calls Tryz.prog 38 #[.slice (some ⟨g1, o1, none⟩) m pc, .string ⟨x.name.toArray⟩] wx fun e w' => e = .returned (.tuple #[.int .i64 q, .bool true]) ∧ Below wx.heap.size wx w') := hide fun wx hb => by
        have := HC.out wx hb
        rw [hq] at this
        exact this
      clear HC hq hx
      generalize (⟨x.name.toArray⟩ : ByteArray) = y0 at *
      generalize x.iface = y1 at *
      generalize (⟨x.super.toArray⟩ : ByteArray) = y2 at *
      generalize x.ifaces.length = n1 at *
      generalize x.fields.length = n2 at *
      generalize x.methods.length = n3 at *
      have HB := hide hbw
      by_cases hne : q = k
      · have hr := hst.out (by rw [hne])
        subst hne
        clear hst hno
        go_wp2_with fail
        refine (HQ.out _ (HB.out.alloc HB.out.size _)).mono ?_
        rintro e wq ⟨rfl, hbq⟩
        have HW := hide ((HB.out.alloc HB.out.size (.cells #[.string y0, .bool y1, .string y2, .slice va1 n1 vd1, .slice va2 n2 vd2, .slice va3 n3 vd3] 42)).trans (hbq.mono (HB.out.alloc HB.out.size _).size))
        clear HQ hbq HB hbw
        go_wp2_with fail
        go_roundw
        case rel => exact ⟨q + 1, by omega, by go_num, HW.out, hide hr⟩
        case measure => simp [intOf]; omega
      · have hr := hide (hno.out hne)
        have hne' : (q : Int) ≠ (k : Int) := by omega
        clear hst hno
        go_wp2_with fail
        refine (HQ.out _ (HB.out.alloc HB.out.size _)).mono ?_
        rintro e wq ⟨rfl, hbq⟩
        have HW := hide ((HB.out.alloc HB.out.size (.cells #[.string y0, .bool y1, .string y2, .slice va1 n1 vd1, .slice va2 n2 vd2, .slice va3 n3 vd3] 42)).trans (hbq.mono (HB.out.alloc HB.out.size _).size))
        clear HQ hbq HB hbw
        go_wp2_with fail
        go_ret
        rw [hr.out]
        exact ⟨rfl, HW.out⟩
    · have hr : Hid (Hr.oneB l = true) := hide ((Hr.oneB_iff l).2 fun j d hd => hp.out j d (by have := (List.getElem?_eq_some_iff.1 hd).1; have := HM.out; omega) hd)
      go_wp2
      go_ret
      rw [hr.out]
      exact ⟨rfl, hbw⟩
end Go.Proofs.YtbbbnciejmdpfaaGreatDoor
namespace Go.Proofs.YtbbbnciejmdpfaaGreatDoor
open Go.RowKit
namespace Hr
def IntX (n : Nat) (ys : List Value) : Prop := ys = [.int .i64 n]
theorem shp_int : Ow.Shp IntX 1 := by rintro x ys rfl; exact ⟨rfl, by intro u hu; simp at hu; subst hu; rfl⟩
theorem i_int : (Tryz.prog.info? 3).map (fun i => (i.zero.map (fun z => z.cells.size), i.size, i.bytes)) = some (some 1, 1, 8) := by kernel_rfl
theorem row_one {α : Type} {W : World} {sz : Nat} {P : α → List Value → Prop} {x : α} {c : Array Value} {t : TypeId} {f : Nat × Nat} {b : Nat} (hb : W.heap[b]? = some (.cells c t f)) (hx : P x c.toList) : RowX W sz P (.slice (some ⟨b, 0, none⟩) 1 1) [x] := by
  refine ⟨_, _, rfl, by simp, .inr ⟨b, 0, rfl, Ow.lt_of_blk hb, fun k y hk => ?_⟩⟩
  cases k with
  | succ k => simp at hk
  | zero =>
    simp at hk; subst hk
    refine ⟨_, hx, fun j u hj => ?_⟩
    simp only [Nat.zero_mul, Nat.zero_add]
    rw [cell_box hb]
    simpa using hj
theorem at_c {W : World} {c : Pp.XCls} {ys : List Value} (h : ClsX W c ys) : ∃ va1 vd1 va2 vd2 va3 vd3, ys = [.string ⟨c.name.toArray⟩, .bool c.iface, .string ⟨c.super.toArray⟩, .slice va1 c.ifaces.length vd1, .slice va2 c.fields.length vd2, .slice va3 c.methods.length vd3] := by
  obtain ⟨vp, vc, vk, rfl, p1, i1, k1, z1⟩ := h
  obtain ⟨va1, vd1, rfl, _⟩ := p1.len
  obtain ⟨va2, vd2, rfl, _⟩ := i1.len
  obtain ⟨va3, vd3, rfl, _⟩ := k1.len
  exact ⟨va1, vd1, va2, vd2, va3, vd3, rfl⟩
theorem upL_some {l : List Pp.XCls} {b : Bool} {n : Pp.Bs} {k : Nat} {c : Pp.XCls} (hp : placeL l n = some k) (hc : l[k]? = some c) : upL l b n = if c.iface = b then some k else none := by
  unfold upL; rw [hp]; simp only [hc]
theorem upL_none {l : List Pp.XCls} {b : Bool} {n : Pp.Bs} (hp : placeL l n = none) : upL l b n = none := by
  unfold upL; rw [hp]
end Hr
theorem ups_any (l : List Pp.XCls) (v : Value) (c : Pp.XCls) (ys : List Value) (w : World) (h : RowX w 6 (ClsX w) v l) (hlen : l.length ≤ 1000) (hc : ClsX w c ys) (hi : c.ifaces.length ≤ 1000) :
    Calls Tryz.prog 75 #[v, .agg ys.toArray] w fun e w' => (∃ v', e = .returned (.tuple #[v', .bool (Hr.upsL l c).isSome]) ∧ Ow.OwnX w' w.heap.size 3 1 Hr.IntX v' ((Hr.upsL l c).getD [])) ∧ Below w.heap.size w w' := by
  have HS := hide (fun wx (hb : Below w.heap.size w wx) => superOf_any c ys wx (hc.on hb))
  have HP := hide (fun (n : Pp.Bs) wx (hb : Below w.heap.size w wx) => place_any l v n wx (h.on hb fun _ _ h => h.on hb) (by unfold maxLen; omega))
  have HI := hide hc
  obtain ⟨va1, vd1, va2, vd2, va3, vd3, rfl⟩ := Hr.at_c hc
  obtain ⟨ux1, ux2, ux3, hux, hii, _⟩ := hc
  simp only [clsXL, List.cons.injEq, and_true, true_and] at hux
  obtain ⟨rfl, rfl, rfl⟩ := hux
  have HN := hide hii
  clear hii
  have H := hide h
  obtain ⟨i0, hi1, hz0, hz1, hz2⟩ := Ow.info_of Hr.i_int
  obtain ⟨pa, pc, rfl, _⟩ := h.len
  obtain ⟨m, hm⟩ : ∃ m, m = l.length := ⟨_, rfl⟩
  have HM := hide hm
  rw [← hm] at H HP hlen ⊢
  clear h hm
  obtain ⟨q, hq⟩ : ∃ q, q = c.ifaces.length := ⟨_, rfl⟩
  have HQ := hide hq
  rw [← hq] at HS HN hi ⊢
  clear hq HI
  have hx0 := heap_alloc_new w (.cells #[.string ⟨c.name.toArray⟩, .bool c.iface, .string ⟨c.super.toArray⟩, .slice va1 q vd1, .slice va2 c.fields.length vd2, .slice va3 c.methods.length vd3] 42)
  have HB0 := hide ((Below.refl w.heap.size w).alloc (Nat.le_refl _) (.cells #[.string ⟨c.name.toArray⟩, .bool c.iface, .string ⟨c.super.toArray⟩, .slice va1 q vd1, .slice va2 c.fields.length vd2, .slice va3 c.methods.length vd3] 42))
  cases hs : Hr.superL c with
  | none =>
    have hS : Hid (Hr.supL l c = some []) := hide (by unfold Hr.supL; rw [hs])
    rw [hs] at HS
    simp only [Hr.pairS] at HS
    clear hs
    have HX0 := hide hx0
    clear hx0
    go_enter Tryz.func75, Tryz.ntmps75
    go_wp2_with fail
    have hx0 := HX0.out
    generalize w.alloc (.cells #[.string ⟨c.name.toArray⟩, .bool c.iface, .string ⟨c.super.toArray⟩, .slice va1 q vd1, .slice va2 c.fields.length vd2, .slice va3 c.methods.length vd3] 42) = w0 at *
    have HC : Hid (∀ wx, Below w0.heap.size w0 wx → ∀ k : Nat, wx.cell? ⟨w.heap.size, k, none⟩ = #[.string ⟨c.name.toArray⟩, .bool c.iface, .string ⟨c.super.toArray⟩, .slice va1 q vd1, .slice va2 c.fields.length vd2, .slice va3 c.methods.length vd3][k]?) := hide fun wx hb k => cell_box ((hb.block w.heap.size (Ow.lt_of_blk hx0)).trans hx0) k
    clear hx0 HX0
    refine (HS.out w0 HB0.out).mono ?_
    rintro e w1 ⟨rfl, hb1⟩
    have HW := hide hb1
    obtain ⟨s0, hs0⟩ : ∃ s : List Nat, s = [] := ⟨_, rfl⟩
    have HO : Hid (Ow.OwnX w1 w0.heap.size 3 1 Hr.IntX (.slice none 0 0) s0) := hide (by rw [hs0]; exact Ow.OwnX.nil _ _ _ _ _)
    rw [← hs0] at hS
    have HSl : Hid (s0.length ≤ 1) := hide (by simp [hs0])
    clear hs0 hb1 HS
    have e3 := HC.out w1 HW.out 3
    simp at e3
    go_wp2_with fail
    go_loopw [6, 43] (fun lv i wr => ∃ (k : Nat) (r acc : List Nat), k ≤ q ∧ i = .int .i64 k ∧ Hid (Below w0.heap.size w0 wr) ∧ Hid (Ow.OwnX wr w0.heap.size 3 1 Hr.IntX lv acc) ∧ Hid (Hr.ifsL l (c.ifaces.take k) = some r) ∧ Hid (r.length = k) ∧ Hid (acc = s0 ++ r)) (fun lv i _ => q - (intOf i).toNat)
    case atStart => exact ⟨0, [], s0, Nat.zero_le _, rfl, HW, HO, hide rfl, hide rfl, hide (by simp)⟩
    case round =>
      obtain ⟨k, r, acc, hk, rfl, HBr, HOr, HF, hrk, hacc⟩ := hrel
      have hmax : (q : Int) ≤ 1000 := by omega
      have HBw := hide (HB0.out.trans (HBr.out.mono HB0.out.size))
      obtain ⟨la, lc, rfl⟩ := HOr.out.shape
      by_cases hlt : k < q
      · obtain ⟨x, hx⟩ : ∃ x, c.ifaces[k]? = some x := ⟨c.ifaces[k]'(by rw [← HQ.out]; exact hlt), List.getElem?_eq_getElem _⟩
        obtain ⟨g1, o1, rfl, ys1, ⟨rfl, _⟩, hc1⟩ := Hr.row_at HN.out hx
        have r0 := hc1 wr HBw.out 0 _ rfl
        simp only [Nat.mul_one, Nat.add_zero] at r0
        clear hc1
        have HPx := hide (HP.out x)
        have HST := hide (Hr.ifsL_step (l := l) hx)
        have hlt' : (k : Int) < (q : Int) := by omega
        cases hp : Hr.placeL l x with
        | none =>
          have HR : Hid (Hr.upsL l c = none) := hide (by
            have h1 := HST.out
            rw [HF.out, Hr.upL_none hp] at h1
            have h2 := Hr.ifsL_take h1
            unfold Hr.upsL; rw [hS.out]; simp only; rw [h2]; rfl)
          rw [hp] at HPx
          simp only [Hr.pairP] at HPx
          clear hp hx HST HF
          generalize (⟨x.toArray⟩ : ByteArray) = xb at *
          go_wp2_with fail
          refine (HPx.out _ HBw.out).mono ?_
          rintro e w5 ⟨rfl, hb5⟩
          have HB5 := hide (HBw.out.trans (hb5.mono HBw.out.size))
          clear hb5 HPx
          go_wp2_with fail
          refine bodyPost_ret (v := .tuple #[.slice none 0 0, .bool false]) (by simp [results, Tryz.results75, go_sem]) rfl ?_
          rw [HR.out]
          exact ⟨⟨_, rfl, Ow.OwnX.nil _ _ _ _ _⟩, HB5.out⟩
        | some j =>
          obtain ⟨d, hd, _⟩ := Hr.placeL_lt hp
          have hjm : j < m := by rw [HM.out]; exact (List.getElem?_eq_some_iff.1 hd).1
          have HU := hide (Hr.upL_some (b := true) hp hd)
          obtain ⟨g2, o2, eg2, ys2, w2', hc2⟩ := Hr.row_at H.out hd
          cases eg2
          rw [hp] at HPx
          simp only [Hr.pairP] at HPx
          have HD1 : Hid (∀ wx, Below w.heap.size w wx → wx.cell? ⟨g2, o2 + j * 6 + 1, none⟩ = some (.bool d.iface)) := hide fun wx hb => by
            obtain ⟨_, _, _, _, _, _, rfl⟩ := Hr.at_c w2'
            exact hc2 wx hb 1 _ rfl
          have HDa : Hid (∀ wx, Below w.heap.size w wx → ∃ va1 vd1 va2 vd2 va3 vd3, wx.cell? ⟨g2, o2 + j * 6, none⟩ = some (.string ⟨d.name.toArray⟩) ∧ wx.cell? ⟨g2, o2 + j * 6 + 1, none⟩ = some (.bool d.iface) ∧ wx.cell? ⟨g2, o2 + j * 6 + 2, none⟩ = some (.string ⟨d.super.toArray⟩) ∧ wx.cell? ⟨g2, o2 + j * 6 + 3, none⟩ = some (.slice va1 d.ifaces.length vd1) ∧ wx.cell? ⟨g2, o2 + j * 6 + 4, none⟩ = some (.slice va2 d.fields.length vd2) ∧ wx.cell? ⟨g2, o2 + j * 6 + 5, none⟩ = some (.slice va3 d.methods.length vd3)) := hide fun wx hb => by
            obtain ⟨va1, vd1, va2, vd2, va3, vd3, rfl⟩ := Hr.at_c w2'
            exact ⟨va1, vd1, va2, vd2, va3, vd3, hc2 wx hb 0 _ rfl, hc2 wx hb 1 _ rfl, hc2 wx hb 2 _ rfl, hc2 wx hb 3 _ rfl, hc2 wx hb 4 _ rfl, hc2 wx hb 5 _ rfl⟩
          clear hc2 w2' hp hd hx
          generalize (⟨x.toArray⟩ : ByteArray) = xb at *
          have hjm' : (j : Int) < (m : Int) := by omega
          have hm1 : (m : Int) ≤ 1000 := by omega
          by_cases hif : d.iface = true
          · have HR : Hid (Hr.ifsL l (c.ifaces.take (k + 1)) = some (r ++ [j])) := hide (by rw [HST.out, HF.out, HU.out, hif]; rfl)
            rw [hif] at HD1 HDa
            clear HST HF HU
            go_wp2_with fail
            refine (HPx.out _ HBw.out).mono ?_
            rintro e w5 ⟨rfl, hb5⟩
            have HB5 := hide (HBr.out.trans (hb5.mono HBr.out.size))
            have HO5 := hide (HOr.out.on hb5 fun _ _ h => h)
            have d1 := HD1.out w5 (HBw.out.trans (hb5.mono HBw.out.size))
            clear hb5 HPx HBw HBr HOr
            go_wp2_with (at_builtin; refine Ow.wpList_app rfl (.tmp 63) (.tmp 65) 116 rfl Tryz.underlying116 hi1 hz0 hz1 hz2 (by decide) Hr.shp_int rfl ((HO5.out).on ((Below.refl _ _).alloc (Nat.le_refl _) (.cells #[.int .i64 j] 3)) fun _ _ h => h) rfl (Hr.row_one (sz := 1) (heap_alloc_new w5 (.cells #[.int .i64 j] 3)) rfl) ?c1 (by decide) ?c2 ?_)
            case c1 => have := HSl.out; have := hrk.out; have := hacc.out; subst this; simp; omega
            case c2 => simp; have := HB5.out.size; omega
            · intro v' w10 hown hgrow
              have hb10 := Ow.bel_grown ((HO5.out).on ((Below.refl _ _).alloc (Nat.le_refl _) (.cells #[.int .i64 j] 3)) fun _ _ h => h) (by simp; have := HB5.out.size; omega) hgrow
              have HB10 := hide ((HB5.out.trans ((Below.refl _ _).alloc HB5.out.size _)).trans hb10)
              have HO10 := hide hown
              clear hown hgrow hb10 HB5 HO5 d1
              go_wp2_with fail
              go_roundw
              case rel => first | exact ⟨k + 1, r ++ [j], acc ++ [j], by omega, by go_num, HB10, HO10, HR, hide (by have := hrk.out; simp; omega), hide (by rw [hacc.out, List.append_assoc])⟩ | ((repeat apply Exists.intro); exact ⟨⟨k + 1, r ++ [j], acc ++ [j], by omega, by go_num, HB10, HO10, HR, hide (by have := hrk.out; simp; omega), hide (by rw [hacc.out, List.append_assoc])⟩, rfl⟩)
              case measure => simp [intOf]; omega
          · have hif' : d.iface = false := by simpa using hif
            have HR : Hid (Hr.upsL l c = none) := hide (by
              have h1 := HST.out
              rw [HF.out, HU.out, if_neg hif] at h1
              have h2 := Hr.ifsL_take h1
              unfold Hr.upsL; rw [hS.out]; simp only; rw [h2]; rfl)
            rw [hif'] at HD1 HDa
            clear HST HF HU
            go_wp2_with fail
            refine (HPx.out _ HBw.out).mono ?_
            rintro e w5 ⟨rfl, hb5⟩
            have HB5 := hide (HBw.out.trans (hb5.mono HBw.out.size))
            have d1 := HD1.out w5 (HBw.out.trans (hb5.mono HBw.out.size))
            clear hb5 HPx HBw HBr HOr
            go_wp2_with fail
            refine bodyPost_ret (v := .tuple #[.slice none 0 0, .bool false]) (by simp [results, Tryz.results75, go_sem]) rfl ?_
            rw [HR.out]
            exact ⟨⟨_, rfl, Ow.OwnX.nil _ _ _ _ _⟩, HB5.out⟩
      · have HR : Hid (Hr.upsL l c = some (s0 ++ r)) := hide (by
          have h1 := HF.out
          rw [List.take_of_length_le (by rw [← HQ.out]; omega)] at h1
          unfold Hr.upsL; rw [hS.out]; simp only; rw [h1]; rfl)
        have hnl : ¬ ((k : Int) < (q : Int)) := by omega
        clear HF
        go_wp2_with fail
        refine bodyPost_ret (v := .tuple #[.slice la acc.length lc, .bool true]) (by simp [results, Tryz.results75, go_sem]) rfl ?_
        rw [HR.out, ← hacc.out]
        exact ⟨⟨_, rfl, HOr.out.low HB0.out.size fun _ _ h => h⟩, HBw.out⟩
  | some n =>
    rw [hs] at HS
    simp only [Hr.pairS] at HS
    have HX0 := hide hx0
    clear hx0
    have HPx := hide (HP.out n)
    cases hp : Hr.placeL l n with
    | none =>
      have HR : Hid (Hr.upsL l c = none) := hide (by unfold Hr.upsL Hr.supL; rw [hs]; simp only; rw [Hr.upL_none hp]; rfl)
      rw [hp] at HPx
      simp only [Hr.pairP] at HPx
      clear hp hs
      generalize (⟨n.toArray⟩ : ByteArray) = nb at *
      go_enter Tryz.func75, Tryz.ntmps75
      go_wp2_with fail
      generalize w.alloc (.cells #[.string ⟨c.name.toArray⟩, .bool c.iface, .string ⟨c.super.toArray⟩, .slice va1 q vd1, .slice va2 c.fields.length vd2, .slice va3 c.methods.length vd3] 42) = w0 at *
      refine (HS.out w0 HB0.out).mono ?_
      rintro e w1 ⟨rfl, hb1⟩
      have HB1 := hide (HB0.out.trans (hb1.mono HB0.out.size))
      clear hb1
      go_wp2_with fail
      refine (HPx.out w1 HB1.out).mono ?_
      rintro e w5 ⟨rfl, hb5⟩
      have HB5 := hide (HB1.out.trans (hb5.mono HB1.out.size))
      clear hb5 HPx
      go_wp2_with fail
      refine bodyPost_ret (v := .tuple #[.slice none 0 0, .bool false]) (by simp [results, Tryz.results75, go_sem]) rfl ?_
      rw [HR.out]
      exact ⟨⟨_, rfl, Ow.OwnX.nil _ _ _ _ _⟩, HB5.out⟩
    | some j =>
      obtain ⟨d, hd, _⟩ := Hr.placeL_lt hp
      have hjm : j < m := by rw [HM.out]; exact (List.getElem?_eq_some_iff.1 hd).1
      have HU := hide (Hr.upL_some (b := false) hp hd)
      have HSS := hide hs
      obtain ⟨g2, o2, eg2, ys2, w2', hc2⟩ := Hr.row_at H.out hd
      subst eg2
      rw [hp] at HPx
      simp only [Hr.pairP] at HPx
      have HD1 : Hid (∀ wx, Below w.heap.size w wx → wx.cell? ⟨g2, o2 + j * 6 + 1, none⟩ = some (.bool d.iface)) := hide fun wx hb => by
        obtain ⟨_, _, _, _, _, _, rfl⟩ := Hr.at_c w2'
        exact hc2 wx hb 1 _ rfl
      clear hc2 w2' hp hd hs
      generalize (⟨n.toArray⟩ : ByteArray) = nb at *
      have hjm' : (j : Int) < (m : Int) := by omega
      have hm1 : (m : Int) ≤ 1000 := by omega
      by_cases hif : d.iface = true
      · have HR : Hid (Hr.upsL l c = none) := hide (by unfold Hr.upsL Hr.supL; rw [HSS.out]; simp only; rw [HU.out, hif]; rfl)
        rw [hif] at HD1
        clear HU HSS
        go_enter Tryz.func75, Tryz.ntmps75
        go_wp2_with fail
        generalize w.alloc (.cells #[.string ⟨c.name.toArray⟩, .bool c.iface, .string ⟨c.super.toArray⟩, .slice va1 q vd1, .slice va2 c.fields.length vd2, .slice va3 c.methods.length vd3] 42) = w0 at *
        refine (HS.out w0 HB0.out).mono ?_
        rintro e w1 ⟨rfl, hb1⟩
        have HB1 := hide (HB0.out.trans (hb1.mono HB0.out.size))
        clear hb1
        go_wp2_with fail
        refine (HPx.out w1 HB1.out).mono ?_
        rintro e w5 ⟨rfl, hb5⟩
        have HB5 := hide (HB1.out.trans (hb5.mono HB1.out.size))
        have d1 := HD1.out w5 HB5.out
        clear hb5 HPx
        go_wp2_with fail
        refine bodyPost_ret (v := .tuple #[.slice none 0 0, .bool false]) (by simp [results, Tryz.results75, go_sem]) rfl ?_
        rw [HR.out]
        exact ⟨⟨_, rfl, Ow.OwnX.nil _ _ _ _ _⟩, HB5.out⟩
      · have hif' : d.iface = false := by simpa using hif
        obtain ⟨s0, hs0⟩ : ∃ s : List Nat, s = [j] := ⟨_, rfl⟩
        have hS : Hid (Hr.supL l c = some s0) := hide (by unfold Hr.supL; rw [HSS.out]; simp only; rw [HU.out, hif', hs0]; rfl)
        rw [hif'] at HD1
        clear HU HSS
        go_enter Tryz.func75, Tryz.ntmps75
        go_wp2_with fail
        have hx0 := HX0.out
        generalize w.alloc (.cells #[.string ⟨c.name.toArray⟩, .bool c.iface, .string ⟨c.super.toArray⟩, .slice va1 q vd1, .slice va2 c.fields.length vd2, .slice va3 c.methods.length vd3] 42) = w0 at *
        have HC : Hid (∀ wx, Below w0.heap.size w0 wx → ∀ k : Nat, wx.cell? ⟨w.heap.size, k, none⟩ = #[.string ⟨c.name.toArray⟩, .bool c.iface, .string ⟨c.super.toArray⟩, .slice va1 q vd1, .slice va2 c.fields.length vd2, .slice va3 c.methods.length vd3][k]?) := hide fun wx hb k => cell_box ((hb.block w.heap.size (Ow.lt_of_blk hx0)).trans hx0) k
        clear hx0 HX0
        refine (HS.out w0 HB0.out).mono ?_
        rintro e w1 ⟨rfl, hb1⟩
        have HB1 := hide hb1
        have HB1' := hide (HB0.out.trans (hb1.mono HB0.out.size))
        clear hb1
        go_wp2_with fail
        refine (HPx.out w1 HB1'.out).mono ?_
        rintro e w5 ⟨rfl, hb5⟩
        have HB5 := hide (HB1.out.trans (hb5.mono HB1.out.size))
        have d1 := HD1.out w5 (HB1'.out.trans (hb5.mono HB1'.out.size))
        clear hb5 HPx HB1 HB1' HS HD1
        go_wp2_with (at_builtin; refine Ow.wpList_app rfl (.tmp 36) (.tmp 38) 116 rfl Tryz.underlying116 hi1 hz0 hz1 hz2 (by decide) Hr.shp_int rfl (Ow.OwnX.nil _ w0.heap.size _ _ _) rfl (Hr.row_one (sz := 1) (heap_alloc_new w5 (.cells #[.int .i64 j] 3)) rfl) ?c1 (by decide) ?c2 ?_)
        case c1 => simp
        case c2 => simp; have := HB5.out.size; omega
        · intro v' w10 hown hgrow
          have hb10 := Ow.bel_grown (Ow.OwnX.nil (w5.alloc (.cells #[.int .i64 j] 3)) w0.heap.size 3 1 Hr.IntX) (by simp; have := HB5.out.size; omega) hgrow
          have HW := hide ((HB5.out.trans ((Below.refl _ _).alloc HB5.out.size _)).trans hb10)
          have HO : Hid (Ow.OwnX w10 w0.heap.size 3 1 Hr.IntX v' s0) := hide (by rw [hs0]; exact hown)
          have HSl : Hid (s0.length ≤ 1) := hide (by simp [hs0])
          obtain ⟨wa, wc, rfl⟩ := hown.shape
          clear hown hgrow hb10 HB5 d1 hs0 hif hif' hjm hjm'
          have e3 := HC.out w10 HW.out 3
          simp at e3
          go_wp2_with fail
          go_loopw [6, 43] (fun lv i wr => ∃ (k : Nat) (r acc : List Nat), k ≤ q ∧ i = .int .i64 k ∧ Hid (Below w0.heap.size w0 wr) ∧ Hid (Ow.OwnX wr w0.heap.size 3 1 Hr.IntX lv acc) ∧ Hid (Hr.ifsL l (c.ifaces.take k) = some r) ∧ Hid (r.length = k) ∧ Hid (acc = s0 ++ r)) (fun lv i _ => q - (intOf i).toNat)
          case atStart => exact ⟨0, [], s0, Nat.zero_le _, rfl, HW, HO, hide rfl, hide rfl, hide (by simp)⟩
          case round =>
            obtain ⟨k, r, acc, hk, rfl, HBr, HOr, HF, hrk, hacc⟩ := hrel
            have hmax : (q : Int) ≤ 1000 := by omega
            have HBw := hide (HB0.out.trans (HBr.out.mono HB0.out.size))
            obtain ⟨la, lc, rfl⟩ := HOr.out.shape
            by_cases hlt : k < q
            · obtain ⟨x, hx⟩ : ∃ x, c.ifaces[k]? = some x := ⟨c.ifaces[k]'(by rw [← HQ.out]; exact hlt), List.getElem?_eq_getElem _⟩
              obtain ⟨g1, o1, rfl, ys1, ⟨rfl, _⟩, hc1⟩ := Hr.row_at HN.out hx
              have r0 := hc1 wr HBw.out 0 _ rfl
              simp only [Nat.mul_one, Nat.add_zero] at r0
              clear hc1
              have HPx := hide (HP.out x)
              have HST := hide (Hr.ifsL_step (l := l) hx)
              have hlt' : (k : Int) < (q : Int) := by omega
              cases hp : Hr.placeL l x with
              | none =>
                have HR : Hid (Hr.upsL l c = none) := hide (by
                  have h1 := HST.out
                  rw [HF.out, Hr.upL_none hp] at h1
                  have h2 := Hr.ifsL_take h1
                  unfold Hr.upsL; rw [hS.out]; simp only; rw [h2]; rfl)
                rw [hp] at HPx
                simp only [Hr.pairP] at HPx
                clear hp hx HST HF
                generalize (⟨x.toArray⟩ : ByteArray) = xb at *
                go_wp2_with fail
                refine (HPx.out _ HBw.out).mono ?_
                rintro e w5 ⟨rfl, hb5⟩
                have HB5 := hide (HBw.out.trans (hb5.mono HBw.out.size))
                clear hb5 HPx
                go_wp2_with fail
                refine bodyPost_ret (v := .tuple #[.slice none 0 0, .bool false]) (by simp [results, Tryz.results75, go_sem]) rfl ?_
                rw [HR.out]
                exact ⟨⟨_, rfl, Ow.OwnX.nil _ _ _ _ _⟩, HB5.out⟩
              | some j =>
                obtain ⟨d, hd, _⟩ := Hr.placeL_lt hp
                have hjm : j < m := by rw [HM.out]; exact (List.getElem?_eq_some_iff.1 hd).1
                have HU := hide (Hr.upL_some (b := true) hp hd)
                obtain ⟨g2, o2, eg2, ys2, w2', hc2⟩ := Hr.row_at H.out hd
                cases eg2
                rw [hp] at HPx
                simp only [Hr.pairP] at HPx
                have HD1 : Hid (∀ wx, Below w.heap.size w wx → wx.cell? ⟨g2, o2 + j * 6 + 1, none⟩ = some (.bool d.iface)) := hide fun wx hb => by
                  obtain ⟨_, _, _, _, _, _, rfl⟩ := Hr.at_c w2'
                  exact hc2 wx hb 1 _ rfl
                have HDa : Hid (∀ wx, Below w.heap.size w wx → ∃ va1 vd1 va2 vd2 va3 vd3, wx.cell? ⟨g2, o2 + j * 6, none⟩ = some (.string ⟨d.name.toArray⟩) ∧ wx.cell? ⟨g2, o2 + j * 6 + 1, none⟩ = some (.bool d.iface) ∧ wx.cell? ⟨g2, o2 + j * 6 + 2, none⟩ = some (.string ⟨d.super.toArray⟩) ∧ wx.cell? ⟨g2, o2 + j * 6 + 3, none⟩ = some (.slice va1 d.ifaces.length vd1) ∧ wx.cell? ⟨g2, o2 + j * 6 + 4, none⟩ = some (.slice va2 d.fields.length vd2) ∧ wx.cell? ⟨g2, o2 + j * 6 + 5, none⟩ = some (.slice va3 d.methods.length vd3)) := hide fun wx hb => by
                  obtain ⟨va1, vd1, va2, vd2, va3, vd3, rfl⟩ := Hr.at_c w2'
                  exact ⟨va1, vd1, va2, vd2, va3, vd3, hc2 wx hb 0 _ rfl, hc2 wx hb 1 _ rfl, hc2 wx hb 2 _ rfl, hc2 wx hb 3 _ rfl, hc2 wx hb 4 _ rfl, hc2 wx hb 5 _ rfl⟩
                clear hc2 w2' hp hd hx
                generalize (⟨x.toArray⟩ : ByteArray) = xb at *
                have hjm' : (j : Int) < (m : Int) := by omega
                have hm1 : (m : Int) ≤ 1000 := by omega
                by_cases hif : d.iface = true
                · have HR : Hid (Hr.ifsL l (c.ifaces.take (k + 1)) = some (r ++ [j])) := hide (by rw [HST.out, HF.out, HU.out, hif]; rfl)
                  rw [hif] at HD1 HDa
                  clear HST HF HU
                  go_wp2_with fail
                  refine (HPx.out _ HBw.out).mono ?_
                  rintro e w5 ⟨rfl, hb5⟩
                  have HB5 := hide (HBr.out.trans (hb5.mono HBr.out.size))
                  have HO5 := hide (HOr.out.on hb5 fun _ _ h => h)
                  have d1 := HD1.out w5 (HBw.out.trans (hb5.mono HBw.out.size))
                  clear hb5 HPx HBw HBr HOr
                  go_wp2_with (at_builtin; refine Ow.wpList_app rfl (.tmp 63) (.tmp 65) 116 rfl Tryz.underlying116 hi1 hz0 hz1 hz2 (by decide) Hr.shp_int rfl ((HO5.out).on ((Below.refl _ _).alloc (Nat.le_refl _) (.cells #[.int .i64 j] 3)) fun _ _ h => h) rfl (Hr.row_one (sz := 1) (heap_alloc_new w5 (.cells #[.int .i64 j] 3)) rfl) ?c1 (by decide) ?c2 ?_)
                  case c1 => have := HSl.out; have := hrk.out; have := hacc.out; subst this; simp; omega
                  case c2 => simp; have := HB5.out.size; omega
                  · intro v' w10 hown hgrow
                    have hb10 := Ow.bel_grown ((HO5.out).on ((Below.refl _ _).alloc (Nat.le_refl _) (.cells #[.int .i64 j] 3)) fun _ _ h => h) (by simp; have := HB5.out.size; omega) hgrow
                    have HB10 := hide ((HB5.out.trans ((Below.refl _ _).alloc HB5.out.size _)).trans hb10)
                    have HO10 := hide hown
                    clear hown hgrow hb10 HB5 HO5 d1
                    go_wp2_with fail
                    go_roundw
                    case rel => first | exact ⟨k + 1, r ++ [j], acc ++ [j], by omega, by go_num, HB10, HO10, HR, hide (by have := hrk.out; simp; omega), hide (by rw [hacc.out, List.append_assoc])⟩ | ((repeat apply Exists.intro); exact ⟨⟨k + 1, r ++ [j], acc ++ [j], by omega, by go_num, HB10, HO10, HR, hide (by have := hrk.out; simp; omega), hide (by rw [hacc.out, List.append_assoc])⟩, rfl⟩)
                    case measure => simp [intOf]; omega
                · have hif' : d.iface = false := by simpa using hif
                  have HR : Hid (Hr.upsL l c = none) := hide (by
                    have h1 := HST.out
                    rw [HF.out, HU.out, if_neg hif] at h1
                    have h2 := Hr.ifsL_take h1
                    unfold Hr.upsL; rw [hS.out]; simp only; rw [h2]; rfl)
                  rw [hif'] at HD1 HDa
                  clear HST HF HU
                  go_wp2_with fail
                  refine (HPx.out _ HBw.out).mono ?_
                  rintro e w5 ⟨rfl, hb5⟩
                  have HB5 := hide (HBw.out.trans (hb5.mono HBw.out.size))
                  have d1 := HD1.out w5 (HBw.out.trans (hb5.mono HBw.out.size))
                  clear hb5 HPx HBw HBr HOr
                  go_wp2_with fail
                  refine bodyPost_ret (v := .tuple #[.slice none 0 0, .bool false]) (by simp [results, Tryz.results75, go_sem]) rfl ?_
                  rw [HR.out]
                  exact ⟨⟨_, rfl, Ow.OwnX.nil _ _ _ _ _⟩, HB5.out⟩
            · have HR : Hid (Hr.upsL l c = some (s0 ++ r)) := hide (by
                have h1 := HF.out
                rw [List.take_of_length_le (by rw [← HQ.out]; omega)] at h1
                unfold Hr.upsL; rw [hS.out]; simp only; rw [h1]; rfl)
              have hnl : ¬ ((k : Int) < (q : Int)) := by omega
              clear HF
              go_wp2_with fail
              refine bodyPost_ret (v := .tuple #[.slice la acc.length lc, .bool true]) (by simp [results, Tryz.results75, go_sem]) rfl ?_
              rw [HR.out, ← hacc.out]
              exact ⟨⟨_, rfl, HOr.out.low HB0.out.size fun _ _ h => h⟩, HBw.out⟩
end Go.Proofs.YtbbbnciejmdpfaaGreatDoor
namespace Go.Proofs.YtbbbnciejmdpfaaGreatDoor
namespace Hr
def M (ms : List Bool) (j : Nat) : Prop := ms[j]? = some true
def unm (ms : List Bool) : Nat := ms.countP fun b => !b
structure Inv (up : List (List Nat)) (n a : Nat) (ms : List Bool) (rs : List Nat) : Prop where
  far : ∀ j, M ms j → Far up a j
  org : ∀ r ∈ rs, r = a ∨ M ms r
  fin : ∀ x, (x = a ∨ M ms x) → x ∈ rs ∨ ∀ y, Step up x y → M ms y
  len : ms.length = n
  low : ∀ r ∈ rs, r < n
  few : rs.length + unm ms ≤ n + 1
structure Mid (up : List (List Nat)) (n a f : Nat) (u : List Nat) (k : Nat) (ms : List Bool) (rs : List Nat) : Prop where
  far : ∀ j, M ms j → Far up a j
  org : ∀ r ∈ rs, r = a ∨ M ms r
  fin : ∀ x, (x = a ∨ M ms x) → x ∈ rs ∨ x = f ∨ ∀ y, Step up x y → M ms y
  don : ∀ y ∈ u.take k, M ms y
  frm : f = a ∨ M ms f
  len : ms.length = n
  low : ∀ r ∈ rs, r < n
  few : rs.length + unm ms ≤ n + 1
theorem unm_rep (n : Nat) : unm (List.replicate n false) = n := by unfold unm; rw [List.countP_replicate]; rfl
theorem Inv.start (up : List (List Nat)) (n a : Nat) (h : a < n) : Inv up n a (List.replicate n false) [a] where
  far := by intro j hj; unfold M at hj; rw [List.getElem?_replicate] at hj; split at hj <;> cases hj
  org := by intro r hr; simp at hr; exact .inl hr
  fin := by
    intro x hx
    rcases hx with rfl | hx
    · exact .inl (by simp)
    · unfold M at hx; rw [List.getElem?_replicate] at hx; split at hx <;> cases hx
  len := by simp
  low := by intro r hr; simp at hr; omega
  few := by rw [unm_rep]; simp; omega
theorem Inv.stop {up : List (List Nat)} {n a : Nat} {ms : List Bool} (h : Inv up n a ms []) (j : Nat) : M ms j ↔ Far up a j := by
  refine ⟨h.far j, fun hf => ?_⟩
  have key : ∀ x, (x = a ∨ M ms x) → ∀ y, Step up x y → M ms y := fun x hx => by
    rcases h.fin x hx with h | h
    · cases h
    · exact h
  refine Far.ind (C := fun i j => i = a → M ms j) (fun s e => key a (.inl rfl) _ (e ▸ s)) (fun _ s ih e => key _ (.inr (ih e)) _ s) hf rfl
theorem Inv.pop {up : List (List Nat)} {n a f : Nat} {ms : List Bool} {rs : List Nat} (u : List Nat) (h : Inv up n a ms (rs ++ [f])) : Mid up n a f u 0 ms rs where
  far := h.far
  org := fun r hr => h.org r (List.mem_append_left _ hr)
  fin := by
    intro x hx
    rcases h.fin x hx with h | h
    · rcases List.mem_append.1 h with h | h
      · exact .inl h
      · exact .inr (.inl (by simpa using h))
    · exact .inr (.inr h)
  don := by intro y hy; simp at hy
  frm := h.org f (by simp)
  len := h.len
  low := fun r hr => h.low r (List.mem_append_left _ hr)
  few := by have := h.few; simp at this; omega
theorem Mid.stop {up : List (List Nat)} {n a f : Nat} {u : List Nat} {k : Nat} {ms : List Bool} {rs : List Nat} (h : Mid up n a f u k ms rs) (hu : up[f]? = some u) (hk : u.length ≤ k) : Inv up n a ms rs where
  far := h.far
  org := h.org
  fin := by
    intro x hx
    rcases h.fin x hx with h1 | rfl | h1
    · exact .inl h1
    · refine .inr fun y ⟨u', hu', hy⟩ => ?_
      rw [hu] at hu'; cases hu'
      exact h.don y (by rw [List.take_of_length_le hk]; exact hy)
    · exact .inr h1
  len := h.len
  low := h.low
  few := h.few
theorem Mid.skip {up : List (List Nat)} {n a f : Nat} {u : List Nat} {k : Nat} {ms : List Bool} {rs : List Nat} {y : Nat} (h : Mid up n a f u k ms rs) (hy : u[k]? = some y) (hm : M ms y) : Mid up n a f u (k + 1) ms rs where
  far := h.far
  org := h.org
  fin := h.fin
  don := by
    intro z hz
    rw [List.take_add_one, hy] at hz
    rcases List.mem_append.1 hz with hz | hz
    · exact h.don z hz
    · simp at hz; subst hz; exact hm
  frm := h.frm
  len := h.len
  low := h.low
  few := h.few
theorem M_set {ms : List Bool} {y : Nat} (hy : y < ms.length) (j : Nat) : M (ms.set y true) j ↔ j = y ∨ M ms j := by
  unfold M
  rw [List.getElem?_set]
  by_cases e : y = j
  · subst e; simp [hy]
  · simp [e]; intro h; exact absurd h.symm e
theorem unm_set : ∀ {ms : List Bool} {y : Nat}, y < ms.length → ¬ M ms y → unm ms = unm (ms.set y true) + 1
  | [], _, h, _ => absurd h (Nat.not_lt_zero _)
  | b :: ms, 0, _, h => by
    cases b with
    | true => exact absurd rfl h
    | false => simp [unm]
  | b :: ms, y + 1, h, hm => by
    have := unm_set (ms := ms) (y := y) (by simpa using h) (by simpa [M] using hm)
    unfold unm at *
    rw [List.set_cons_succ, List.countP_cons, List.countP_cons]
    omega
theorem Mid.push {up : List (List Nat)} {n a f : Nat} {u : List Nat} {k : Nat} {ms : List Bool} {rs : List Nat} {y : Nat} (h : Mid up n a f u k ms rs) (hu : up[f]? = some u) (hy : u[k]? = some y) (hn : y < n) (hm : ¬ M ms y) : Mid up n a f u (k + 1) (ms.set y true) (rs ++ [y]) := by
  have hl : y < ms.length := by rw [h.len]; exact hn
  have hs : Step up f y := ⟨u, hu, List.mem_of_getElem? hy⟩
  refine ⟨?_, ?_, ?_, ?_, ?_, by simpa using h.len, ?_, ?_⟩
  · intro j hj
    rcases (M_set hl j).1 hj with rfl | hj
    · rcases h.frm with rfl | h1
      · exact .one hs
      · exact .more (h.far _ h1) hs
    · exact h.far j hj
  · intro r hr
    rcases List.mem_append.1 hr with hr | hr
    · rcases h.org r hr with h1 | h1
      · exact .inl h1
      · exact .inr ((M_set hl r).2 (.inr h1))
    · simp at hr; subst hr; exact .inr ((M_set hl r).2 (.inl rfl))
  · intro x hx
    by_cases hxy : x = y
    · exact .inl (by simp [hxy])
    · have hx' : x = a ∨ M ms x := by
        rcases hx with hx | hx
        · exact .inl hx
        · rcases (M_set hl x).1 hx with h1 | h1
          · exact absurd h1 hxy
          · exact .inr h1
      rcases h.fin x hx' with h1 | h1 | h1
      · exact .inl (List.mem_append_left _ h1)
      · exact .inr (.inl h1)
      · exact .inr (.inr fun z hz => (M_set hl z).2 (.inr (h1 z hz)))
  · intro z hz
    rw [List.take_add_one, hy] at hz
    rcases List.mem_append.1 hz with hz | hz
    · exact (M_set hl z).2 (.inr (h.don z hz))
    · simp at hz; subst hz; exact (M_set hl z).2 (.inl rfl)
  · rcases h.frm with h1 | h1
    · exact .inl h1
    · exact .inr ((M_set hl f).2 (.inr h1))
  · intro r hr
    rcases List.mem_append.1 hr with hr | hr
    · exact h.low r hr
    · simp at hr; subst hr; exact hn
  · have h1 := h.few
    have h2 := unm_set hl hm
    simp
    omega
def stepB (x : List Bool × List Nat) (y : Nat) : List Bool × List Nat := if x.1[y]? = some true then x else (x.1.set y true, x.2 ++ [y])
def goB (up : List (List Nat)) : Nat → List Bool → List Nat → List Bool
  | 0, ms, _ => ms
  | n + 1, ms, rs => match rs.getLast? with
    | none => ms
    | some f => goB up n (((up[f]?).getD []).foldl stepB (ms, rs.dropLast)).1 (((up[f]?).getD []).foldl stepB (ms, rs.dropLast)).2
theorem fold_mid {up : List (List Nat)} {n a f : Nat} {u : List Nat} (hu : up[f]? = some u) (hl : ∀ k ∈ u, k < n) : ∀ (k : Nat) (ms : List Bool) (rs : List Nat), k ≤ u.length → Mid up n a f u k ms rs → Mid up n a f u u.length ((u.drop k).foldl stepB (ms, rs)).1 ((u.drop k).foldl stepB (ms, rs)).2 := by
  intro k
  induction hd : u.length - k generalizing k with
  | zero =>
    intro ms rs hk h
    obtain rfl : k = u.length := by omega
    rw [List.drop_length]; exact h
  | succ d ih =>
    intro ms rs hk h
    have hlt : k < u.length := by omega
    have hg : u[k]? = some u[k] := List.getElem?_eq_getElem hlt
    rw [List.drop_eq_getElem_cons hlt, List.foldl_cons]
    unfold stepB
    by_cases hm : ms[u[k]]? = some true
    · rw [if_pos hm]; exact ih (k + 1) (by omega) ms rs (by omega) (h.skip hg hm)
    · rw [if_neg hm]; exact ih (k + 1) (by omega) _ _ (by omega) (h.push hu hg (hl _ (List.getElem_mem hlt)) hm)
theorem goB_inv {up : List (List Nat)} {n a : Nat} (hn : up.length = n) (hl : ∀ u ∈ up, ∀ k ∈ u, k < n) : ∀ (d : Nat) (ms : List Bool) (rs : List Nat), rs.length + unm ms ≤ d → Inv up n a ms rs → ∀ j, M (goB up d ms rs) j ↔ Far up a j := by
  intro d
  induction d with
  | zero =>
    intro ms rs hd h j
    obtain rfl : rs = [] := List.length_eq_zero_iff.1 (by omega)
    exact h.stop j
  | succ d ih =>
    intro ms rs hd h j
    unfold goB
    rcases List.eq_nil_or_concat rs with rfl | ⟨r0, f, rfl⟩
    · exact h.stop j
    · rw [List.concat_eq_append] at h hd ⊢
      rw [List.getLast?_concat]
      simp only [List.dropLast_concat]
      have hf : f < up.length := by rw [hn]; exact h.low f (by simp)
      have hu : up[f]? = some up[f] := List.getElem?_eq_getElem hf
      rw [hu, Option.getD_some]
      have hm := fold_mid hu (hl _ (List.getElem_mem hf)) 0 ms r0 (Nat.zero_le _) (h.pop _)
      rw [List.drop_zero] at hm
      refine ih _ _ ?_ (hm.stop hu (Nat.le_refl _)) j
      have hc : ∀ (u : List Nat) (x : List Bool × List Nat), (∀ k ∈ u, k < x.1.length) → (u.foldl stepB x).2.length + unm (u.foldl stepB x).1 = x.2.length + unm x.1 := by
        intro u
        induction u with
        | nil => intro x _; rfl
        | cons y u ih =>
          intro x hx
          rw [List.foldl_cons]
          unfold stepB
          by_cases hm : x.1[y]? = some true
          · rw [if_pos hm]; exact ih x fun k hk => hx k (by simp [hk])
          · rw [if_neg hm]
            have h1 := unm_set (hx y (by simp)) hm
            have h2 := ih (x.1.set y true, x.2 ++ [y]) fun k hk => by simpa using hx k (by simp [hk])
            unfold stepB at h2
            rw [h2]
            simp
            omega
      rw [hc _ _ (fun k hk => by show k < ms.length; rw [h.len]; exact hl _ (List.getElem_mem hf) k hk)]
      show r0.length + unm ms ≤ d
      simp at hd
      omega
def farB (up : List (List Nat)) (i j : Nat) : Bool := decide (i < up.length) && (goB up (up.length + 1) (List.replicate up.length false) [i])[j]? == some true
theorem farB_iff {up : List (List Nat)} (hl : ∀ u ∈ up, ∀ k ∈ u, k < up.length) (i j : Nat) : farB up i j = true ↔ Far up i j := by
  unfold farB
  by_cases hi : i < up.length
  · have := goB_inv rfl hl (up.length + 1) (List.replicate up.length false) [i] (by rw [unm_rep]; simp; omega) (Inv.start up _ i hi) j
    unfold M at this
    simp only [hi, decide_true, Bool.true_and, beq_iff_eq]
    exact this
  · simp only [hi, decide_false, Bool.false_and]
    refine ⟨fun h => (Bool.noConfusion h), fun h => ?_⟩
    refine absurd (Far.ind (C := fun i _ => i < up.length) (fun ⟨u, hu, _⟩ => (List.getElem?_eq_some_iff.1 hu).1) (fun _ _ ih => ih) h) hi
def ringB (up : List (List Nat)) : Bool := (List.range up.length).any fun i => farB up i i
theorem ringB_iff {up : List (List Nat)} (hl : ∀ u ∈ up, ∀ k ∈ u, k < up.length) : ringB up = true ↔ Ring up := by
  unfold ringB Ring
  simp only [List.any_eq_true, List.mem_range]
  constructor
  · rintro ⟨i, _, h⟩; exact ⟨i, (farB_iff hl i i).1 h⟩
  · rintro ⟨i, h⟩
    exact ⟨i, Far.ind (C := fun i _ => i < up.length) (fun ⟨u, hu, _⟩ => (List.getElem?_eq_some_iff.1 hu).1) (fun _ _ ih => ih) h, (farB_iff hl i i).2 h⟩
def errL (cs : List Pp.XCls) : Int := if Pp.progB cs = true then (if oneB (allL cs) = true then (match growL (allL cs) (allL cs) with | none => 5 | some up => if ringB up = true then 7 else 0) else 6) else 4
theorem grow_low {l : List Pp.XCls} {up : List (List Nat)} (h : growL l l = some up) : ∀ u ∈ up, ∀ k ∈ u, k < up.length := by
  intro u hu k hk; rw [growL_len h]; exact growL_lt h u hu k hk
end Hr
end Go.Proofs.YtbbbnciejmdpfaaGreatDoor
