/- What the laws of this seat lean on: 2 texts. -/
import Derived.Test.YtbbbnciejmdpfabGreatDoorPkAb
set_option maxRecDepth 100000
set_option maxHeartbeats 64000000
set_option linter.unusedVariables false
set_option linter.unusedSimpArgs false
namespace Go.Proofs.YtbbbnciejmdpfabGreatDoor
namespace Hr
open Pp
def objN : Bs := [79, 98, 106, 101, 99, 116]
def errN : Bs := [69, 114, 114, 111, 114]
def subs : List Bs := [[78, 117, 108, 108, 69, 114, 114, 111, 114], [82, 97, 110, 103, 101, 69, 114, 114, 111, 114], [67, 97, 115, 116, 69, 114, 114, 111, 114], [78, 117, 109, 69, 114, 114, 111, 114], [83, 105, 122, 101, 69, 114, 114, 111, 114], [68, 101, 112, 116, 104, 69, 114, 114, 111, 114]]
def plain (n s : Bs) : XCls := ⟨n, false, s, [], [], []⟩
def base : List XCls := plain objN [] :: plain errN objN :: subs.map (plain · errN)
def allL (cs : List XCls) : List XCls := base ++ cs
def placeL : List XCls -> Bs -> Option Nat
 | [], _ => none
 | c :: l, n => if c.name = n then some 0 else (placeL l n).map (· + 1)
def pairP : Option Nat -> Nat × Bool
 | none => (0, false)
 | some k => (k, true)
theorem placeL_lt {l : List XCls} {n : Bs} {k : Nat} (h : placeL l n = some k) : ∃ c, l[k]? = some c /\ c.name = n /\ ∀ (j : Nat) (d : XCls), j < k -> l[j]? = some d -> d.name ≠ n := by
 induction l generalizing k with
 | nil => simp [placeL] at h
 | cons a l ih =>
   unfold placeL at h
   split at h
   · cases h
     exact ⟨a, rfl, by assumption, fun j d hj => absurd hj (Nat.not_lt_zero _)⟩
   · rename_i hne
     cases hp : placeL l n with
     | none => rw [hp] at h; cases h
     | some m =>
       rw [hp] at h; cases h; obtain ⟨c, h1, h2, h3⟩ := ih hp; refine ⟨c, by simpa using h1, h2, fun j d hj hd => ?_⟩
       cases j with
       | zero => simp at hd; subst hd; exact hne
       | succ j => exact h3 j d (by have : j + 1 < m + 1 := hj; omega) (by simpa using hd)
theorem placeL_none {l : List XCls} {n : Bs} : placeL l n = none ↔ ∀ (j : Nat) (d : XCls), l[j]? = some d -> d.name ≠ n := by
 induction l with
 | nil => simp [placeL]
 | cons a l ih =>
   unfold placeL
   split
   · rename_i h
     constructor
     · intro h'; cases h'
     · intro h'; exact absurd h (h' 0 a rfl)
   · rename_i h
     constructor
     · intro h' j d hd
       cases j with
       | zero => simp at hd; subst hd; exact h
       | succ j =>
         refine ih.1 ?_ j d (by simpa using hd)
         cases hp : placeL l n with
         | none => rfl
         | some m => rw [hp] at h'; cases h'
     · intro h'
       rw [ih.2 fun j d hd => h' (j + 1) d (by simpa using hd)]
       rfl
theorem placeL_at {l : List XCls} {n : Bs} {k : Nat} {c : XCls} (h : l[k]? = some c) (hc : c.name = n) (hf : ∀ (j : Nat) (d : XCls), j < k -> l[j]? = some d -> d.name ≠ n) : placeL l n = some k := by
 cases hp : placeL l n with
 | none => exact absurd hc (placeL_none.1 hp k c h)
 | some m =>
   obtain ⟨d, h1, h2, h3⟩ := placeL_lt hp
   rcases Nat.lt_trichotomy m k with hm | hm | hm
   · exact absurd h2 (hf m d hm h1)
   · rw [hm]
   · exact absurd hc (h3 k c hm h)
def oneL (l : List XCls) : Prop := ∀ (j : Nat) (c : XCls), l[j]? = some c -> placeL l c.name = some j
def oneB (l : List XCls) : Bool := (List.range l.length).all fun j => match l[j]? with | none => true | some c => placeL l c.name == some j
theorem oneB_iff (l : List XCls) : oneB l = true ↔ oneL l := by
 unfold oneB oneL; simp only [List.all_eq_true, List.mem_range]; constructor
 · intro h j c hc
   have := h j (by rw [List.getElem?_eq_some_iff] at hc; exact hc.1)
   rw [hc] at this
   simpa using this
 · intro h j hj
   have hc := List.getElem?_eq_getElem hj; rw [hc]
   simpa using h j _ hc
def superL (c : XCls) : Option Bs := if c.iface = true \/ c.name = objN then none else if c.super = [] then some objN else some c.super
def pairS : Option Bs -> Bs × Bool
 | none => ([], false)
 | some s => (s, true)
def upL (l : List XCls) (want : Bool) (n : Bs) : Option Nat := match placeL l n with
 | none => none
 | some k => match l[k]? with
   | none => none
   | some c => if c.iface = want then some k else none
def supL (l : List XCls) (c : XCls) : Option (List Nat) := match superL c with
 | none => some []
 | some n => (upL l false n).map fun k => [k]
def ifsL (l : List XCls) : List Bs -> Option (List Nat)
 | [] => some []
 | n :: ns => match upL l true n with
   | none => none
   | some k => (ifsL l ns).map fun r => k :: r
def upsL (l : List XCls) (c : XCls) : Option (List Nat) := match supL l c with
 | none => none
 | some a => (ifsL l c.ifaces).map fun b => a ++ b
def growL (l : List XCls) : List XCls -> Option (List (List Nat))
 | [] => some []
 | c :: cs => match upsL l c with
   | none => none
   | some u => (growL l cs).map fun r => u :: r
theorem ifsL_step {l : List XCls} {ns : List Bs} {k : Nat} {n : Bs} (h : ns[k]? = some n) : ifsL l (ns.take (k + 1)) = match ifsL l (ns.take k), upL l true n with | some r, some u => some (r ++ [u]) | _, _ => none := by
 induction ns generalizing k with
 | nil => simp at h
 | cons a ns ih =>
   cases k with
   | zero =>
     simp at h; subst h; simp only [Nat.zero_add, List.take_succ_cons, List.take_zero, ifsL]; cases upL l true a <;> rfl
   | succ k =>
     have := ih (k := k) (by simpa using h)
     rw [List.take_succ_cons, List.take_succ_cons]; simp only [ifsL]; rw [this]; cases upL l true a with
     | none => rfl
     | some u =>
       cases ifsL l (ns.take k) with
       | none => rfl
       | some r => cases upL l true n <;> rfl
theorem ifsL_take {l : List XCls} {ns : List Bs} {k : Nat} (h : ifsL l (ns.take k) = none) : ifsL l ns = none := by
 induction ns generalizing k with
 | nil => simp [ifsL] at h
 | cons a ns ih =>
   cases k with
   | zero => simp [ifsL] at h
   | succ k =>
     rw [List.take_succ_cons] at h; simp only [ifsL] at h ⊢; cases hu : upL l true a with
     | none => rfl
     | some u =>
       rw [hu] at h; cases hr : ifsL l (ns.take k) with
       | none => rw [ih hr]; rfl
       | some r => simp [hr] at h
theorem growL_step {l cs : List XCls} {k : Nat} {c : XCls} (h : cs[k]? = some c) : growL l (cs.take (k + 1)) = match growL l (cs.take k), upsL l c with | some r, some u => some (r ++ [u]) | _, _ => none := by
 induction cs generalizing k with
 | nil => simp at h
 | cons a cs ih =>
   cases k with
   | zero =>
     simp at h; subst h; simp only [Nat.zero_add, List.take_succ_cons, List.take_zero, growL]; cases upsL l a <;> rfl
   | succ k =>
     have := ih (k := k) (by simpa using h)
     rw [List.take_succ_cons, List.take_succ_cons]; simp only [growL]; rw [this]; cases upsL l a with
     | none => rfl
     | some u =>
       cases growL l (cs.take k) with
       | none => rfl
       | some r => cases upsL l c <;> rfl
theorem growL_take {l cs : List XCls} {k : Nat} (h : growL l (cs.take k) = none) : growL l cs = none := by
 induction cs generalizing k with
 | nil => simp [growL] at h
 | cons a cs ih =>
   cases k with
   | zero => simp [growL] at h
   | succ k =>
     rw [List.take_succ_cons] at h; simp only [growL] at h ⊢; cases hu : upsL l a with
     | none => rfl
     | some u =>
       rw [hu] at h; cases hr : growL l (cs.take k) with
       | none => rw [ih hr]; rfl
       | some r => simp [hr] at h
theorem growL_len {l cs : List XCls} {r : List (List Nat)} (h : growL l cs = some r) : r.length = cs.length := by
 induction cs generalizing r with
 | nil => simp [growL] at h; subst h; rfl
 | cons a cs ih =>
   simp only [growL] at h; cases hu : upsL l a with
   | none => rw [hu] at h; cases h
   | some u =>
     rw [hu] at h; cases hr : growL l cs with
     | none => rw [hr] at h; cases h
     | some s => rw [hr] at h; cases h; simp [ih hr]
theorem growL_at {l cs : List XCls} {r : List (List Nat)} (h : growL l cs = some r) {k : Nat} {c : XCls} (hc : cs[k]? = some c) : ∃ u, r[k]? = some u /\ upsL l c = some u := by
 induction cs generalizing r k with
 | nil => simp at hc
 | cons a cs ih =>
   simp only [growL] at h; cases hu : upsL l a with
   | none => rw [hu] at h; cases h
   | some u =>
     rw [hu] at h; cases hr : growL l cs with
     | none => rw [hr] at h; cases h
     | some s =>
       rw [hr] at h; cases h; cases k with
       | zero => simp at hc; subst hc; exact ⟨u, rfl, hu⟩
       | succ k => obtain ⟨v, h1, h2⟩ := ih hr (k := k) (by simpa using hc); exact ⟨v, by simpa using h1, h2⟩
theorem upL_lt {l : List XCls} {b : Bool} {n : Bs} {k : Nat} (h : upL l b n = some k) : k < l.length /\ placeL l n = some k /\ ∃ c, l[k]? = some c /\ c.iface = b := by
 unfold upL at h; cases hp : placeL l n with
 | none => rw [hp] at h; cases h
 | some m =>
   rw [hp] at h; obtain ⟨c, h1, h2, h3⟩ := placeL_lt hp; simp only [h1] at h
   split at h
   · cases h; exact ⟨(List.getElem?_eq_some_iff.1 h1).1, rfl, c, h1, by assumption⟩
   · cases h
theorem ifsL_lt {l : List XCls} {ns : List Bs} {r : List Nat} (h : ifsL l ns = some r) : ∀ k ∈ r, k < l.length := by
 induction ns generalizing r with
 | nil => simp [ifsL] at h; subst h; simp
 | cons a ns ih =>
   simp only [ifsL] at h; cases hu : upL l true a with
   | none => rw [hu] at h; cases h
   | some u =>
     rw [hu] at h; cases hr : ifsL l ns with
     | none => rw [hr] at h; cases h
     | some s =>
       rw [hr] at h; cases h; intro k hk
       rcases List.mem_cons.1 hk with rfl | hk
       · exact (upL_lt hu).1
       · exact ih hr k hk
theorem upsL_lt {l : List XCls} {c : XCls} {r : List Nat} (h : upsL l c = some r) : ∀ k ∈ r, k < l.length := by
 unfold upsL at h; cases hs : supL l c with
 | none => rw [hs] at h; cases h
 | some a =>
   rw [hs] at h; cases hi : ifsL l c.ifaces with
   | none => rw [hi] at h; cases h
   | some b =>
     rw [hi] at h; cases h; intro k hk
     rcases List.mem_append.1 hk with hk | hk
     · unfold supL at hs
       cases hsu : superL c with
       | none => rw [hsu] at hs; cases hs; simp at hk
       | some n =>
         rw [hsu] at hs; cases hu : upL l false n with
         | none => simp only [hu] at hs; cases hs
         | some u => simp only [hu] at hs; cases hs; simp at hk; subst hk; exact (upL_lt hu).1
     · exact ifsL_lt hi k hk
theorem growL_lt {l cs : List XCls} {r : List (List Nat)} (h : growL l cs = some r) : ∀ u ∈ r, ∀ k ∈ u, k < l.length := by
 induction cs generalizing r with
 | nil => simp [growL] at h; subst h; simp
 | cons a cs ih =>
   simp only [growL] at h; cases hu : upsL l a with
   | none => rw [hu] at h; cases h
   | some u =>
     rw [hu] at h; cases hr : growL l cs with
     | none => rw [hr] at h; cases h
     | some s =>
       rw [hr] at h; cases h; intro v hv
       rcases List.mem_cons.1 hv with rfl | hv
       · exact upsL_lt hu
       · exact ih hr v hv
def Step (up : List (List Nat)) (i j : Nat) : Prop := ∃ u, up[i]? = some u /\ j ∈ u
def FarN (up : List (List Nat)) : Nat -> Nat -> Nat -> Prop
 | 0, i, j => Step up i j
 | n + 1, i, k => ∃ j, FarN up n i j /\ Step up j k
def Far (up : List (List Nat)) (i j : Nat) : Prop := ∃ n, FarN up n i j
theorem Far.one {up : List (List Nat)} {i j : Nat} (h : Step up i j) : Far up i j := ⟨0, h⟩
theorem Far.more {up : List (List Nat)} {i j k : Nat} (h : Far up i j) (s : Step up j k) : Far up i k := by
 obtain ⟨n, h⟩ := h; exact ⟨n + 1, j, h, s⟩
theorem Far.ind {up : List (List Nat)} {C : Nat -> Nat -> Prop} (one : ∀ {i j : Nat}, Step up i j -> C i j) (more : ∀ {i j k : Nat}, Far up i j -> Step up j k -> C i j -> C i k) {i j : Nat} (h : Far up i j) : C i j := by
 obtain ⟨n, h⟩ := h
 induction n generalizing j with
 | zero => exact one h
 | succ n ih => obtain ⟨m, h1, h2⟩ := h; exact more ⟨n, h1⟩ h2 (ih h1)
theorem Far.trans {up : List (List Nat)} {i j k : Nat} (h : Far up i j) (h' : Far up j k) : Far up i k := by
 revert h; refine Far.ind (C := fun j k => Far up i j -> Far up i k) (fun s h => .more h s) (fun _ s ih h => .more (ih h) s) h'
def Ring (up : List (List Nat)) : Prop := ∃ i, Far up i i
end Hr
open Go.RowKit
namespace Hr
theorem row_at {α : Type} {W : World} {sz : Nat} {P : α -> List Value -> Prop} {a : Option Addr} {n c : Nat} {l : List α} (h : RowX W sz P (.slice a n c) l) {k : Nat} {x : α} (hx : l[k]? = some x) : ∃ b o, a = some ⟨b, o, none⟩ /\ ∃ ys, P x ys /\ ∀ wx, Below W.heap.size W wx -> ∀ (j : Nat) (u : Value), ys[j]? = some u -> wx.cell? ⟨b, o + k * sz + j, none⟩ = some u := by
 obtain ⟨a', c', e, hc, h⟩ := h; injection e with e1 e2 e3; subst e1
 rcases h with rfl | ⟨b, o, rfl, hlt, hr⟩
 · simp at hx
 · obtain ⟨ys, h1, h2⟩ := hr k x hx
   exact ⟨b, o, rfl, ys, h1, fun wx hb j u hj => (hb.cell (by exact hlt)).trans (h2 j u hj)⟩
end Hr
theorem superOf_any (c : Pp.XCls) (ys : List Value) (w : World) (h : ClsX w c ys) :
 Calls Tryz.prog 76 #[.agg ys.toArray] w fun e w' => e = .returned (.tuple #[.string ⟨(Hr.pairS (Hr.superL c)).1.toArray⟩, .bool (Hr.pairS (Hr.superL c)).2]) /\ Below w.heap.size w w' := by
 obtain ⟨vp, vc, vk, rfl, p1, i1, k1, z1⟩ := h; clear p1 i1 k1; simp only [clsXL, List.toArray]; by_cases hi : c.iface = true
 · have hr : Hid (Hr.superL c = none) := hide (by simp [Hr.superL, hi])
   rw [hi]; generalize (⟨c.name.toArray⟩ : ByteArray) = y0; generalize (⟨c.super.toArray⟩ : ByteArray) = y2; rw [hr.out]; go_enter Tryz.func76, Tryz.ntmps76; go_wp2; go_ret2; exact ⟨rfl, (Below.refl _ _).alloc (Nat.le_refl _) _⟩
 · have hi' : c.iface = false := by simpa using hi
   by_cases hn : c.name = Hr.objN
   · have hr : Hid (Hr.superL c = none) := hide (by simp [Hr.superL, hn])
     rw [hi', hn, hr.out]; generalize (⟨c.super.toArray⟩ : ByteArray) = y2; go_enter Tryz.func76, Tryz.ntmps76; go_wp2; go_ret2; exact ⟨rfl, (Below.refl _ _).alloc (Nat.le_refl _) _⟩
   · have hne : (c.name == Hr.objN) = false := by simp [hn]
     simp only [Hr.objN] at hne; by_cases hs : c.super = []
     · have hr : Hid (Hr.superL c = some Hr.objN) := hide (by simp [Hr.superL, hn, hi', hs])
       rw [hi', hs, hr.out]; generalize c.name = y0 at *
       go_enter Tryz.func76, Tryz.ntmps76; go_wp2; go_ret2; exact ⟨rfl, (Below.refl _ _).alloc (Nat.le_refl _) _⟩
     · have hse : (c.super == []) = false := by simp [hs]
       have hr : Hid (Hr.superL c = some c.super) := hide (by simp [Hr.superL, hn, hi', hs])
       rw [hi', hr.out]; simp only [Hr.pairS]; clear hr hs hn; generalize c.name = y0 at *
       generalize c.super = y2 at *
       go_enter Tryz.func76, Tryz.ntmps76; go_wp2; go_ret2; exact ⟨rfl, (Below.refl _ _).alloc (Nat.le_refl _) _⟩
theorem place_any (l : List Pp.XCls) (v : Value) (n : Pp.Bs) (w : World) (h : RowX w 6 (ClsX w) v l) (hlen : l.length <= maxLen) :
 Calls Tryz.prog 22 #[v, .string ⟨n.toArray⟩] w fun e w' => e = .returned (.tuple #[.int .i64 (Hr.pairP (Hr.placeL l n)).1, .bool (Hr.pairP (Hr.placeL l n)).2]) /\ Below w.heap.size w w' := by
 obtain ⟨pa, pc, rfl, _⟩ := h.len; have H := hide h; obtain ⟨m, hm⟩ : ∃ m, m = l.length := ⟨_, rfl⟩; have HM := hide hm; rw [<- hm] at H hlen ⊢; clear h hm; have hmx : (m : Int) <= 9223372036854775807 := by unfold maxLen at hlen; omega
 go_enter Tryz.func22, Tryz.ntmps22; go_wp2_with fail
 go_loopw [10] (fun i wr => ∃ k : Nat, k <= m /\ i = .int .i64 k /\ Below w.heap.size w wr /\ Hid (∀ (j : Nat) (d : Pp.XCls), j < k -> l[j]? = some d -> d.name ≠ n)) (fun i _ => m - (intOf i).toNat)
 case atStart => exact ⟨0, by omega, rfl, Below.refl _ _, hide fun j d hj => absurd hj (Nat.not_lt_zero _)⟩
 case round =>
  obtain ⟨k, hk, rfl, hbw, hp⟩ := hrel; by_cases hlt : k < m
  · obtain ⟨x, hx⟩ : ∃ x, l[k]? = some x := ⟨l[k]'(by rw [<- HM.out]; exact hlt), List.getElem?_eq_getElem _⟩
    obtain ⟨g1, o1, rfl, ys1, w1', hc1⟩ := Hr.row_at H.out hx; have hG := hide (hc1 wr hbw); clear hc1; obtain ⟨vp, vc, vk, rfl, x1, x2, x3, _⟩ := w1'; obtain ⟨va1, vd1, rfl, _⟩ := x1.len; obtain ⟨va2, vd2, rfl, _⟩ := x2.len; obtain ⟨va3, vd3, rfl, _⟩ := x3.len; clear x1 x2 x3; have r0 := hG.out 0 _ rfl; have r1 := hG.out 1 _ rfl; have r2 := hG.out 2 _ rfl; have r3 := hG.out 3 _ rfl; have r4 := hG.out 4 _ rfl; have r5 := hG.out 5 _ rfl; rw [Nat.add_zero] at r0; clear hG; have hlt' : (k : Int) < (m : Int) := by omega
    generalize x.iface = y1 at *
    generalize (⟨x.super.toArray⟩ : ByteArray) = y2 at *
    generalize x.ifaces.length = n1 at *
    generalize x.fields.length = n2 at *
    generalize x.methods.length = n3 at *
    by_cases hn : x.name = n
    · have hr := hide (Hr.placeL_at hx hn hp.out)
      rw [hn] at r0; clear hx hn; go_wp2; go_ret2; rw [hr.out]; exact ⟨rfl, hbw.alloc hbw.size _⟩
    · have hne : (x.name == n) = false := by simp [hn]
      have hr : Hid (∀ (j : Nat) (d : Pp.XCls), j < k + 1 -> l[j]? = some d -> d.name ≠ n) := hide fun j d hj hd => by
       rcases Nat.lt_or_eq_of_le (Nat.le_of_lt_succ hj) with h | rfl
       · exact hp.out j d h hd
       · rw [hx] at hd; cases hd; exact hn
      clear hx hn hp; generalize x.name = y0 at *
      go_wp2
      go_roundw
      case rel => exact ⟨k + 1, by omega, by go_num, hbw.alloc hbw.size _, hr⟩
      case measure => simp [intOf]; omega
  · have hr : Hid (Hr.placeL l n = none) := hide (Hr.placeL_none.2 fun j d hd => hp.out j d (by have := (List.getElem?_eq_some_iff.1 hd).1; have := HM.out; omega) hd)
    go_wp2; go_ret2; rw [hr.out]; exact ⟨rfl, hbw⟩
theorem twice_any (l : List Pp.XCls) (v : Value) (w : World) (h : RowX w 6 (ClsX w) v l) (hlen : l.length <= maxLen) :
 Calls Tryz.prog 62 #[v] w fun e w' => e = .returned (.bool (!Hr.oneB l)) /\ Below w.heap.size w w' := by
 have HP := hide (fun (n : Pp.Bs) wx (hb : Below w.heap.size w wx) => place_any l v n wx (h.on hb fun _ _ h => h.on hb) hlen); obtain ⟨pa, pc, rfl, _⟩ := h.len; have H := hide h; obtain ⟨m, hm⟩ : ∃ m, m = l.length := ⟨_, rfl⟩; have HM := hide hm; rw [<- hm] at H hlen HP ⊢; clear h hm; have hmx : (m : Int) <= 9223372036854775807 := by unfold maxLen at hlen; omega
 go_enter Tryz.func62, Tryz.ntmps62; go_wp2_with fail
 go_loopw [9] (fun i wr => ∃ k : Nat, k <= m /\ i = .int .i64 k /\ Below w.heap.size w wr /\ Hid (∀ (j : Nat) (d : Pp.XCls), j < k -> l[j]? = some d -> Hr.placeL l d.name = some j)) (fun i _ => m - (intOf i).toNat)
 case atStart => exact ⟨0, by omega, rfl, Below.refl _ _, hide fun j d hj => absurd hj (Nat.not_lt_zero _)⟩
 case round =>
  obtain ⟨k, hk, rfl, hbw, hp⟩ := hrel; by_cases hlt : k < m
  · obtain ⟨x, hx⟩ : ∃ x, l[k]? = some x := ⟨l[k]'(by rw [<- HM.out]; exact hlt), List.getElem?_eq_getElem _⟩
    obtain ⟨g1, o1, rfl, ys1, w1', hc1⟩ := Hr.row_at H.out hx; have hG := hide (hc1 wr hbw); clear hc1; obtain ⟨vp, vc, vk, rfl, x1, x2, x3, _⟩ := w1'; obtain ⟨va1, vd1, rfl, _⟩ := x1.len; obtain ⟨va2, vd2, rfl, _⟩ := x2.len; obtain ⟨va3, vd3, rfl, _⟩ := x3.len; clear x1 x2 x3; have r0 := hG.out 0 _ rfl; have r1 := hG.out 1 _ rfl; have r2 := hG.out 2 _ rfl; have r3 := hG.out 3 _ rfl; have r4 := hG.out 4 _ rfl; have r5 := hG.out 5 _ rfl; rw [Nat.add_zero] at r0; clear hG; have hlt' : (k : Int) < (m : Int) := by omega
    have HC := hide (fun wx (hb : Below w.heap.size w wx) => HP.out x.name wx hb)
    have hst : Hid (Hr.placeL l x.name = some k -> ∀ (j : Nat) (d : Pp.XCls), j < k + 1 -> l[j]? = some d -> Hr.placeL l d.name = some j) := hide fun he j d hj hd => by
     rcases Nat.lt_or_eq_of_le (Nat.le_of_lt_succ hj) with h | rfl
     · exact hp.out j d h hd
     · rw [hx] at hd; cases hd; exact he
    have hpl : ∃ q c, Hr.placeL l x.name = some q /\ l[q]? = some c /\ q <= k := by
     cases hq : Hr.placeL l x.name with
     | none => exact absurd rfl (Hr.placeL_none.1 hq k x hx)
     | some q =>
       obtain ⟨c, h1, h2, h3⟩ := Hr.placeL_lt hq; refine ⟨q, c, rfl, h1, ?_⟩
       rcases Nat.lt_or_ge k q with h | h
       · exact absurd rfl (h3 k x h hx)
       · exact h
    obtain ⟨q, cq, hq, _, hqk⟩ := hpl
    have hno : Hid (q ≠ k -> Hr.oneB l = false) := hide fun hne => by
     cases hb : Hr.oneB l with
     | false => rfl
     | true =>
       have := (Hr.oneB_iff l).1 hb k x hx; rw [hq] at this; cases this; exact absurd rfl hne
    rw [hq] at hst
    have HQ : Hid (∀ wx, Below w.heap.size w wx -> Calls Tryz.prog 22 #[.slice (some ⟨g1, o1, none⟩) m pc, .string ⟨x.name.toArray⟩] wx fun e w' => e = .returned (.tuple #[.int .i64 q, .bool true]) /\ Below wx.heap.size wx w') := hide fun wx hb => by
     have := HC.out wx hb; rw [hq] at this; exact this
    clear HC hq hx; generalize (⟨x.name.toArray⟩ : ByteArray) = y0 at *
    generalize x.iface = y1 at *
    generalize (⟨x.super.toArray⟩ : ByteArray) = y2 at *
    generalize x.ifaces.length = n1 at *
    generalize x.fields.length = n2 at *
    generalize x.methods.length = n3 at *
    have HB := hide hbw; by_cases hne : q = k
    · have hr := hst.out (by rw [hne])
      subst hne; clear hst hno; go_wp2_with fail; refine (HQ.out _ (HB.out.alloc HB.out.size _)).mono ?_; rintro e wq ⟨rfl, hbq⟩; have HW := hide ((HB.out.alloc HB.out.size (.cells #[.string y0, .bool y1, .string y2, .slice va1 n1 vd1, .slice va2 n2 vd2, .slice va3 n3 vd3] 33)).trans (hbq.mono (HB.out.alloc HB.out.size _).size)); clear HQ hbq HB hbw; go_wp2_with fail
      go_roundw
      case rel => exact ⟨q + 1, by omega, by go_num, HW.out, hide hr⟩
      case measure => simp [intOf]; omega
    · have hr := hide (hno.out hne)
      have hne' : (q : Int) ≠ (k : Int) := by omega
      clear hst hno; go_wp2_with fail; refine (HQ.out _ (HB.out.alloc HB.out.size _)).mono ?_; rintro e wq ⟨rfl, hbq⟩; have HW := hide ((HB.out.alloc HB.out.size (.cells #[.string y0, .bool y1, .string y2, .slice va1 n1 vd1, .slice va2 n2 vd2, .slice va3 n3 vd3] 33)).trans (hbq.mono (HB.out.alloc HB.out.size _).size)); clear HQ hbq HB hbw; go_wp2_with fail; go_ret; rw [hr.out]; exact ⟨rfl, HW.out⟩
  · have hr : Hid (Hr.oneB l = true) := hide ((Hr.oneB_iff l).2 fun j d hd => hp.out j d (by have := (List.getElem?_eq_some_iff.1 hd).1; have := HM.out; omega) hd)
    go_wp2; go_ret; rw [hr.out]; exact ⟨rfl, hbw⟩
end Go.Proofs.YtbbbnciejmdpfabGreatDoor
