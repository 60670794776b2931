/- Programs in memory, as they are read: whatever block they lie in. -/
import Derived.Test.YtpngpkbnhepleabDoorPp
import Derived.Test.YtpngpkbnhepleabDoorLeaf
import Derived.BigQuiet
import Derived.Deep.QuietTactic
namespace Go.Proofs.YtpngpkbnhepleabDoor
open Go.RowKit
set_option linter.unusedVariables false
set_option linter.unusedSimpArgs false

def RowP {α : Type} (w : World) (sz : Nat) (P : α → List Value → Prop) (v : Value) (l : List α) : Prop :=
  ∃ a c, v = .slice a l.length c ∧ l.length ≤ c ∧ (l = [] ∨ ∃ b o, a = some ⟨b, o, none⟩ ∧ b < w.heap.size ∧ ∀ (k : Nat) (x : α), l[k]? = some x → ∃ ys, P x ys ∧ ∀ (j : Nat) (u : Value), ys[j]? = some u → w.cell? ⟨b, o + k * sz + j, none⟩ = some u)
theorem RowP.on {α : Type} {w w' : World} {sz : Nat} {P P' : α → List Value → Prop} {v : Value} {l : List α} (h : RowP w sz P v l) (hb : Below w.heap.size w w') (hp : ∀ x ys, P x ys → P' x ys) : RowP w' sz P' v l := by
  obtain ⟨a, c, rfl, hc, h⟩ := h
  refine ⟨a, c, rfl, hc, ?_⟩
  rcases h with h | ⟨b, o, rfl, hlt, hx⟩
  · exact .inl h
  · refine .inr ⟨b, o, rfl, Nat.lt_of_lt_of_le hlt hb.size, fun k x hk => ?_⟩
    obtain ⟨ys, h1, h2⟩ := hx k x hk
    exact ⟨ys, hp x ys h1, fun j u hj => (hb.cell (by exact hlt)).trans (h2 j u hj)⟩
def StrP (s : Pp.Bs) (ys : List Value) : Prop := ys = [.string ⟨s.toArray⟩]
def TyP (t : Pp.Ty) (ys : List Value) : Prop := ys = [.int .i64 t.kind, .string ⟨t.name.toArray⟩]
def FldP (f : Pp.Fld) (ys : List Value) : Prop := ys = [.string ⟨f.name.toArray⟩, .int .i64 f.ty.kind, .string ⟨f.ty.name.toArray⟩, .bool f.stat]
def InsP (x : Pp.Ins) (ys : List Value) : Prop := ys = [.int .i64 (x.op : Int), .int .i64 x.n, .string ⟨x.a.toArray⟩, .string ⟨x.b.toArray⟩]
def CtcP (c : Pp.Ctc) (ys : List Value) : Prop := ys = [.string ⟨c.name.toArray⟩, .int .i64 c.lo, .int .i64 c.hi, .int .i64 c.pc]
def mthL (m : Pp.Mth) (vp vc vk : Value) : List Value := [.string ⟨m.name.toArray⟩, .bool m.stat, .bool m.abst, vp, .int .i64 m.ret.kind, .string ⟨m.ret.name.toArray⟩, .int .i64 m.locals, vc, vk]
def MthP (w : World) (m : Pp.Mth) (ys : List Value) : Prop := ∃ vp vc vk, ys = mthL m vp vc vk ∧ RowP w 2 TyP vp m.params ∧ RowP w 4 InsP vc m.code ∧ RowP w 4 CtcP vk m.catches
def clsL (c : Pp.Cls) (vi vf vm : Value) : List Value := [.string ⟨c.name.toArray⟩, .bool c.iface, .string ⟨c.super.toArray⟩, vi, vf, vm]
def ClsP (w : World) (c : Pp.Cls) (ys : List Value) : Prop := ∃ vi vf vm, ys = clsL c vi vf vm ∧ RowP w 1 StrP vi c.ifaces ∧ RowP w 4 FldP vf c.fields ∧ RowP w 9 (MthP w) vm c.methods
def ProgP (w : World) (v : Value) (cs : List Pp.Cls) : Prop := RowP w 6 (ClsP w) v cs
theorem MthP.on {w w' : World} {m : Pp.Mth} {ys : List Value} (h : MthP w m ys) (hb : Below w.heap.size w w') : MthP w' m ys := by
  obtain ⟨vp, vc, vk, rfl, h1, h2, h3⟩ := h
  exact ⟨vp, vc, vk, rfl, h1.on hb fun _ _ h => h, h2.on hb fun _ _ h => h, h3.on hb fun _ _ h => h⟩
theorem ClsP.on {w w' : World} {c : Pp.Cls} {ys : List Value} (h : ClsP w c ys) (hb : Below w.heap.size w w') : ClsP w' c ys := by
  obtain ⟨vi, vf, vm, rfl, h1, h2, h3⟩ := h
  exact ⟨vi, vf, vm, rfl, h1.on hb fun _ _ h => h, h2.on hb fun _ _ h => h, h3.on hb fun _ _ h => h.on hb⟩
theorem ProgP.on {w w' : World} {v : Value} {cs : List Pp.Cls} (h : ProgP w v cs) (hb : Below w.heap.size w w') : ProgP w' v cs := RowP.on h hb fun _ _ h => h.on hb
theorem RowP.len {α : Type} {w : World} {sz : Nat} {P : α → List Value → Prop} {v : Value} {l : List α} (h : RowP w sz P v l) : ∃ a c, v = .slice a l.length c ∧ l.length ≤ c := by
  obtain ⟨a, c, h1, h2, _⟩ := h; exact ⟨a, c, h1, h2⟩
/-- Its first items. -/
theorem RowP.take {α : Type} {w : World} {sz : Nat} {P : α → List Value → Prop} {a : Option Addr} {n c : Nat} {l : List α} (h : RowP w sz P (.slice a n c) l) (k : Nat) (hk : k ≤ l.length) : RowP w sz P (.slice a k c) (l.take k) := by
  obtain ⟨a', c', hv, hc, h⟩ := h
  injection hv with h1 h2 h3
  subst h1; subst h3
  refine ⟨a, c, by rw [List.length_take, Nat.min_eq_left hk], by rw [List.length_take]; omega, ?_⟩
  rcases h with h | ⟨b, o, rfl, hlt, hx⟩
  · subst h; exact .inl (by simp)
  · refine .inr ⟨b, o, rfl, hlt, fun j x hj => hx j x ?_⟩
    rw [List.getElem?_take] at hj
    split at hj
    · exact hj
    · cases hj

theorem cell_box {w : World} {b : Nat} {c : Array Value} {t : TypeId} {f : Nat × Nat} (h : w.heap[b]? = some (.cells c t f)) (k : Nat) : w.cell? ⟨b, k, none⟩ = c[k]? := cell_of_row w b k c t f h
/-- Two blocks that a call has made of its arguments stay as they are. -/
theorem box_two {w w' : World} {c1 c2 : Array Value} {t1 t2 : TypeId} (hb : Below ((w.alloc (.cells c1 t1)).alloc (.cells c2 t2)).heap.size ((w.alloc (.cells c1 t1)).alloc (.cells c2 t2)) w') :
    (∀ k, w'.cell? ⟨w.heap.size, k, none⟩ = c1[k]?) ∧ (∀ k, w'.cell? ⟨w.heap.size + 1, k, none⟩ = c2[k]?) ∧ Below w.heap.size w w' := by
  refine ⟨fun k => ?_, fun k => ?_, ?_⟩
  · refine cell_box (t := t1) (f := (0, 0)) ?_ k
    rw [hb.block w.heap.size (by simp; omega), Below.heap_alloc _ _ _ (by simp)]
    exact heap_alloc_new w _
  · refine cell_box (t := t2) (f := (0, 0)) ?_ k
    rw [hb.block (w.heap.size + 1) (by simp)]
    have := heap_alloc_new (w.alloc (.cells c1 t1)) (.cells c2 t2)
    simpa using this
  · exact (((Below.refl _ _).alloc (Nat.le_refl _) _).alloc (by simp) _).trans (hb.mono (by simp; omega))

end Go.Proofs.YtpngpkbnhepleabDoor
