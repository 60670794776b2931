/- Programs of any numbers in memory: whatever block they lie in. -/
import Derived.Test.YtdgfidaopkcjoaaDoorShowA
import Derived.Test.YtdgfidaopkcjoaaDoorMgA
namespace Go.Proofs.YtdgfidaopkcjoaaDoor
open Go.RowKit
set_option linter.unusedVariables false
set_option linter.unusedSimpArgs false

def RowX {α : Type} (w : World) (sz : Nat) (P : α → List Value → Prop) (v : Value) (l : List α) : Prop :=
  ∃ a c, v = .slice a l.length c ∧ l.length ≤ c ∧ (l = [] ∨ ∃ b o, a = some ⟨b, o, none⟩ ∧ b < w.heap.size ∧ ∀ (k : Nat) (x : α), l[k]? = some x → ∃ ys, P x ys ∧ ∀ (j : Nat) (u : Value), ys[j]? = some u → w.cell? ⟨b, o + k * sz + j, none⟩ = some u)
theorem RowX.on {α : Type} {w w' : World} {sz : Nat} {P P' : α → List Value → Prop} {v : Value} {l : List α} (h : RowX w sz P v l) (hb : Below w.heap.size w w') (hp : ∀ x ys, P x ys → P' x ys) : RowX w' sz P' v l := by
  obtain ⟨a, c, rfl, hc, h⟩ := h
  refine ⟨a, c, rfl, hc, ?_⟩
  rcases h with h | ⟨b, o, rfl, hlt, hx⟩
  · exact .inl h
  · refine .inr ⟨b, o, rfl, Nat.lt_of_lt_of_le hlt hb.size, fun k x hk => ?_⟩
    obtain ⟨ys, h1, h2⟩ := hx k x hk
    exact ⟨ys, hp x ys h1, fun j u hj => (hb.cell (by exact hlt)).trans (h2 j u hj)⟩
theorem RowX.len {α : Type} {w : World} {sz : Nat} {P : α → List Value → Prop} {v : Value} {l : List α} (h : RowX w sz P v l) : ∃ a c, v = .slice a l.length c ∧ l.length ≤ c := by
  obtain ⟨a, c, h1, h2, _⟩ := h; exact ⟨a, c, h1, h2⟩
def strL (s : Pp.Bs) : List Value := [.string ⟨s.toArray⟩]
def tyL (t : Pp.Ty) : List Value := [.int .i64 t.kind, .string ⟨t.name.toArray⟩]
def fldL (f : Pp.Fld) : List Value := [.string ⟨f.name.toArray⟩, .int .i64 f.ty.kind, .string ⟨f.ty.name.toArray⟩, .bool f.stat]
def insL (x : Pp.XIns) : List Value := [.int .i64 x.op, .int .i64 x.n, .string ⟨x.a.toArray⟩, .string ⟨x.b.toArray⟩]
def ctcL (c : Pp.Ctc) : List Value := [.string ⟨c.name.toArray⟩, .int .i64 c.lo, .int .i64 c.hi, .int .i64 c.pc]
def mthXL (m : Pp.XMth) (vp vc vk : Value) : List Value := [.string ⟨m.name.toArray⟩, .bool m.stat, .bool m.abst, vp, .int .i64 m.ret.kind, .string ⟨m.ret.name.toArray⟩, .int .i64 m.locals, vc, vk]
def clsXL (c : Pp.XCls) (vi vf vm : Value) : List Value := [.string ⟨c.name.toArray⟩, .bool c.iface, .string ⟨c.super.toArray⟩, vi, vf, vm]
/-- As they lie in memory, and no longer than texts may be. -/
def StrX (s : Pp.Bs) (ys : List Value) : Prop := ys = strL s ∧ s.length ≤ maxLen
def TyX (t : Pp.Ty) (ys : List Value) : Prop := ys = tyL t ∧ t.name.length ≤ maxLen
def FldX (f : Pp.Fld) (ys : List Value) : Prop := ys = fldL f ∧ f.name.length ≤ maxLen ∧ f.ty.name.length ≤ maxLen
def InsX (x : Pp.XIns) (ys : List Value) : Prop := ys = insL x ∧ x.a.length ≤ maxLen ∧ x.b.length ≤ maxLen
def CtcX (c : Pp.Ctc) (ys : List Value) : Prop := ys = ctcL c ∧ c.name.length ≤ maxLen
def MthX (w : World) (m : Pp.XMth) (ys : List Value) : Prop := ∃ vp vc vk, ys = mthXL m vp vc vk ∧ RowX w 2 TyX vp m.params ∧ RowX w 4 InsX vc m.code ∧ RowX w 4 CtcX vk m.catches ∧
  m.name.length ≤ maxLen ∧ m.ret.name.length ≤ maxLen ∧ m.params.length ≤ maxLen ∧ m.code.length ≤ maxLen ∧ m.catches.length ≤ maxLen
def ClsX (w : World) (c : Pp.XCls) (ys : List Value) : Prop := ∃ vi vf vm, ys = clsXL c vi vf vm ∧ RowX w 1 StrX vi c.ifaces ∧ RowX w 4 FldX vf c.fields ∧ RowX w 9 (MthX w) vm c.methods ∧
  c.name.length ≤ maxLen ∧ c.super.length ≤ maxLen ∧ c.ifaces.length ≤ maxLen ∧ c.fields.length ≤ maxLen ∧ c.methods.length ≤ maxLen
def ProgX (w : World) (v : Value) (cs : List Pp.XCls) : Prop := RowX w 6 (ClsX w) v cs ∧ cs.length ≤ maxLen
theorem MthX.on {w w' : World} {m : Pp.XMth} {ys : List Value} (h : MthX w m ys) (hb : Below w.heap.size w w') : MthX w' m ys := by
  obtain ⟨vp, vc, vk, rfl, h1, h2, h3, h4⟩ := h
  exact ⟨vp, vc, vk, rfl, h1.on hb fun _ _ h => h, h2.on hb fun _ _ h => h, h3.on hb fun _ _ h => h, h4⟩
theorem ClsX.on {w w' : World} {c : Pp.XCls} {ys : List Value} (h : ClsX w c ys) (hb : Below w.heap.size w w') : ClsX w' c ys := by
  obtain ⟨vi, vf, vm, rfl, h1, h2, h3, h4⟩ := h
  exact ⟨vi, vf, vm, rfl, h1.on hb fun _ _ h => h, h2.on hb fun _ _ h => h, h3.on hb fun _ _ h => h.on hb, h4⟩
theorem ProgX.on {w w' : World} {v : Value} {cs : List Pp.XCls} (h : ProgX w v cs) (hb : Below w.heap.size w w') : ProgX w' v cs := ⟨RowX.on h.1 hb fun _ _ h => h.on hb, h.2⟩

theorem cell_box {w : World} {b : Nat} {c : Array Value} {t : TypeId} {f : Nat × Nat} (h : w.heap[b]? = some (.cells c t f)) (k : Nat) : w.cell? ⟨b, k, none⟩ = c[k]? := cell_of_row w b k c t f h
/-- The block that a call has made of its argument stays as it is. -/
theorem box_one {w w' : World} {c1 : Array Value} {t1 : TypeId} (hb : Below (w.alloc (.cells c1 t1)).heap.size (w.alloc (.cells c1 t1)) w') :
    (∀ k, w'.cell? ⟨w.heap.size, k, none⟩ = c1[k]?) ∧ Below w.heap.size w w' ∧ w.heap.size < w'.heap.size := by
  refine ⟨fun k => ?_, ((Below.refl _ _).alloc (Nat.le_refl _) _).trans (hb.mono (by simp)), by have := hb.size; simp at this; omega⟩
  refine cell_box (t := t1) (f := (0, 0)) ?_ k
  rw [hb.block w.heap.size (by simp)]
  exact heap_alloc_new w _

end Go.Proofs.YtdgfidaopkcjoaaDoor
