/- Programs that are not too great. No program is named here. -/
import Derived.Test.YtildjihgklgibaaDoorShowP
namespace Go.Proofs.YtildjihgklgibaaDoor
namespace Pp
set_option linter.unusedVariables false
set_option linter.unusedSimpArgs false

def LtF (f : Fld) : Prop := f.name.length ≤ 60 ∧ f.ty.name.length ≤ 60
def LtI (x : XIns) : Prop := x.a.length ≤ 60 ∧ x.b.length ≤ 60
def LtT (t : Ty) : Prop := t.name.length ≤ 60
def LtK (c : Ctc) : Prop := c.name.length ≤ 60
def LtS (s : Bs) : Prop := s.length ≤ 60
def LtM (m : XMth) : Prop := (m.name.length ≤ 60 ∧ m.params.length ≤ 10 ∧ m.code.length ≤ 60 ∧ m.catches.length ≤ 10 ∧ m.ret.name.length ≤ 60) ∧ (∀ x ∈ m.code, LtI x) ∧ (∀ t ∈ m.params, LtT t) ∧ (∀ c ∈ m.catches, LtK c)
def LtC (c : XCls) : Prop := (c.fields.length ≤ 14 ∧ c.methods.length ≤ 14 ∧ c.ifaces.length ≤ 10 ∧ c.name.length ≤ 60 ∧ c.super.length ≤ 60) ∧ (∀ f ∈ c.fields, LtF f) ∧ (∀ s ∈ c.ifaces, LtS s) ∧ (∀ m ∈ c.methods, LtM m)
/-- A program that is not too great to be played. -/
def Light (cs : List XCls) : Prop := cs.length ≤ 14 ∧ ∀ c ∈ cs, LtC c
theorem all_take {α : Type} {P : α → Prop} {l : List α} {k : Nat} {x : α} (h : ∀ y ∈ l.take k, P y) (hx : l[k]? = some x) (hp : P x) : ∀ y ∈ l.take (k + 1), P y := by
  rw [List.take_add_one, hx]
  intro y hy
  rw [List.mem_append] at hy
  rcases hy with hy | hy
  · exact h y hy
  · simp at hy; subst hy; exact hp
theorem all_end {α : Type} {P : α → Prop} {l : List α} {k : Nat} (h : ∀ y ∈ l.take k, P y) (hk : l.length ≤ k) : ∀ y ∈ l, P y := by
  rw [List.take_of_length_le hk] at h; exact h

end Pp
end Go.Proofs.YtildjihgklgibaaDoor
