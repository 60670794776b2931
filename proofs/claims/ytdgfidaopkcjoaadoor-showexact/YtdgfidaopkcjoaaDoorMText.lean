/- What the page's methodText answers. -/
import Derived.Test.YtdgfidaopkcjoaaDoorMTextT
import Derived.Test.YtdgfidaopkcjoaaDoorMTextF
namespace Go.Proofs.YtdgfidaopkcjoaaDoor
open Go.RowKit
set_option linter.unusedVariables false
set_option linter.unusedSimpArgs false

theorem methodText_any (m : Pp.XMth) (ys : List Value) (w : World) (h : MthX w m ys) (hk : Pp.okMth m.toP) (hp : ∀ i ∈ m.code, 0 ≤ i.op) :
    Calls Tryd.prog 31 #[.agg ys.toArray] w fun e w' => e = .returned (.string ⟨(Pp.mthT m.toP).toArray⟩) ∧ Below w.heap.size w w' := by
  cases hs : m.stat with
  | true => exact methodText_T m ys w h hk hp hs
  | false => exact methodText_F m ys w h hk hp hs
theorem tws_le {t : Pp.Ty} (h : Pp.okTy t) : (Pp.tws t).length ≤ 24 := tws_len h
theorem parT_len (l : List Pp.Ty) (h : ∀ t ∈ l, Pp.okTy t) : (Pp.parT l).length ≤ 30 * l.length := by
  cases l with
  | nil => simp [Pp.parT]
  | cons t r =>
    have h1 := tws_len (h t (by simp))
    have h2 := Pp.flat_len (fun u => [32, 44, 32] ++ Pp.tws u) 27 r fun u hu => by
      have := tws_len (h u (by simp [hu]))
      simp; omega
    simp only [Pp.parT, List.length_append, List.length_cons, List.length_nil]
    omega
theorem insT_len {i : Pp.Ins} (h : Pp.okIns i) : (Pp.insT i).length ≤ 70 := by
  have h1 := Lx.nameL_len _ (Pp.op_name i.op h.1)
  have h2 := (Lx.intL_len i.n).2
  have h3 : (Pp.argT i).length ≤ 44 := by
    unfold Pp.argT
    rcases h.2 with ⟨s, _⟩ | ⟨s, _⟩ | ⟨s, _⟩ | ⟨s, _, a1, _⟩ | ⟨s, _, a1, a2⟩ | ⟨s, _⟩
    · rw [s]; simp; omega
    · rw [s]; simp; omega
    · rw [s]; simp; omega
    · rw [s]; have := Lx.nameL_len _ a1.1; simp; omega
    · rw [s]; have := Lx.nameL_len _ a1.1; have := Lx.nameL_len _ a2.1; simp; omega
    · rw [s]; simp
  unfold Pp.insT
  simp only [List.length_append, List.length_cons, List.length_nil]
  omega
theorem ctcT_len {c : Pp.Ctc} (h : Pp.okCtc c) : (Pp.ctcT c).length ≤ 100 := by
  have h1 := Lx.nameL_len _ h.1.1
  have h2 := (Lx.intL_len c.lo).2
  have h3 := (Lx.intL_len c.hi).2
  have h4 := (Lx.intL_len c.pc).2
  unfold Pp.ctcT
  simp only [List.length_append, List.length_cons, List.length_nil]
  omega
theorem mthT_len {m : Pp.Mth} (h : Pp.okMth m) : (Pp.mthT m).length ≤ 4500 := by
  obtain ⟨h1, ⟨h2, h3⟩, h4, h5⟩ := h
  have a1 := Lx.nameL_len _ h1.1
  have a2 := parT_len m.params h3
  have a3 := tws_len h4
  have a4 : (Pp.headT m.stat).length ≤ 9 := by cases m.stat <;> simp [Pp.headT]
  have a5 : (Pp.mthH m).length ≤ 300 := by
    unfold Pp.mthH
    simp only [List.length_append, List.length_cons, List.length_nil]
    omega
  unfold Pp.mthT
  rcases h5 with ⟨ha, _⟩ | ⟨ha, hl, ⟨c1, c2⟩, k1, k2⟩
  · rw [if_pos ha]; simp; omega
  · rw [if_neg (by rw [ha]; exact Bool.false_ne_true)]
    have b1 := Pp.flat_len Pp.insT 70 m.code fun i hi => insT_len (c2 i hi)
    have b2 := Pp.flat_len Pp.ctcT 100 m.catches fun i hi => ctcT_len (k2 i hi)
    have b3 := (Lx.intL_len m.locals).2
    unfold Pp.mthB1
    simp only [List.length_append, List.length_cons, List.length_nil]
    omega

end Go.Proofs.YtdgfidaopkcjoaaDoor
