/- Rows of members: what stays, what is added. -/
import Derived.Test.YtdgfidaopkcjoaaGreatDoorMethod
namespace Go.Proofs.YtdgfidaopkcjoaaGreatDoor
open Go.RowKit
set_option linter.unusedVariables false
set_option linter.unusedSimpArgs false

def fldsCells (l : List Pp.Fld) : List Value := l.flatMap fldCells
theorem fldsCells_app (l : List Pp.Fld) (x : Pp.Fld) : fldsCells (l ++ [x]) = fldsCells l ++ [.string ⟨x.name.toArray⟩, .int .i64 x.ty.kind, .string ⟨x.ty.name.toArray⟩, .bool x.stat] := by simp [fldsCells, fldCells]
def mthC (m : Pp.Mth) (vp vc vk : Value) : List Value := [.string ⟨m.name.toArray⟩, .bool m.stat, .bool m.abst, vp, .int .i64 m.ret.kind, .string ⟨m.ret.name.toArray⟩, .int .i64 m.locals, vc, vk]
def MthsIs (w : World) (base : Nat) : List Pp.Mth → List Value → Prop
  | [], xs => xs = []
  | m :: r, xs => ∃ vp vc vk ys, xs = mthC m vp vc vk ++ ys ∧ MthRows w base m vp vc vk ∧ MthsIs w base r ys
theorem MthRows.keep {w w' : World} {base : Nat} {m : Pp.Mth} {vp vc vk : Value} (h : MthRows w base m vp vc vk) (k1 : Kp 43 w w') (k2 : Kp 52 w w') (k3 : Kp 54 w w') : MthRows w' base m vp vc vk := ⟨k1.own h.1, k2.own h.2.1, k3.own h.2.2⟩
theorem MthRows.base {w : World} {base base' : Nat} {m : Pp.Mth} {vp vc vk : Value} (h : MthRows w base m vp vc vk) (hb : base' ≤ base) : MthRows w base' m vp vc vk := ⟨own_base h.1 hb, own_base h.2.1 hb, own_base h.2.2 hb⟩
theorem MthsIs.keep {w w' : World} {base : Nat} (k1 : Kp 43 w w') (k2 : Kp 52 w w') (k3 : Kp 54 w w') : ∀ {ms : List Pp.Mth} {xs : List Value}, MthsIs w base ms xs → MthsIs w' base ms xs
  | [], xs, h => h
  | m :: r, xs, ⟨vp, vc, vk, ys, h1, h2, h3⟩ => ⟨vp, vc, vk, ys, h1, h2.keep k1 k2 k3, h3.keep k1 k2 k3⟩
theorem MthsIs.base {w : World} {base base' : Nat} (hb : base' ≤ base) : ∀ {ms : List Pp.Mth} {xs : List Value}, MthsIs w base ms xs → MthsIs w base' ms xs
  | [], xs, h => h
  | m :: r, xs, ⟨vp, vc, vk, ys, h1, h2, h3⟩ => ⟨vp, vc, vk, ys, h1, h2.base hb, h3.base hb⟩
theorem MthsIs.snoc {w : World} {base : Nat} {m : Pp.Mth} {vp vc vk : Value} (hm : MthRows w base m vp vc vk) : ∀ {ms : List Pp.Mth} {xs : List Value}, MthsIs w base ms xs → MthsIs w base (ms ++ [m]) (xs ++ mthC m vp vc vk)
  | [], xs, h => ⟨vp, vc, vk, [], by rw [show xs = [] from h]; simp, hm, rfl⟩
  | a :: r, xs, ⟨vp', vc', vk', ys, h1, h2, h3⟩ => ⟨vp', vc', vk', ys ++ mthC m vp vc vk, by rw [h1]; simp, h2, h3.snoc hm⟩

/-- The blocks of the six types of rows stay. -/
structure KpA (w w' : World) : Prop where
  fld : Kp 45 w w'
  mth : Kp 50 w w'
  ty : Kp 43 w w'
  ins : Kp 52 w w'
  ctc : Kp 54 w w'
  str : Kp 9 w w'
theorem KpA.trans {a b c : World} (h : KpA a b) (k : KpA b c) : KpA a c := ⟨h.fld.trans k.fld, h.mth.trans k.mth, h.ty.trans k.ty, h.ins.trans k.ins, h.ctc.trans k.ctc, h.str.trans k.str⟩
theorem KpA.below {w w' : World} (h : Below w.heap.size w w') : KpA w w' := ⟨Kp.below h, Kp.below h, Kp.below h, Kp.below h, Kp.below h, Kp.below h⟩
theorem KpA.alloc (w : World) (o : Obj) : KpA w (w.alloc o) := KpA.below ((Below.refl _ _).alloc (Nat.le_refl _) _)
theorem KpA.drew (w : World) : KpA w w.drew := ⟨Kp.drew _ _, Kp.drew _ _, Kp.drew _ _, Kp.drew _ _, Kp.drew _ _, Kp.drew _ _⟩
theorem KpA.fr {w w' : World} {b : Nat} {C : Cx} {s : Pp.St} (hr : Rd w b C s) (h : Fr [b] w w') : KpA w w' := ⟨Kp.fr hr h (by decide), Kp.fr hr h (by decide), Kp.fr hr h (by decide), Kp.fr hr h (by decide), Kp.fr hr h (by decide), Kp.fr hr h (by decide)⟩
theorem KpA.set {w : World} {L : Nat} {c : Array Value} {f : Nat × Nat} (hL : w.heap[L]? = some (.cells c 41 f)) (k : Nat) (u : Value) : KpA w (w.setCell ⟨L, k, none⟩ u) :=
  ⟨Kp.set hL (by decide) k u, Kp.set hL (by decide) k u, Kp.set hL (by decide) k u, Kp.set hL (by decide) k u, Kp.set hL (by decide) k u, Kp.set hL (by decide) k u⟩

def MemRows (w wr : World) (base : Nat) (fs : List Pp.Fld) (ms : List Pp.Mth) (vf vm : Value) : Prop :=
  ∃ xs, wr.ownsRow base 45 4 vf fs.length (fldsCells fs) ∧ wr.ownsRow base 50 9 vm ms.length xs ∧ MthsIs wr base ms xs ∧ Kp 9 w wr
theorem MemRows.keep {w wr wr' : World} {base : Nat} {fs : List Pp.Fld} {ms : List Pp.Mth} {vf vm : Value} (h : MemRows w wr base fs ms vf vm) (k : KpA wr wr') : MemRows w wr' base fs ms vf vm := by
  obtain ⟨xs, h1, h2, h3, h4⟩ := h
  exact ⟨xs, k.fld.own h1, k.mth.own h2, h3.keep k.ty k.ins k.ctc, h4.trans k.str⟩
theorem MemRows.vf {w wr : World} {base : Nat} {fs : List Pp.Fld} {ms : List Pp.Mth} {vf vm : Value} (h : MemRows w wr base fs ms vf vm) : ∃ a c, vf = .slice a fs.length c := by
  obtain ⟨xs, h1, h2, h3, h4⟩ := h; exact own_shapeV h1
theorem MemRows.vm {w wr : World} {base : Nat} {fs : List Pp.Fld} {ms : List Pp.Mth} {vf vm : Value} (h : MemRows w wr base fs ms vf vm) : ∃ a c, vm = .slice a ms.length c := by
  obtain ⟨xs, h1, h2, h3, h4⟩ := h; exact own_shapeV h2
theorem MemRows.addF {w wr wr' : World} {base : Nat} {fs : List Pp.Fld} {ms : List Pp.Mth} {vf vm v' : Value} {y : Pp.Fld} (h : MemRows w wr base fs ms vf vm) (hg : wr.grownBy wr' vf.ownBlock)
    (ho : wr'.ownsRow base 45 4 v' (fs.length + 1) (fldsCells fs ++ [.string ⟨y.name.toArray⟩, .int .i64 y.ty.kind, .string ⟨y.ty.name.toArray⟩, .bool y.stat])) : MemRows w wr' base (fs ++ [y]) ms v' vm := by
  obtain ⟨xs, h1, h2, h3, h4⟩ := h
  refine ⟨xs, by rw [fldsCells_app, List.length_append]; exact ho, (Kp.grown h1 hg (by decide)).own h2, h3.keep (Kp.grown h1 hg (by decide)) (Kp.grown h1 hg (by decide)) (Kp.grown h1 hg (by decide)), h4.trans (Kp.grown h1 hg (by decide))⟩
theorem MemRows.addM {w wr wr' : World} {base : Nat} {fs : List Pp.Fld} {ms : List Pp.Mth} {vf vm v' : Value} {y : Pp.Mth} {vp vc vk : Value} {xs : List Value} (h1 : wr.ownsRow base 45 4 vf fs.length (fldsCells fs)) (h2 : wr.ownsRow base 50 9 vm ms.length xs) (h3 : MthsIs wr base ms xs) (h4 : Kp 9 w wr)
    (hm : MthRows wr base y vp vc vk) (hg : wr.grownBy wr' vm.ownBlock) (ho : wr'.ownsRow base 50 9 v' (ms.length + 1) (xs ++ mthC y vp vc vk)) : MemRows w wr' base fs (ms ++ [y]) vf v' := by
  refine ⟨xs ++ mthC y vp vc vk, (Kp.grown h2 hg (by decide)).own h1, by rw [List.length_append]; exact ho, ?_, h4.trans (Kp.grown h2 hg (by decide))⟩
  exact MthsIs.snoc (hm.keep (Kp.grown h2 hg (by decide)) (Kp.grown h2 hg (by decide)) (Kp.grown h2 hg (by decide))) (h3.keep (Kp.grown h2 hg (by decide)) (Kp.grown h2 hg (by decide)) (Kp.grown h2 hg (by decide)))

def clsA (n : List UInt8) (ic : Bool) (sup : List UInt8) (vi vf vm : Value) : Array Value := #[.string ⟨n.toArray⟩, .bool ic, .string ⟨sup.toArray⟩, vi, vf, vm]
section
variable {w0 w : World} {b : Nat} {C : Cx} {s : Pp.St} {Ls : List (Nat × Array Value × TypeId)} {ix cb : Nat} {n sup : List UInt8} {ic : Bool} {vi vf vm : Value} {y : Nat × Array Value × TypeId}
theorem Lo.setC4 (l : Lo w0 w b C s (Ls.set ix (cb, clsA n ic sup vi vf vm, 41))) (hx : Ls[ix]? = some y) (v : Value) : Lo w0 (w.setCell ⟨cb, 4, none⟩ v) b C s (Ls.set ix (cb, clsA n ic sup vi v vm, 41)) := by
  have h := l.set ix _ (set_get hx) 4 (by simp [clsA]) v
  rw [List.set_set] at h
  exact h
theorem Lo.setC5 (l : Lo w0 w b C s (Ls.set ix (cb, clsA n ic sup vi vf vm, 41))) (hx : Ls[ix]? = some y) (v : Value) : Lo w0 (w.setCell ⟨cb, 5, none⟩ v) b C s (Ls.set ix (cb, clsA n ic sup vi vf v, 41)) := by
  have h := l.set ix _ (set_get hx) 5 (by simp [clsA]) v
  rw [List.set_set] at h
  exact h
end
theorem has_fail (C : Cx) (s : Pp.St) (k : Int) (hk : k ≠ 0) (q : Pp.Wd → Bool) : Pp.has C.ws (Pp.failS s k) q = false := by
  by_cases h : s.e = 0
  · simp [Pp.has, Pp.cur, Pp.failS, h, hk]
  · simp [Pp.has, Pp.cur, Pp.failS, h]
abbrev isF : Pp.Wd → Bool := Pp.isW2 Pp.wField Pp.wStatic
abbrev isM : Pp.Wd → Bool := Pp.isW2 Pp.wMethod Pp.wFunction
section
variable {C : Cx} {s : Pp.St} {fs : List Pp.Fld} {ms : List Pp.Mth}
theorem mem_none (h1 : Pp.has C.ws s isF = false) (h2 : Pp.has C.ws s isM = false) (k : Nat) : (Pp.members k fs ms).run C.ws s = ((fs, ms), s) := by
  cases k with
  | zero => rw [Pp.members, peek_no h1, peek_no h2]; rfl
  | succ k => rw [Pp.members, peek_no h1, peek_no h2]; rfl
theorem mem_ff (h1 : Pp.has C.ws s isF = true) (hf : 6 ≤ fs.length) (k : Nat) : (Pp.members k fs ms).run C.ws s = ((fs, ms), Pp.failS s 2) := by
  cases k with
  | zero => rw [Pp.members, peek_yes h1]; rfl
  | succ k => rw [Pp.members, peek_yes h1, if_pos hf]; rfl
theorem mem_mm (h1 : Pp.has C.ws s isF = false) (h2 : Pp.has C.ws s isM = true) (hf : 6 ≤ ms.length) (k : Nat) : (Pp.members k fs ms).run C.ws s = ((fs, ms), Pp.failS s 2) := by
  cases k with
  | zero => rw [Pp.members, peek_no h1, peek_yes h2]; rfl
  | succ k => rw [Pp.members, peek_no h1, peek_yes h2, if_pos hf]; rfl
theorem mem_f (h1 : Pp.has C.ws s isF = true) (hf : fs.length < 6) (k : Nat) : (Pp.members (k + 1) fs ms).run C.ws s = (Pp.members k (fs ++ [(Pp.field.run C.ws s).1]) ms).run C.ws (Pp.field.run C.ws s).2 := by
  rw [Pp.members, peek_yes h1, if_neg (by omega), Pp.run_bind]
theorem mem_m (h1 : Pp.has C.ws s isF = false) (h2 : Pp.has C.ws s isM = true) (hf : ms.length < 6) (k : Nat) : (Pp.members (k + 1) fs ms).run C.ws s = (Pp.members k fs (ms ++ [(Pp.method.run C.ws s).1])).run C.ws (Pp.method.run C.ws s).2 := by
  rw [Pp.members, peek_no h1, peek_yes h2, if_neg (by omega), Pp.run_bind]
end
theorem Tryz.info45 : (Tryz.prog.info? 45).map (fun i => (i.zero, i.size, i.bytes)) = some (some (.agg #[.string ⟨#[]⟩, .int .i64 0, .string ⟨#[]⟩, .bool false]), 4, 48) := by kernel_rfl
theorem Tryz.info50 : (Tryz.prog.info? 50).map (fun i => (i.zero, i.size, i.bytes)) = some (some (.agg #[.string ⟨#[]⟩, .bool false, .bool false, .slice none 0 0, .int .i64 0, .string ⟨#[]⟩, .int .i64 0, .slice none 0 0, .slice none 0 0]), 9, 128) := by kernel_rfl

end Go.Proofs.YtdgfidaopkcjoaaGreatDoor
