/- A program in memory: its classes in a row; the reader as Program holds it. -/
import Derived.Test.YtdgfidaopkcjoaaGreatDoorClass3
namespace Go.Proofs.YtdgfidaopkcjoaaGreatDoor
open Go.RowKit
set_option linter.unusedVariables false
set_option linter.unusedSimpArgs false

namespace Lx
theorem scanGo_facts : ∀ (f : Nat) (l : List UInt8) (p : Nat) (acc : List Tok), (scanGo f l p acc).1.length ≤ acc.length + l.length ∧ ((scanGo f l p acc).2.2 = 0 → (scanGo f l p acc).2.1 = 0) ∧ ((scanGo f l p acc).2.2 ≠ 0 → (scanGo f l p acc).1 = [])
  | 0, l, p, acc => by simp [scanGo]
  | f + 1, [], p, acc => by simp [scanGo]
  | f + 1, c :: r, p, acc => by
    rw [scanGo]
    split
    · have h := scanGo_facts f r (p + 1) acc
      refine ⟨by have := h.1; simp; omega, h.2.1, h.2.2⟩
    · split
      · simp
      · rename_i t ht
        have hpos := wordLen_pos (c :: r) p t ht
        have h := scanGo_facts f ((c :: r).drop (wordLen (c :: r))) (p + wordLen (c :: r)) (acc ++ [t])
        refine ⟨?_, h.2.1, h.2.2⟩
        have h1 := h.1
        rw [List.length_append, List.length_drop] at h1
        simp at h1 ⊢
        omega
theorem scanL_facts (bs : List UInt8) : (scanL bs).1.length ≤ 6000 ∧ ((scanL bs).2.2 = 0 → (scanL bs).2.1 = 0) ∧ ((scanL bs).2.2 ≠ 0 → (scanL bs).1 = []) := by
  rw [scanL]
  split
  · simp
  · have h := scanGo_facts bs.length bs 0 []
    refine ⟨by have := h.1; simp at this; omega, h.2.1, h.2.2⟩
end Lx

def clsC (c : Pp.Cls) (vi vf vm : Value) : List Value := [.string ⟨c.name.toArray⟩, .bool c.iface, .string ⟨c.super.toArray⟩, vi, vf, vm]
def ClssIs (w : World) (base : Nat) : List Pp.Cls → List Value → Prop
  | [], xs => xs = []
  | c :: r, xs => ∃ vi vf vm ys, xs = clsC c vi vf vm ++ ys ∧ ClsRows w base c vi vf vm ∧ ClssIs w base r ys
theorem ClsRows.keep {w w' : World} {base : Nat} {c : Pp.Cls} {vi vf vm : Value} (h : ClsRows w base c vi vf vm) (k : KpA w w') : ClsRows w' base c vi vf vm := by
  obtain ⟨h1, xs, h2, h3, h4⟩ := h
  exact ⟨k.str.own h1, xs, k.fld.own h2, k.mth.own h3, h4.keep k.ty k.ins k.ctc⟩
theorem ClsRows.base {w : World} {base base' : Nat} {c : Pp.Cls} {vi vf vm : Value} (h : ClsRows w base c vi vf vm) (hb : base' ≤ base) : ClsRows w base' c vi vf vm := by
  obtain ⟨h1, xs, h2, h3, h4⟩ := h
  exact ⟨own_base h1 hb, xs, own_base h2 hb, own_base h3 hb, h4.base hb⟩
theorem ClssIs.keep {w w' : World} {base : Nat} (k : KpA w w') : ∀ {cs : List Pp.Cls} {xs : List Value}, ClssIs w base cs xs → ClssIs w' base cs xs
  | [], xs, h => h
  | c :: r, xs, ⟨vi, vf, vm, ys, h1, h2, h3⟩ => ⟨vi, vf, vm, ys, h1, h2.keep k, h3.keep k⟩
theorem ClssIs.snoc {w : World} {base : Nat} {c : Pp.Cls} {vi vf vm : Value} (hm : ClsRows w base c vi vf vm) : ∀ {cs : List Pp.Cls} {xs : List Value}, ClssIs w base cs xs → ClssIs w base (cs ++ [c]) (xs ++ clsC c vi vf vm)
  | [], xs, h => ⟨vi, vf, vm, [], by rw [show xs = [] from h]; simp, hm, rfl⟩
  | a :: r, xs, ⟨vi', vf', vm', ys, h1, h2, h3⟩ => ⟨vi', vf', vm', ys ++ clsC c vi vf vm, by rw [h1]; simp, h2, h3.snoc hm⟩
def ProgIs (w : World) (base : Nat) (cs : List Pp.Cls) (v : Value) : Prop := ∃ xs, w.ownsRow base 41 6 v cs.length xs ∧ ClssIs w base cs xs
theorem ProgIs.keep {w w' : World} {base : Nat} {cs : List Pp.Cls} {v : Value} (h : ProgIs w base cs v) (k : KpA w w') (kc : Kp 41 w w') : ProgIs w' base cs v := by
  obtain ⟨xs, h1, h2⟩ := h
  exact ⟨xs, kc.own h1, h2.keep k⟩
theorem ProgIs.shape {w : World} {base : Nat} {cs : List Pp.Cls} {v : Value} (h : ProgIs w base cs v) : ∃ a c, v = .slice a cs.length c := by
  obtain ⟨xs, h1, h2⟩ := h; exact own_shapeV h1
theorem ProgIs.nil (w : World) (base : Nat) : ProgIs w base [] (.slice none 0 0) := ⟨[], World.ownsRow_nil _ _ _ _, rfl⟩
theorem ProgIs.base {w : World} {base base' : Nat} {cs : List Pp.Cls} {v : Value} (h : ProgIs w base cs v) (hb : base' ≤ base) : ProgIs w base' cs v := by
  obtain ⟨xs, h1, h2⟩ := h
  refine ⟨xs, own_base h1 hb, ?_⟩
  clear h1
  induction cs generalizing xs with
  | nil => exact h2
  | cons c r ih =>
    obtain ⟨vi, vf, vm, ys, e, q1, q2⟩ := h2
    exact ⟨vi, vf, vm, ys, e, q1.base hb, ih ys q2⟩

structure Pg (w wr : World) (b R : Nat) (C : Cx) (s : Pp.St) (v : Value) : Prop where
  rd : Rd wr b C s
  p : wr.heap[R]? = some (.cells #[v] 24 (0, 0))
  bl : Below w.heap.size w wr
  hb : w.heap.size ≤ b
  hR : w.heap.size ≤ R
  ne : R ≠ b
  hw2 : 2 ≤ w.heap.size
section
variable {w wr : World} {b R : Nat} {C : Cx} {s : Pp.St} {v : Value}
theorem Pg.call (h : Pg w wr b R C s v) {w' : World} {s' : Pp.St} (hr : Rd w' b C s') (hf : Fr [b] wr w') : Pg w w' b R C s' v :=
  ⟨hr, (hf.block R (lt_of_block h.p) (fun hm => by simp at hm; exact h.ne hm)).trans h.p, h.bl.trans (hf.below h.bl.size (fun x hx => by simp at hx; subst hx; exact h.hb)), h.hb, h.hR, h.ne, h.hw2⟩
theorem Pg.below (h : Pg w wr b R C s v) {w' : World} (hb : Below wr.heap.size wr w') : Pg w w' b R C s v := h.call (h.rd.below hb) (Fr.ofBelow hb)
theorem Pg.drew (h : Pg w wr b R C s v) : Pg w wr.drew b R C s v := h.call h.rd.drew ((Fr.refl _ _).drew)
theorem Pg.cell (h : Pg w wr b R C s v) : wr.cell? ⟨R, 0, none⟩ = some v := by rw [cell_blk h.p]; rfl
theorem Pg.fz (h : Pg w wr b R C s v) : wr.frozen? ⟨R, 0, none⟩ = false := frozen_blk h.p 0
theorem Pg.set (h : Pg w wr b R C s v) (u : Value) : Pg w (wr.setCell ⟨R, 0, none⟩ u) b R C s u := by
  have hf : Fr [R] wr (wr.setCell ⟨R, 0, none⟩ u) := (Fr.refl _ _).setCell (.inl (by simp)) _
  have h2 := h.hw2
  refine ⟨h.rd.fr hf (fun x hx => ?_), blk_set h.p 0 (by simp) u, h.bl.setCell h.hR u, h.hb, h.hR, h.ne, h.hw2⟩
  simp at hx; subst hx
  exact ⟨by have := h.hR; omega, h.ne, fun c f hc => by rw [h.p] at hc; simp at hc⟩
theorem Pg.grown (h : Pg w wr b R C s v) {w' : World} {n : Nat} {xs : List Value} {vv : Value} (ho : wr.ownsRow w.heap.size 41 6 vv n xs) (hg : wr.grownBy w' vv.ownBlock) (hbb : ∀ k, vv.ownBlock = some k → k ≠ b) : Pg w w' b R C s v := by
  have hf : Fr [] wr w' ∨ True := .inr trivial
  have hrd : Rd w' b C s := by
    have hk : Kp 62 wr w' := Kp.grown ho hg (by decide)
    have hk2 : Kp 85 wr w' := Kp.grown ho hg (by decide)
    refine ⟨hk _ _ _ h.rd.blk, hk2.own h.rd.wds, h.rd.hi, h.rd.hn, h.rd.hpl, ?_, h.rd.hb⟩
    have hbb2 : ∀ g, g < 2 → w'.heap[g]? = wr.heap[g]? := fun g hg' => hg.block g (by have := h.rd.tab.lt; omega) (fun e => by have := (ho.lt g e.symm).1; have := h.hw2; omega)
    exact ⟨fun i t ht => (World.cell?_of_block (w := wr) (hbb2 1 (by decide))).trans (h.rd.tab.words i t ht), fun i t ht => (World.cell?_of_block (w := wr) (hbb2 0 (by decide))).trans (h.rd.tab.kept i t ht)⟩
  refine ⟨hrd, (Kp.grown ho hg (by decide)) _ _ _ h.p, Below.grown h.bl hg h.bl.size (fun k hk => (ho.lt k hk).1), h.hb, h.hR, h.ne, h.hw2⟩
end
theorem KpA.grownC {w w' : World} {base n : Nat} {v : Value} {xs : List Value} (ho : w.ownsRow base 41 6 v n xs) (hg : w.grownBy w' v.ownBlock) : KpA w w' := ⟨Kp.grown ho hg (by decide), Kp.grown ho hg (by decide), Kp.grown ho hg (by decide), Kp.grown ho hg (by decide), Kp.grown ho hg (by decide), Kp.grown ho hg (by decide)⟩
theorem KpA.setP {w : World} {L : Nat} {c : Array Value} {f : Nat × Nat} (hL : w.heap[L]? = some (.cells c 24 f)) (k : Nat) (u : Value) : KpA w (w.setCell ⟨L, k, none⟩ u) :=
  ⟨Kp.set hL (by decide) k u, Kp.set hL (by decide) k u, Kp.set hL (by decide) k u, Kp.set hL (by decide) k u, Kp.set hL (by decide) k u, Kp.set hL (by decide) k u⟩
theorem Tryz.info41 : (Tryz.prog.info? 41).map (fun i => (i.zero, i.size, i.bytes)) = some (some (.agg #[.string ⟨#[]⟩, .bool false, .string ⟨#[]⟩, .slice none 0 0, .slice none 0 0, .slice none 0 0]), 6, 112) := by kernel_rfl
abbrev isC : Pp.Wd → Bool := Pp.isW2 Pp.wClass Pp.wInterface
theorem prog_run {C : Cx} {s0 z : Pp.St} {cs : List Pp.Cls} (h : Pp.classes.run C.ws s0 = (cs, z)) : Pp.progP.run C.ws s0 = (cs, if z.i < C.tk.length then Pp.failS z 4 else z) := by
  rw [Pp.progP, Pp.run_bind, h]
  show (Pp.Pr.peek _ _ _).run C.ws z = _
  cases hh : Pp.has C.ws z (fun _ => true) with
  | true =>
    rw [peek_yes hh, if_pos (has_lt hh).1]; rfl
  | false =>
    rw [peek_no hh]
    show (cs, z) = _
    congr 1
    by_cases hl : z.i < C.tk.length
    · rw [if_pos hl]
      by_cases he : z.e = 0
      · exfalso
        simp [Pp.has, Pp.cur, he, Cx.ws, hl] at hh
      · simp [Pp.failS, he]
    · rw [if_neg hl]

end Go.Proofs.YtdgfidaopkcjoaaGreatDoor
