/- What field and catch answer. -/
import Derived.Test.YtdgfidaopkcjoaaGreatDoorTyped
namespace Go.Proofs.YtdgfidaopkcjoaaGreatDoor
open Go.RowKit
set_option linter.unusedVariables false
set_option linter.unusedSimpArgs false

def fldCells (f : Pp.Fld) : List Value := [.string ⟨f.name.toArray⟩, .int .i64 f.ty.kind, .string ⟨f.ty.name.toArray⟩, .bool f.stat]
def fldV (f : Pp.Fld) : Value := .agg #[.string ⟨f.name.toArray⟩, .int .i64 f.ty.kind, .string ⟨f.ty.name.toArray⟩, .bool f.stat]
def ctcCells (c : Pp.Ctc) : List Value := [.string ⟨c.name.toArray⟩, .int .i64 c.lo, .int .i64 c.hi, .int .i64 c.pc]
def ctcV (c : Pp.Ctc) : Value := .agg #[.string ⟨c.name.toArray⟩, .int .i64 c.lo, .int .i64 c.hi, .int .i64 c.pc]

set_option maxRecDepth 100000 in
set_option maxHeartbeats 4000000 in
theorem field_any {w : World} {b : Nat} {C : Cx} {s : Pp.St} (h : Rd w b C s) :
    Calls Tryz.prog 58 #[.pointer (some ⟨b, 0, none⟩)] w fun e w' => e = .returned (fldV (Pp.field.run C.ws s).1) ∧ Rd w' b C (Pp.field.run C.ws s).2 ∧ Fr [b] w w' := by
  obtain ⟨V, S, hVS⟩ : ∃ V S, Pp.field.run C.ws s = (V, S) := ⟨_, _, rfl⟩
  rw [hVS]
  have HR := hide hVS
  clear hVS
  show Calls _ _ _ _ fun e w' => e = .returned (fldV V) ∧ Rd w' b C S ∧ Fr [b] w w'
  simp only [Pp.field, Pp.run_bind, Pp.run_ret] at HR
  have l0 : Lo w ((w.alloc (.cells #[.string ⟨#[]⟩, .int .i64 0, .string ⟨#[]⟩, .bool false] 45)).alloc (.cells #[.string ⟨#[]⟩, .int .i64 0, .string ⟨#[]⟩, .bool false] 45)) b C s [(w.heap.size, #[.string ⟨#[]⟩, .int .i64 0, .string ⟨#[]⟩, .bool false], 45), (w.heap.size + 1, #[.string ⟨#[]⟩, .int .i64 0, .string ⟨#[]⟩, .bool false], 45)] := by
    have h9 := ((Lo.start h).alloc #[.string ⟨#[]⟩, .int .i64 0, .string ⟨#[]⟩, .bool false] 45 (by decide)).alloc #[.string ⟨#[]⟩, .int .i64 0, .string ⟨#[]⟩, .bool false] 45 (by decide)
    simpa using h9
  have L0 := hide l0
  clear h l0
  go_enter Tryz.func58, Tryz.ntmps58
  have hC1 := hide (first_any L0.out.rd Pp.wStatic Pp.wField (by decide) (by decide))
  obtain ⟨st, s1, h1⟩ : ∃ r t, (Pp.first Pp.wStatic Pp.wField).run C.ws s = (r, t) := ⟨_, _, rfl⟩
  rw [h1] at hC1 HR
  simp only at hC1 HR
  clear h1
  unfold Pp.wStatic at hC1
  unfold Pp.wField at hC1
  go_wp2_with fail
  refine hC1.out.mono ?_
  rintro e w1 ⟨rfl, hr1, hf1⟩
  have l1 := L0.out.call hr1 hf1
  clear hr1 hf1 L0 hC1
  have k3 := l1.cell 1 _ rfl 3
  have f3 := l1.fz 1 _ rfl 3
  simp only at k3 f3
  have L1 : Hid (Lo w (w1.setCell ⟨w.heap.size + 1, 3, none⟩ (.bool st)) b C s1 [(w.heap.size, #[.string ⟨#[]⟩, .int .i64 0, .string ⟨#[]⟩, .bool false], 45), (w.heap.size + 1, #[.string ⟨#[]⟩, .int .i64 0, .string ⟨#[]⟩, .bool st], 45)]) := hide (l1.set 1 _ rfl 3 (by simp) (.bool st))
  clear l1
  have hC2 := hide (fresh_any L1.out.rd)
  obtain ⟨n, s2, h2⟩ : ∃ r t, (Pp.fresh).run C.ws s1 = (r, t) := ⟨_, _, rfl⟩
  rw [h2] at hC2 HR
  simp only at hC2 HR
  clear h2
  go_wp2_with fail
  refine hC2.out.mono ?_
  rintro e w2 ⟨rfl, hr2, hf2⟩
  have l2 := L1.out.call hr2 hf2
  clear hr2 hf2 L1 hC2
  have k0 := l2.cell 1 _ rfl 0
  have f0 := l2.fz 1 _ rfl 0
  simp only at k0 f0
  have L2 : Hid (Lo w (w2.setCell ⟨w.heap.size + 1, 0, none⟩ (.string ⟨n.toArray⟩)) b C s2 [(w.heap.size, #[.string ⟨#[]⟩, .int .i64 0, .string ⟨#[]⟩, .bool false], 45), (w.heap.size + 1, #[.string ⟨n.toArray⟩, .int .i64 0, .string ⟨#[]⟩, .bool st], 45)]) := hide (l2.set 1 _ rfl 0 (by simp) (.string ⟨n.toArray⟩))
  clear l2
  have hC3 := hide (want_any L2.out.rd Pp.wColon (by decide))
  obtain ⟨u3, s3, h3⟩ : ∃ r t, (Pp.want Pp.wColon).run C.ws s2 = (r, t) := ⟨_, _, rfl⟩
  rw [h3] at hC3 HR
  simp only at hC3 HR
  clear h3
  unfold Pp.wColon at hC3
  go_wp2_with fail
  refine hC3.out.mono ?_
  rintro e w3 ⟨rfl, hr3, hf3⟩
  have l3 := L2.out.call hr3 hf3
  clear hr3 hf3 L2 hC3
  have L3 := hide l3
  clear l3
  have hC4 := hide (typed_any L3.out.rd)
  obtain ⟨t, s4, h4⟩ : ∃ r t, (Pp.typed).run C.ws s3 = (r, t) := ⟨_, _, rfl⟩
  rw [h4] at hC4 HR
  simp only at hC4 HR
  clear h4
  unfold tyV at hC4
  go_wp2_with fail
  refine hC4.out.mono ?_
  rintro e w4 ⟨rfl, hr4, hf4⟩
  have l4 := L3.out.call hr4 hf4
  clear hr4 hf4 L3 hC4
  have k1 := l4.cell 1 _ rfl 1
  have f1 := l4.fz 1 _ rfl 1
  have k2 := l4.cell 1 _ rfl 2
  have f2 := l4.fz 1 _ rfl 2
  simp only at k1 f1 k2 f2
  have L4 : Hid (Lo w ((w4.setCell ⟨w.heap.size + 1, 1, none⟩ (.int .i64 t.kind)).setCell ⟨w.heap.size + 1, 2, none⟩ (.string ⟨t.name.toArray⟩)) b C s4 [(w.heap.size, #[.string ⟨#[]⟩, .int .i64 0, .string ⟨#[]⟩, .bool false], 45), (w.heap.size + 1, #[.string ⟨n.toArray⟩, .int .i64 t.kind, .string ⟨t.name.toArray⟩, .bool st], 45)]) := hide ((l4.set 1 _ rfl 1 (by simp) (.int .i64 t.kind)).set 1 _ rfl 2 (by simp) (.string ⟨t.name.toArray⟩))
  clear l4
  have hC5 := hide (want_any L4.out.rd Pp.wSemi (by decide))
  obtain ⟨u5, s5, h5⟩ : ∃ r t, (Pp.want Pp.wSemi).run C.ws s4 = (r, t) := ⟨_, _, rfl⟩
  rw [h5] at hC5 HR
  simp only at hC5 HR
  clear h5
  unfold Pp.wSemi at hC5
  go_wp2_with fail
  refine hC5.out.mono ?_
  rintro e w5 ⟨rfl, hr5, hf5⟩
  have l5 := L4.out.call hr5 hf5
  clear hr5 hf5 L4 hC5
  have L5 := hide l5
  clear l5
  have p0 := L5.out.cell 0 _ rfl 0
  have q0 := L5.out.fz 0 _ rfl 0
  have r0 := L5.out.cell 1 _ rfl 0
  have p1 := L5.out.cell 0 _ rfl 1
  have q1 := L5.out.fz 0 _ rfl 1
  have r1 := L5.out.cell 1 _ rfl 1
  have p2 := L5.out.cell 0 _ rfl 2
  have q2 := L5.out.fz 0 _ rfl 2
  have r2 := L5.out.cell 1 _ rfl 2
  have p3 := L5.out.cell 0 _ rfl 3
  have q3 := L5.out.fz 0 _ rfl 3
  have r3 := L5.out.cell 1 _ rfl 3
  simp only at p0 q0 r0 p1 q1 r1 p2 q2 r2 p3 q3 r3
  go_wp2_with fail
  have l9 := ((((L5.out.set 0 _ rfl 0 (by simp) (.string ⟨n.toArray⟩)).set 0 _ rfl 1 (by simp) (.int .i64 t.kind)).set 0 _ rfl 2 (by simp) (.string ⟨t.name.toArray⟩)).set 0 _ rfl 3 (by simp) (.bool st))
  exact bodyPost_ret (v := .agg #[.string ⟨n.toArray⟩, .int .i64 t.kind, .string ⟨t.name.toArray⟩, .bool st]) (by simp [results, Tryz.results58, go_sem, *]) rfl ⟨by rw [← (Prod.mk.inj HR.out).1]; rfl, by rw [← (Prod.mk.inj HR.out).2]; exact l9.rd, l9.fr⟩

set_option maxRecDepth 100000 in
set_option maxHeartbeats 4000000 in
theorem catch_any {w : World} {b : Nat} {C : Cx} {s : Pp.St} (h : Rd w b C s) :
    Calls Tryz.prog 95 #[.pointer (some ⟨b, 0, none⟩)] w fun e w' => e = .returned (ctcV (Pp.catch_.run C.ws s).1) ∧ Rd w' b C (Pp.catch_.run C.ws s).2 ∧ Fr [b] w w' := by
  obtain ⟨V, S, hVS⟩ : ∃ V S, Pp.catch_.run C.ws s = (V, S) := ⟨_, _, rfl⟩
  rw [hVS]
  have HR := hide hVS
  clear hVS
  show Calls _ _ _ _ fun e w' => e = .returned (ctcV V) ∧ Rd w' b C S ∧ Fr [b] w w'
  simp only [Pp.catch_, Pp.run_bind, Pp.run_ret] at HR
  have l0 : Lo w ((w.alloc (.cells #[.string ⟨#[]⟩, .int .i64 0, .int .i64 0, .int .i64 0] 54)).alloc (.cells #[.string ⟨#[]⟩, .int .i64 0, .int .i64 0, .int .i64 0] 54)) b C s [(w.heap.size, #[.string ⟨#[]⟩, .int .i64 0, .int .i64 0, .int .i64 0], 54), (w.heap.size + 1, #[.string ⟨#[]⟩, .int .i64 0, .int .i64 0, .int .i64 0], 54)] := by
    have h9 := ((Lo.start h).alloc #[.string ⟨#[]⟩, .int .i64 0, .int .i64 0, .int .i64 0] 54 (by decide)).alloc #[.string ⟨#[]⟩, .int .i64 0, .int .i64 0, .int .i64 0] 54 (by decide)
    simpa using h9
  have L0 := hide l0
  clear h l0
  go_enter Tryz.func95, Tryz.ntmps95
  have hC1 := hide (want_any L0.out.rd Pp.wCatch (by decide))
  obtain ⟨u1, s1, h1⟩ : ∃ r t, (Pp.want Pp.wCatch).run C.ws s = (r, t) := ⟨_, _, rfl⟩
  rw [h1] at hC1 HR
  simp only at hC1 HR
  clear h1
  unfold Pp.wCatch at hC1
  go_wp2_with fail
  refine hC1.out.mono ?_
  rintro e w1 ⟨rfl, hr1, hf1⟩
  have l1 := L0.out.call hr1 hf1
  clear hr1 hf1 L0 hC1
  have L1 := hide l1
  clear l1
  have hC2 := hide (fresh_any L1.out.rd)
  obtain ⟨n, s2, h2⟩ : ∃ r t, (Pp.fresh).run C.ws s1 = (r, t) := ⟨_, _, rfl⟩
  rw [h2] at hC2 HR
  simp only at hC2 HR
  clear h2
  go_wp2_with fail
  refine hC2.out.mono ?_
  rintro e w2 ⟨rfl, hr2, hf2⟩
  have l2 := L1.out.call hr2 hf2
  clear hr2 hf2 L1 hC2
  have k0 := l2.cell 1 _ rfl 0
  have f0 := l2.fz 1 _ rfl 0
  simp only at k0 f0
  have L2 : Hid (Lo w (w2.setCell ⟨w.heap.size + 1, 0, none⟩ (.string ⟨n.toArray⟩)) b C s2 [(w.heap.size, #[.string ⟨#[]⟩, .int .i64 0, .int .i64 0, .int .i64 0], 54), (w.heap.size + 1, #[.string ⟨n.toArray⟩, .int .i64 0, .int .i64 0, .int .i64 0], 54)]) := hide (l2.set 1 _ rfl 0 (by simp) (.string ⟨n.toArray⟩))
  clear l2
  have hC3 := hide (number_any L2.out.rd 0 48)
  obtain ⟨x1, s3, h3⟩ : ∃ r t, (Pp.number 0 48).run C.ws s2 = (r, t) := ⟨_, _, rfl⟩
  rw [h3] at hC3 HR
  simp only at hC3 HR
  clear h3
  go_wp2_with fail
  refine hC3.out.mono ?_
  rintro e w3 ⟨rfl, hr3, hf3⟩
  have l3 := L2.out.call hr3 hf3
  clear hr3 hf3 L2 hC3
  have k1 := l3.cell 1 _ rfl 1
  have f1 := l3.fz 1 _ rfl 1
  simp only at k1 f1
  have L3 : Hid (Lo w (w3.setCell ⟨w.heap.size + 1, 1, none⟩ (.int .i64 x1)) b C s3 [(w.heap.size, #[.string ⟨#[]⟩, .int .i64 0, .int .i64 0, .int .i64 0], 54), (w.heap.size + 1, #[.string ⟨n.toArray⟩, .int .i64 x1, .int .i64 0, .int .i64 0], 54)]) := hide (l3.set 1 _ rfl 1 (by simp) (.int .i64 x1))
  clear l3
  have hC4 := hide (number_any L3.out.rd 0 48)
  obtain ⟨x2, s4, h4⟩ : ∃ r t, (Pp.number 0 48).run C.ws s3 = (r, t) := ⟨_, _, rfl⟩
  rw [h4] at hC4 HR
  simp only at hC4 HR
  clear h4
  go_wp2_with fail
  refine hC4.out.mono ?_
  rintro e w4 ⟨rfl, hr4, hf4⟩
  have l4 := L3.out.call hr4 hf4
  clear hr4 hf4 L3 hC4
  have k2 := l4.cell 1 _ rfl 2
  have f2 := l4.fz 1 _ rfl 2
  simp only at k2 f2
  have L4 : Hid (Lo w (w4.setCell ⟨w.heap.size + 1, 2, none⟩ (.int .i64 x2)) b C s4 [(w.heap.size, #[.string ⟨#[]⟩, .int .i64 0, .int .i64 0, .int .i64 0], 54), (w.heap.size + 1, #[.string ⟨n.toArray⟩, .int .i64 x1, .int .i64 x2, .int .i64 0], 54)]) := hide (l4.set 1 _ rfl 2 (by simp) (.int .i64 x2))
  clear l4
  have hC5 := hide (number_any L4.out.rd 0 48)
  obtain ⟨x3, s5, h5⟩ : ∃ r t, (Pp.number 0 48).run C.ws s4 = (r, t) := ⟨_, _, rfl⟩
  rw [h5] at hC5 HR
  simp only at hC5 HR
  clear h5
  go_wp2_with fail
  refine hC5.out.mono ?_
  rintro e w5 ⟨rfl, hr5, hf5⟩
  have l5 := L4.out.call hr5 hf5
  clear hr5 hf5 L4 hC5
  have k3 := l5.cell 1 _ rfl 3
  have f3 := l5.fz 1 _ rfl 3
  simp only at k3 f3
  have L5 : Hid (Lo w (w5.setCell ⟨w.heap.size + 1, 3, none⟩ (.int .i64 x3)) b C s5 [(w.heap.size, #[.string ⟨#[]⟩, .int .i64 0, .int .i64 0, .int .i64 0], 54), (w.heap.size + 1, #[.string ⟨n.toArray⟩, .int .i64 x1, .int .i64 x2, .int .i64 x3], 54)]) := hide (l5.set 1 _ rfl 3 (by simp) (.int .i64 x3))
  clear l5
  have hC6 := hide (want_any L5.out.rd Pp.wSemi (by decide))
  obtain ⟨u6, s6, h6⟩ : ∃ r t, (Pp.want Pp.wSemi).run C.ws s5 = (r, t) := ⟨_, _, rfl⟩
  rw [h6] at hC6 HR
  simp only at hC6 HR
  clear h6
  unfold Pp.wSemi at hC6
  go_wp2_with fail
  refine hC6.out.mono ?_
  rintro e w6 ⟨rfl, hr6, hf6⟩
  have l6 := L5.out.call hr6 hf6
  clear hr6 hf6 L5 hC6
  have L6 := hide l6
  clear l6
  have p0 := L6.out.cell 0 _ rfl 0
  have q0 := L6.out.fz 0 _ rfl 0
  have r0 := L6.out.cell 1 _ rfl 0
  have p1 := L6.out.cell 0 _ rfl 1
  have q1 := L6.out.fz 0 _ rfl 1
  have r1 := L6.out.cell 1 _ rfl 1
  have p2 := L6.out.cell 0 _ rfl 2
  have q2 := L6.out.fz 0 _ rfl 2
  have r2 := L6.out.cell 1 _ rfl 2
  have p3 := L6.out.cell 0 _ rfl 3
  have q3 := L6.out.fz 0 _ rfl 3
  have r3 := L6.out.cell 1 _ rfl 3
  simp only at p0 q0 r0 p1 q1 r1 p2 q2 r2 p3 q3 r3
  go_wp2_with fail
  have l9 := ((((L6.out.set 0 _ rfl 0 (by simp) (.string ⟨n.toArray⟩)).set 0 _ rfl 1 (by simp) (.int .i64 x1)).set 0 _ rfl 2 (by simp) (.int .i64 x2)).set 0 _ rfl 3 (by simp) (.int .i64 x3))
  exact bodyPost_ret (v := .agg #[.string ⟨n.toArray⟩, .int .i64 x1, .int .i64 x2, .int .i64 x3]) (by simp [results, Tryz.results95, go_sem, *]) rfl ⟨by rw [← (Prod.mk.inj HR.out).1]; rfl, by rw [← (Prod.mk.inj HR.out).2]; exact l9.rd, l9.fr⟩
end Go.Proofs.YtdgfidaopkcjoaaGreatDoor
