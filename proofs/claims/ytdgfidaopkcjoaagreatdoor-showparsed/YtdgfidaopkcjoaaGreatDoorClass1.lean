/- What class answers: an interface. -/
import Derived.Test.YtdgfidaopkcjoaaGreatDoorMembers
namespace Go.Proofs.YtdgfidaopkcjoaaGreatDoor
open Go.RowKit
set_option linter.unusedVariables false
set_option linter.unusedSimpArgs false

def ClsRows (w : World) (base : Nat) (c : Pp.Cls) (vi vf vm : Value) : Prop :=
  w.ownsRow base 9 1 vi c.ifaces.length (strCells c.ifaces) ∧ ∃ xs, w.ownsRow base 45 4 vf c.fields.length (fldsCells c.fields) ∧ w.ownsRow base 50 9 vm c.methods.length xs ∧ MthsIs w base c.methods xs

set_option maxRecDepth 100000 in
set_option maxHeartbeats 16000000 in
theorem class_it {w : World} {b : Nat} {C : Cx} {s : Pp.St} (h : Rd w b C s) (hic : ((Pp.first Pp.wInterface Pp.wClass).run C.ws s).1 = true) (hif : Pp.has C.ws (Pp.fresh.run C.ws ((Pp.first Pp.wInterface Pp.wClass).run C.ws s).2).2 (Pp.isW Pp.wExtends) = true) :
    Calls Tryz.prog 17 #[.pointer (some ⟨b, 0, none⟩)] w fun e w' => ∃ vi vf vm, e = .returned (.agg (clsA (Pp.cls.run C.ws s).1.name (Pp.cls.run C.ws s).1.iface (Pp.cls.run C.ws s).1.super vi vf vm)) ∧ ClsRows w' w.heap.size (Pp.cls.run C.ws s).1 vi vf vm ∧ Rd w' b C (Pp.cls.run C.ws s).2 ∧ Fr [b] w w' := by
  obtain ⟨V, S, hVS⟩ := pair_eta (Pp.cls.run C.ws s)
  rw [hVS]
  have HR := hide hVS
  clear hVS
  show Calls _ _ _ _ fun e w' => ∃ vi vf vm, e = .returned (.agg (clsA V.name V.iface V.super vi vf vm)) ∧ ClsRows w' w.heap.size V vi vf vm ∧ Rd w' b C S ∧ Fr [b] w w'
  simp only [Pp.cls, Pp.run_bind, Pp.run_ret] at HR
  have l0 : Lo w ((w.alloc (.cells (clsA [] false [] (.slice none 0 0) (.slice none 0 0) (.slice none 0 0)) 41)).alloc (.cells (clsA [] false [] (.slice none 0 0) (.slice none 0 0) (.slice none 0 0)) 41)) b C s [(w.heap.size, clsA [] false [] (.slice none 0 0) (.slice none 0 0) (.slice none 0 0), 41), (w.heap.size + 1, clsA [] false [] (.slice none 0 0) (.slice none 0 0) (.slice none 0 0), 41)] := by
    have h9 := ((Lo.start h).alloc (clsA [] false [] (.slice none 0 0) (.slice none 0 0) (.slice none 0 0)) 41 (by decide)).alloc (clsA [] false [] (.slice none 0 0) (.slice none 0 0) (.slice none 0 0)) 41 (by decide)
    simpa using h9
  have L0 := hide l0
  clear h l0
  go_enter Tryz.func17, Tryz.ntmps17
  have hC1 := hide (first_any L0.out.rd Pp.wInterface Pp.wClass (by decide) (by decide))
  obtain ⟨ic, s1, h1⟩ := pair_eta ((Pp.first Pp.wInterface Pp.wClass).run C.ws s)
  rw [h1] at hC1 HR
  simp only at hC1 HR
  try rw [h1] at hic
  try rw [h1] at hif
  try simp only at hic
  try simp only at hif
  clear h1
  unfold Pp.wInterface at hC1
  unfold Pp.wClass at hC1
  go_wp2_with fail
  refine hC1.out.mono ?_
  rintro e w1 ⟨rfl, hr1, hf1⟩
  have l1 := L0.out.call hr1 hf1
  clear hr1 hf1 L0 hC1
  have k1 := l1.cell 1 _ rfl 1
  have f1 := l1.fz 1 _ rfl 1
  simp only [clsA] at k1 f1
  have L1 : Hid (Lo w (w1.setCell ⟨w.heap.size + 1, 1, none⟩ (.bool ic)) b C s1 [(w.heap.size, clsA [] false [] (.slice none 0 0) (.slice none 0 0) (.slice none 0 0), 41), (w.heap.size + 1, clsA [] ic [] (.slice none 0 0) (.slice none 0 0) (.slice none 0 0), 41)]) := hide (l1.set 1 _ rfl 1 (by simp [clsA]) (.bool ic))
  clear l1
  subst hic
  have hC2 := hide (fresh_any L1.out.rd)
  obtain ⟨n, s2, h2⟩ := pair_eta ((Pp.fresh).run C.ws s1)
  rw [h2] at hC2 HR
  simp only at hC2 HR
  try rw [h2] at hif
  try simp only at hif
  clear h2
  go_wp2_with fail
  refine hC2.out.mono ?_
  rintro e w2 ⟨rfl, hr2, hf2⟩
  have l2 := L1.out.call hr2 hf2
  clear hr2 hf2 L1 hC2
  have k0 := l2.cell 1 _ rfl 0
  have f0 := l2.fz 1 _ rfl 0
  simp only [clsA] at k0 f0
  have L2 : Hid (Lo w (w2.setCell ⟨w.heap.size + 1, 0, none⟩ (.string ⟨n.toArray⟩)) b C s2 [(w.heap.size, clsA [] false [] (.slice none 0 0) (.slice none 0 0) (.slice none 0 0), 41), (w.heap.size + 1, clsA n true [] (.slice none 0 0) (.slice none 0 0) (.slice none 0 0), 41)]) := hide (l2.set 1 _ rfl 0 (by simp [clsA]) (.string ⟨n.toArray⟩))
  clear l2
  have kI := L2.out.cell 1 _ rfl 1
  simp only [clsA] at kI
  rw [show Pp.superOr true = .ret [] from rfl] at HR
  simp only [Pp.run_ret, if_true] at HR
  unfold Pp.ifacesOf at HR
  have hC3 := hide (skip_any L2.out.rd Pp.wExtends (by decide))
  rw [skip_run] at hC3
  rw [hif] at hC3
  rw [run_yes hif] at HR
  simp only [if_true] at hC3
  try simp only [Pp.run_ret] at HR
  clear hif
  unfold Pp.wExtends at hC3
  go_wp2_with fail
  refine hC3.out.mono ?_
  rintro e w3 ⟨rfl, hr3, hf3⟩
  have L3 := hide (L2.out.call hr3 hf3)
  clear hr3 hf3 L2 hC3
  have hC4 := hide (listedS_any L3.out.rd 4 (by decide) (by decide))
  obtain ⟨ifs, s4, h4⟩ := pair_eta ((Pp.listed Pp.isFresh Pp.fresh 4).run C.ws s2.adv)
  rw [h4] at hC4 HR
  simp only at hC4 HR
  clear h4
  have hsz4 := hide L3.out.fr.size
  go_wp2_with fail
  refine hC4.out.mono ?_
  rintro e w4 ⟨vi, rfl, ho4, hr4, hf4⟩
  have l4 := L3.out.call hr4 hf4
  obtain ⟨va, vb, rfl⟩ := own_shapeV ho4
  have HP4 := hide (own_base ho4 hsz4.out)
  clear ho4
  clear hr4 hf4 L3 hC4
  have k3 := l4.cell 1 _ rfl 3
  have f3 := l4.fz 1 _ rfl 3
  simp only [clsA] at k3 f3
  have HQ4 := hide ((KpA.set (l4.bl 1 _ rfl) 3 (.slice va ifs.length vb)).str.own HP4.out)
  clear HP4
  have L4 : Hid (Lo w (w4.setCell ⟨w.heap.size + 1, 3, none⟩ (.slice va ifs.length vb)) b C s4 [(w.heap.size, clsA [] false [] (.slice none 0 0) (.slice none 0 0) (.slice none 0 0), 41), (w.heap.size + 1, clsA n true [] (.slice va ifs.length vb) (.slice none 0 0) (.slice none 0 0), 41)]) := hide (l4.set 1 _ rfl 3 (by simp [clsA]) (.slice va ifs.length vb))
  clear l4
  have hC5 := hide (want_any L4.out.rd Pp.wLB (by decide))
  obtain ⟨u5, s5, h5⟩ := pair_eta ((Pp.want Pp.wLB).run C.ws s4)
  rw [h5] at hC5 HR
  simp only at hC5 HR
  clear h5
  unfold Pp.wLB at hC5
  go_wp2_with fail
  refine hC5.out.mono ?_
  rintro e w5 ⟨rfl, hr5, hf5⟩
  have l5 := L4.out.call hr5 hf5
  have HP5 := hide ((KpA.fr L4.out.rd hf5).str.own HQ4.out)
  clear HQ4
  clear hr5 hf5 L4 hC5
  have HQ5 := HP5
  clear HP5
  have L5 : Hid (Lo w w5 b C s5 [(w.heap.size, clsA [] false [] (.slice none 0 0) (.slice none 0 0) (.slice none 0 0), 41), (w.heap.size + 1, clsA n true [] (.slice va ifs.length vb) (.slice none 0 0) (.slice none 0 0), 41)]) := hide l5
  clear l5
  have hC6 := hide (members_any L5.out 1 (w.heap.size + 1) n [] true (.slice va ifs.length vb) rfl (types_two (by decide)) (types_two (by decide)))
  obtain ⟨M, s6, h6⟩ := pair_eta ((Pp.members 12 [] []).run C.ws s5)
  rw [h6] at hC6 HR
  simp only at hC6 HR
  clear h6
  go_wp2_with fail
  refine hC6.out.mono ?_
  rintro e w6 ⟨vf, vm, rfl, l6, hm6⟩
  obtain ⟨fa, fc, rfl⟩ := hm6.vf
  obtain ⟨ma, mc, rfl⟩ := hm6.vm
  have L6 : Hid (Lo w w6 b C s6 [(w.heap.size, clsA [] false [] (.slice none 0 0) (.slice none 0 0) (.slice none 0 0), 41), (w.heap.size + 1, clsA n true [] (.slice va ifs.length vb) (.slice fa M.1.length fc) (.slice ma M.2.length mc), 41)]) := hide l6
  have HM6 := hide hm6
  have HI6 := hide ((show Kp 9 _ _ from by obtain ⟨xs, h1, h2, h3, h4⟩ := hm6; exact h4).own HQ5.out)
  clear l6 hm6 hC6 L5 HQ5
  have hC7 := hide (want_any L6.out.rd Pp.wRB (by decide))
  obtain ⟨u7, s7, h7⟩ := pair_eta ((Pp.want Pp.wRB).run C.ws s6)
  rw [h7] at hC7 HR
  simp only at hC7 HR
  clear h7
  unfold Pp.wRB at hC7
  go_wp2_with fail
  refine hC7.out.mono ?_
  rintro e w7 ⟨rfl, hr7, hf7⟩
  have L7 : Hid (Lo w w7 b C s7 [(w.heap.size, clsA [] false [] (.slice none 0 0) (.slice none 0 0) (.slice none 0 0), 41), (w.heap.size + 1, clsA n true [] (.slice va ifs.length vb) (.slice fa M.1.length fc) (.slice ma M.2.length mc), 41)]) := hide (L6.out.call hr7 hf7)
  have HM7 := hide (HM6.out.keep (KpA.fr L6.out.rd hf7))
  have HI7 := hide ((KpA.fr L6.out.rd hf7).str.own HI6.out)
  clear hr7 hf7 hC7 L6 HM6 HI6
  have p0 := L7.out.cell 0 _ rfl 0
  have q0 := L7.out.fz 0 _ rfl 0
  have r0 := L7.out.cell 1 _ rfl 0
  have p1 := L7.out.cell 0 _ rfl 1
  have q1 := L7.out.fz 0 _ rfl 1
  have r1 := L7.out.cell 1 _ rfl 1
  have p2 := L7.out.cell 0 _ rfl 2
  have q2 := L7.out.fz 0 _ rfl 2
  have r2 := L7.out.cell 1 _ rfl 2
  have p3 := L7.out.cell 0 _ rfl 3
  have q3 := L7.out.fz 0 _ rfl 3
  have r3 := L7.out.cell 1 _ rfl 3
  have p4 := L7.out.cell 0 _ rfl 4
  have q4 := L7.out.fz 0 _ rfl 4
  have r4 := L7.out.cell 1 _ rfl 4
  have p5 := L7.out.cell 0 _ rfl 5
  have q5 := L7.out.fz 0 _ rfl 5
  have r5 := L7.out.cell 1 _ rfl 5
  simp only [clsA] at p0 q0 r0 p1 q1 r1 p2 q2 r2 p3 q3 r3 p4 q4 r4 p5 q5 r5
  go_wp2_with fail
  have l99 := ((((((L7.out.set 0 _ rfl 0 (by simp [clsA]) (.string ⟨n.toArray⟩)).set 0 _ rfl 1 (by simp [clsA]) (.bool true)).set 0 _ rfl 2 (by simp [clsA]) (.string ⟨#[]⟩)).set 0 _ rfl 3 (by simp [clsA]) (.slice va ifs.length vb)).set 0 _ rfl 4 (by simp [clsA]) (.slice fa M.1.length fc)).set 0 _ rfl 5 (by simp [clsA]) (.slice ma M.2.length mc))
  have ka := ((((((KpA.set (L7.out.bl 0 _ rfl) 0 (.string ⟨n.toArray⟩)).trans (KpA.set ((L7.out.set 0 _ rfl 0 (by simp [clsA]) (.string ⟨n.toArray⟩)).bl 0 _ rfl) 1 (.bool true))).trans (KpA.set (((L7.out.set 0 _ rfl 0 (by simp [clsA]) (.string ⟨n.toArray⟩)).set 0 _ rfl 1 (by simp [clsA]) (.bool true)).bl 0 _ rfl) 2 (.string ⟨#[]⟩))).trans (KpA.set ((((L7.out.set 0 _ rfl 0 (by simp [clsA]) (.string ⟨n.toArray⟩)).set 0 _ rfl 1 (by simp [clsA]) (.bool true)).set 0 _ rfl 2 (by simp [clsA]) (.string ⟨#[]⟩)).bl 0 _ rfl) 3 (.slice va ifs.length vb))).trans (KpA.set (((((L7.out.set 0 _ rfl 0 (by simp [clsA]) (.string ⟨n.toArray⟩)).set 0 _ rfl 1 (by simp [clsA]) (.bool true)).set 0 _ rfl 2 (by simp [clsA]) (.string ⟨#[]⟩)).set 0 _ rfl 3 (by simp [clsA]) (.slice va ifs.length vb)).bl 0 _ rfl) 4 (.slice fa M.1.length fc))).trans (KpA.set ((((((L7.out.set 0 _ rfl 0 (by simp [clsA]) (.string ⟨n.toArray⟩)).set 0 _ rfl 1 (by simp [clsA]) (.bool true)).set 0 _ rfl 2 (by simp [clsA]) (.string ⟨#[]⟩)).set 0 _ rfl 3 (by simp [clsA]) (.slice va ifs.length vb)).set 0 _ rfl 4 (by simp [clsA]) (.slice fa M.1.length fc)).bl 0 _ rfl) 5 (.slice ma M.2.length mc)))
  obtain ⟨xs, m1, m2, m3, m4⟩ := HM7.out.keep ka
  refine bodyPost_ret (v := .agg (clsA n true [] (.slice va ifs.length vb) (.slice fa M.1.length fc) (.slice ma M.2.length mc))) (by simp [results, Tryz.results17, go_sem, clsA, *]) rfl ⟨.slice va ifs.length vb, .slice fa M.1.length fc, .slice ma M.2.length mc, ?_, ?_, ?_, l99.fr⟩
  · rw [← (Prod.mk.inj HR.out).1]
  · rw [← (Prod.mk.inj HR.out).1]; exact ⟨ka.str.own HI7.out, xs, m1, m2, m3⟩
  · rw [← (Prod.mk.inj HR.out).2]; exact l99.rd

set_option maxRecDepth 100000 in
set_option maxHeartbeats 16000000 in
theorem class_if {w : World} {b : Nat} {C : Cx} {s : Pp.St} (h : Rd w b C s) (hic : ((Pp.first Pp.wInterface Pp.wClass).run C.ws s).1 = true) (hif : Pp.has C.ws (Pp.fresh.run C.ws ((Pp.first Pp.wInterface Pp.wClass).run C.ws s).2).2 (Pp.isW Pp.wExtends) = false) :
    Calls Tryz.prog 17 #[.pointer (some ⟨b, 0, none⟩)] w fun e w' => ∃ vi vf vm, e = .returned (.agg (clsA (Pp.cls.run C.ws s).1.name (Pp.cls.run C.ws s).1.iface (Pp.cls.run C.ws s).1.super vi vf vm)) ∧ ClsRows w' w.heap.size (Pp.cls.run C.ws s).1 vi vf vm ∧ Rd w' b C (Pp.cls.run C.ws s).2 ∧ Fr [b] w w' := by
  obtain ⟨V, S, hVS⟩ := pair_eta (Pp.cls.run C.ws s)
  rw [hVS]
  have HR := hide hVS
  clear hVS
  show Calls _ _ _ _ fun e w' => ∃ vi vf vm, e = .returned (.agg (clsA V.name V.iface V.super vi vf vm)) ∧ ClsRows w' w.heap.size V vi vf vm ∧ Rd w' b C S ∧ Fr [b] w w'
  simp only [Pp.cls, Pp.run_bind, Pp.run_ret] at HR
  have l0 : Lo w ((w.alloc (.cells (clsA [] false [] (.slice none 0 0) (.slice none 0 0) (.slice none 0 0)) 41)).alloc (.cells (clsA [] false [] (.slice none 0 0) (.slice none 0 0) (.slice none 0 0)) 41)) b C s [(w.heap.size, clsA [] false [] (.slice none 0 0) (.slice none 0 0) (.slice none 0 0), 41), (w.heap.size + 1, clsA [] false [] (.slice none 0 0) (.slice none 0 0) (.slice none 0 0), 41)] := by
    have h9 := ((Lo.start h).alloc (clsA [] false [] (.slice none 0 0) (.slice none 0 0) (.slice none 0 0)) 41 (by decide)).alloc (clsA [] false [] (.slice none 0 0) (.slice none 0 0) (.slice none 0 0)) 41 (by decide)
    simpa using h9
  have L0 := hide l0
  clear h l0
  go_enter Tryz.func17, Tryz.ntmps17
  have hC1 := hide (first_any L0.out.rd Pp.wInterface Pp.wClass (by decide) (by decide))
  obtain ⟨ic, s1, h1⟩ := pair_eta ((Pp.first Pp.wInterface Pp.wClass).run C.ws s)
  rw [h1] at hC1 HR
  simp only at hC1 HR
  try rw [h1] at hic
  try rw [h1] at hif
  try simp only at hic
  try simp only at hif
  clear h1
  unfold Pp.wInterface at hC1
  unfold Pp.wClass at hC1
  go_wp2_with fail
  refine hC1.out.mono ?_
  rintro e w1 ⟨rfl, hr1, hf1⟩
  have l1 := L0.out.call hr1 hf1
  clear hr1 hf1 L0 hC1
  have k1 := l1.cell 1 _ rfl 1
  have f1 := l1.fz 1 _ rfl 1
  simp only [clsA] at k1 f1
  have L1 : Hid (Lo w (w1.setCell ⟨w.heap.size + 1, 1, none⟩ (.bool ic)) b C s1 [(w.heap.size, clsA [] false [] (.slice none 0 0) (.slice none 0 0) (.slice none 0 0), 41), (w.heap.size + 1, clsA [] ic [] (.slice none 0 0) (.slice none 0 0) (.slice none 0 0), 41)]) := hide (l1.set 1 _ rfl 1 (by simp [clsA]) (.bool ic))
  clear l1
  subst hic
  have hC2 := hide (fresh_any L1.out.rd)
  obtain ⟨n, s2, h2⟩ := pair_eta ((Pp.fresh).run C.ws s1)
  rw [h2] at hC2 HR
  simp only at hC2 HR
  try rw [h2] at hif
  try simp only at hif
  clear h2
  go_wp2_with fail
  refine hC2.out.mono ?_
  rintro e w2 ⟨rfl, hr2, hf2⟩
  have l2 := L1.out.call hr2 hf2
  clear hr2 hf2 L1 hC2
  have k0 := l2.cell 1 _ rfl 0
  have f0 := l2.fz 1 _ rfl 0
  simp only [clsA] at k0 f0
  have L2 : Hid (Lo w (w2.setCell ⟨w.heap.size + 1, 0, none⟩ (.string ⟨n.toArray⟩)) b C s2 [(w.heap.size, clsA [] false [] (.slice none 0 0) (.slice none 0 0) (.slice none 0 0), 41), (w.heap.size + 1, clsA n true [] (.slice none 0 0) (.slice none 0 0) (.slice none 0 0), 41)]) := hide (l2.set 1 _ rfl 0 (by simp [clsA]) (.string ⟨n.toArray⟩))
  clear l2
  have kI := L2.out.cell 1 _ rfl 1
  simp only [clsA] at kI
  rw [show Pp.superOr true = .ret [] from rfl] at HR
  simp only [Pp.run_ret, if_true] at HR
  unfold Pp.ifacesOf at HR
  have hC3 := hide (skip_any L2.out.rd Pp.wExtends (by decide))
  rw [skip_run] at hC3
  rw [hif] at hC3
  rw [run_no hif] at HR
  simp only [Bool.false_eq_true, if_false] at hC3
  try simp only [Pp.run_ret] at HR
  clear hif
  unfold Pp.wExtends at hC3
  go_wp2_with fail
  refine hC3.out.mono ?_
  rintro e w3 ⟨rfl, hr3, hf3⟩
  have L3 := hide (L2.out.call hr3 hf3)
  clear hr3 hf3 L2 hC3
  have HQ0 : Hid (w3.ownsRow w.heap.size 9 1 (.slice none 0 0) ([] : List Pp.Bs).length (strCells [])) := hide (World.ownsRow_nil _ _ _ _)
  have hC4 := hide (want_any L3.out.rd Pp.wLB (by decide))
  obtain ⟨u4, s4, h4⟩ := pair_eta ((Pp.want Pp.wLB).run C.ws s2)
  rw [h4] at hC4 HR
  simp only at hC4 HR
  clear h4
  unfold Pp.wLB at hC4
  go_wp2_with fail
  refine hC4.out.mono ?_
  rintro e w4 ⟨rfl, hr4, hf4⟩
  have l4 := L3.out.call hr4 hf4
  have HP4 := hide ((KpA.fr L3.out.rd hf4).str.own HQ0.out)
  clear HQ0
  clear hr4 hf4 L3 hC4
  have HQ4 := HP4
  clear HP4
  have L4 : Hid (Lo w w4 b C s4 [(w.heap.size, clsA [] false [] (.slice none 0 0) (.slice none 0 0) (.slice none 0 0), 41), (w.heap.size + 1, clsA n true [] (.slice none 0 0) (.slice none 0 0) (.slice none 0 0), 41)]) := hide l4
  clear l4
  have hC5 := hide (members_any L4.out 1 (w.heap.size + 1) n [] true (.slice none 0 0) rfl (types_two (by decide)) (types_two (by decide)))
  obtain ⟨M, s5, h5⟩ := pair_eta ((Pp.members 12 [] []).run C.ws s4)
  rw [h5] at hC5 HR
  simp only at hC5 HR
  clear h5
  go_wp2_with fail
  refine hC5.out.mono ?_
  rintro e w5 ⟨vf, vm, rfl, l5, hm5⟩
  obtain ⟨fa, fc, rfl⟩ := hm5.vf
  obtain ⟨ma, mc, rfl⟩ := hm5.vm
  have L5 : Hid (Lo w w5 b C s5 [(w.heap.size, clsA [] false [] (.slice none 0 0) (.slice none 0 0) (.slice none 0 0), 41), (w.heap.size + 1, clsA n true [] (.slice none 0 0) (.slice fa M.1.length fc) (.slice ma M.2.length mc), 41)]) := hide l5
  have HM5 := hide hm5
  have HI5 := hide ((show Kp 9 _ _ from by obtain ⟨xs, h1, h2, h3, h4⟩ := hm5; exact h4).own HQ4.out)
  clear l5 hm5 hC5 L4 HQ4
  have hC6 := hide (want_any L5.out.rd Pp.wRB (by decide))
  obtain ⟨u6, s6, h6⟩ := pair_eta ((Pp.want Pp.wRB).run C.ws s5)
  rw [h6] at hC6 HR
  simp only at hC6 HR
  clear h6
  unfold Pp.wRB at hC6
  go_wp2_with fail
  refine hC6.out.mono ?_
  rintro e w6 ⟨rfl, hr6, hf6⟩
  have L6 : Hid (Lo w w6 b C s6 [(w.heap.size, clsA [] false [] (.slice none 0 0) (.slice none 0 0) (.slice none 0 0), 41), (w.heap.size + 1, clsA n true [] (.slice none 0 0) (.slice fa M.1.length fc) (.slice ma M.2.length mc), 41)]) := hide (L5.out.call hr6 hf6)
  have HM6 := hide (HM5.out.keep (KpA.fr L5.out.rd hf6))
  have HI6 := hide ((KpA.fr L5.out.rd hf6).str.own HI5.out)
  clear hr6 hf6 hC6 L5 HM5 HI5
  have p0 := L6.out.cell 0 _ rfl 0
  have q0 := L6.out.fz 0 _ rfl 0
  have r0 := L6.out.cell 1 _ rfl 0
  have p1 := L6.out.cell 0 _ rfl 1
  have q1 := L6.out.fz 0 _ rfl 1
  have r1 := L6.out.cell 1 _ rfl 1
  have p2 := L6.out.cell 0 _ rfl 2
  have q2 := L6.out.fz 0 _ rfl 2
  have r2 := L6.out.cell 1 _ rfl 2
  have p3 := L6.out.cell 0 _ rfl 3
  have q3 := L6.out.fz 0 _ rfl 3
  have r3 := L6.out.cell 1 _ rfl 3
  have p4 := L6.out.cell 0 _ rfl 4
  have q4 := L6.out.fz 0 _ rfl 4
  have r4 := L6.out.cell 1 _ rfl 4
  have p5 := L6.out.cell 0 _ rfl 5
  have q5 := L6.out.fz 0 _ rfl 5
  have r5 := L6.out.cell 1 _ rfl 5
  simp only [clsA] at p0 q0 r0 p1 q1 r1 p2 q2 r2 p3 q3 r3 p4 q4 r4 p5 q5 r5
  go_wp2_with fail
  have l99 := ((((((L6.out.set 0 _ rfl 0 (by simp [clsA]) (.string ⟨n.toArray⟩)).set 0 _ rfl 1 (by simp [clsA]) (.bool true)).set 0 _ rfl 2 (by simp [clsA]) (.string ⟨#[]⟩)).set 0 _ rfl 3 (by simp [clsA]) (.slice none 0 0)).set 0 _ rfl 4 (by simp [clsA]) (.slice fa M.1.length fc)).set 0 _ rfl 5 (by simp [clsA]) (.slice ma M.2.length mc))
  have ka := ((((((KpA.set (L6.out.bl 0 _ rfl) 0 (.string ⟨n.toArray⟩)).trans (KpA.set ((L6.out.set 0 _ rfl 0 (by simp [clsA]) (.string ⟨n.toArray⟩)).bl 0 _ rfl) 1 (.bool true))).trans (KpA.set (((L6.out.set 0 _ rfl 0 (by simp [clsA]) (.string ⟨n.toArray⟩)).set 0 _ rfl 1 (by simp [clsA]) (.bool true)).bl 0 _ rfl) 2 (.string ⟨#[]⟩))).trans (KpA.set ((((L6.out.set 0 _ rfl 0 (by simp [clsA]) (.string ⟨n.toArray⟩)).set 0 _ rfl 1 (by simp [clsA]) (.bool true)).set 0 _ rfl 2 (by simp [clsA]) (.string ⟨#[]⟩)).bl 0 _ rfl) 3 (.slice none 0 0))).trans (KpA.set (((((L6.out.set 0 _ rfl 0 (by simp [clsA]) (.string ⟨n.toArray⟩)).set 0 _ rfl 1 (by simp [clsA]) (.bool true)).set 0 _ rfl 2 (by simp [clsA]) (.string ⟨#[]⟩)).set 0 _ rfl 3 (by simp [clsA]) (.slice none 0 0)).bl 0 _ rfl) 4 (.slice fa M.1.length fc))).trans (KpA.set ((((((L6.out.set 0 _ rfl 0 (by simp [clsA]) (.string ⟨n.toArray⟩)).set 0 _ rfl 1 (by simp [clsA]) (.bool true)).set 0 _ rfl 2 (by simp [clsA]) (.string ⟨#[]⟩)).set 0 _ rfl 3 (by simp [clsA]) (.slice none 0 0)).set 0 _ rfl 4 (by simp [clsA]) (.slice fa M.1.length fc)).bl 0 _ rfl) 5 (.slice ma M.2.length mc)))
  obtain ⟨xs, m1, m2, m3, m4⟩ := HM6.out.keep ka
  refine bodyPost_ret (v := .agg (clsA n true [] (.slice none 0 0) (.slice fa M.1.length fc) (.slice ma M.2.length mc))) (by simp [results, Tryz.results17, go_sem, clsA, *]) rfl ⟨.slice none 0 0, .slice fa M.1.length fc, .slice ma M.2.length mc, ?_, ?_, ?_, l99.fr⟩
  · rw [← (Prod.mk.inj HR.out).1]
  · rw [← (Prod.mk.inj HR.out).1]; exact ⟨ka.str.own HI6.out, xs, m1, m2, m3⟩
  · rw [← (Prod.mk.inj HR.out).2]; exact l99.rd

end Go.Proofs.YtdgfidaopkcjoaaGreatDoor
