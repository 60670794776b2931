/- What method answers. -/
import Derived.Test.YtdgfidaopkcjoaaGreatDoorBody
namespace Go.Proofs.YtdgfidaopkcjoaaGreatDoor
open Go.RowKit
set_option linter.unusedVariables false
set_option linter.unusedSimpArgs false

theorem params_yes {C : Cx} {s : Pp.St} (h : Pp.has C.ws s (Pp.isW Pp.wRP) = true) : Pp.params.run C.ws s = ([], s) := by rw [Pp.params, peek_yes h]; rfl
theorem params_no {C : Cx} {s : Pp.St} (h : Pp.has C.ws s (Pp.isW Pp.wRP) = false) : Pp.params.run C.ws s = (Pp.listed Pp.isType Pp.typed 4).run C.ws s := by rw [Pp.params, peek_no h]
theorem types_two {a a' : Nat} {c c' : Array Value} {t e : TypeId} (h : t ≠ e) : ∀ (i : Nat) x, ([(a, c, t), (a', c', t)] : List (Nat × Array Value × TypeId))[i]? = some x → x.2.2 ≠ e := by
  intro i x hx
  match i, hx with
  | 0, hx => simp at hx; subst hx; exact h
  | 1, hx => simp at hx; subst hx; exact h
  | n + 2, hx => simp at hx
def MthRows (w : World) (base : Nat) (m : Pp.Mth) (vp vc vk : Value) : Prop :=
  w.ownsRow base 43 2 vp m.params.length (tysCells m.params) ∧ w.ownsRow base 52 4 vc m.code.length (inssCells m.code) ∧ w.ownsRow base 54 4 vk m.catches.length (ctcsCells m.catches)

set_option maxRecDepth 100000 in
set_option maxHeartbeats 8000000 in
theorem method_any {w : World} {b : Nat} {C : Cx} {s : Pp.St} (h : Rd w b C s) :
    Calls Tryz.prog 59 #[.pointer (some ⟨b, 0, none⟩)] w fun e w' => ∃ vp vc vk, e = .returned (.agg (mthA (Pp.method.run C.ws s).1.name (Pp.method.run C.ws s).1.stat (Pp.method.run C.ws s).1.abst vp (Pp.method.run C.ws s).1.ret (Pp.method.run C.ws s).1.locals vc vk)) ∧
      MthRows w' w.heap.size (Pp.method.run C.ws s).1 vp vc vk ∧ Rd w' b C (Pp.method.run C.ws s).2 ∧ Fr [b] w w' := by
  obtain ⟨V, S, hVS⟩ := pair_eta (Pp.method.run C.ws s)
  rw [hVS]
  have HR := hide hVS
  clear hVS
  show Calls _ _ _ _ fun e w' => ∃ vp vc vk, e = .returned (.agg (mthA V.name V.stat V.abst vp V.ret V.locals vc vk)) ∧ MthRows w' w.heap.size V vp vc vk ∧ Rd w' b C S ∧ Fr [b] w w'
  simp only [Pp.method, Pp.run_bind, Pp.run_ret] at HR
  have l0 : Lo w ((w.alloc (.cells (mthA [] false false (.slice none 0 0) ⟨0, []⟩ 0 (.slice none 0 0) (.slice none 0 0)) 50)).alloc (.cells (mthA [] false false (.slice none 0 0) ⟨0, []⟩ 0 (.slice none 0 0) (.slice none 0 0)) 50)) b C s [(w.heap.size, mthA [] false false (.slice none 0 0) ⟨0, []⟩ 0 (.slice none 0 0) (.slice none 0 0), 50), (w.heap.size + 1, mthA [] false false (.slice none 0 0) ⟨0, []⟩ 0 (.slice none 0 0) (.slice none 0 0), 50)] := by
    have h9 := ((Lo.start h).alloc (mthA [] false false (.slice none 0 0) ⟨0, []⟩ 0 (.slice none 0 0) (.slice none 0 0)) 50 (by decide)).alloc (mthA [] false false (.slice none 0 0) ⟨0, []⟩ 0 (.slice none 0 0) (.slice none 0 0)) 50 (by decide)
    simpa using h9
  have L0 := hide l0
  clear h l0
  go_enter Tryz.func59, Tryz.ntmps59
  have hC1 := hide (first_any L0.out.rd Pp.wFunction Pp.wMethod (by decide) (by decide))
  obtain ⟨st, s1, h1⟩ := pair_eta ((Pp.first Pp.wFunction Pp.wMethod).run C.ws s)
  rw [h1] at hC1 HR
  simp only at hC1 HR
  clear h1
  unfold Pp.wFunction at hC1
  unfold Pp.wMethod at hC1
  go_wp2_with fail
  refine hC1.out.mono ?_
  rintro e w1 ⟨rfl, hr1, hf1⟩
  have l1 := L0.out.call hr1 hf1
  clear hr1 hf1 L0 hC1
  have k1 := l1.cell 1 _ rfl 1
  have f1 := l1.fz 1 _ rfl 1
  simp only [mthA] at k1 f1
  have L1 : Hid (Lo w (w1.setCell ⟨w.heap.size + 1, 1, none⟩ (.bool st)) b C s1 [(w.heap.size, mthA [] false false (.slice none 0 0) ⟨0, []⟩ 0 (.slice none 0 0) (.slice none 0 0), 50), (w.heap.size + 1, mthA [] st false (.slice none 0 0) ⟨0, []⟩ 0 (.slice none 0 0) (.slice none 0 0), 50)]) := hide (l1.set 1 _ rfl 1 (by simp [mthA]) (.bool st))
  clear l1
  have hC2 := hide (fresh_any L1.out.rd)
  obtain ⟨n, s2, h2⟩ := pair_eta ((Pp.fresh).run C.ws s1)
  rw [h2] at hC2 HR
  simp only at hC2 HR
  clear h2
  go_wp2_with fail
  refine hC2.out.mono ?_
  rintro e w2 ⟨rfl, hr2, hf2⟩
  have l2 := L1.out.call hr2 hf2
  clear hr2 hf2 L1 hC2
  have k0 := l2.cell 1 _ rfl 0
  have f0 := l2.fz 1 _ rfl 0
  simp only [mthA] at k0 f0
  have L2 : Hid (Lo w (w2.setCell ⟨w.heap.size + 1, 0, none⟩ (.string ⟨n.toArray⟩)) b C s2 [(w.heap.size, mthA [] false false (.slice none 0 0) ⟨0, []⟩ 0 (.slice none 0 0) (.slice none 0 0), 50), (w.heap.size + 1, mthA n st false (.slice none 0 0) ⟨0, []⟩ 0 (.slice none 0 0) (.slice none 0 0), 50)]) := hide (l2.set 1 _ rfl 0 (by simp [mthA]) (.string ⟨n.toArray⟩))
  clear l2
  have hC3 := hide (want_any L2.out.rd Pp.wLP (by decide))
  obtain ⟨u3, s3, h3⟩ := pair_eta ((Pp.want Pp.wLP).run C.ws s2)
  rw [h3] at hC3 HR
  simp only at hC3 HR
  clear h3
  unfold Pp.wLP at hC3
  go_wp2_with fail
  refine hC3.out.mono ?_
  rintro e w3 ⟨rfl, hr3, hf3⟩
  have l3 := L2.out.call hr3 hf3
  clear hr3 hf3 L2 hC3
  have L3 : Hid (Lo w w3 b C s3 [(w.heap.size, mthA [] false false (.slice none 0 0) ⟨0, []⟩ 0 (.slice none 0 0) (.slice none 0 0), 50), (w.heap.size + 1, mthA n st false (.slice none 0 0) ⟨0, []⟩ 0 (.slice none 0 0) (.slice none 0 0), 50)]) := hide l3
  clear l3
  have hB := hide (sees_one L3.out.rd Pp.wRP (by decide) 9)
  cases hq : Pp.has C.ws s3 (Pp.isW Pp.wRP) with
  | true =>
    rw [hq] at hB
    rw [params_yes hq] at HR
    simp only at HR
    clear hq
    unfold Pp.wRP at hB
    go_wp2_with fail
    refine hB.out.mono ?_
    rintro e w4 ⟨rfl, hb4⟩
    have L4 := hide (L3.out.below hb4)
    clear hb4 hB L3
    have HQ4 : Hid (w4.ownsRow w.heap.size 43 2 (.slice none 0 0) ([] : List Pp.Ty).length (tysCells [])) := hide (World.ownsRow_nil _ _ _ _)
    have hC5 := hide (want_any L4.out.rd Pp.wRP (by decide))
    obtain ⟨u5, s5, h5⟩ := pair_eta ((Pp.want Pp.wRP).run C.ws s3)
    rw [h5] at hC5 HR
    simp only at hC5 HR
    clear h5
    unfold Pp.wRP at hC5
    go_wp2_with fail
    refine hC5.out.mono ?_
    rintro e w5 ⟨rfl, hr5, hf5⟩
    have l5 := L4.out.call hr5 hf5
    have HP5 := hide ((Kp.fr L4.out.rd hf5 (by decide)).own HQ4.out)
    clear HQ4
    clear hr5 hf5 L4 hC5
    have HQ5 := HP5
    clear HP5
    have L5 : Hid (Lo w w5 b C s5 [(w.heap.size, mthA [] false false (.slice none 0 0) ⟨0, []⟩ 0 (.slice none 0 0) (.slice none 0 0), 50), (w.heap.size + 1, mthA n st false (.slice none 0 0) ⟨0, []⟩ 0 (.slice none 0 0) (.slice none 0 0), 50)]) := hide l5
    clear l5
    have hC6 := hide (typed_any L5.out.rd)
    obtain ⟨rt, s6, h6⟩ := pair_eta ((Pp.typed).run C.ws s5)
    rw [h6] at hC6 HR
    simp only at hC6 HR
    clear h6
    unfold tyV at hC6
    go_wp2_with fail
    refine hC6.out.mono ?_
    rintro e w6 ⟨rfl, hr6, hf6⟩
    have l6 := L5.out.call hr6 hf6
    have HP6 := hide ((Kp.fr L5.out.rd hf6 (by decide)).own HQ5.out)
    clear HQ5
    clear hr6 hf6 L5 hC6
    have k4 := l6.cell 1 _ rfl 4
    have f4 := l6.fz 1 _ rfl 4
    have k5 := l6.cell 1 _ rfl 5
    have f5 := l6.fz 1 _ rfl 5
    simp only [mthA] at k4 f4 k5 f5
    have HQ6 := hide ((Kp.set (t := 50) ((l6.set 1 _ rfl 4 (by simp [mthA]) (.int .i64 rt.kind)).bl 1 _ rfl) (by decide) 5 (.string ⟨rt.name.toArray⟩)).own ((Kp.set (t := 50) (l6.bl 1 _ rfl) (by decide) 4 (.int .i64 rt.kind)).own HP6.out))
    clear HP6
    have L6 : Hid (Lo w ((w6.setCell ⟨w.heap.size + 1, 4, none⟩ (.int .i64 rt.kind)).setCell ⟨w.heap.size + 1, 5, none⟩ (.string ⟨rt.name.toArray⟩)) b C s6 [(w.heap.size, mthA [] false false (.slice none 0 0) ⟨0, []⟩ 0 (.slice none 0 0) (.slice none 0 0), 50), (w.heap.size + 1, mthA n st false (.slice none 0 0) rt 0 (.slice none 0 0) (.slice none 0 0), 50)]) := hide ((l6.set 1 _ rfl 4 (by simp [mthA]) (.int .i64 rt.kind)).set 1 _ rfl 5 (by simp [mthA]) (.string ⟨rt.name.toArray⟩))
    clear l6
    have hC7 := hide (skip_any L6.out.rd Pp.wSemi (by decide))
    rw [skip_run] at hC7 HR
    cases ha : Pp.has C.ws s6 (Pp.isW Pp.wSemi) with
    | true =>
      rw [ha] at hC7 HR
      simp only [if_true] at hC7 HR
      clear ha
      unfold Pp.wSemi at hC7
      go_wp2_with fail
      refine hC7.out.mono ?_
      rintro e w7 ⟨rfl, hr7, hf7⟩
      have l7 := L6.out.call hr7 hf7
      have HP7 := hide ((Kp.fr L6.out.rd hf7 (by decide)).own HQ6.out)
      clear hr7 hf7 L6 hC7 HQ6
      have k2 := l7.cell 1 _ rfl 2
      have f2 := l7.fz 1 _ rfl 2
      simp only [mthA] at k2 f2
      have HQ7 := hide ((Kp.set (t := 50) (l7.bl 1 _ rfl) (by decide) 2 (.bool true)).own HP7.out)
      clear HP7
      have L7 : Hid (Lo w (w7.setCell ⟨w.heap.size + 1, 2, none⟩ (.bool true)) b C s6.adv [(w.heap.size, mthA [] false false (.slice none 0 0) ⟨0, []⟩ 0 (.slice none 0 0) (.slice none 0 0), 50), (w.heap.size + 1, mthA n st true (.slice none 0 0) rt 0 (.slice none 0 0) (.slice none 0 0), 50)]) := hide (l7.set 1 _ rfl 2 (by simp [mthA]) (.bool true))
      clear l7
      rw [show Pp.bodyOr true = .ret (0, [], []) from rfl] at HR
      simp only [Pp.run_ret] at HR
      have p0 := L7.out.cell 0 _ rfl 0
      have q0 := L7.out.fz 0 _ rfl 0
      have r0 := L7.out.cell 1 _ rfl 0
      have p1 := L7.out.cell 0 _ rfl 1
      have q1 := L7.out.fz 0 _ rfl 1
      have r1 := L7.out.cell 1 _ rfl 1
      have p2 := L7.out.cell 0 _ rfl 2
      have q2 := L7.out.fz 0 _ rfl 2
      have r2 := L7.out.cell 1 _ rfl 2
      have p3 := L7.out.cell 0 _ rfl 3
      have q3 := L7.out.fz 0 _ rfl 3
      have r3 := L7.out.cell 1 _ rfl 3
      have p4 := L7.out.cell 0 _ rfl 4
      have q4 := L7.out.fz 0 _ rfl 4
      have r4 := L7.out.cell 1 _ rfl 4
      have p5 := L7.out.cell 0 _ rfl 5
      have q5 := L7.out.fz 0 _ rfl 5
      have r5 := L7.out.cell 1 _ rfl 5
      have p6 := L7.out.cell 0 _ rfl 6
      have q6 := L7.out.fz 0 _ rfl 6
      have r6 := L7.out.cell 1 _ rfl 6
      have p7 := L7.out.cell 0 _ rfl 7
      have q7 := L7.out.fz 0 _ rfl 7
      have r7 := L7.out.cell 1 _ rfl 7
      have p8 := L7.out.cell 0 _ rfl 8
      have q8 := L7.out.fz 0 _ rfl 8
      have r8 := L7.out.cell 1 _ rfl 8
      simp only [mthA] at p0 q0 r0 p1 q1 r1 p2 q2 r2 p3 q3 r3 p4 q4 r4 p5 q5 r5 p6 q6 r6 p7 q7 r7 p8 q8 r8
      go_wp2_with fail
      have l99 := (((((((((L7.out.set 0 _ rfl 0 (by simp [mthA]) (.string ⟨n.toArray⟩)).set 0 _ rfl 1 (by simp [mthA]) (.bool st)).set 0 _ rfl 2 (by simp [mthA]) (.bool true)).set 0 _ rfl 3 (by simp [mthA]) (.slice none 0 0)).set 0 _ rfl 4 (by simp [mthA]) (.int .i64 rt.kind)).set 0 _ rfl 5 (by simp [mthA]) (.string ⟨rt.name.toArray⟩)).set 0 _ rfl 6 (by simp [mthA]) (.int .i64 0)).set 0 _ rfl 7 (by simp [mthA]) (.slice none 0 0)).set 0 _ rfl 8 (by simp [mthA]) (.slice none 0 0))
      have kt := (((((((((Kp.set (e := 43) (t := 50) (L7.out.bl 0 _ rfl) (by decide) 0 (.string ⟨n.toArray⟩)).trans (Kp.set (e := 43) (t := 50) ((L7.out.set 0 _ rfl 0 (by simp [mthA]) (.string ⟨n.toArray⟩)).bl 0 _ rfl) (by decide) 1 (.bool st))).trans (Kp.set (e := 43) (t := 50) (((L7.out.set 0 _ rfl 0 (by simp [mthA]) (.string ⟨n.toArray⟩)).set 0 _ rfl 1 (by simp [mthA]) (.bool st)).bl 0 _ rfl) (by decide) 2 (.bool true))).trans (Kp.set (e := 43) (t := 50) ((((L7.out.set 0 _ rfl 0 (by simp [mthA]) (.string ⟨n.toArray⟩)).set 0 _ rfl 1 (by simp [mthA]) (.bool st)).set 0 _ rfl 2 (by simp [mthA]) (.bool true)).bl 0 _ rfl) (by decide) 3 (.slice none 0 0))).trans (Kp.set (e := 43) (t := 50) (((((L7.out.set 0 _ rfl 0 (by simp [mthA]) (.string ⟨n.toArray⟩)).set 0 _ rfl 1 (by simp [mthA]) (.bool st)).set 0 _ rfl 2 (by simp [mthA]) (.bool true)).set 0 _ rfl 3 (by simp [mthA]) (.slice none 0 0)).bl 0 _ rfl) (by decide) 4 (.int .i64 rt.kind))).trans (Kp.set (e := 43) (t := 50) ((((((L7.out.set 0 _ rfl 0 (by simp [mthA]) (.string ⟨n.toArray⟩)).set 0 _ rfl 1 (by simp [mthA]) (.bool st)).set 0 _ rfl 2 (by simp [mthA]) (.bool true)).set 0 _ rfl 3 (by simp [mthA]) (.slice none 0 0)).set 0 _ rfl 4 (by simp [mthA]) (.int .i64 rt.kind)).bl 0 _ rfl) (by decide) 5 (.string ⟨rt.name.toArray⟩))).trans (Kp.set (e := 43) (t := 50) (((((((L7.out.set 0 _ rfl 0 (by simp [mthA]) (.string ⟨n.toArray⟩)).set 0 _ rfl 1 (by simp [mthA]) (.bool st)).set 0 _ rfl 2 (by simp [mthA]) (.bool true)).set 0 _ rfl 3 (by simp [mthA]) (.slice none 0 0)).set 0 _ rfl 4 (by simp [mthA]) (.int .i64 rt.kind)).set 0 _ rfl 5 (by simp [mthA]) (.string ⟨rt.name.toArray⟩)).bl 0 _ rfl) (by decide) 6 (.int .i64 0))).trans (Kp.set (e := 43) (t := 50) ((((((((L7.out.set 0 _ rfl 0 (by simp [mthA]) (.string ⟨n.toArray⟩)).set 0 _ rfl 1 (by simp [mthA]) (.bool st)).set 0 _ rfl 2 (by simp [mthA]) (.bool true)).set 0 _ rfl 3 (by simp [mthA]) (.slice none 0 0)).set 0 _ rfl 4 (by simp [mthA]) (.int .i64 rt.kind)).set 0 _ rfl 5 (by simp [mthA]) (.string ⟨rt.name.toArray⟩)).set 0 _ rfl 6 (by simp [mthA]) (.int .i64 0)).bl 0 _ rfl) (by decide) 7 (.slice none 0 0))).trans (Kp.set (e := 43) (t := 50) (((((((((L7.out.set 0 _ rfl 0 (by simp [mthA]) (.string ⟨n.toArray⟩)).set 0 _ rfl 1 (by simp [mthA]) (.bool st)).set 0 _ rfl 2 (by simp [mthA]) (.bool true)).set 0 _ rfl 3 (by simp [mthA]) (.slice none 0 0)).set 0 _ rfl 4 (by simp [mthA]) (.int .i64 rt.kind)).set 0 _ rfl 5 (by simp [mthA]) (.string ⟨rt.name.toArray⟩)).set 0 _ rfl 6 (by simp [mthA]) (.int .i64 0)).set 0 _ rfl 7 (by simp [mthA]) (.slice none 0 0)).bl 0 _ rfl) (by decide) 8 (.slice none 0 0)))
      have ki := (((((((((Kp.set (e := 52) (t := 50) (L7.out.bl 0 _ rfl) (by decide) 0 (.string ⟨n.toArray⟩)).trans (Kp.set (e := 52) (t := 50) ((L7.out.set 0 _ rfl 0 (by simp [mthA]) (.string ⟨n.toArray⟩)).bl 0 _ rfl) (by decide) 1 (.bool st))).trans (Kp.set (e := 52) (t := 50) (((L7.out.set 0 _ rfl 0 (by simp [mthA]) (.string ⟨n.toArray⟩)).set 0 _ rfl 1 (by simp [mthA]) (.bool st)).bl 0 _ rfl) (by decide) 2 (.bool true))).trans (Kp.set (e := 52) (t := 50) ((((L7.out.set 0 _ rfl 0 (by simp [mthA]) (.string ⟨n.toArray⟩)).set 0 _ rfl 1 (by simp [mthA]) (.bool st)).set 0 _ rfl 2 (by simp [mthA]) (.bool true)).bl 0 _ rfl) (by decide) 3 (.slice none 0 0))).trans (Kp.set (e := 52) (t := 50) (((((L7.out.set 0 _ rfl 0 (by simp [mthA]) (.string ⟨n.toArray⟩)).set 0 _ rfl 1 (by simp [mthA]) (.bool st)).set 0 _ rfl 2 (by simp [mthA]) (.bool true)).set 0 _ rfl 3 (by simp [mthA]) (.slice none 0 0)).bl 0 _ rfl) (by decide) 4 (.int .i64 rt.kind))).trans (Kp.set (e := 52) (t := 50) ((((((L7.out.set 0 _ rfl 0 (by simp [mthA]) (.string ⟨n.toArray⟩)).set 0 _ rfl 1 (by simp [mthA]) (.bool st)).set 0 _ rfl 2 (by simp [mthA]) (.bool true)).set 0 _ rfl 3 (by simp [mthA]) (.slice none 0 0)).set 0 _ rfl 4 (by simp [mthA]) (.int .i64 rt.kind)).bl 0 _ rfl) (by decide) 5 (.string ⟨rt.name.toArray⟩))).trans (Kp.set (e := 52) (t := 50) (((((((L7.out.set 0 _ rfl 0 (by simp [mthA]) (.string ⟨n.toArray⟩)).set 0 _ rfl 1 (by simp [mthA]) (.bool st)).set 0 _ rfl 2 (by simp [mthA]) (.bool true)).set 0 _ rfl 3 (by simp [mthA]) (.slice none 0 0)).set 0 _ rfl 4 (by simp [mthA]) (.int .i64 rt.kind)).set 0 _ rfl 5 (by simp [mthA]) (.string ⟨rt.name.toArray⟩)).bl 0 _ rfl) (by decide) 6 (.int .i64 0))).trans (Kp.set (e := 52) (t := 50) ((((((((L7.out.set 0 _ rfl 0 (by simp [mthA]) (.string ⟨n.toArray⟩)).set 0 _ rfl 1 (by simp [mthA]) (.bool st)).set 0 _ rfl 2 (by simp [mthA]) (.bool true)).set 0 _ rfl 3 (by simp [mthA]) (.slice none 0 0)).set 0 _ rfl 4 (by simp [mthA]) (.int .i64 rt.kind)).set 0 _ rfl 5 (by simp [mthA]) (.string ⟨rt.name.toArray⟩)).set 0 _ rfl 6 (by simp [mthA]) (.int .i64 0)).bl 0 _ rfl) (by decide) 7 (.slice none 0 0))).trans (Kp.set (e := 52) (t := 50) (((((((((L7.out.set 0 _ rfl 0 (by simp [mthA]) (.string ⟨n.toArray⟩)).set 0 _ rfl 1 (by simp [mthA]) (.bool st)).set 0 _ rfl 2 (by simp [mthA]) (.bool true)).set 0 _ rfl 3 (by simp [mthA]) (.slice none 0 0)).set 0 _ rfl 4 (by simp [mthA]) (.int .i64 rt.kind)).set 0 _ rfl 5 (by simp [mthA]) (.string ⟨rt.name.toArray⟩)).set 0 _ rfl 6 (by simp [mthA]) (.int .i64 0)).set 0 _ rfl 7 (by simp [mthA]) (.slice none 0 0)).bl 0 _ rfl) (by decide) 8 (.slice none 0 0)))
      have kc := (((((((((Kp.set (e := 54) (t := 50) (L7.out.bl 0 _ rfl) (by decide) 0 (.string ⟨n.toArray⟩)).trans (Kp.set (e := 54) (t := 50) ((L7.out.set 0 _ rfl 0 (by simp [mthA]) (.string ⟨n.toArray⟩)).bl 0 _ rfl) (by decide) 1 (.bool st))).trans (Kp.set (e := 54) (t := 50) (((L7.out.set 0 _ rfl 0 (by simp [mthA]) (.string ⟨n.toArray⟩)).set 0 _ rfl 1 (by simp [mthA]) (.bool st)).bl 0 _ rfl) (by decide) 2 (.bool true))).trans (Kp.set (e := 54) (t := 50) ((((L7.out.set 0 _ rfl 0 (by simp [mthA]) (.string ⟨n.toArray⟩)).set 0 _ rfl 1 (by simp [mthA]) (.bool st)).set 0 _ rfl 2 (by simp [mthA]) (.bool true)).bl 0 _ rfl) (by decide) 3 (.slice none 0 0))).trans (Kp.set (e := 54) (t := 50) (((((L7.out.set 0 _ rfl 0 (by simp [mthA]) (.string ⟨n.toArray⟩)).set 0 _ rfl 1 (by simp [mthA]) (.bool st)).set 0 _ rfl 2 (by simp [mthA]) (.bool true)).set 0 _ rfl 3 (by simp [mthA]) (.slice none 0 0)).bl 0 _ rfl) (by decide) 4 (.int .i64 rt.kind))).trans (Kp.set (e := 54) (t := 50) ((((((L7.out.set 0 _ rfl 0 (by simp [mthA]) (.string ⟨n.toArray⟩)).set 0 _ rfl 1 (by simp [mthA]) (.bool st)).set 0 _ rfl 2 (by simp [mthA]) (.bool true)).set 0 _ rfl 3 (by simp [mthA]) (.slice none 0 0)).set 0 _ rfl 4 (by simp [mthA]) (.int .i64 rt.kind)).bl 0 _ rfl) (by decide) 5 (.string ⟨rt.name.toArray⟩))).trans (Kp.set (e := 54) (t := 50) (((((((L7.out.set 0 _ rfl 0 (by simp [mthA]) (.string ⟨n.toArray⟩)).set 0 _ rfl 1 (by simp [mthA]) (.bool st)).set 0 _ rfl 2 (by simp [mthA]) (.bool true)).set 0 _ rfl 3 (by simp [mthA]) (.slice none 0 0)).set 0 _ rfl 4 (by simp [mthA]) (.int .i64 rt.kind)).set 0 _ rfl 5 (by simp [mthA]) (.string ⟨rt.name.toArray⟩)).bl 0 _ rfl) (by decide) 6 (.int .i64 0))).trans (Kp.set (e := 54) (t := 50) ((((((((L7.out.set 0 _ rfl 0 (by simp [mthA]) (.string ⟨n.toArray⟩)).set 0 _ rfl 1 (by simp [mthA]) (.bool st)).set 0 _ rfl 2 (by simp [mthA]) (.bool true)).set 0 _ rfl 3 (by simp [mthA]) (.slice none 0 0)).set 0 _ rfl 4 (by simp [mthA]) (.int .i64 rt.kind)).set 0 _ rfl 5 (by simp [mthA]) (.string ⟨rt.name.toArray⟩)).set 0 _ rfl 6 (by simp [mthA]) (.int .i64 0)).bl 0 _ rfl) (by decide) 7 (.slice none 0 0))).trans (Kp.set (e := 54) (t := 50) (((((((((L7.out.set 0 _ rfl 0 (by simp [mthA]) (.string ⟨n.toArray⟩)).set 0 _ rfl 1 (by simp [mthA]) (.bool st)).set 0 _ rfl 2 (by simp [mthA]) (.bool true)).set 0 _ rfl 3 (by simp [mthA]) (.slice none 0 0)).set 0 _ rfl 4 (by simp [mthA]) (.int .i64 rt.kind)).set 0 _ rfl 5 (by simp [mthA]) (.string ⟨rt.name.toArray⟩)).set 0 _ rfl 6 (by simp [mthA]) (.int .i64 0)).set 0 _ rfl 7 (by simp [mthA]) (.slice none 0 0)).bl 0 _ rfl) (by decide) 8 (.slice none 0 0)))
      refine bodyPost_ret (v := .agg (mthA n st true (.slice none 0 0) rt 0 (.slice none 0 0) (.slice none 0 0))) (by simp [results, Tryz.results59, go_sem, mthA, *]) rfl ⟨.slice none 0 0, .slice none 0 0, .slice none 0 0, ?_, ?_, ?_, l99.fr⟩
      · rw [← (Prod.mk.inj HR.out).1]
      · rw [← (Prod.mk.inj HR.out).1]; exact ⟨kt.own HQ7.out, World.ownsRow_nil _ _ _ _, World.ownsRow_nil _ _ _ _⟩
      · rw [← (Prod.mk.inj HR.out).2]; exact l99.rd
    | false =>
      rw [ha] at hC7 HR
      simp only [Bool.false_eq_true, if_false] at hC7 HR
      clear ha
      unfold Pp.wSemi at hC7
      go_wp2_with fail
      refine hC7.out.mono ?_
      rintro e w7 ⟨rfl, hr7, hf7⟩
      have l7 := L6.out.call hr7 hf7
      have HP7 := hide ((Kp.fr L6.out.rd hf7 (by decide)).own HQ6.out)
      clear hr7 hf7 L6 hC7 HQ6
      have k2 := l7.cell 1 _ rfl 2
      have f2 := l7.fz 1 _ rfl 2
      simp only [mthA] at k2 f2
      have HQ7 := hide ((Kp.set (t := 50) (l7.bl 1 _ rfl) (by decide) 2 (.bool false)).own HP7.out)
      clear HP7
      have L7 : Hid (Lo w (w7.setCell ⟨w.heap.size + 1, 2, none⟩ (.bool false)) b C s6 [(w.heap.size, mthA [] false false (.slice none 0 0) ⟨0, []⟩ 0 (.slice none 0 0) (.slice none 0 0), 50), (w.heap.size + 1, mthA n st false (.slice none 0 0) rt 0 (.slice none 0 0) (.slice none 0 0), 50)]) := hide (l7.set 1 _ rfl 2 (by simp [mthA]) (.bool false))
      clear l7
      rw [show Pp.bodyOr false = Pp.body from rfl] at HR
      have hC8 := hide (body_any L7.out 1 (w.heap.size + 1) n st false (.slice none 0 0) rt rfl (types_two (by decide)) (types_two (by decide)))
      have HB8 := hide (L7.out.bl 1 _ rfl)
      have HBr := hide L7.out.rd
      obtain ⟨B, s8, h8⟩ := pair_eta (Pp.body.run C.ws s6)
      rw [h8] at hC8 HR
      simp only at hC8 HR
      clear h8
      have ka := L7.out.cell 1 _ rfl 2
      simp only [mthA] at ka
      go_wp2_with fail
      refine hC8.out.mono ?_
      rintro e w8 ⟨vc, vk, rfl, l8, oc, ok, oy⟩
      obtain ⟨ca, cc, rfl⟩ := own_shapeV oc
      obtain ⟨kb, kd, rfl⟩ := own_shapeV ok
      have L8 : Hid (Lo w w8 b C s8 [(w.heap.size, mthA [] false false (.slice none 0 0) ⟨0, []⟩ 0 (.slice none 0 0) (.slice none 0 0), 50), (w.heap.size + 1, mthA n st false (.slice none 0 0) rt B.1 (.slice ca B.2.1.length cc) (.slice kb B.2.2.length kd), 50)]) := hide l8
      have HOC := hide oc
      have HOK := hide ok
      have HQ8 := hide (oy.own HQ7.out)
      clear oc ok oy l8 hC8 ka L7 HQ7
      have p0 := L8.out.cell 0 _ rfl 0
      have q0 := L8.out.fz 0 _ rfl 0
      have r0 := L8.out.cell 1 _ rfl 0
      have p1 := L8.out.cell 0 _ rfl 1
      have q1 := L8.out.fz 0 _ rfl 1
      have r1 := L8.out.cell 1 _ rfl 1
      have p2 := L8.out.cell 0 _ rfl 2
      have q2 := L8.out.fz 0 _ rfl 2
      have r2 := L8.out.cell 1 _ rfl 2
      have p3 := L8.out.cell 0 _ rfl 3
      have q3 := L8.out.fz 0 _ rfl 3
      have r3 := L8.out.cell 1 _ rfl 3
      have p4 := L8.out.cell 0 _ rfl 4
      have q4 := L8.out.fz 0 _ rfl 4
      have r4 := L8.out.cell 1 _ rfl 4
      have p5 := L8.out.cell 0 _ rfl 5
      have q5 := L8.out.fz 0 _ rfl 5
      have r5 := L8.out.cell 1 _ rfl 5
      have p6 := L8.out.cell 0 _ rfl 6
      have q6 := L8.out.fz 0 _ rfl 6
      have r6 := L8.out.cell 1 _ rfl 6
      have p7 := L8.out.cell 0 _ rfl 7
      have q7 := L8.out.fz 0 _ rfl 7
      have r7 := L8.out.cell 1 _ rfl 7
      have p8 := L8.out.cell 0 _ rfl 8
      have q8 := L8.out.fz 0 _ rfl 8
      have r8 := L8.out.cell 1 _ rfl 8
      simp only [mthA] at p0 q0 r0 p1 q1 r1 p2 q2 r2 p3 q3 r3 p4 q4 r4 p5 q5 r5 p6 q6 r6 p7 q7 r7 p8 q8 r8
      go_wp2_with fail
      have l99 := (((((((((L8.out.set 0 _ rfl 0 (by simp [mthA]) (.string ⟨n.toArray⟩)).set 0 _ rfl 1 (by simp [mthA]) (.bool st)).set 0 _ rfl 2 (by simp [mthA]) (.bool false)).set 0 _ rfl 3 (by simp [mthA]) (.slice none 0 0)).set 0 _ rfl 4 (by simp [mthA]) (.int .i64 rt.kind)).set 0 _ rfl 5 (by simp [mthA]) (.string ⟨rt.name.toArray⟩)).set 0 _ rfl 6 (by simp [mthA]) (.int .i64 B.1)).set 0 _ rfl 7 (by simp [mthA]) (.slice ca B.2.1.length cc)).set 0 _ rfl 8 (by simp [mthA]) (.slice kb B.2.2.length kd))
      have kt := (((((((((Kp.set (e := 43) (t := 50) (L8.out.bl 0 _ rfl) (by decide) 0 (.string ⟨n.toArray⟩)).trans (Kp.set (e := 43) (t := 50) ((L8.out.set 0 _ rfl 0 (by simp [mthA]) (.string ⟨n.toArray⟩)).bl 0 _ rfl) (by decide) 1 (.bool st))).trans (Kp.set (e := 43) (t := 50) (((L8.out.set 0 _ rfl 0 (by simp [mthA]) (.string ⟨n.toArray⟩)).set 0 _ rfl 1 (by simp [mthA]) (.bool st)).bl 0 _ rfl) (by decide) 2 (.bool false))).trans (Kp.set (e := 43) (t := 50) ((((L8.out.set 0 _ rfl 0 (by simp [mthA]) (.string ⟨n.toArray⟩)).set 0 _ rfl 1 (by simp [mthA]) (.bool st)).set 0 _ rfl 2 (by simp [mthA]) (.bool false)).bl 0 _ rfl) (by decide) 3 (.slice none 0 0))).trans (Kp.set (e := 43) (t := 50) (((((L8.out.set 0 _ rfl 0 (by simp [mthA]) (.string ⟨n.toArray⟩)).set 0 _ rfl 1 (by simp [mthA]) (.bool st)).set 0 _ rfl 2 (by simp [mthA]) (.bool false)).set 0 _ rfl 3 (by simp [mthA]) (.slice none 0 0)).bl 0 _ rfl) (by decide) 4 (.int .i64 rt.kind))).trans (Kp.set (e := 43) (t := 50) ((((((L8.out.set 0 _ rfl 0 (by simp [mthA]) (.string ⟨n.toArray⟩)).set 0 _ rfl 1 (by simp [mthA]) (.bool st)).set 0 _ rfl 2 (by simp [mthA]) (.bool false)).set 0 _ rfl 3 (by simp [mthA]) (.slice none 0 0)).set 0 _ rfl 4 (by simp [mthA]) (.int .i64 rt.kind)).bl 0 _ rfl) (by decide) 5 (.string ⟨rt.name.toArray⟩))).trans (Kp.set (e := 43) (t := 50) (((((((L8.out.set 0 _ rfl 0 (by simp [mthA]) (.string ⟨n.toArray⟩)).set 0 _ rfl 1 (by simp [mthA]) (.bool st)).set 0 _ rfl 2 (by simp [mthA]) (.bool false)).set 0 _ rfl 3 (by simp [mthA]) (.slice none 0 0)).set 0 _ rfl 4 (by simp [mthA]) (.int .i64 rt.kind)).set 0 _ rfl 5 (by simp [mthA]) (.string ⟨rt.name.toArray⟩)).bl 0 _ rfl) (by decide) 6 (.int .i64 B.1))).trans (Kp.set (e := 43) (t := 50) ((((((((L8.out.set 0 _ rfl 0 (by simp [mthA]) (.string ⟨n.toArray⟩)).set 0 _ rfl 1 (by simp [mthA]) (.bool st)).set 0 _ rfl 2 (by simp [mthA]) (.bool false)).set 0 _ rfl 3 (by simp [mthA]) (.slice none 0 0)).set 0 _ rfl 4 (by simp [mthA]) (.int .i64 rt.kind)).set 0 _ rfl 5 (by simp [mthA]) (.string ⟨rt.name.toArray⟩)).set 0 _ rfl 6 (by simp [mthA]) (.int .i64 B.1)).bl 0 _ rfl) (by decide) 7 (.slice ca B.2.1.length cc))).trans (Kp.set (e := 43) (t := 50) (((((((((L8.out.set 0 _ rfl 0 (by simp [mthA]) (.string ⟨n.toArray⟩)).set 0 _ rfl 1 (by simp [mthA]) (.bool st)).set 0 _ rfl 2 (by simp [mthA]) (.bool false)).set 0 _ rfl 3 (by simp [mthA]) (.slice none 0 0)).set 0 _ rfl 4 (by simp [mthA]) (.int .i64 rt.kind)).set 0 _ rfl 5 (by simp [mthA]) (.string ⟨rt.name.toArray⟩)).set 0 _ rfl 6 (by simp [mthA]) (.int .i64 B.1)).set 0 _ rfl 7 (by simp [mthA]) (.slice ca B.2.1.length cc)).bl 0 _ rfl) (by decide) 8 (.slice kb B.2.2.length kd)))
      have ki := (((((((((Kp.set (e := 52) (t := 50) (L8.out.bl 0 _ rfl) (by decide) 0 (.string ⟨n.toArray⟩)).trans (Kp.set (e := 52) (t := 50) ((L8.out.set 0 _ rfl 0 (by simp [mthA]) (.string ⟨n.toArray⟩)).bl 0 _ rfl) (by decide) 1 (.bool st))).trans (Kp.set (e := 52) (t := 50) (((L8.out.set 0 _ rfl 0 (by simp [mthA]) (.string ⟨n.toArray⟩)).set 0 _ rfl 1 (by simp [mthA]) (.bool st)).bl 0 _ rfl) (by decide) 2 (.bool false))).trans (Kp.set (e := 52) (t := 50) ((((L8.out.set 0 _ rfl 0 (by simp [mthA]) (.string ⟨n.toArray⟩)).set 0 _ rfl 1 (by simp [mthA]) (.bool st)).set 0 _ rfl 2 (by simp [mthA]) (.bool false)).bl 0 _ rfl) (by decide) 3 (.slice none 0 0))).trans (Kp.set (e := 52) (t := 50) (((((L8.out.set 0 _ rfl 0 (by simp [mthA]) (.string ⟨n.toArray⟩)).set 0 _ rfl 1 (by simp [mthA]) (.bool st)).set 0 _ rfl 2 (by simp [mthA]) (.bool false)).set 0 _ rfl 3 (by simp [mthA]) (.slice none 0 0)).bl 0 _ rfl) (by decide) 4 (.int .i64 rt.kind))).trans (Kp.set (e := 52) (t := 50) ((((((L8.out.set 0 _ rfl 0 (by simp [mthA]) (.string ⟨n.toArray⟩)).set 0 _ rfl 1 (by simp [mthA]) (.bool st)).set 0 _ rfl 2 (by simp [mthA]) (.bool false)).set 0 _ rfl 3 (by simp [mthA]) (.slice none 0 0)).set 0 _ rfl 4 (by simp [mthA]) (.int .i64 rt.kind)).bl 0 _ rfl) (by decide) 5 (.string ⟨rt.name.toArray⟩))).trans (Kp.set (e := 52) (t := 50) (((((((L8.out.set 0 _ rfl 0 (by simp [mthA]) (.string ⟨n.toArray⟩)).set 0 _ rfl 1 (by simp [mthA]) (.bool st)).set 0 _ rfl 2 (by simp [mthA]) (.bool false)).set 0 _ rfl 3 (by simp [mthA]) (.slice none 0 0)).set 0 _ rfl 4 (by simp [mthA]) (.int .i64 rt.kind)).set 0 _ rfl 5 (by simp [mthA]) (.string ⟨rt.name.toArray⟩)).bl 0 _ rfl) (by decide) 6 (.int .i64 B.1))).trans (Kp.set (e := 52) (t := 50) ((((((((L8.out.set 0 _ rfl 0 (by simp [mthA]) (.string ⟨n.toArray⟩)).set 0 _ rfl 1 (by simp [mthA]) (.bool st)).set 0 _ rfl 2 (by simp [mthA]) (.bool false)).set 0 _ rfl 3 (by simp [mthA]) (.slice none 0 0)).set 0 _ rfl 4 (by simp [mthA]) (.int .i64 rt.kind)).set 0 _ rfl 5 (by simp [mthA]) (.string ⟨rt.name.toArray⟩)).set 0 _ rfl 6 (by simp [mthA]) (.int .i64 B.1)).bl 0 _ rfl) (by decide) 7 (.slice ca B.2.1.length cc))).trans (Kp.set (e := 52) (t := 50) (((((((((L8.out.set 0 _ rfl 0 (by simp [mthA]) (.string ⟨n.toArray⟩)).set 0 _ rfl 1 (by simp [mthA]) (.bool st)).set 0 _ rfl 2 (by simp [mthA]) (.bool false)).set 0 _ rfl 3 (by simp [mthA]) (.slice none 0 0)).set 0 _ rfl 4 (by simp [mthA]) (.int .i64 rt.kind)).set 0 _ rfl 5 (by simp [mthA]) (.string ⟨rt.name.toArray⟩)).set 0 _ rfl 6 (by simp [mthA]) (.int .i64 B.1)).set 0 _ rfl 7 (by simp [mthA]) (.slice ca B.2.1.length cc)).bl 0 _ rfl) (by decide) 8 (.slice kb B.2.2.length kd)))
      have kc := (((((((((Kp.set (e := 54) (t := 50) (L8.out.bl 0 _ rfl) (by decide) 0 (.string ⟨n.toArray⟩)).trans (Kp.set (e := 54) (t := 50) ((L8.out.set 0 _ rfl 0 (by simp [mthA]) (.string ⟨n.toArray⟩)).bl 0 _ rfl) (by decide) 1 (.bool st))).trans (Kp.set (e := 54) (t := 50) (((L8.out.set 0 _ rfl 0 (by simp [mthA]) (.string ⟨n.toArray⟩)).set 0 _ rfl 1 (by simp [mthA]) (.bool st)).bl 0 _ rfl) (by decide) 2 (.bool false))).trans (Kp.set (e := 54) (t := 50) ((((L8.out.set 0 _ rfl 0 (by simp [mthA]) (.string ⟨n.toArray⟩)).set 0 _ rfl 1 (by simp [mthA]) (.bool st)).set 0 _ rfl 2 (by simp [mthA]) (.bool false)).bl 0 _ rfl) (by decide) 3 (.slice none 0 0))).trans (Kp.set (e := 54) (t := 50) (((((L8.out.set 0 _ rfl 0 (by simp [mthA]) (.string ⟨n.toArray⟩)).set 0 _ rfl 1 (by simp [mthA]) (.bool st)).set 0 _ rfl 2 (by simp [mthA]) (.bool false)).set 0 _ rfl 3 (by simp [mthA]) (.slice none 0 0)).bl 0 _ rfl) (by decide) 4 (.int .i64 rt.kind))).trans (Kp.set (e := 54) (t := 50) ((((((L8.out.set 0 _ rfl 0 (by simp [mthA]) (.string ⟨n.toArray⟩)).set 0 _ rfl 1 (by simp [mthA]) (.bool st)).set 0 _ rfl 2 (by simp [mthA]) (.bool false)).set 0 _ rfl 3 (by simp [mthA]) (.slice none 0 0)).set 0 _ rfl 4 (by simp [mthA]) (.int .i64 rt.kind)).bl 0 _ rfl) (by decide) 5 (.string ⟨rt.name.toArray⟩))).trans (Kp.set (e := 54) (t := 50) (((((((L8.out.set 0 _ rfl 0 (by simp [mthA]) (.string ⟨n.toArray⟩)).set 0 _ rfl 1 (by simp [mthA]) (.bool st)).set 0 _ rfl 2 (by simp [mthA]) (.bool false)).set 0 _ rfl 3 (by simp [mthA]) (.slice none 0 0)).set 0 _ rfl 4 (by simp [mthA]) (.int .i64 rt.kind)).set 0 _ rfl 5 (by simp [mthA]) (.string ⟨rt.name.toArray⟩)).bl 0 _ rfl) (by decide) 6 (.int .i64 B.1))).trans (Kp.set (e := 54) (t := 50) ((((((((L8.out.set 0 _ rfl 0 (by simp [mthA]) (.string ⟨n.toArray⟩)).set 0 _ rfl 1 (by simp [mthA]) (.bool st)).set 0 _ rfl 2 (by simp [mthA]) (.bool false)).set 0 _ rfl 3 (by simp [mthA]) (.slice none 0 0)).set 0 _ rfl 4 (by simp [mthA]) (.int .i64 rt.kind)).set 0 _ rfl 5 (by simp [mthA]) (.string ⟨rt.name.toArray⟩)).set 0 _ rfl 6 (by simp [mthA]) (.int .i64 B.1)).bl 0 _ rfl) (by decide) 7 (.slice ca B.2.1.length cc))).trans (Kp.set (e := 54) (t := 50) (((((((((L8.out.set 0 _ rfl 0 (by simp [mthA]) (.string ⟨n.toArray⟩)).set 0 _ rfl 1 (by simp [mthA]) (.bool st)).set 0 _ rfl 2 (by simp [mthA]) (.bool false)).set 0 _ rfl 3 (by simp [mthA]) (.slice none 0 0)).set 0 _ rfl 4 (by simp [mthA]) (.int .i64 rt.kind)).set 0 _ rfl 5 (by simp [mthA]) (.string ⟨rt.name.toArray⟩)).set 0 _ rfl 6 (by simp [mthA]) (.int .i64 B.1)).set 0 _ rfl 7 (by simp [mthA]) (.slice ca B.2.1.length cc)).bl 0 _ rfl) (by decide) 8 (.slice kb B.2.2.length kd)))
      refine bodyPost_ret (v := .agg (mthA n st false (.slice none 0 0) rt B.1 (.slice ca B.2.1.length cc) (.slice kb B.2.2.length kd))) (by simp [results, Tryz.results59, go_sem, mthA, *]) rfl ⟨.slice none 0 0, .slice ca B.2.1.length cc, .slice kb B.2.2.length kd, ?_, ?_, ?_, l99.fr⟩
      · rw [← (Prod.mk.inj HR.out).1]
      · rw [← (Prod.mk.inj HR.out).1]; exact ⟨kt.own HQ8.out, ki.own HOC.out, kc.own HOK.out⟩
      · rw [← (Prod.mk.inj HR.out).2]; exact l99.rd
  | false =>
    rw [hq] at hB
    rw [params_no hq] at HR
    clear hq
    unfold Pp.wRP at hB
    go_wp2_with fail
    refine hB.out.mono ?_
    rintro e w4 ⟨rfl, hb4⟩
    have L4 := hide (L3.out.below hb4)
    clear hb4 hB L3
    have hC5 := hide (listedT_any L4.out.rd 4 (by decide) (by decide))
    obtain ⟨ps, s5, h5⟩ := pair_eta ((Pp.listed Pp.isType Pp.typed 4).run C.ws s3)
    rw [h5] at hC5 HR
    simp only at hC5 HR
    clear h5
    have hsz4 := hide L4.out.fr.size
    go_wp2_with fail
    refine hC5.out.mono ?_
    rintro e w5 ⟨vp, rfl, ho5, hr5, hf5⟩
    have l5 := L4.out.call hr5 hf5
    have k3 := l5.cell 1 _ rfl 3
    have f3 := l5.fz 1 _ rfl 3
    simp only [mthA] at k3 f3
    have HQ5 : Hid ((w5.setCell ⟨w.heap.size + 1, 3, none⟩ vp).ownsRow w.heap.size 43 2 vp ps.length (tysCells ps)) := hide ((Kp.set (t := 50) (l5.bl 1 _ rfl) (by decide) 3 vp).own (own_base ho5 hsz4.out))
    obtain ⟨va, vcap, rfl⟩ := own_shapeV ho5
    have L5 : Hid (Lo w (w5.setCell ⟨w.heap.size + 1, 3, none⟩ (.slice va ps.length vcap)) b C s5 [(w.heap.size, mthA [] false false (.slice none 0 0) ⟨0, []⟩ 0 (.slice none 0 0) (.slice none 0 0), 50), (w.heap.size + 1, mthA n st false (.slice va ps.length vcap) ⟨0, []⟩ 0 (.slice none 0 0) (.slice none 0 0), 50)]) := hide (l5.set 1 _ rfl 3 (by simp [mthA]) (.slice va ps.length vcap))
    clear hr5 hf5 ho5 hC5 l5 L4
    have hC6 := hide (want_any L5.out.rd Pp.wRP (by decide))
    obtain ⟨u6, s6, h6⟩ := pair_eta ((Pp.want Pp.wRP).run C.ws s5)
    rw [h6] at hC6 HR
    simp only at hC6 HR
    clear h6
    unfold Pp.wRP at hC6
    go_wp2_with fail
    refine hC6.out.mono ?_
    rintro e w6 ⟨rfl, hr6, hf6⟩
    have l6 := L5.out.call hr6 hf6
    have HP6 := hide ((Kp.fr L5.out.rd hf6 (by decide)).own HQ5.out)
    clear HQ5
    clear hr6 hf6 L5 hC6
    have HQ6 := HP6
    clear HP6
    have L6 : Hid (Lo w w6 b C s6 [(w.heap.size, mthA [] false false (.slice none 0 0) ⟨0, []⟩ 0 (.slice none 0 0) (.slice none 0 0), 50), (w.heap.size + 1, mthA n st false (.slice va ps.length vcap) ⟨0, []⟩ 0 (.slice none 0 0) (.slice none 0 0), 50)]) := hide l6
    clear l6
    have hC7 := hide (typed_any L6.out.rd)
    obtain ⟨rt, s7, h7⟩ := pair_eta ((Pp.typed).run C.ws s6)
    rw [h7] at hC7 HR
    simp only at hC7 HR
    clear h7
    unfold tyV at hC7
    go_wp2_with fail
    refine hC7.out.mono ?_
    rintro e w7 ⟨rfl, hr7, hf7⟩
    have l7 := L6.out.call hr7 hf7
    have HP7 := hide ((Kp.fr L6.out.rd hf7 (by decide)).own HQ6.out)
    clear HQ6
    clear hr7 hf7 L6 hC7
    have k4 := l7.cell 1 _ rfl 4
    have f4 := l7.fz 1 _ rfl 4
    have k5 := l7.cell 1 _ rfl 5
    have f5 := l7.fz 1 _ rfl 5
    simp only [mthA] at k4 f4 k5 f5
    have HQ7 := hide ((Kp.set (t := 50) ((l7.set 1 _ rfl 4 (by simp [mthA]) (.int .i64 rt.kind)).bl 1 _ rfl) (by decide) 5 (.string ⟨rt.name.toArray⟩)).own ((Kp.set (t := 50) (l7.bl 1 _ rfl) (by decide) 4 (.int .i64 rt.kind)).own HP7.out))
    clear HP7
    have L7 : Hid (Lo w ((w7.setCell ⟨w.heap.size + 1, 4, none⟩ (.int .i64 rt.kind)).setCell ⟨w.heap.size + 1, 5, none⟩ (.string ⟨rt.name.toArray⟩)) b C s7 [(w.heap.size, mthA [] false false (.slice none 0 0) ⟨0, []⟩ 0 (.slice none 0 0) (.slice none 0 0), 50), (w.heap.size + 1, mthA n st false (.slice va ps.length vcap) rt 0 (.slice none 0 0) (.slice none 0 0), 50)]) := hide ((l7.set 1 _ rfl 4 (by simp [mthA]) (.int .i64 rt.kind)).set 1 _ rfl 5 (by simp [mthA]) (.string ⟨rt.name.toArray⟩))
    clear l7
    have hC8 := hide (skip_any L7.out.rd Pp.wSemi (by decide))
    rw [skip_run] at hC8 HR
    cases ha : Pp.has C.ws s7 (Pp.isW Pp.wSemi) with
    | true =>
      rw [ha] at hC8 HR
      simp only [if_true] at hC8 HR
      clear ha
      unfold Pp.wSemi at hC8
      go_wp2_with fail
      refine hC8.out.mono ?_
      rintro e w8 ⟨rfl, hr8, hf8⟩
      have l8 := L7.out.call hr8 hf8
      have HP8 := hide ((Kp.fr L7.out.rd hf8 (by decide)).own HQ7.out)
      clear hr8 hf8 L7 hC8 HQ7
      have k2 := l8.cell 1 _ rfl 2
      have f2 := l8.fz 1 _ rfl 2
      simp only [mthA] at k2 f2
      have HQ8 := hide ((Kp.set (t := 50) (l8.bl 1 _ rfl) (by decide) 2 (.bool true)).own HP8.out)
      clear HP8
      have L8 : Hid (Lo w (w8.setCell ⟨w.heap.size + 1, 2, none⟩ (.bool true)) b C s7.adv [(w.heap.size, mthA [] false false (.slice none 0 0) ⟨0, []⟩ 0 (.slice none 0 0) (.slice none 0 0), 50), (w.heap.size + 1, mthA n st true (.slice va ps.length vcap) rt 0 (.slice none 0 0) (.slice none 0 0), 50)]) := hide (l8.set 1 _ rfl 2 (by simp [mthA]) (.bool true))
      clear l8
      rw [show Pp.bodyOr true = .ret (0, [], []) from rfl] at HR
      simp only [Pp.run_ret] at HR
      have p0 := L8.out.cell 0 _ rfl 0
      have q0 := L8.out.fz 0 _ rfl 0
      have r0 := L8.out.cell 1 _ rfl 0
      have p1 := L8.out.cell 0 _ rfl 1
      have q1 := L8.out.fz 0 _ rfl 1
      have r1 := L8.out.cell 1 _ rfl 1
      have p2 := L8.out.cell 0 _ rfl 2
      have q2 := L8.out.fz 0 _ rfl 2
      have r2 := L8.out.cell 1 _ rfl 2
      have p3 := L8.out.cell 0 _ rfl 3
      have q3 := L8.out.fz 0 _ rfl 3
      have r3 := L8.out.cell 1 _ rfl 3
      have p4 := L8.out.cell 0 _ rfl 4
      have q4 := L8.out.fz 0 _ rfl 4
      have r4 := L8.out.cell 1 _ rfl 4
      have p5 := L8.out.cell 0 _ rfl 5
      have q5 := L8.out.fz 0 _ rfl 5
      have r5 := L8.out.cell 1 _ rfl 5
      have p6 := L8.out.cell 0 _ rfl 6
      have q6 := L8.out.fz 0 _ rfl 6
      have r6 := L8.out.cell 1 _ rfl 6
      have p7 := L8.out.cell 0 _ rfl 7
      have q7 := L8.out.fz 0 _ rfl 7
      have r7 := L8.out.cell 1 _ rfl 7
      have p8 := L8.out.cell 0 _ rfl 8
      have q8 := L8.out.fz 0 _ rfl 8
      have r8 := L8.out.cell 1 _ rfl 8
      simp only [mthA] at p0 q0 r0 p1 q1 r1 p2 q2 r2 p3 q3 r3 p4 q4 r4 p5 q5 r5 p6 q6 r6 p7 q7 r7 p8 q8 r8
      go_wp2_with fail
      have l99 := (((((((((L8.out.set 0 _ rfl 0 (by simp [mthA]) (.string ⟨n.toArray⟩)).set 0 _ rfl 1 (by simp [mthA]) (.bool st)).set 0 _ rfl 2 (by simp [mthA]) (.bool true)).set 0 _ rfl 3 (by simp [mthA]) (.slice va ps.length vcap)).set 0 _ rfl 4 (by simp [mthA]) (.int .i64 rt.kind)).set 0 _ rfl 5 (by simp [mthA]) (.string ⟨rt.name.toArray⟩)).set 0 _ rfl 6 (by simp [mthA]) (.int .i64 0)).set 0 _ rfl 7 (by simp [mthA]) (.slice none 0 0)).set 0 _ rfl 8 (by simp [mthA]) (.slice none 0 0))
      have kt := (((((((((Kp.set (e := 43) (t := 50) (L8.out.bl 0 _ rfl) (by decide) 0 (.string ⟨n.toArray⟩)).trans (Kp.set (e := 43) (t := 50) ((L8.out.set 0 _ rfl 0 (by simp [mthA]) (.string ⟨n.toArray⟩)).bl 0 _ rfl) (by decide) 1 (.bool st))).trans (Kp.set (e := 43) (t := 50) (((L8.out.set 0 _ rfl 0 (by simp [mthA]) (.string ⟨n.toArray⟩)).set 0 _ rfl 1 (by simp [mthA]) (.bool st)).bl 0 _ rfl) (by decide) 2 (.bool true))).trans (Kp.set (e := 43) (t := 50) ((((L8.out.set 0 _ rfl 0 (by simp [mthA]) (.string ⟨n.toArray⟩)).set 0 _ rfl 1 (by simp [mthA]) (.bool st)).set 0 _ rfl 2 (by simp [mthA]) (.bool true)).bl 0 _ rfl) (by decide) 3 (.slice va ps.length vcap))).trans (Kp.set (e := 43) (t := 50) (((((L8.out.set 0 _ rfl 0 (by simp [mthA]) (.string ⟨n.toArray⟩)).set 0 _ rfl 1 (by simp [mthA]) (.bool st)).set 0 _ rfl 2 (by simp [mthA]) (.bool true)).set 0 _ rfl 3 (by simp [mthA]) (.slice va ps.length vcap)).bl 0 _ rfl) (by decide) 4 (.int .i64 rt.kind))).trans (Kp.set (e := 43) (t := 50) ((((((L8.out.set 0 _ rfl 0 (by simp [mthA]) (.string ⟨n.toArray⟩)).set 0 _ rfl 1 (by simp [mthA]) (.bool st)).set 0 _ rfl 2 (by simp [mthA]) (.bool true)).set 0 _ rfl 3 (by simp [mthA]) (.slice va ps.length vcap)).set 0 _ rfl 4 (by simp [mthA]) (.int .i64 rt.kind)).bl 0 _ rfl) (by decide) 5 (.string ⟨rt.name.toArray⟩))).trans (Kp.set (e := 43) (t := 50) (((((((L8.out.set 0 _ rfl 0 (by simp [mthA]) (.string ⟨n.toArray⟩)).set 0 _ rfl 1 (by simp [mthA]) (.bool st)).set 0 _ rfl 2 (by simp [mthA]) (.bool true)).set 0 _ rfl 3 (by simp [mthA]) (.slice va ps.length vcap)).set 0 _ rfl 4 (by simp [mthA]) (.int .i64 rt.kind)).set 0 _ rfl 5 (by simp [mthA]) (.string ⟨rt.name.toArray⟩)).bl 0 _ rfl) (by decide) 6 (.int .i64 0))).trans (Kp.set (e := 43) (t := 50) ((((((((L8.out.set 0 _ rfl 0 (by simp [mthA]) (.string ⟨n.toArray⟩)).set 0 _ rfl 1 (by simp [mthA]) (.bool st)).set 0 _ rfl 2 (by simp [mthA]) (.bool true)).set 0 _ rfl 3 (by simp [mthA]) (.slice va ps.length vcap)).set 0 _ rfl 4 (by simp [mthA]) (.int .i64 rt.kind)).set 0 _ rfl 5 (by simp [mthA]) (.string ⟨rt.name.toArray⟩)).set 0 _ rfl 6 (by simp [mthA]) (.int .i64 0)).bl 0 _ rfl) (by decide) 7 (.slice none 0 0))).trans (Kp.set (e := 43) (t := 50) (((((((((L8.out.set 0 _ rfl 0 (by simp [mthA]) (.string ⟨n.toArray⟩)).set 0 _ rfl 1 (by simp [mthA]) (.bool st)).set 0 _ rfl 2 (by simp [mthA]) (.bool true)).set 0 _ rfl 3 (by simp [mthA]) (.slice va ps.length vcap)).set 0 _ rfl 4 (by simp [mthA]) (.int .i64 rt.kind)).set 0 _ rfl 5 (by simp [mthA]) (.string ⟨rt.name.toArray⟩)).set 0 _ rfl 6 (by simp [mthA]) (.int .i64 0)).set 0 _ rfl 7 (by simp [mthA]) (.slice none 0 0)).bl 0 _ rfl) (by decide) 8 (.slice none 0 0)))
      have ki := (((((((((Kp.set (e := 52) (t := 50) (L8.out.bl 0 _ rfl) (by decide) 0 (.string ⟨n.toArray⟩)).trans (Kp.set (e := 52) (t := 50) ((L8.out.set 0 _ rfl 0 (by simp [mthA]) (.string ⟨n.toArray⟩)).bl 0 _ rfl) (by decide) 1 (.bool st))).trans (Kp.set (e := 52) (t := 50) (((L8.out.set 0 _ rfl 0 (by simp [mthA]) (.string ⟨n.toArray⟩)).set 0 _ rfl 1 (by simp [mthA]) (.bool st)).bl 0 _ rfl) (by decide) 2 (.bool true))).trans (Kp.set (e := 52) (t := 50) ((((L8.out.set 0 _ rfl 0 (by simp [mthA]) (.string ⟨n.toArray⟩)).set 0 _ rfl 1 (by simp [mthA]) (.bool st)).set 0 _ rfl 2 (by simp [mthA]) (.bool true)).bl 0 _ rfl) (by decide) 3 (.slice va ps.length vcap))).trans (Kp.set (e := 52) (t := 50) (((((L8.out.set 0 _ rfl 0 (by simp [mthA]) (.string ⟨n.toArray⟩)).set 0 _ rfl 1 (by simp [mthA]) (.bool st)).set 0 _ rfl 2 (by simp [mthA]) (.bool true)).set 0 _ rfl 3 (by simp [mthA]) (.slice va ps.length vcap)).bl 0 _ rfl) (by decide) 4 (.int .i64 rt.kind))).trans (Kp.set (e := 52) (t := 50) ((((((L8.out.set 0 _ rfl 0 (by simp [mthA]) (.string ⟨n.toArray⟩)).set 0 _ rfl 1 (by simp [mthA]) (.bool st)).set 0 _ rfl 2 (by simp [mthA]) (.bool true)).set 0 _ rfl 3 (by simp [mthA]) (.slice va ps.length vcap)).set 0 _ rfl 4 (by simp [mthA]) (.int .i64 rt.kind)).bl 0 _ rfl) (by decide) 5 (.string ⟨rt.name.toArray⟩))).trans (Kp.set (e := 52) (t := 50) (((((((L8.out.set 0 _ rfl 0 (by simp [mthA]) (.string ⟨n.toArray⟩)).set 0 _ rfl 1 (by simp [mthA]) (.bool st)).set 0 _ rfl 2 (by simp [mthA]) (.bool true)).set 0 _ rfl 3 (by simp [mthA]) (.slice va ps.length vcap)).set 0 _ rfl 4 (by simp [mthA]) (.int .i64 rt.kind)).set 0 _ rfl 5 (by simp [mthA]) (.string ⟨rt.name.toArray⟩)).bl 0 _ rfl) (by decide) 6 (.int .i64 0))).trans (Kp.set (e := 52) (t := 50) ((((((((L8.out.set 0 _ rfl 0 (by simp [mthA]) (.string ⟨n.toArray⟩)).set 0 _ rfl 1 (by simp [mthA]) (.bool st)).set 0 _ rfl 2 (by simp [mthA]) (.bool true)).set 0 _ rfl 3 (by simp [mthA]) (.slice va ps.length vcap)).set 0 _ rfl 4 (by simp [mthA]) (.int .i64 rt.kind)).set 0 _ rfl 5 (by simp [mthA]) (.string ⟨rt.name.toArray⟩)).set 0 _ rfl 6 (by simp [mthA]) (.int .i64 0)).bl 0 _ rfl) (by decide) 7 (.slice none 0 0))).trans (Kp.set (e := 52) (t := 50) (((((((((L8.out.set 0 _ rfl 0 (by simp [mthA]) (.string ⟨n.toArray⟩)).set 0 _ rfl 1 (by simp [mthA]) (.bool st)).set 0 _ rfl 2 (by simp [mthA]) (.bool true)).set 0 _ rfl 3 (by simp [mthA]) (.slice va ps.length vcap)).set 0 _ rfl 4 (by simp [mthA]) (.int .i64 rt.kind)).set 0 _ rfl 5 (by simp [mthA]) (.string ⟨rt.name.toArray⟩)).set 0 _ rfl 6 (by simp [mthA]) (.int .i64 0)).set 0 _ rfl 7 (by simp [mthA]) (.slice none 0 0)).bl 0 _ rfl) (by decide) 8 (.slice none 0 0)))
      have kc := (((((((((Kp.set (e := 54) (t := 50) (L8.out.bl 0 _ rfl) (by decide) 0 (.string ⟨n.toArray⟩)).trans (Kp.set (e := 54) (t := 50) ((L8.out.set 0 _ rfl 0 (by simp [mthA]) (.string ⟨n.toArray⟩)).bl 0 _ rfl) (by decide) 1 (.bool st))).trans (Kp.set (e := 54) (t := 50) (((L8.out.set 0 _ rfl 0 (by simp [mthA]) (.string ⟨n.toArray⟩)).set 0 _ rfl 1 (by simp [mthA]) (.bool st)).bl 0 _ rfl) (by decide) 2 (.bool true))).trans (Kp.set (e := 54) (t := 50) ((((L8.out.set 0 _ rfl 0 (by simp [mthA]) (.string ⟨n.toArray⟩)).set 0 _ rfl 1 (by simp [mthA]) (.bool st)).set 0 _ rfl 2 (by simp [mthA]) (.bool true)).bl 0 _ rfl) (by decide) 3 (.slice va ps.length vcap))).trans (Kp.set (e := 54) (t := 50) (((((L8.out.set 0 _ rfl 0 (by simp [mthA]) (.string ⟨n.toArray⟩)).set 0 _ rfl 1 (by simp [mthA]) (.bool st)).set 0 _ rfl 2 (by simp [mthA]) (.bool true)).set 0 _ rfl 3 (by simp [mthA]) (.slice va ps.length vcap)).bl 0 _ rfl) (by decide) 4 (.int .i64 rt.kind))).trans (Kp.set (e := 54) (t := 50) ((((((L8.out.set 0 _ rfl 0 (by simp [mthA]) (.string ⟨n.toArray⟩)).set 0 _ rfl 1 (by simp [mthA]) (.bool st)).set 0 _ rfl 2 (by simp [mthA]) (.bool true)).set 0 _ rfl 3 (by simp [mthA]) (.slice va ps.length vcap)).set 0 _ rfl 4 (by simp [mthA]) (.int .i64 rt.kind)).bl 0 _ rfl) (by decide) 5 (.string ⟨rt.name.toArray⟩))).trans (Kp.set (e := 54) (t := 50) (((((((L8.out.set 0 _ rfl 0 (by simp [mthA]) (.string ⟨n.toArray⟩)).set 0 _ rfl 1 (by simp [mthA]) (.bool st)).set 0 _ rfl 2 (by simp [mthA]) (.bool true)).set 0 _ rfl 3 (by simp [mthA]) (.slice va ps.length vcap)).set 0 _ rfl 4 (by simp [mthA]) (.int .i64 rt.kind)).set 0 _ rfl 5 (by simp [mthA]) (.string ⟨rt.name.toArray⟩)).bl 0 _ rfl) (by decide) 6 (.int .i64 0))).trans (Kp.set (e := 54) (t := 50) ((((((((L8.out.set 0 _ rfl 0 (by simp [mthA]) (.string ⟨n.toArray⟩)).set 0 _ rfl 1 (by simp [mthA]) (.bool st)).set 0 _ rfl 2 (by simp [mthA]) (.bool true)).set 0 _ rfl 3 (by simp [mthA]) (.slice va ps.length vcap)).set 0 _ rfl 4 (by simp [mthA]) (.int .i64 rt.kind)).set 0 _ rfl 5 (by simp [mthA]) (.string ⟨rt.name.toArray⟩)).set 0 _ rfl 6 (by simp [mthA]) (.int .i64 0)).bl 0 _ rfl) (by decide) 7 (.slice none 0 0))).trans (Kp.set (e := 54) (t := 50) (((((((((L8.out.set 0 _ rfl 0 (by simp [mthA]) (.string ⟨n.toArray⟩)).set 0 _ rfl 1 (by simp [mthA]) (.bool st)).set 0 _ rfl 2 (by simp [mthA]) (.bool true)).set 0 _ rfl 3 (by simp [mthA]) (.slice va ps.length vcap)).set 0 _ rfl 4 (by simp [mthA]) (.int .i64 rt.kind)).set 0 _ rfl 5 (by simp [mthA]) (.string ⟨rt.name.toArray⟩)).set 0 _ rfl 6 (by simp [mthA]) (.int .i64 0)).set 0 _ rfl 7 (by simp [mthA]) (.slice none 0 0)).bl 0 _ rfl) (by decide) 8 (.slice none 0 0)))
      refine bodyPost_ret (v := .agg (mthA n st true (.slice va ps.length vcap) rt 0 (.slice none 0 0) (.slice none 0 0))) (by simp [results, Tryz.results59, go_sem, mthA, *]) rfl ⟨.slice va ps.length vcap, .slice none 0 0, .slice none 0 0, ?_, ?_, ?_, l99.fr⟩
      · rw [← (Prod.mk.inj HR.out).1]
      · rw [← (Prod.mk.inj HR.out).1]; exact ⟨kt.own HQ8.out, World.ownsRow_nil _ _ _ _, World.ownsRow_nil _ _ _ _⟩
      · rw [← (Prod.mk.inj HR.out).2]; exact l99.rd
    | false =>
      rw [ha] at hC8 HR
      simp only [Bool.false_eq_true, if_false] at hC8 HR
      clear ha
      unfold Pp.wSemi at hC8
      go_wp2_with fail
      refine hC8.out.mono ?_
      rintro e w8 ⟨rfl, hr8, hf8⟩
      have l8 := L7.out.call hr8 hf8
      have HP8 := hide ((Kp.fr L7.out.rd hf8 (by decide)).own HQ7.out)
      clear hr8 hf8 L7 hC8 HQ7
      have k2 := l8.cell 1 _ rfl 2
      have f2 := l8.fz 1 _ rfl 2
      simp only [mthA] at k2 f2
      have HQ8 := hide ((Kp.set (t := 50) (l8.bl 1 _ rfl) (by decide) 2 (.bool false)).own HP8.out)
      clear HP8
      have L8 : Hid (Lo w (w8.setCell ⟨w.heap.size + 1, 2, none⟩ (.bool false)) b C s7 [(w.heap.size, mthA [] false false (.slice none 0 0) ⟨0, []⟩ 0 (.slice none 0 0) (.slice none 0 0), 50), (w.heap.size + 1, mthA n st false (.slice va ps.length vcap) rt 0 (.slice none 0 0) (.slice none 0 0), 50)]) := hide (l8.set 1 _ rfl 2 (by simp [mthA]) (.bool false))
      clear l8
      rw [show Pp.bodyOr false = Pp.body from rfl] at HR
      have hC9 := hide (body_any L8.out 1 (w.heap.size + 1) n st false (.slice va ps.length vcap) rt rfl (types_two (by decide)) (types_two (by decide)))
      have HB9 := hide (L8.out.bl 1 _ rfl)
      have HBr := hide L8.out.rd
      obtain ⟨B, s9, h9⟩ := pair_eta (Pp.body.run C.ws s7)
      rw [h9] at hC9 HR
      simp only at hC9 HR
      clear h9
      have ka := L8.out.cell 1 _ rfl 2
      simp only [mthA] at ka
      go_wp2_with fail
      refine hC9.out.mono ?_
      rintro e w9 ⟨vc, vk, rfl, l9, oc, ok, oy⟩
      obtain ⟨ca, cc, rfl⟩ := own_shapeV oc
      obtain ⟨kb, kd, rfl⟩ := own_shapeV ok
      have L9 : Hid (Lo w w9 b C s9 [(w.heap.size, mthA [] false false (.slice none 0 0) ⟨0, []⟩ 0 (.slice none 0 0) (.slice none 0 0), 50), (w.heap.size + 1, mthA n st false (.slice va ps.length vcap) rt B.1 (.slice ca B.2.1.length cc) (.slice kb B.2.2.length kd), 50)]) := hide l9
      have HOC := hide oc
      have HOK := hide ok
      have HQ9 := hide (oy.own HQ8.out)
      clear oc ok oy l9 hC9 ka L8 HQ8
      have p0 := L9.out.cell 0 _ rfl 0
      have q0 := L9.out.fz 0 _ rfl 0
      have r0 := L9.out.cell 1 _ rfl 0
      have p1 := L9.out.cell 0 _ rfl 1
      have q1 := L9.out.fz 0 _ rfl 1
      have r1 := L9.out.cell 1 _ rfl 1
      have p2 := L9.out.cell 0 _ rfl 2
      have q2 := L9.out.fz 0 _ rfl 2
      have r2 := L9.out.cell 1 _ rfl 2
      have p3 := L9.out.cell 0 _ rfl 3
      have q3 := L9.out.fz 0 _ rfl 3
      have r3 := L9.out.cell 1 _ rfl 3
      have p4 := L9.out.cell 0 _ rfl 4
      have q4 := L9.out.fz 0 _ rfl 4
      have r4 := L9.out.cell 1 _ rfl 4
      have p5 := L9.out.cell 0 _ rfl 5
      have q5 := L9.out.fz 0 _ rfl 5
      have r5 := L9.out.cell 1 _ rfl 5
      have p6 := L9.out.cell 0 _ rfl 6
      have q6 := L9.out.fz 0 _ rfl 6
      have r6 := L9.out.cell 1 _ rfl 6
      have p7 := L9.out.cell 0 _ rfl 7
      have q7 := L9.out.fz 0 _ rfl 7
      have r7 := L9.out.cell 1 _ rfl 7
      have p8 := L9.out.cell 0 _ rfl 8
      have q8 := L9.out.fz 0 _ rfl 8
      have r8 := L9.out.cell 1 _ rfl 8
      simp only [mthA] at p0 q0 r0 p1 q1 r1 p2 q2 r2 p3 q3 r3 p4 q4 r4 p5 q5 r5 p6 q6 r6 p7 q7 r7 p8 q8 r8
      go_wp2_with fail
      have l99 := (((((((((L9.out.set 0 _ rfl 0 (by simp [mthA]) (.string ⟨n.toArray⟩)).set 0 _ rfl 1 (by simp [mthA]) (.bool st)).set 0 _ rfl 2 (by simp [mthA]) (.bool false)).set 0 _ rfl 3 (by simp [mthA]) (.slice va ps.length vcap)).set 0 _ rfl 4 (by simp [mthA]) (.int .i64 rt.kind)).set 0 _ rfl 5 (by simp [mthA]) (.string ⟨rt.name.toArray⟩)).set 0 _ rfl 6 (by simp [mthA]) (.int .i64 B.1)).set 0 _ rfl 7 (by simp [mthA]) (.slice ca B.2.1.length cc)).set 0 _ rfl 8 (by simp [mthA]) (.slice kb B.2.2.length kd))
      have kt := (((((((((Kp.set (e := 43) (t := 50) (L9.out.bl 0 _ rfl) (by decide) 0 (.string ⟨n.toArray⟩)).trans (Kp.set (e := 43) (t := 50) ((L9.out.set 0 _ rfl 0 (by simp [mthA]) (.string ⟨n.toArray⟩)).bl 0 _ rfl) (by decide) 1 (.bool st))).trans (Kp.set (e := 43) (t := 50) (((L9.out.set 0 _ rfl 0 (by simp [mthA]) (.string ⟨n.toArray⟩)).set 0 _ rfl 1 (by simp [mthA]) (.bool st)).bl 0 _ rfl) (by decide) 2 (.bool false))).trans (Kp.set (e := 43) (t := 50) ((((L9.out.set 0 _ rfl 0 (by simp [mthA]) (.string ⟨n.toArray⟩)).set 0 _ rfl 1 (by simp [mthA]) (.bool st)).set 0 _ rfl 2 (by simp [mthA]) (.bool false)).bl 0 _ rfl) (by decide) 3 (.slice va ps.length vcap))).trans (Kp.set (e := 43) (t := 50) (((((L9.out.set 0 _ rfl 0 (by simp [mthA]) (.string ⟨n.toArray⟩)).set 0 _ rfl 1 (by simp [mthA]) (.bool st)).set 0 _ rfl 2 (by simp [mthA]) (.bool false)).set 0 _ rfl 3 (by simp [mthA]) (.slice va ps.length vcap)).bl 0 _ rfl) (by decide) 4 (.int .i64 rt.kind))).trans (Kp.set (e := 43) (t := 50) ((((((L9.out.set 0 _ rfl 0 (by simp [mthA]) (.string ⟨n.toArray⟩)).set 0 _ rfl 1 (by simp [mthA]) (.bool st)).set 0 _ rfl 2 (by simp [mthA]) (.bool false)).set 0 _ rfl 3 (by simp [mthA]) (.slice va ps.length vcap)).set 0 _ rfl 4 (by simp [mthA]) (.int .i64 rt.kind)).bl 0 _ rfl) (by decide) 5 (.string ⟨rt.name.toArray⟩))).trans (Kp.set (e := 43) (t := 50) (((((((L9.out.set 0 _ rfl 0 (by simp [mthA]) (.string ⟨n.toArray⟩)).set 0 _ rfl 1 (by simp [mthA]) (.bool st)).set 0 _ rfl 2 (by simp [mthA]) (.bool false)).set 0 _ rfl 3 (by simp [mthA]) (.slice va ps.length vcap)).set 0 _ rfl 4 (by simp [mthA]) (.int .i64 rt.kind)).set 0 _ rfl 5 (by simp [mthA]) (.string ⟨rt.name.toArray⟩)).bl 0 _ rfl) (by decide) 6 (.int .i64 B.1))).trans (Kp.set (e := 43) (t := 50) ((((((((L9.out.set 0 _ rfl 0 (by simp [mthA]) (.string ⟨n.toArray⟩)).set 0 _ rfl 1 (by simp [mthA]) (.bool st)).set 0 _ rfl 2 (by simp [mthA]) (.bool false)).set 0 _ rfl 3 (by simp [mthA]) (.slice va ps.length vcap)).set 0 _ rfl 4 (by simp [mthA]) (.int .i64 rt.kind)).set 0 _ rfl 5 (by simp [mthA]) (.string ⟨rt.name.toArray⟩)).set 0 _ rfl 6 (by simp [mthA]) (.int .i64 B.1)).bl 0 _ rfl) (by decide) 7 (.slice ca B.2.1.length cc))).trans (Kp.set (e := 43) (t := 50) (((((((((L9.out.set 0 _ rfl 0 (by simp [mthA]) (.string ⟨n.toArray⟩)).set 0 _ rfl 1 (by simp [mthA]) (.bool st)).set 0 _ rfl 2 (by simp [mthA]) (.bool false)).set 0 _ rfl 3 (by simp [mthA]) (.slice va ps.length vcap)).set 0 _ rfl 4 (by simp [mthA]) (.int .i64 rt.kind)).set 0 _ rfl 5 (by simp [mthA]) (.string ⟨rt.name.toArray⟩)).set 0 _ rfl 6 (by simp [mthA]) (.int .i64 B.1)).set 0 _ rfl 7 (by simp [mthA]) (.slice ca B.2.1.length cc)).bl 0 _ rfl) (by decide) 8 (.slice kb B.2.2.length kd)))
      have ki := (((((((((Kp.set (e := 52) (t := 50) (L9.out.bl 0 _ rfl) (by decide) 0 (.string ⟨n.toArray⟩)).trans (Kp.set (e := 52) (t := 50) ((L9.out.set 0 _ rfl 0 (by simp [mthA]) (.string ⟨n.toArray⟩)).bl 0 _ rfl) (by decide) 1 (.bool st))).trans (Kp.set (e := 52) (t := 50) (((L9.out.set 0 _ rfl 0 (by simp [mthA]) (.string ⟨n.toArray⟩)).set 0 _ rfl 1 (by simp [mthA]) (.bool st)).bl 0 _ rfl) (by decide) 2 (.bool false))).trans (Kp.set (e := 52) (t := 50) ((((L9.out.set 0 _ rfl 0 (by simp [mthA]) (.string ⟨n.toArray⟩)).set 0 _ rfl 1 (by simp [mthA]) (.bool st)).set 0 _ rfl 2 (by simp [mthA]) (.bool false)).bl 0 _ rfl) (by decide) 3 (.slice va ps.length vcap))).trans (Kp.set (e := 52) (t := 50) (((((L9.out.set 0 _ rfl 0 (by simp [mthA]) (.string ⟨n.toArray⟩)).set 0 _ rfl 1 (by simp [mthA]) (.bool st)).set 0 _ rfl 2 (by simp [mthA]) (.bool false)).set 0 _ rfl 3 (by simp [mthA]) (.slice va ps.length vcap)).bl 0 _ rfl) (by decide) 4 (.int .i64 rt.kind))).trans (Kp.set (e := 52) (t := 50) ((((((L9.out.set 0 _ rfl 0 (by simp [mthA]) (.string ⟨n.toArray⟩)).set 0 _ rfl 1 (by simp [mthA]) (.bool st)).set 0 _ rfl 2 (by simp [mthA]) (.bool false)).set 0 _ rfl 3 (by simp [mthA]) (.slice va ps.length vcap)).set 0 _ rfl 4 (by simp [mthA]) (.int .i64 rt.kind)).bl 0 _ rfl) (by decide) 5 (.string ⟨rt.name.toArray⟩))).trans (Kp.set (e := 52) (t := 50) (((((((L9.out.set 0 _ rfl 0 (by simp [mthA]) (.string ⟨n.toArray⟩)).set 0 _ rfl 1 (by simp [mthA]) (.bool st)).set 0 _ rfl 2 (by simp [mthA]) (.bool false)).set 0 _ rfl 3 (by simp [mthA]) (.slice va ps.length vcap)).set 0 _ rfl 4 (by simp [mthA]) (.int .i64 rt.kind)).set 0 _ rfl 5 (by simp [mthA]) (.string ⟨rt.name.toArray⟩)).bl 0 _ rfl) (by decide) 6 (.int .i64 B.1))).trans (Kp.set (e := 52) (t := 50) ((((((((L9.out.set 0 _ rfl 0 (by simp [mthA]) (.string ⟨n.toArray⟩)).set 0 _ rfl 1 (by simp [mthA]) (.bool st)).set 0 _ rfl 2 (by simp [mthA]) (.bool false)).set 0 _ rfl 3 (by simp [mthA]) (.slice va ps.length vcap)).set 0 _ rfl 4 (by simp [mthA]) (.int .i64 rt.kind)).set 0 _ rfl 5 (by simp [mthA]) (.string ⟨rt.name.toArray⟩)).set 0 _ rfl 6 (by simp [mthA]) (.int .i64 B.1)).bl 0 _ rfl) (by decide) 7 (.slice ca B.2.1.length cc))).trans (Kp.set (e := 52) (t := 50) (((((((((L9.out.set 0 _ rfl 0 (by simp [mthA]) (.string ⟨n.toArray⟩)).set 0 _ rfl 1 (by simp [mthA]) (.bool st)).set 0 _ rfl 2 (by simp [mthA]) (.bool false)).set 0 _ rfl 3 (by simp [mthA]) (.slice va ps.length vcap)).set 0 _ rfl 4 (by simp [mthA]) (.int .i64 rt.kind)).set 0 _ rfl 5 (by simp [mthA]) (.string ⟨rt.name.toArray⟩)).set 0 _ rfl 6 (by simp [mthA]) (.int .i64 B.1)).set 0 _ rfl 7 (by simp [mthA]) (.slice ca B.2.1.length cc)).bl 0 _ rfl) (by decide) 8 (.slice kb B.2.2.length kd)))
      have kc := (((((((((Kp.set (e := 54) (t := 50) (L9.out.bl 0 _ rfl) (by decide) 0 (.string ⟨n.toArray⟩)).trans (Kp.set (e := 54) (t := 50) ((L9.out.set 0 _ rfl 0 (by simp [mthA]) (.string ⟨n.toArray⟩)).bl 0 _ rfl) (by decide) 1 (.bool st))).trans (Kp.set (e := 54) (t := 50) (((L9.out.set 0 _ rfl 0 (by simp [mthA]) (.string ⟨n.toArray⟩)).set 0 _ rfl 1 (by simp [mthA]) (.bool st)).bl 0 _ rfl) (by decide) 2 (.bool false))).trans (Kp.set (e := 54) (t := 50) ((((L9.out.set 0 _ rfl 0 (by simp [mthA]) (.string ⟨n.toArray⟩)).set 0 _ rfl 1 (by simp [mthA]) (.bool st)).set 0 _ rfl 2 (by simp [mthA]) (.bool false)).bl 0 _ rfl) (by decide) 3 (.slice va ps.length vcap))).trans (Kp.set (e := 54) (t := 50) (((((L9.out.set 0 _ rfl 0 (by simp [mthA]) (.string ⟨n.toArray⟩)).set 0 _ rfl 1 (by simp [mthA]) (.bool st)).set 0 _ rfl 2 (by simp [mthA]) (.bool false)).set 0 _ rfl 3 (by simp [mthA]) (.slice va ps.length vcap)).bl 0 _ rfl) (by decide) 4 (.int .i64 rt.kind))).trans (Kp.set (e := 54) (t := 50) ((((((L9.out.set 0 _ rfl 0 (by simp [mthA]) (.string ⟨n.toArray⟩)).set 0 _ rfl 1 (by simp [mthA]) (.bool st)).set 0 _ rfl 2 (by simp [mthA]) (.bool false)).set 0 _ rfl 3 (by simp [mthA]) (.slice va ps.length vcap)).set 0 _ rfl 4 (by simp [mthA]) (.int .i64 rt.kind)).bl 0 _ rfl) (by decide) 5 (.string ⟨rt.name.toArray⟩))).trans (Kp.set (e := 54) (t := 50) (((((((L9.out.set 0 _ rfl 0 (by simp [mthA]) (.string ⟨n.toArray⟩)).set 0 _ rfl 1 (by simp [mthA]) (.bool st)).set 0 _ rfl 2 (by simp [mthA]) (.bool false)).set 0 _ rfl 3 (by simp [mthA]) (.slice va ps.length vcap)).set 0 _ rfl 4 (by simp [mthA]) (.int .i64 rt.kind)).set 0 _ rfl 5 (by simp [mthA]) (.string ⟨rt.name.toArray⟩)).bl 0 _ rfl) (by decide) 6 (.int .i64 B.1))).trans (Kp.set (e := 54) (t := 50) ((((((((L9.out.set 0 _ rfl 0 (by simp [mthA]) (.string ⟨n.toArray⟩)).set 0 _ rfl 1 (by simp [mthA]) (.bool st)).set 0 _ rfl 2 (by simp [mthA]) (.bool false)).set 0 _ rfl 3 (by simp [mthA]) (.slice va ps.length vcap)).set 0 _ rfl 4 (by simp [mthA]) (.int .i64 rt.kind)).set 0 _ rfl 5 (by simp [mthA]) (.string ⟨rt.name.toArray⟩)).set 0 _ rfl 6 (by simp [mthA]) (.int .i64 B.1)).bl 0 _ rfl) (by decide) 7 (.slice ca B.2.1.length cc))).trans (Kp.set (e := 54) (t := 50) (((((((((L9.out.set 0 _ rfl 0 (by simp [mthA]) (.string ⟨n.toArray⟩)).set 0 _ rfl 1 (by simp [mthA]) (.bool st)).set 0 _ rfl 2 (by simp [mthA]) (.bool false)).set 0 _ rfl 3 (by simp [mthA]) (.slice va ps.length vcap)).set 0 _ rfl 4 (by simp [mthA]) (.int .i64 rt.kind)).set 0 _ rfl 5 (by simp [mthA]) (.string ⟨rt.name.toArray⟩)).set 0 _ rfl 6 (by simp [mthA]) (.int .i64 B.1)).set 0 _ rfl 7 (by simp [mthA]) (.slice ca B.2.1.length cc)).bl 0 _ rfl) (by decide) 8 (.slice kb B.2.2.length kd)))
      refine bodyPost_ret (v := .agg (mthA n st false (.slice va ps.length vcap) rt B.1 (.slice ca B.2.1.length cc) (.slice kb B.2.2.length kd))) (by simp [results, Tryz.results59, go_sem, mthA, *]) rfl ⟨.slice va ps.length vcap, .slice ca B.2.1.length cc, .slice kb B.2.2.length kd, ?_, ?_, ?_, l99.fr⟩
      · rw [← (Prod.mk.inj HR.out).1]
      · rw [← (Prod.mk.inj HR.out).1]; exact ⟨kt.own HQ9.out, ki.own HOC.out, kc.own HOK.out⟩
      · rw [← (Prod.mk.inj HR.out).2]; exact l99.rd
end Go.Proofs.YtdgfidaopkcjoaaGreatDoor
