/- What instr answers, by its word: 22 to 32. -/
import Derived.Test.YtdgfidaopkcjoaaGreatDoorInsV
namespace Go.Proofs.YtdgfidaopkcjoaaGreatDoor
open Go.RowKit
set_option linter.unusedVariables false
set_option linter.unusedSimpArgs false

set_option maxRecDepth 100000 in
set_option maxHeartbeats 4000000 in
theorem instr_22 {w : World} {b : Nat} {C : Cx} {s : Pp.St} (h : Rd w b C s) (hq : Pp.has C.ws s Pp.isInstr = true) (hop : opN (nowT C.tk s).text = 22) :
    Calls Tryz.prog 94 #[.pointer (some ⟨b, 0, none⟩)] w fun e w' => e = .returned (insV ((Pp.instrOf 22).run C.ws s.adv).1) ∧ Rd w' b C ((Pp.instrOf 22).run C.ws s.adv).2 ∧ Fr [b] w w' := by
  obtain ⟨V, S, hVS⟩ : ∃ V S, (Pp.instrOf 22).run C.ws s.adv = (V, S) := ⟨_, _, rfl⟩
  rw [hVS]
  have HR := hide hVS
  clear hVS
  show Calls _ _ _ _ fun e w' => e = .returned (insV V) ∧ Rd w' b C S ∧ Fr [b] w w'
  have ha : Pp.args 22 = ((Pp.number 0 47).bind fun n => .ret (n, [], [])) := rfl
  simp only [Pp.instrOf, ha, Pp.run_bind, Pp.run_ret] at HR
  clear ha
  obtain ⟨hl, he, _⟩ := has_lt hq
  have hn := h.hn
  have hlt := hide h.lt
  have l0 : Lo w (w.alloc (.cells #[.int .i64 0, .int .i64 0, .string ⟨#[]⟩, .string ⟨#[]⟩] 52)) b C s [(w.heap.size, #[.int .i64 0, .int .i64 0, .string ⟨#[]⟩, .string ⟨#[]⟩], 52)] := (Lo.start h).alloc #[.int .i64 0, .int .i64 0, .string ⟨#[]⟩, .string ⟨#[]⟩] 52 (by decide)
  have hN := hide (now_any l0.rd)
  have hO := hide (fun w' (hb : Below (w.alloc (.cells #[.int .i64 0, .int .i64 0, .string ⟨#[]⟩, .string ⟨#[]⟩] 52)).heap.size (w.alloc (.cells #[.int .i64 0, .int .i64 0, .string ⟨#[]⟩, .string ⟨#[]⟩] 52)) w') => Op_any (nowT C.tk s).text w' (l0.rd.below hb).tab)
  rw [hop] at hO
  have hB : (Pp.opL (nowT C.tk s).text).isSome = true := by rw [has_now C s Pp.isInstr rfl] at hq; exact hq
  rw [hB] at hO
  have hfd := field_text
  have L0 := hide l0
  have HLE := hide (And.intro hl he)
  clear h l0 hq hB hop he
  obtain ⟨t, ht⟩ : ∃ t, t = nowT C.tk s := ⟨_, rfl⟩
  rw [← ht] at hN hO
  clear ht
  obtain ⟨i, hi⟩ : ∃ i, i = s.i := ⟨_, rfl⟩
  rw [← hi] at hl
  have HI := hide hi
  clear hi
  unfold tokV at hN
  go_enter Tryz.func94, Tryz.ntmps94
  go_wp2_with fail
  refine hN.out.mono ?_
  rintro e w1 ⟨rfl, hb1⟩
  go_wp2_with fail
  refine (hO.out w1 hb1).mono ?_
  rintro e w2 ⟨rfl, hw⟩
  have hw' := hw.symm
  clear hw
  subst hw'
  have l1 := L0.out.below hb1
  have k1 := l1.rd.c1
  rw [← HI.out] at k1
  have f1 := l1.rd.fz 1
  have hS := l1.rd.step HLE.out.1 HLE.out.2
  have l2 := (l1.call hS ((Fr.refl _ _).setCell (.inl (by simp)) _)).alloc #[.int .i64 22, .int .i64 0, .string ⟨#[]⟩, .string ⟨#[]⟩] 52 (by decide)
  rw [← HI.out] at l2
  have M0 : Hid (Lo w ((w1.setCell ⟨b, 1, none⟩ (.int .i64 ((i : Int) + 1))).alloc (.cells #[.int .i64 22, .int .i64 0, .string ⟨#[]⟩, .string ⟨#[]⟩] 52)) b C s.adv [(w.heap.size, #[.int .i64 0, .int .i64 0, .string ⟨#[]⟩, .string ⟨#[]⟩], 52), (w1.heap.size, #[.int .i64 22, .int .i64 0, .string ⟨#[]⟩, .string ⟨#[]⟩], 52)]) := hide (by simpa using l2)
  clear l1 l2 hS hN hO L0 hb1 HLE
  have hC1 := hide (number_any M0.out.rd 0 47)
  obtain ⟨n, s1, h1⟩ : ∃ r t, (Pp.number 0 47).run C.ws s.adv = (r, t) := ⟨_, _, rfl⟩
  rw [h1] at hC1 HR
  simp only at hC1 HR
  clear h1
  go_wp2_with fail
  refine hC1.out.mono ?_
  rintro e v1 ⟨rfl, hr1, hf1⟩
  have l1 := M0.out.call hr1 hf1
  clear hr1 hf1 M0 hC1
  have k1 := l1.cell 1 _ rfl 1
  have f1 := l1.fz 1 _ rfl 1
  simp only at k1 f1
  have M1 : Hid (Lo w (v1.setCell ⟨w1.heap.size, 1, none⟩ (.int .i64 n)) b C s1 [(w.heap.size, #[.int .i64 0, .int .i64 0, .string ⟨#[]⟩, .string ⟨#[]⟩], 52), (w1.heap.size, #[.int .i64 22, .int .i64 n, .string ⟨#[]⟩, .string ⟨#[]⟩], 52)]) := hide (l1.set 1 _ rfl 1 (by simp) (.int .i64 n))
  clear l1
  have hC2 := hide (want_any M1.out.rd Pp.wSemi (by decide))
  obtain ⟨u2, s2, h2⟩ : ∃ r t, (Pp.want Pp.wSemi).run C.ws s1 = (r, t) := ⟨_, _, rfl⟩
  rw [h2] at hC2 HR
  simp only at hC2 HR
  clear h2
  unfold Pp.wSemi at hC2
  go_wp2_with fail
  refine hC2.out.mono ?_
  rintro e v2 ⟨rfl, hr2, hf2⟩
  have l2 := M1.out.call hr2 hf2
  clear hr2 hf2 M1 hC2
  have M2 := hide l2
  clear l2
  have p0 := M2.out.cell 0 _ rfl 0
  have q0 := M2.out.fz 0 _ rfl 0
  have r0 := M2.out.cell 1 _ rfl 0
  have p1 := M2.out.cell 0 _ rfl 1
  have q1 := M2.out.fz 0 _ rfl 1
  have r1 := M2.out.cell 1 _ rfl 1
  have p2 := M2.out.cell 0 _ rfl 2
  have q2 := M2.out.fz 0 _ rfl 2
  have r2 := M2.out.cell 1 _ rfl 2
  have p3 := M2.out.cell 0 _ rfl 3
  have q3 := M2.out.fz 0 _ rfl 3
  have r3 := M2.out.cell 1 _ rfl 3
  simp only at p0 q0 r0 p1 q1 r1 p2 q2 r2 p3 q3 r3
  go_wp2_with fail
  have l9 := ((((M2.out.set 0 _ rfl 0 (by simp) (.int .i64 22)).set 0 _ rfl 1 (by simp) (.int .i64 n)).set 0 _ rfl 2 (by simp) (.string ⟨#[]⟩)).set 0 _ rfl 3 (by simp) (.string ⟨#[]⟩))
  exact bodyPost_ret (v := .agg #[.int .i64 22, .int .i64 n, .string ⟨#[]⟩, .string ⟨#[]⟩]) (by simp [results, Tryz.results94, go_sem, *]) rfl ⟨by rw [← (Prod.mk.inj HR.out).1]; rfl, by rw [← (Prod.mk.inj HR.out).2]; exact l9.rd, l9.fr⟩

set_option maxRecDepth 100000 in
set_option maxHeartbeats 4000000 in
theorem instr_23 {w : World} {b : Nat} {C : Cx} {s : Pp.St} (h : Rd w b C s) (hq : Pp.has C.ws s Pp.isInstr = true) (hop : opN (nowT C.tk s).text = 23) :
    Calls Tryz.prog 94 #[.pointer (some ⟨b, 0, none⟩)] w fun e w' => e = .returned (insV ((Pp.instrOf 23).run C.ws s.adv).1) ∧ Rd w' b C ((Pp.instrOf 23).run C.ws s.adv).2 ∧ Fr [b] w w' := by
  obtain ⟨V, S, hVS⟩ : ∃ V S, (Pp.instrOf 23).run C.ws s.adv = (V, S) := ⟨_, _, rfl⟩
  rw [hVS]
  have HR := hide hVS
  clear hVS
  show Calls _ _ _ _ fun e w' => e = .returned (insV V) ∧ Rd w' b C S ∧ Fr [b] w w'
  have ha : Pp.args 23 = ((Pp.number 0 47).bind fun n => .ret (n, [], [])) := rfl
  simp only [Pp.instrOf, ha, Pp.run_bind, Pp.run_ret] at HR
  clear ha
  obtain ⟨hl, he, _⟩ := has_lt hq
  have hn := h.hn
  have hlt := hide h.lt
  have l0 : Lo w (w.alloc (.cells #[.int .i64 0, .int .i64 0, .string ⟨#[]⟩, .string ⟨#[]⟩] 52)) b C s [(w.heap.size, #[.int .i64 0, .int .i64 0, .string ⟨#[]⟩, .string ⟨#[]⟩], 52)] := (Lo.start h).alloc #[.int .i64 0, .int .i64 0, .string ⟨#[]⟩, .string ⟨#[]⟩] 52 (by decide)
  have hN := hide (now_any l0.rd)
  have hO := hide (fun w' (hb : Below (w.alloc (.cells #[.int .i64 0, .int .i64 0, .string ⟨#[]⟩, .string ⟨#[]⟩] 52)).heap.size (w.alloc (.cells #[.int .i64 0, .int .i64 0, .string ⟨#[]⟩, .string ⟨#[]⟩] 52)) w') => Op_any (nowT C.tk s).text w' (l0.rd.below hb).tab)
  rw [hop] at hO
  have hB : (Pp.opL (nowT C.tk s).text).isSome = true := by rw [has_now C s Pp.isInstr rfl] at hq; exact hq
  rw [hB] at hO
  have hfd := field_text
  have L0 := hide l0
  have HLE := hide (And.intro hl he)
  clear h l0 hq hB hop he
  obtain ⟨t, ht⟩ : ∃ t, t = nowT C.tk s := ⟨_, rfl⟩
  rw [← ht] at hN hO
  clear ht
  obtain ⟨i, hi⟩ : ∃ i, i = s.i := ⟨_, rfl⟩
  rw [← hi] at hl
  have HI := hide hi
  clear hi
  unfold tokV at hN
  go_enter Tryz.func94, Tryz.ntmps94
  go_wp2_with fail
  refine hN.out.mono ?_
  rintro e w1 ⟨rfl, hb1⟩
  go_wp2_with fail
  refine (hO.out w1 hb1).mono ?_
  rintro e w2 ⟨rfl, hw⟩
  have hw' := hw.symm
  clear hw
  subst hw'
  have l1 := L0.out.below hb1
  have k1 := l1.rd.c1
  rw [← HI.out] at k1
  have f1 := l1.rd.fz 1
  have hS := l1.rd.step HLE.out.1 HLE.out.2
  have l2 := (l1.call hS ((Fr.refl _ _).setCell (.inl (by simp)) _)).alloc #[.int .i64 23, .int .i64 0, .string ⟨#[]⟩, .string ⟨#[]⟩] 52 (by decide)
  rw [← HI.out] at l2
  have M0 : Hid (Lo w ((w1.setCell ⟨b, 1, none⟩ (.int .i64 ((i : Int) + 1))).alloc (.cells #[.int .i64 23, .int .i64 0, .string ⟨#[]⟩, .string ⟨#[]⟩] 52)) b C s.adv [(w.heap.size, #[.int .i64 0, .int .i64 0, .string ⟨#[]⟩, .string ⟨#[]⟩], 52), (w1.heap.size, #[.int .i64 23, .int .i64 0, .string ⟨#[]⟩, .string ⟨#[]⟩], 52)]) := hide (by simpa using l2)
  clear l1 l2 hS hN hO L0 hb1 HLE
  have hC1 := hide (number_any M0.out.rd 0 47)
  obtain ⟨n, s1, h1⟩ : ∃ r t, (Pp.number 0 47).run C.ws s.adv = (r, t) := ⟨_, _, rfl⟩
  rw [h1] at hC1 HR
  simp only at hC1 HR
  clear h1
  go_wp2_with fail
  refine hC1.out.mono ?_
  rintro e v1 ⟨rfl, hr1, hf1⟩
  have l1 := M0.out.call hr1 hf1
  clear hr1 hf1 M0 hC1
  have k1 := l1.cell 1 _ rfl 1
  have f1 := l1.fz 1 _ rfl 1
  simp only at k1 f1
  have M1 : Hid (Lo w (v1.setCell ⟨w1.heap.size, 1, none⟩ (.int .i64 n)) b C s1 [(w.heap.size, #[.int .i64 0, .int .i64 0, .string ⟨#[]⟩, .string ⟨#[]⟩], 52), (w1.heap.size, #[.int .i64 23, .int .i64 n, .string ⟨#[]⟩, .string ⟨#[]⟩], 52)]) := hide (l1.set 1 _ rfl 1 (by simp) (.int .i64 n))
  clear l1
  have hC2 := hide (want_any M1.out.rd Pp.wSemi (by decide))
  obtain ⟨u2, s2, h2⟩ : ∃ r t, (Pp.want Pp.wSemi).run C.ws s1 = (r, t) := ⟨_, _, rfl⟩
  rw [h2] at hC2 HR
  simp only at hC2 HR
  clear h2
  unfold Pp.wSemi at hC2
  go_wp2_with fail
  refine hC2.out.mono ?_
  rintro e v2 ⟨rfl, hr2, hf2⟩
  have l2 := M1.out.call hr2 hf2
  clear hr2 hf2 M1 hC2
  have M2 := hide l2
  clear l2
  have p0 := M2.out.cell 0 _ rfl 0
  have q0 := M2.out.fz 0 _ rfl 0
  have r0 := M2.out.cell 1 _ rfl 0
  have p1 := M2.out.cell 0 _ rfl 1
  have q1 := M2.out.fz 0 _ rfl 1
  have r1 := M2.out.cell 1 _ rfl 1
  have p2 := M2.out.cell 0 _ rfl 2
  have q2 := M2.out.fz 0 _ rfl 2
  have r2 := M2.out.cell 1 _ rfl 2
  have p3 := M2.out.cell 0 _ rfl 3
  have q3 := M2.out.fz 0 _ rfl 3
  have r3 := M2.out.cell 1 _ rfl 3
  simp only at p0 q0 r0 p1 q1 r1 p2 q2 r2 p3 q3 r3
  go_wp2_with fail
  have l9 := ((((M2.out.set 0 _ rfl 0 (by simp) (.int .i64 23)).set 0 _ rfl 1 (by simp) (.int .i64 n)).set 0 _ rfl 2 (by simp) (.string ⟨#[]⟩)).set 0 _ rfl 3 (by simp) (.string ⟨#[]⟩))
  exact bodyPost_ret (v := .agg #[.int .i64 23, .int .i64 n, .string ⟨#[]⟩, .string ⟨#[]⟩]) (by simp [results, Tryz.results94, go_sem, *]) rfl ⟨by rw [← (Prod.mk.inj HR.out).1]; rfl, by rw [← (Prod.mk.inj HR.out).2]; exact l9.rd, l9.fr⟩

set_option maxRecDepth 100000 in
set_option maxHeartbeats 4000000 in
theorem instr_24 {w : World} {b : Nat} {C : Cx} {s : Pp.St} (h : Rd w b C s) (hq : Pp.has C.ws s Pp.isInstr = true) (hop : opN (nowT C.tk s).text = 24) :
    Calls Tryz.prog 94 #[.pointer (some ⟨b, 0, none⟩)] w fun e w' => e = .returned (insV ((Pp.instrOf 24).run C.ws s.adv).1) ∧ Rd w' b C ((Pp.instrOf 24).run C.ws s.adv).2 ∧ Fr [b] w w' := by
  obtain ⟨V, S, hVS⟩ : ∃ V S, (Pp.instrOf 24).run C.ws s.adv = (V, S) := ⟨_, _, rfl⟩
  rw [hVS]
  have HR := hide hVS
  clear hVS
  show Calls _ _ _ _ fun e w' => e = .returned (insV V) ∧ Rd w' b C S ∧ Fr [b] w w'
  have ha : Pp.args 24 = ((Pp.number 0 47).bind fun n => .ret (n, [], [])) := rfl
  simp only [Pp.instrOf, ha, Pp.run_bind, Pp.run_ret] at HR
  clear ha
  obtain ⟨hl, he, _⟩ := has_lt hq
  have hn := h.hn
  have hlt := hide h.lt
  have l0 : Lo w (w.alloc (.cells #[.int .i64 0, .int .i64 0, .string ⟨#[]⟩, .string ⟨#[]⟩] 52)) b C s [(w.heap.size, #[.int .i64 0, .int .i64 0, .string ⟨#[]⟩, .string ⟨#[]⟩], 52)] := (Lo.start h).alloc #[.int .i64 0, .int .i64 0, .string ⟨#[]⟩, .string ⟨#[]⟩] 52 (by decide)
  have hN := hide (now_any l0.rd)
  have hO := hide (fun w' (hb : Below (w.alloc (.cells #[.int .i64 0, .int .i64 0, .string ⟨#[]⟩, .string ⟨#[]⟩] 52)).heap.size (w.alloc (.cells #[.int .i64 0, .int .i64 0, .string ⟨#[]⟩, .string ⟨#[]⟩] 52)) w') => Op_any (nowT C.tk s).text w' (l0.rd.below hb).tab)
  rw [hop] at hO
  have hB : (Pp.opL (nowT C.tk s).text).isSome = true := by rw [has_now C s Pp.isInstr rfl] at hq; exact hq
  rw [hB] at hO
  have hfd := field_text
  have L0 := hide l0
  have HLE := hide (And.intro hl he)
  clear h l0 hq hB hop he
  obtain ⟨t, ht⟩ : ∃ t, t = nowT C.tk s := ⟨_, rfl⟩
  rw [← ht] at hN hO
  clear ht
  obtain ⟨i, hi⟩ : ∃ i, i = s.i := ⟨_, rfl⟩
  rw [← hi] at hl
  have HI := hide hi
  clear hi
  unfold tokV at hN
  go_enter Tryz.func94, Tryz.ntmps94
  go_wp2_with fail
  refine hN.out.mono ?_
  rintro e w1 ⟨rfl, hb1⟩
  go_wp2_with fail
  refine (hO.out w1 hb1).mono ?_
  rintro e w2 ⟨rfl, hw⟩
  have hw' := hw.symm
  clear hw
  subst hw'
  have l1 := L0.out.below hb1
  have k1 := l1.rd.c1
  rw [← HI.out] at k1
  have f1 := l1.rd.fz 1
  have hS := l1.rd.step HLE.out.1 HLE.out.2
  have l2 := (l1.call hS ((Fr.refl _ _).setCell (.inl (by simp)) _)).alloc #[.int .i64 24, .int .i64 0, .string ⟨#[]⟩, .string ⟨#[]⟩] 52 (by decide)
  rw [← HI.out] at l2
  have M0 : Hid (Lo w ((w1.setCell ⟨b, 1, none⟩ (.int .i64 ((i : Int) + 1))).alloc (.cells #[.int .i64 24, .int .i64 0, .string ⟨#[]⟩, .string ⟨#[]⟩] 52)) b C s.adv [(w.heap.size, #[.int .i64 0, .int .i64 0, .string ⟨#[]⟩, .string ⟨#[]⟩], 52), (w1.heap.size, #[.int .i64 24, .int .i64 0, .string ⟨#[]⟩, .string ⟨#[]⟩], 52)]) := hide (by simpa using l2)
  clear l1 l2 hS hN hO L0 hb1 HLE
  have hC1 := hide (number_any M0.out.rd 0 47)
  obtain ⟨n, s1, h1⟩ : ∃ r t, (Pp.number 0 47).run C.ws s.adv = (r, t) := ⟨_, _, rfl⟩
  rw [h1] at hC1 HR
  simp only at hC1 HR
  clear h1
  go_wp2_with fail
  refine hC1.out.mono ?_
  rintro e v1 ⟨rfl, hr1, hf1⟩
  have l1 := M0.out.call hr1 hf1
  clear hr1 hf1 M0 hC1
  have k1 := l1.cell 1 _ rfl 1
  have f1 := l1.fz 1 _ rfl 1
  simp only at k1 f1
  have M1 : Hid (Lo w (v1.setCell ⟨w1.heap.size, 1, none⟩ (.int .i64 n)) b C s1 [(w.heap.size, #[.int .i64 0, .int .i64 0, .string ⟨#[]⟩, .string ⟨#[]⟩], 52), (w1.heap.size, #[.int .i64 24, .int .i64 n, .string ⟨#[]⟩, .string ⟨#[]⟩], 52)]) := hide (l1.set 1 _ rfl 1 (by simp) (.int .i64 n))
  clear l1
  have hC2 := hide (want_any M1.out.rd Pp.wSemi (by decide))
  obtain ⟨u2, s2, h2⟩ : ∃ r t, (Pp.want Pp.wSemi).run C.ws s1 = (r, t) := ⟨_, _, rfl⟩
  rw [h2] at hC2 HR
  simp only at hC2 HR
  clear h2
  unfold Pp.wSemi at hC2
  go_wp2_with fail
  refine hC2.out.mono ?_
  rintro e v2 ⟨rfl, hr2, hf2⟩
  have l2 := M1.out.call hr2 hf2
  clear hr2 hf2 M1 hC2
  have M2 := hide l2
  clear l2
  have p0 := M2.out.cell 0 _ rfl 0
  have q0 := M2.out.fz 0 _ rfl 0
  have r0 := M2.out.cell 1 _ rfl 0
  have p1 := M2.out.cell 0 _ rfl 1
  have q1 := M2.out.fz 0 _ rfl 1
  have r1 := M2.out.cell 1 _ rfl 1
  have p2 := M2.out.cell 0 _ rfl 2
  have q2 := M2.out.fz 0 _ rfl 2
  have r2 := M2.out.cell 1 _ rfl 2
  have p3 := M2.out.cell 0 _ rfl 3
  have q3 := M2.out.fz 0 _ rfl 3
  have r3 := M2.out.cell 1 _ rfl 3
  simp only at p0 q0 r0 p1 q1 r1 p2 q2 r2 p3 q3 r3
  go_wp2_with fail
  have l9 := ((((M2.out.set 0 _ rfl 0 (by simp) (.int .i64 24)).set 0 _ rfl 1 (by simp) (.int .i64 n)).set 0 _ rfl 2 (by simp) (.string ⟨#[]⟩)).set 0 _ rfl 3 (by simp) (.string ⟨#[]⟩))
  exact bodyPost_ret (v := .agg #[.int .i64 24, .int .i64 n, .string ⟨#[]⟩, .string ⟨#[]⟩]) (by simp [results, Tryz.results94, go_sem, *]) rfl ⟨by rw [← (Prod.mk.inj HR.out).1]; rfl, by rw [← (Prod.mk.inj HR.out).2]; exact l9.rd, l9.fr⟩

set_option maxRecDepth 100000 in
set_option maxHeartbeats 4000000 in
theorem instr_25 {w : World} {b : Nat} {C : Cx} {s : Pp.St} (h : Rd w b C s) (hq : Pp.has C.ws s Pp.isInstr = true) (hop : opN (nowT C.tk s).text = 25) :
    Calls Tryz.prog 94 #[.pointer (some ⟨b, 0, none⟩)] w fun e w' => e = .returned (insV ((Pp.instrOf 25).run C.ws s.adv).1) ∧ Rd w' b C ((Pp.instrOf 25).run C.ws s.adv).2 ∧ Fr [b] w w' := by
  obtain ⟨V, S, hVS⟩ : ∃ V S, (Pp.instrOf 25).run C.ws s.adv = (V, S) := ⟨_, _, rfl⟩
  rw [hVS]
  have HR := hide hVS
  clear hVS
  show Calls _ _ _ _ fun e w' => e = .returned (insV V) ∧ Rd w' b C S ∧ Fr [b] w w'
  have ha : Pp.args 25 = ((Pp.number 0 47).bind fun n => .ret (n, [], [])) := rfl
  simp only [Pp.instrOf, ha, Pp.run_bind, Pp.run_ret] at HR
  clear ha
  obtain ⟨hl, he, _⟩ := has_lt hq
  have hn := h.hn
  have hlt := hide h.lt
  have l0 : Lo w (w.alloc (.cells #[.int .i64 0, .int .i64 0, .string ⟨#[]⟩, .string ⟨#[]⟩] 52)) b C s [(w.heap.size, #[.int .i64 0, .int .i64 0, .string ⟨#[]⟩, .string ⟨#[]⟩], 52)] := (Lo.start h).alloc #[.int .i64 0, .int .i64 0, .string ⟨#[]⟩, .string ⟨#[]⟩] 52 (by decide)
  have hN := hide (now_any l0.rd)
  have hO := hide (fun w' (hb : Below (w.alloc (.cells #[.int .i64 0, .int .i64 0, .string ⟨#[]⟩, .string ⟨#[]⟩] 52)).heap.size (w.alloc (.cells #[.int .i64 0, .int .i64 0, .string ⟨#[]⟩, .string ⟨#[]⟩] 52)) w') => Op_any (nowT C.tk s).text w' (l0.rd.below hb).tab)
  rw [hop] at hO
  have hB : (Pp.opL (nowT C.tk s).text).isSome = true := by rw [has_now C s Pp.isInstr rfl] at hq; exact hq
  rw [hB] at hO
  have hfd := field_text
  have L0 := hide l0
  have HLE := hide (And.intro hl he)
  clear h l0 hq hB hop he
  obtain ⟨t, ht⟩ : ∃ t, t = nowT C.tk s := ⟨_, rfl⟩
  rw [← ht] at hN hO
  clear ht
  obtain ⟨i, hi⟩ : ∃ i, i = s.i := ⟨_, rfl⟩
  rw [← hi] at hl
  have HI := hide hi
  clear hi
  unfold tokV at hN
  go_enter Tryz.func94, Tryz.ntmps94
  go_wp2_with fail
  refine hN.out.mono ?_
  rintro e w1 ⟨rfl, hb1⟩
  go_wp2_with fail
  refine (hO.out w1 hb1).mono ?_
  rintro e w2 ⟨rfl, hw⟩
  have hw' := hw.symm
  clear hw
  subst hw'
  have l1 := L0.out.below hb1
  have k1 := l1.rd.c1
  rw [← HI.out] at k1
  have f1 := l1.rd.fz 1
  have hS := l1.rd.step HLE.out.1 HLE.out.2
  have l2 := (l1.call hS ((Fr.refl _ _).setCell (.inl (by simp)) _)).alloc #[.int .i64 25, .int .i64 0, .string ⟨#[]⟩, .string ⟨#[]⟩] 52 (by decide)
  rw [← HI.out] at l2
  have M0 : Hid (Lo w ((w1.setCell ⟨b, 1, none⟩ (.int .i64 ((i : Int) + 1))).alloc (.cells #[.int .i64 25, .int .i64 0, .string ⟨#[]⟩, .string ⟨#[]⟩] 52)) b C s.adv [(w.heap.size, #[.int .i64 0, .int .i64 0, .string ⟨#[]⟩, .string ⟨#[]⟩], 52), (w1.heap.size, #[.int .i64 25, .int .i64 0, .string ⟨#[]⟩, .string ⟨#[]⟩], 52)]) := hide (by simpa using l2)
  clear l1 l2 hS hN hO L0 hb1 HLE
  have hC1 := hide (number_any M0.out.rd 0 47)
  obtain ⟨n, s1, h1⟩ : ∃ r t, (Pp.number 0 47).run C.ws s.adv = (r, t) := ⟨_, _, rfl⟩
  rw [h1] at hC1 HR
  simp only at hC1 HR
  clear h1
  go_wp2_with fail
  refine hC1.out.mono ?_
  rintro e v1 ⟨rfl, hr1, hf1⟩
  have l1 := M0.out.call hr1 hf1
  clear hr1 hf1 M0 hC1
  have k1 := l1.cell 1 _ rfl 1
  have f1 := l1.fz 1 _ rfl 1
  simp only at k1 f1
  have M1 : Hid (Lo w (v1.setCell ⟨w1.heap.size, 1, none⟩ (.int .i64 n)) b C s1 [(w.heap.size, #[.int .i64 0, .int .i64 0, .string ⟨#[]⟩, .string ⟨#[]⟩], 52), (w1.heap.size, #[.int .i64 25, .int .i64 n, .string ⟨#[]⟩, .string ⟨#[]⟩], 52)]) := hide (l1.set 1 _ rfl 1 (by simp) (.int .i64 n))
  clear l1
  have hC2 := hide (want_any M1.out.rd Pp.wSemi (by decide))
  obtain ⟨u2, s2, h2⟩ : ∃ r t, (Pp.want Pp.wSemi).run C.ws s1 = (r, t) := ⟨_, _, rfl⟩
  rw [h2] at hC2 HR
  simp only at hC2 HR
  clear h2
  unfold Pp.wSemi at hC2
  go_wp2_with fail
  refine hC2.out.mono ?_
  rintro e v2 ⟨rfl, hr2, hf2⟩
  have l2 := M1.out.call hr2 hf2
  clear hr2 hf2 M1 hC2
  have M2 := hide l2
  clear l2
  have p0 := M2.out.cell 0 _ rfl 0
  have q0 := M2.out.fz 0 _ rfl 0
  have r0 := M2.out.cell 1 _ rfl 0
  have p1 := M2.out.cell 0 _ rfl 1
  have q1 := M2.out.fz 0 _ rfl 1
  have r1 := M2.out.cell 1 _ rfl 1
  have p2 := M2.out.cell 0 _ rfl 2
  have q2 := M2.out.fz 0 _ rfl 2
  have r2 := M2.out.cell 1 _ rfl 2
  have p3 := M2.out.cell 0 _ rfl 3
  have q3 := M2.out.fz 0 _ rfl 3
  have r3 := M2.out.cell 1 _ rfl 3
  simp only at p0 q0 r0 p1 q1 r1 p2 q2 r2 p3 q3 r3
  go_wp2_with fail
  have l9 := ((((M2.out.set 0 _ rfl 0 (by simp) (.int .i64 25)).set 0 _ rfl 1 (by simp) (.int .i64 n)).set 0 _ rfl 2 (by simp) (.string ⟨#[]⟩)).set 0 _ rfl 3 (by simp) (.string ⟨#[]⟩))
  exact bodyPost_ret (v := .agg #[.int .i64 25, .int .i64 n, .string ⟨#[]⟩, .string ⟨#[]⟩]) (by simp [results, Tryz.results94, go_sem, *]) rfl ⟨by rw [← (Prod.mk.inj HR.out).1]; rfl, by rw [← (Prod.mk.inj HR.out).2]; exact l9.rd, l9.fr⟩

set_option maxRecDepth 100000 in
set_option maxHeartbeats 4000000 in
theorem instr_26 {w : World} {b : Nat} {C : Cx} {s : Pp.St} (h : Rd w b C s) (hq : Pp.has C.ws s Pp.isInstr = true) (hop : opN (nowT C.tk s).text = 26) :
    Calls Tryz.prog 94 #[.pointer (some ⟨b, 0, none⟩)] w fun e w' => e = .returned (insV ((Pp.instrOf 26).run C.ws s.adv).1) ∧ Rd w' b C ((Pp.instrOf 26).run C.ws s.adv).2 ∧ Fr [b] w w' := by
  obtain ⟨V, S, hVS⟩ : ∃ V S, (Pp.instrOf 26).run C.ws s.adv = (V, S) := ⟨_, _, rfl⟩
  rw [hVS]
  have HR := hide hVS
  clear hVS
  show Calls _ _ _ _ fun e w' => e = .returned (insV V) ∧ Rd w' b C S ∧ Fr [b] w w'
  have ha : Pp.args 26 = ((Pp.number 0 47).bind fun n => .ret (n, [], [])) := rfl
  simp only [Pp.instrOf, ha, Pp.run_bind, Pp.run_ret] at HR
  clear ha
  obtain ⟨hl, he, _⟩ := has_lt hq
  have hn := h.hn
  have hlt := hide h.lt
  have l0 : Lo w (w.alloc (.cells #[.int .i64 0, .int .i64 0, .string ⟨#[]⟩, .string ⟨#[]⟩] 52)) b C s [(w.heap.size, #[.int .i64 0, .int .i64 0, .string ⟨#[]⟩, .string ⟨#[]⟩], 52)] := (Lo.start h).alloc #[.int .i64 0, .int .i64 0, .string ⟨#[]⟩, .string ⟨#[]⟩] 52 (by decide)
  have hN := hide (now_any l0.rd)
  have hO := hide (fun w' (hb : Below (w.alloc (.cells #[.int .i64 0, .int .i64 0, .string ⟨#[]⟩, .string ⟨#[]⟩] 52)).heap.size (w.alloc (.cells #[.int .i64 0, .int .i64 0, .string ⟨#[]⟩, .string ⟨#[]⟩] 52)) w') => Op_any (nowT C.tk s).text w' (l0.rd.below hb).tab)
  rw [hop] at hO
  have hB : (Pp.opL (nowT C.tk s).text).isSome = true := by rw [has_now C s Pp.isInstr rfl] at hq; exact hq
  rw [hB] at hO
  have hfd := field_text
  have L0 := hide l0
  have HLE := hide (And.intro hl he)
  clear h l0 hq hB hop he
  obtain ⟨t, ht⟩ : ∃ t, t = nowT C.tk s := ⟨_, rfl⟩
  rw [← ht] at hN hO
  clear ht
  obtain ⟨i, hi⟩ : ∃ i, i = s.i := ⟨_, rfl⟩
  rw [← hi] at hl
  have HI := hide hi
  clear hi
  unfold tokV at hN
  go_enter Tryz.func94, Tryz.ntmps94
  go_wp2_with fail
  refine hN.out.mono ?_
  rintro e w1 ⟨rfl, hb1⟩
  go_wp2_with fail
  refine (hO.out w1 hb1).mono ?_
  rintro e w2 ⟨rfl, hw⟩
  have hw' := hw.symm
  clear hw
  subst hw'
  have l1 := L0.out.below hb1
  have k1 := l1.rd.c1
  rw [← HI.out] at k1
  have f1 := l1.rd.fz 1
  have hS := l1.rd.step HLE.out.1 HLE.out.2
  have l2 := (l1.call hS ((Fr.refl _ _).setCell (.inl (by simp)) _)).alloc #[.int .i64 26, .int .i64 0, .string ⟨#[]⟩, .string ⟨#[]⟩] 52 (by decide)
  rw [← HI.out] at l2
  have M0 : Hid (Lo w ((w1.setCell ⟨b, 1, none⟩ (.int .i64 ((i : Int) + 1))).alloc (.cells #[.int .i64 26, .int .i64 0, .string ⟨#[]⟩, .string ⟨#[]⟩] 52)) b C s.adv [(w.heap.size, #[.int .i64 0, .int .i64 0, .string ⟨#[]⟩, .string ⟨#[]⟩], 52), (w1.heap.size, #[.int .i64 26, .int .i64 0, .string ⟨#[]⟩, .string ⟨#[]⟩], 52)]) := hide (by simpa using l2)
  clear l1 l2 hS hN hO L0 hb1 HLE
  have hC1 := hide (number_any M0.out.rd 0 47)
  obtain ⟨n, s1, h1⟩ : ∃ r t, (Pp.number 0 47).run C.ws s.adv = (r, t) := ⟨_, _, rfl⟩
  rw [h1] at hC1 HR
  simp only at hC1 HR
  clear h1
  go_wp2_with fail
  refine hC1.out.mono ?_
  rintro e v1 ⟨rfl, hr1, hf1⟩
  have l1 := M0.out.call hr1 hf1
  clear hr1 hf1 M0 hC1
  have k1 := l1.cell 1 _ rfl 1
  have f1 := l1.fz 1 _ rfl 1
  simp only at k1 f1
  have M1 : Hid (Lo w (v1.setCell ⟨w1.heap.size, 1, none⟩ (.int .i64 n)) b C s1 [(w.heap.size, #[.int .i64 0, .int .i64 0, .string ⟨#[]⟩, .string ⟨#[]⟩], 52), (w1.heap.size, #[.int .i64 26, .int .i64 n, .string ⟨#[]⟩, .string ⟨#[]⟩], 52)]) := hide (l1.set 1 _ rfl 1 (by simp) (.int .i64 n))
  clear l1
  have hC2 := hide (want_any M1.out.rd Pp.wSemi (by decide))
  obtain ⟨u2, s2, h2⟩ : ∃ r t, (Pp.want Pp.wSemi).run C.ws s1 = (r, t) := ⟨_, _, rfl⟩
  rw [h2] at hC2 HR
  simp only at hC2 HR
  clear h2
  unfold Pp.wSemi at hC2
  go_wp2_with fail
  refine hC2.out.mono ?_
  rintro e v2 ⟨rfl, hr2, hf2⟩
  have l2 := M1.out.call hr2 hf2
  clear hr2 hf2 M1 hC2
  have M2 := hide l2
  clear l2
  have p0 := M2.out.cell 0 _ rfl 0
  have q0 := M2.out.fz 0 _ rfl 0
  have r0 := M2.out.cell 1 _ rfl 0
  have p1 := M2.out.cell 0 _ rfl 1
  have q1 := M2.out.fz 0 _ rfl 1
  have r1 := M2.out.cell 1 _ rfl 1
  have p2 := M2.out.cell 0 _ rfl 2
  have q2 := M2.out.fz 0 _ rfl 2
  have r2 := M2.out.cell 1 _ rfl 2
  have p3 := M2.out.cell 0 _ rfl 3
  have q3 := M2.out.fz 0 _ rfl 3
  have r3 := M2.out.cell 1 _ rfl 3
  simp only at p0 q0 r0 p1 q1 r1 p2 q2 r2 p3 q3 r3
  go_wp2_with fail
  have l9 := ((((M2.out.set 0 _ rfl 0 (by simp) (.int .i64 26)).set 0 _ rfl 1 (by simp) (.int .i64 n)).set 0 _ rfl 2 (by simp) (.string ⟨#[]⟩)).set 0 _ rfl 3 (by simp) (.string ⟨#[]⟩))
  exact bodyPost_ret (v := .agg #[.int .i64 26, .int .i64 n, .string ⟨#[]⟩, .string ⟨#[]⟩]) (by simp [results, Tryz.results94, go_sem, *]) rfl ⟨by rw [← (Prod.mk.inj HR.out).1]; rfl, by rw [← (Prod.mk.inj HR.out).2]; exact l9.rd, l9.fr⟩

set_option maxRecDepth 100000 in
set_option maxHeartbeats 4000000 in
theorem instr_27 {w : World} {b : Nat} {C : Cx} {s : Pp.St} (h : Rd w b C s) (hq : Pp.has C.ws s Pp.isInstr = true) (hop : opN (nowT C.tk s).text = 27) :
    Calls Tryz.prog 94 #[.pointer (some ⟨b, 0, none⟩)] w fun e w' => e = .returned (insV ((Pp.instrOf 27).run C.ws s.adv).1) ∧ Rd w' b C ((Pp.instrOf 27).run C.ws s.adv).2 ∧ Fr [b] w w' := by
  obtain ⟨V, S, hVS⟩ : ∃ V S, (Pp.instrOf 27).run C.ws s.adv = (V, S) := ⟨_, _, rfl⟩
  rw [hVS]
  have HR := hide hVS
  clear hVS
  show Calls _ _ _ _ fun e w' => e = .returned (insV V) ∧ Rd w' b C S ∧ Fr [b] w w'
  have ha : Pp.args 27 = (Pp.fresh.bind fun a => .ret (0, a, [])) := rfl
  simp only [Pp.instrOf, ha, Pp.run_bind, Pp.run_ret] at HR
  clear ha
  obtain ⟨hl, he, _⟩ := has_lt hq
  have hn := h.hn
  have hlt := hide h.lt
  have l0 : Lo w (w.alloc (.cells #[.int .i64 0, .int .i64 0, .string ⟨#[]⟩, .string ⟨#[]⟩] 52)) b C s [(w.heap.size, #[.int .i64 0, .int .i64 0, .string ⟨#[]⟩, .string ⟨#[]⟩], 52)] := (Lo.start h).alloc #[.int .i64 0, .int .i64 0, .string ⟨#[]⟩, .string ⟨#[]⟩] 52 (by decide)
  have hN := hide (now_any l0.rd)
  have hO := hide (fun w' (hb : Below (w.alloc (.cells #[.int .i64 0, .int .i64 0, .string ⟨#[]⟩, .string ⟨#[]⟩] 52)).heap.size (w.alloc (.cells #[.int .i64 0, .int .i64 0, .string ⟨#[]⟩, .string ⟨#[]⟩] 52)) w') => Op_any (nowT C.tk s).text w' (l0.rd.below hb).tab)
  rw [hop] at hO
  have hB : (Pp.opL (nowT C.tk s).text).isSome = true := by rw [has_now C s Pp.isInstr rfl] at hq; exact hq
  rw [hB] at hO
  have hfd := field_text
  have L0 := hide l0
  have HLE := hide (And.intro hl he)
  clear h l0 hq hB hop he
  obtain ⟨t, ht⟩ : ∃ t, t = nowT C.tk s := ⟨_, rfl⟩
  rw [← ht] at hN hO
  clear ht
  obtain ⟨i, hi⟩ : ∃ i, i = s.i := ⟨_, rfl⟩
  rw [← hi] at hl
  have HI := hide hi
  clear hi
  unfold tokV at hN
  go_enter Tryz.func94, Tryz.ntmps94
  go_wp2_with fail
  refine hN.out.mono ?_
  rintro e w1 ⟨rfl, hb1⟩
  go_wp2_with fail
  refine (hO.out w1 hb1).mono ?_
  rintro e w2 ⟨rfl, hw⟩
  have hw' := hw.symm
  clear hw
  subst hw'
  have l1 := L0.out.below hb1
  have k1 := l1.rd.c1
  rw [← HI.out] at k1
  have f1 := l1.rd.fz 1
  have hS := l1.rd.step HLE.out.1 HLE.out.2
  have l2 := (l1.call hS ((Fr.refl _ _).setCell (.inl (by simp)) _)).alloc #[.int .i64 27, .int .i64 0, .string ⟨#[]⟩, .string ⟨#[]⟩] 52 (by decide)
  rw [← HI.out] at l2
  have M0 : Hid (Lo w ((w1.setCell ⟨b, 1, none⟩ (.int .i64 ((i : Int) + 1))).alloc (.cells #[.int .i64 27, .int .i64 0, .string ⟨#[]⟩, .string ⟨#[]⟩] 52)) b C s.adv [(w.heap.size, #[.int .i64 0, .int .i64 0, .string ⟨#[]⟩, .string ⟨#[]⟩], 52), (w1.heap.size, #[.int .i64 27, .int .i64 0, .string ⟨#[]⟩, .string ⟨#[]⟩], 52)]) := hide (by simpa using l2)
  clear l1 l2 hS hN hO L0 hb1 HLE
  have hC1 := hide (fresh_any M0.out.rd)
  obtain ⟨n, s1, h1⟩ : ∃ r t, (Pp.fresh).run C.ws s.adv = (r, t) := ⟨_, _, rfl⟩
  rw [h1] at hC1 HR
  simp only at hC1 HR
  clear h1
  go_wp2_with fail
  refine hC1.out.mono ?_
  rintro e v1 ⟨rfl, hr1, hf1⟩
  have l1 := M0.out.call hr1 hf1
  clear hr1 hf1 M0 hC1
  have k2 := l1.cell 1 _ rfl 2
  have f2 := l1.fz 1 _ rfl 2
  simp only at k2 f2
  have M1 : Hid (Lo w (v1.setCell ⟨w1.heap.size, 2, none⟩ (.string ⟨n.toArray⟩)) b C s1 [(w.heap.size, #[.int .i64 0, .int .i64 0, .string ⟨#[]⟩, .string ⟨#[]⟩], 52), (w1.heap.size, #[.int .i64 27, .int .i64 0, .string ⟨n.toArray⟩, .string ⟨#[]⟩], 52)]) := hide (l1.set 1 _ rfl 2 (by simp) (.string ⟨n.toArray⟩))
  clear l1
  have hC2 := hide (want_any M1.out.rd Pp.wSemi (by decide))
  obtain ⟨u2, s2, h2⟩ : ∃ r t, (Pp.want Pp.wSemi).run C.ws s1 = (r, t) := ⟨_, _, rfl⟩
  rw [h2] at hC2 HR
  simp only at hC2 HR
  clear h2
  unfold Pp.wSemi at hC2
  go_wp2_with fail
  refine hC2.out.mono ?_
  rintro e v2 ⟨rfl, hr2, hf2⟩
  have l2 := M1.out.call hr2 hf2
  clear hr2 hf2 M1 hC2
  have M2 := hide l2
  clear l2
  have p0 := M2.out.cell 0 _ rfl 0
  have q0 := M2.out.fz 0 _ rfl 0
  have r0 := M2.out.cell 1 _ rfl 0
  have p1 := M2.out.cell 0 _ rfl 1
  have q1 := M2.out.fz 0 _ rfl 1
  have r1 := M2.out.cell 1 _ rfl 1
  have p2 := M2.out.cell 0 _ rfl 2
  have q2 := M2.out.fz 0 _ rfl 2
  have r2 := M2.out.cell 1 _ rfl 2
  have p3 := M2.out.cell 0 _ rfl 3
  have q3 := M2.out.fz 0 _ rfl 3
  have r3 := M2.out.cell 1 _ rfl 3
  simp only at p0 q0 r0 p1 q1 r1 p2 q2 r2 p3 q3 r3
  go_wp2_with fail
  have l9 := ((((M2.out.set 0 _ rfl 0 (by simp) (.int .i64 27)).set 0 _ rfl 1 (by simp) (.int .i64 0)).set 0 _ rfl 2 (by simp) (.string ⟨n.toArray⟩)).set 0 _ rfl 3 (by simp) (.string ⟨#[]⟩))
  exact bodyPost_ret (v := .agg #[.int .i64 27, .int .i64 0, .string ⟨n.toArray⟩, .string ⟨#[]⟩]) (by simp [results, Tryz.results94, go_sem, *]) rfl ⟨by rw [← (Prod.mk.inj HR.out).1]; rfl, by rw [← (Prod.mk.inj HR.out).2]; exact l9.rd, l9.fr⟩

set_option maxRecDepth 100000 in
set_option maxHeartbeats 4000000 in
theorem instr_28 {w : World} {b : Nat} {C : Cx} {s : Pp.St} (h : Rd w b C s) (hq : Pp.has C.ws s Pp.isInstr = true) (hop : opN (nowT C.tk s).text = 28) :
    Calls Tryz.prog 94 #[.pointer (some ⟨b, 0, none⟩)] w fun e w' => e = .returned (insV ((Pp.instrOf 28).run C.ws s.adv).1) ∧ Rd w' b C ((Pp.instrOf 28).run C.ws s.adv).2 ∧ Fr [b] w w' := by
  obtain ⟨V, S, hVS⟩ : ∃ V S, (Pp.instrOf 28).run C.ws s.adv = (V, S) := ⟨_, _, rfl⟩
  rw [hVS]
  have HR := hide hVS
  clear hVS
  show Calls _ _ _ _ fun e w' => e = .returned (insV V) ∧ Rd w' b C S ∧ Fr [b] w w'
  have ha : Pp.args 28 = (Pp.fresh.bind fun a => Pp.fresh.bind fun b => .ret (0, a, b)) := rfl
  simp only [Pp.instrOf, ha, Pp.run_bind, Pp.run_ret] at HR
  clear ha
  obtain ⟨hl, he, _⟩ := has_lt hq
  have hn := h.hn
  have hlt := hide h.lt
  have l0 : Lo w (w.alloc (.cells #[.int .i64 0, .int .i64 0, .string ⟨#[]⟩, .string ⟨#[]⟩] 52)) b C s [(w.heap.size, #[.int .i64 0, .int .i64 0, .string ⟨#[]⟩, .string ⟨#[]⟩], 52)] := (Lo.start h).alloc #[.int .i64 0, .int .i64 0, .string ⟨#[]⟩, .string ⟨#[]⟩] 52 (by decide)
  have hN := hide (now_any l0.rd)
  have hO := hide (fun w' (hb : Below (w.alloc (.cells #[.int .i64 0, .int .i64 0, .string ⟨#[]⟩, .string ⟨#[]⟩] 52)).heap.size (w.alloc (.cells #[.int .i64 0, .int .i64 0, .string ⟨#[]⟩, .string ⟨#[]⟩] 52)) w') => Op_any (nowT C.tk s).text w' (l0.rd.below hb).tab)
  rw [hop] at hO
  have hB : (Pp.opL (nowT C.tk s).text).isSome = true := by rw [has_now C s Pp.isInstr rfl] at hq; exact hq
  rw [hB] at hO
  have hfd := field_text
  have L0 := hide l0
  have HLE := hide (And.intro hl he)
  clear h l0 hq hB hop he
  obtain ⟨t, ht⟩ : ∃ t, t = nowT C.tk s := ⟨_, rfl⟩
  rw [← ht] at hN hO
  clear ht
  obtain ⟨i, hi⟩ : ∃ i, i = s.i := ⟨_, rfl⟩
  rw [← hi] at hl
  have HI := hide hi
  clear hi
  unfold tokV at hN
  go_enter Tryz.func94, Tryz.ntmps94
  go_wp2_with fail
  refine hN.out.mono ?_
  rintro e w1 ⟨rfl, hb1⟩
  go_wp2_with fail
  refine (hO.out w1 hb1).mono ?_
  rintro e w2 ⟨rfl, hw⟩
  have hw' := hw.symm
  clear hw
  subst hw'
  have l1 := L0.out.below hb1
  have k1 := l1.rd.c1
  rw [← HI.out] at k1
  have f1 := l1.rd.fz 1
  have hS := l1.rd.step HLE.out.1 HLE.out.2
  have l2 := (l1.call hS ((Fr.refl _ _).setCell (.inl (by simp)) _)).alloc #[.int .i64 28, .int .i64 0, .string ⟨#[]⟩, .string ⟨#[]⟩] 52 (by decide)
  rw [← HI.out] at l2
  have M0 : Hid (Lo w ((w1.setCell ⟨b, 1, none⟩ (.int .i64 ((i : Int) + 1))).alloc (.cells #[.int .i64 28, .int .i64 0, .string ⟨#[]⟩, .string ⟨#[]⟩] 52)) b C s.adv [(w.heap.size, #[.int .i64 0, .int .i64 0, .string ⟨#[]⟩, .string ⟨#[]⟩], 52), (w1.heap.size, #[.int .i64 28, .int .i64 0, .string ⟨#[]⟩, .string ⟨#[]⟩], 52)]) := hide (by simpa using l2)
  clear l1 l2 hS hN hO L0 hb1 HLE
  have hC1 := hide (fresh_any M0.out.rd)
  obtain ⟨n, s1, h1⟩ : ∃ r t, (Pp.fresh).run C.ws s.adv = (r, t) := ⟨_, _, rfl⟩
  rw [h1] at hC1 HR
  simp only at hC1 HR
  clear h1
  go_wp2_with fail
  refine hC1.out.mono ?_
  rintro e v1 ⟨rfl, hr1, hf1⟩
  have l1 := M0.out.call hr1 hf1
  clear hr1 hf1 M0 hC1
  have k2 := l1.cell 1 _ rfl 2
  have f2 := l1.fz 1 _ rfl 2
  simp only at k2 f2
  have M1 : Hid (Lo w (v1.setCell ⟨w1.heap.size, 2, none⟩ (.string ⟨n.toArray⟩)) b C s1 [(w.heap.size, #[.int .i64 0, .int .i64 0, .string ⟨#[]⟩, .string ⟨#[]⟩], 52), (w1.heap.size, #[.int .i64 28, .int .i64 0, .string ⟨n.toArray⟩, .string ⟨#[]⟩], 52)]) := hide (l1.set 1 _ rfl 2 (by simp) (.string ⟨n.toArray⟩))
  clear l1
  have hC2 := hide (fresh_any M1.out.rd)
  obtain ⟨m, s2, h2⟩ : ∃ r t, (Pp.fresh).run C.ws s1 = (r, t) := ⟨_, _, rfl⟩
  rw [h2] at hC2 HR
  simp only at hC2 HR
  clear h2
  go_wp2_with fail
  refine hC2.out.mono ?_
  rintro e v2 ⟨rfl, hr2, hf2⟩
  have l2 := M1.out.call hr2 hf2
  clear hr2 hf2 M1 hC2
  have k3 := l2.cell 1 _ rfl 3
  have f3 := l2.fz 1 _ rfl 3
  simp only at k3 f3
  have M2 : Hid (Lo w (v2.setCell ⟨w1.heap.size, 3, none⟩ (.string ⟨m.toArray⟩)) b C s2 [(w.heap.size, #[.int .i64 0, .int .i64 0, .string ⟨#[]⟩, .string ⟨#[]⟩], 52), (w1.heap.size, #[.int .i64 28, .int .i64 0, .string ⟨n.toArray⟩, .string ⟨m.toArray⟩], 52)]) := hide (l2.set 1 _ rfl 3 (by simp) (.string ⟨m.toArray⟩))
  clear l2
  have hC3 := hide (want_any M2.out.rd Pp.wSemi (by decide))
  obtain ⟨u3, s3, h3⟩ : ∃ r t, (Pp.want Pp.wSemi).run C.ws s2 = (r, t) := ⟨_, _, rfl⟩
  rw [h3] at hC3 HR
  simp only at hC3 HR
  clear h3
  unfold Pp.wSemi at hC3
  go_wp2_with fail
  refine hC3.out.mono ?_
  rintro e v3 ⟨rfl, hr3, hf3⟩
  have l3 := M2.out.call hr3 hf3
  clear hr3 hf3 M2 hC3
  have M3 := hide l3
  clear l3
  have p0 := M3.out.cell 0 _ rfl 0
  have q0 := M3.out.fz 0 _ rfl 0
  have r0 := M3.out.cell 1 _ rfl 0
  have p1 := M3.out.cell 0 _ rfl 1
  have q1 := M3.out.fz 0 _ rfl 1
  have r1 := M3.out.cell 1 _ rfl 1
  have p2 := M3.out.cell 0 _ rfl 2
  have q2 := M3.out.fz 0 _ rfl 2
  have r2 := M3.out.cell 1 _ rfl 2
  have p3 := M3.out.cell 0 _ rfl 3
  have q3 := M3.out.fz 0 _ rfl 3
  have r3 := M3.out.cell 1 _ rfl 3
  simp only at p0 q0 r0 p1 q1 r1 p2 q2 r2 p3 q3 r3
  go_wp2_with fail
  have l9 := ((((M3.out.set 0 _ rfl 0 (by simp) (.int .i64 28)).set 0 _ rfl 1 (by simp) (.int .i64 0)).set 0 _ rfl 2 (by simp) (.string ⟨n.toArray⟩)).set 0 _ rfl 3 (by simp) (.string ⟨m.toArray⟩))
  exact bodyPost_ret (v := .agg #[.int .i64 28, .int .i64 0, .string ⟨n.toArray⟩, .string ⟨m.toArray⟩]) (by simp [results, Tryz.results94, go_sem, *]) rfl ⟨by rw [← (Prod.mk.inj HR.out).1]; rfl, by rw [← (Prod.mk.inj HR.out).2]; exact l9.rd, l9.fr⟩

set_option maxRecDepth 100000 in
set_option maxHeartbeats 4000000 in
theorem instr_29 {w : World} {b : Nat} {C : Cx} {s : Pp.St} (h : Rd w b C s) (hq : Pp.has C.ws s Pp.isInstr = true) (hop : opN (nowT C.tk s).text = 29) :
    Calls Tryz.prog 94 #[.pointer (some ⟨b, 0, none⟩)] w fun e w' => e = .returned (insV ((Pp.instrOf 29).run C.ws s.adv).1) ∧ Rd w' b C ((Pp.instrOf 29).run C.ws s.adv).2 ∧ Fr [b] w w' := by
  obtain ⟨V, S, hVS⟩ : ∃ V S, (Pp.instrOf 29).run C.ws s.adv = (V, S) := ⟨_, _, rfl⟩
  rw [hVS]
  have HR := hide hVS
  clear hVS
  show Calls _ _ _ _ fun e w' => e = .returned (insV V) ∧ Rd w' b C S ∧ Fr [b] w w'
  have ha : Pp.args 29 = (Pp.fresh.bind fun a => Pp.fresh.bind fun b => .ret (0, a, b)) := rfl
  simp only [Pp.instrOf, ha, Pp.run_bind, Pp.run_ret] at HR
  clear ha
  obtain ⟨hl, he, _⟩ := has_lt hq
  have hn := h.hn
  have hlt := hide h.lt
  have l0 : Lo w (w.alloc (.cells #[.int .i64 0, .int .i64 0, .string ⟨#[]⟩, .string ⟨#[]⟩] 52)) b C s [(w.heap.size, #[.int .i64 0, .int .i64 0, .string ⟨#[]⟩, .string ⟨#[]⟩], 52)] := (Lo.start h).alloc #[.int .i64 0, .int .i64 0, .string ⟨#[]⟩, .string ⟨#[]⟩] 52 (by decide)
  have hN := hide (now_any l0.rd)
  have hO := hide (fun w' (hb : Below (w.alloc (.cells #[.int .i64 0, .int .i64 0, .string ⟨#[]⟩, .string ⟨#[]⟩] 52)).heap.size (w.alloc (.cells #[.int .i64 0, .int .i64 0, .string ⟨#[]⟩, .string ⟨#[]⟩] 52)) w') => Op_any (nowT C.tk s).text w' (l0.rd.below hb).tab)
  rw [hop] at hO
  have hB : (Pp.opL (nowT C.tk s).text).isSome = true := by rw [has_now C s Pp.isInstr rfl] at hq; exact hq
  rw [hB] at hO
  have hfd := field_text
  have L0 := hide l0
  have HLE := hide (And.intro hl he)
  clear h l0 hq hB hop he
  obtain ⟨t, ht⟩ : ∃ t, t = nowT C.tk s := ⟨_, rfl⟩
  rw [← ht] at hN hO
  clear ht
  obtain ⟨i, hi⟩ : ∃ i, i = s.i := ⟨_, rfl⟩
  rw [← hi] at hl
  have HI := hide hi
  clear hi
  unfold tokV at hN
  go_enter Tryz.func94, Tryz.ntmps94
  go_wp2_with fail
  refine hN.out.mono ?_
  rintro e w1 ⟨rfl, hb1⟩
  go_wp2_with fail
  refine (hO.out w1 hb1).mono ?_
  rintro e w2 ⟨rfl, hw⟩
  have hw' := hw.symm
  clear hw
  subst hw'
  have l1 := L0.out.below hb1
  have k1 := l1.rd.c1
  rw [← HI.out] at k1
  have f1 := l1.rd.fz 1
  have hS := l1.rd.step HLE.out.1 HLE.out.2
  have l2 := (l1.call hS ((Fr.refl _ _).setCell (.inl (by simp)) _)).alloc #[.int .i64 29, .int .i64 0, .string ⟨#[]⟩, .string ⟨#[]⟩] 52 (by decide)
  rw [← HI.out] at l2
  have M0 : Hid (Lo w ((w1.setCell ⟨b, 1, none⟩ (.int .i64 ((i : Int) + 1))).alloc (.cells #[.int .i64 29, .int .i64 0, .string ⟨#[]⟩, .string ⟨#[]⟩] 52)) b C s.adv [(w.heap.size, #[.int .i64 0, .int .i64 0, .string ⟨#[]⟩, .string ⟨#[]⟩], 52), (w1.heap.size, #[.int .i64 29, .int .i64 0, .string ⟨#[]⟩, .string ⟨#[]⟩], 52)]) := hide (by simpa using l2)
  clear l1 l2 hS hN hO L0 hb1 HLE
  have hC1 := hide (fresh_any M0.out.rd)
  obtain ⟨n, s1, h1⟩ : ∃ r t, (Pp.fresh).run C.ws s.adv = (r, t) := ⟨_, _, rfl⟩
  rw [h1] at hC1 HR
  simp only at hC1 HR
  clear h1
  go_wp2_with fail
  refine hC1.out.mono ?_
  rintro e v1 ⟨rfl, hr1, hf1⟩
  have l1 := M0.out.call hr1 hf1
  clear hr1 hf1 M0 hC1
  have k2 := l1.cell 1 _ rfl 2
  have f2 := l1.fz 1 _ rfl 2
  simp only at k2 f2
  have M1 : Hid (Lo w (v1.setCell ⟨w1.heap.size, 2, none⟩ (.string ⟨n.toArray⟩)) b C s1 [(w.heap.size, #[.int .i64 0, .int .i64 0, .string ⟨#[]⟩, .string ⟨#[]⟩], 52), (w1.heap.size, #[.int .i64 29, .int .i64 0, .string ⟨n.toArray⟩, .string ⟨#[]⟩], 52)]) := hide (l1.set 1 _ rfl 2 (by simp) (.string ⟨n.toArray⟩))
  clear l1
  have hC2 := hide (fresh_any M1.out.rd)
  obtain ⟨m, s2, h2⟩ : ∃ r t, (Pp.fresh).run C.ws s1 = (r, t) := ⟨_, _, rfl⟩
  rw [h2] at hC2 HR
  simp only at hC2 HR
  clear h2
  go_wp2_with fail
  refine hC2.out.mono ?_
  rintro e v2 ⟨rfl, hr2, hf2⟩
  have l2 := M1.out.call hr2 hf2
  clear hr2 hf2 M1 hC2
  have k3 := l2.cell 1 _ rfl 3
  have f3 := l2.fz 1 _ rfl 3
  simp only at k3 f3
  have M2 : Hid (Lo w (v2.setCell ⟨w1.heap.size, 3, none⟩ (.string ⟨m.toArray⟩)) b C s2 [(w.heap.size, #[.int .i64 0, .int .i64 0, .string ⟨#[]⟩, .string ⟨#[]⟩], 52), (w1.heap.size, #[.int .i64 29, .int .i64 0, .string ⟨n.toArray⟩, .string ⟨m.toArray⟩], 52)]) := hide (l2.set 1 _ rfl 3 (by simp) (.string ⟨m.toArray⟩))
  clear l2
  have hC3 := hide (want_any M2.out.rd Pp.wSemi (by decide))
  obtain ⟨u3, s3, h3⟩ : ∃ r t, (Pp.want Pp.wSemi).run C.ws s2 = (r, t) := ⟨_, _, rfl⟩
  rw [h3] at hC3 HR
  simp only at hC3 HR
  clear h3
  unfold Pp.wSemi at hC3
  go_wp2_with fail
  refine hC3.out.mono ?_
  rintro e v3 ⟨rfl, hr3, hf3⟩
  have l3 := M2.out.call hr3 hf3
  clear hr3 hf3 M2 hC3
  have M3 := hide l3
  clear l3
  have p0 := M3.out.cell 0 _ rfl 0
  have q0 := M3.out.fz 0 _ rfl 0
  have r0 := M3.out.cell 1 _ rfl 0
  have p1 := M3.out.cell 0 _ rfl 1
  have q1 := M3.out.fz 0 _ rfl 1
  have r1 := M3.out.cell 1 _ rfl 1
  have p2 := M3.out.cell 0 _ rfl 2
  have q2 := M3.out.fz 0 _ rfl 2
  have r2 := M3.out.cell 1 _ rfl 2
  have p3 := M3.out.cell 0 _ rfl 3
  have q3 := M3.out.fz 0 _ rfl 3
  have r3 := M3.out.cell 1 _ rfl 3
  simp only at p0 q0 r0 p1 q1 r1 p2 q2 r2 p3 q3 r3
  go_wp2_with fail
  have l9 := ((((M3.out.set 0 _ rfl 0 (by simp) (.int .i64 29)).set 0 _ rfl 1 (by simp) (.int .i64 0)).set 0 _ rfl 2 (by simp) (.string ⟨n.toArray⟩)).set 0 _ rfl 3 (by simp) (.string ⟨m.toArray⟩))
  exact bodyPost_ret (v := .agg #[.int .i64 29, .int .i64 0, .string ⟨n.toArray⟩, .string ⟨m.toArray⟩]) (by simp [results, Tryz.results94, go_sem, *]) rfl ⟨by rw [← (Prod.mk.inj HR.out).1]; rfl, by rw [← (Prod.mk.inj HR.out).2]; exact l9.rd, l9.fr⟩

set_option maxRecDepth 100000 in
set_option maxHeartbeats 4000000 in
theorem instr_30 {w : World} {b : Nat} {C : Cx} {s : Pp.St} (h : Rd w b C s) (hq : Pp.has C.ws s Pp.isInstr = true) (hop : opN (nowT C.tk s).text = 30) :
    Calls Tryz.prog 94 #[.pointer (some ⟨b, 0, none⟩)] w fun e w' => e = .returned (insV ((Pp.instrOf 30).run C.ws s.adv).1) ∧ Rd w' b C ((Pp.instrOf 30).run C.ws s.adv).2 ∧ Fr [b] w w' := by
  obtain ⟨V, S, hVS⟩ : ∃ V S, (Pp.instrOf 30).run C.ws s.adv = (V, S) := ⟨_, _, rfl⟩
  rw [hVS]
  have HR := hide hVS
  clear hVS
  show Calls _ _ _ _ fun e w' => e = .returned (insV V) ∧ Rd w' b C S ∧ Fr [b] w w'
  have ha : Pp.args 30 = (Pp.fresh.bind fun a => Pp.fresh.bind fun b => .ret (0, a, b)) := rfl
  simp only [Pp.instrOf, ha, Pp.run_bind, Pp.run_ret] at HR
  clear ha
  obtain ⟨hl, he, _⟩ := has_lt hq
  have hn := h.hn
  have hlt := hide h.lt
  have l0 : Lo w (w.alloc (.cells #[.int .i64 0, .int .i64 0, .string ⟨#[]⟩, .string ⟨#[]⟩] 52)) b C s [(w.heap.size, #[.int .i64 0, .int .i64 0, .string ⟨#[]⟩, .string ⟨#[]⟩], 52)] := (Lo.start h).alloc #[.int .i64 0, .int .i64 0, .string ⟨#[]⟩, .string ⟨#[]⟩] 52 (by decide)
  have hN := hide (now_any l0.rd)
  have hO := hide (fun w' (hb : Below (w.alloc (.cells #[.int .i64 0, .int .i64 0, .string ⟨#[]⟩, .string ⟨#[]⟩] 52)).heap.size (w.alloc (.cells #[.int .i64 0, .int .i64 0, .string ⟨#[]⟩, .string ⟨#[]⟩] 52)) w') => Op_any (nowT C.tk s).text w' (l0.rd.below hb).tab)
  rw [hop] at hO
  have hB : (Pp.opL (nowT C.tk s).text).isSome = true := by rw [has_now C s Pp.isInstr rfl] at hq; exact hq
  rw [hB] at hO
  have hfd := field_text
  have L0 := hide l0
  have HLE := hide (And.intro hl he)
  clear h l0 hq hB hop he
  obtain ⟨t, ht⟩ : ∃ t, t = nowT C.tk s := ⟨_, rfl⟩
  rw [← ht] at hN hO
  clear ht
  obtain ⟨i, hi⟩ : ∃ i, i = s.i := ⟨_, rfl⟩
  rw [← hi] at hl
  have HI := hide hi
  clear hi
  unfold tokV at hN
  go_enter Tryz.func94, Tryz.ntmps94
  go_wp2_with fail
  refine hN.out.mono ?_
  rintro e w1 ⟨rfl, hb1⟩
  go_wp2_with fail
  refine (hO.out w1 hb1).mono ?_
  rintro e w2 ⟨rfl, hw⟩
  have hw' := hw.symm
  clear hw
  subst hw'
  have l1 := L0.out.below hb1
  have k1 := l1.rd.c1
  rw [← HI.out] at k1
  have f1 := l1.rd.fz 1
  have hS := l1.rd.step HLE.out.1 HLE.out.2
  have l2 := (l1.call hS ((Fr.refl _ _).setCell (.inl (by simp)) _)).alloc #[.int .i64 30, .int .i64 0, .string ⟨#[]⟩, .string ⟨#[]⟩] 52 (by decide)
  rw [← HI.out] at l2
  have M0 : Hid (Lo w ((w1.setCell ⟨b, 1, none⟩ (.int .i64 ((i : Int) + 1))).alloc (.cells #[.int .i64 30, .int .i64 0, .string ⟨#[]⟩, .string ⟨#[]⟩] 52)) b C s.adv [(w.heap.size, #[.int .i64 0, .int .i64 0, .string ⟨#[]⟩, .string ⟨#[]⟩], 52), (w1.heap.size, #[.int .i64 30, .int .i64 0, .string ⟨#[]⟩, .string ⟨#[]⟩], 52)]) := hide (by simpa using l2)
  clear l1 l2 hS hN hO L0 hb1 HLE
  have hC1 := hide (fresh_any M0.out.rd)
  obtain ⟨n, s1, h1⟩ : ∃ r t, (Pp.fresh).run C.ws s.adv = (r, t) := ⟨_, _, rfl⟩
  rw [h1] at hC1 HR
  simp only at hC1 HR
  clear h1
  go_wp2_with fail
  refine hC1.out.mono ?_
  rintro e v1 ⟨rfl, hr1, hf1⟩
  have l1 := M0.out.call hr1 hf1
  clear hr1 hf1 M0 hC1
  have k2 := l1.cell 1 _ rfl 2
  have f2 := l1.fz 1 _ rfl 2
  simp only at k2 f2
  have M1 : Hid (Lo w (v1.setCell ⟨w1.heap.size, 2, none⟩ (.string ⟨n.toArray⟩)) b C s1 [(w.heap.size, #[.int .i64 0, .int .i64 0, .string ⟨#[]⟩, .string ⟨#[]⟩], 52), (w1.heap.size, #[.int .i64 30, .int .i64 0, .string ⟨n.toArray⟩, .string ⟨#[]⟩], 52)]) := hide (l1.set 1 _ rfl 2 (by simp) (.string ⟨n.toArray⟩))
  clear l1
  have hC2 := hide (fresh_any M1.out.rd)
  obtain ⟨m, s2, h2⟩ : ∃ r t, (Pp.fresh).run C.ws s1 = (r, t) := ⟨_, _, rfl⟩
  rw [h2] at hC2 HR
  simp only at hC2 HR
  clear h2
  go_wp2_with fail
  refine hC2.out.mono ?_
  rintro e v2 ⟨rfl, hr2, hf2⟩
  have l2 := M1.out.call hr2 hf2
  clear hr2 hf2 M1 hC2
  have k3 := l2.cell 1 _ rfl 3
  have f3 := l2.fz 1 _ rfl 3
  simp only at k3 f3
  have M2 : Hid (Lo w (v2.setCell ⟨w1.heap.size, 3, none⟩ (.string ⟨m.toArray⟩)) b C s2 [(w.heap.size, #[.int .i64 0, .int .i64 0, .string ⟨#[]⟩, .string ⟨#[]⟩], 52), (w1.heap.size, #[.int .i64 30, .int .i64 0, .string ⟨n.toArray⟩, .string ⟨m.toArray⟩], 52)]) := hide (l2.set 1 _ rfl 3 (by simp) (.string ⟨m.toArray⟩))
  clear l2
  have hC3 := hide (want_any M2.out.rd Pp.wSemi (by decide))
  obtain ⟨u3, s3, h3⟩ : ∃ r t, (Pp.want Pp.wSemi).run C.ws s2 = (r, t) := ⟨_, _, rfl⟩
  rw [h3] at hC3 HR
  simp only at hC3 HR
  clear h3
  unfold Pp.wSemi at hC3
  go_wp2_with fail
  refine hC3.out.mono ?_
  rintro e v3 ⟨rfl, hr3, hf3⟩
  have l3 := M2.out.call hr3 hf3
  clear hr3 hf3 M2 hC3
  have M3 := hide l3
  clear l3
  have p0 := M3.out.cell 0 _ rfl 0
  have q0 := M3.out.fz 0 _ rfl 0
  have r0 := M3.out.cell 1 _ rfl 0
  have p1 := M3.out.cell 0 _ rfl 1
  have q1 := M3.out.fz 0 _ rfl 1
  have r1 := M3.out.cell 1 _ rfl 1
  have p2 := M3.out.cell 0 _ rfl 2
  have q2 := M3.out.fz 0 _ rfl 2
  have r2 := M3.out.cell 1 _ rfl 2
  have p3 := M3.out.cell 0 _ rfl 3
  have q3 := M3.out.fz 0 _ rfl 3
  have r3 := M3.out.cell 1 _ rfl 3
  simp only at p0 q0 r0 p1 q1 r1 p2 q2 r2 p3 q3 r3
  go_wp2_with fail
  have l9 := ((((M3.out.set 0 _ rfl 0 (by simp) (.int .i64 30)).set 0 _ rfl 1 (by simp) (.int .i64 0)).set 0 _ rfl 2 (by simp) (.string ⟨n.toArray⟩)).set 0 _ rfl 3 (by simp) (.string ⟨m.toArray⟩))
  exact bodyPost_ret (v := .agg #[.int .i64 30, .int .i64 0, .string ⟨n.toArray⟩, .string ⟨m.toArray⟩]) (by simp [results, Tryz.results94, go_sem, *]) rfl ⟨by rw [← (Prod.mk.inj HR.out).1]; rfl, by rw [← (Prod.mk.inj HR.out).2]; exact l9.rd, l9.fr⟩

set_option maxRecDepth 100000 in
set_option maxHeartbeats 4000000 in
theorem instr_31 {w : World} {b : Nat} {C : Cx} {s : Pp.St} (h : Rd w b C s) (hq : Pp.has C.ws s Pp.isInstr = true) (hop : opN (nowT C.tk s).text = 31) :
    Calls Tryz.prog 94 #[.pointer (some ⟨b, 0, none⟩)] w fun e w' => e = .returned (insV ((Pp.instrOf 31).run C.ws s.adv).1) ∧ Rd w' b C ((Pp.instrOf 31).run C.ws s.adv).2 ∧ Fr [b] w w' := by
  obtain ⟨V, S, hVS⟩ : ∃ V S, (Pp.instrOf 31).run C.ws s.adv = (V, S) := ⟨_, _, rfl⟩
  rw [hVS]
  have HR := hide hVS
  clear hVS
  show Calls _ _ _ _ fun e w' => e = .returned (insV V) ∧ Rd w' b C S ∧ Fr [b] w w'
  have ha : Pp.args 31 = (Pp.fresh.bind fun a => Pp.fresh.bind fun b => .ret (0, a, b)) := rfl
  simp only [Pp.instrOf, ha, Pp.run_bind, Pp.run_ret] at HR
  clear ha
  obtain ⟨hl, he, _⟩ := has_lt hq
  have hn := h.hn
  have hlt := hide h.lt
  have l0 : Lo w (w.alloc (.cells #[.int .i64 0, .int .i64 0, .string ⟨#[]⟩, .string ⟨#[]⟩] 52)) b C s [(w.heap.size, #[.int .i64 0, .int .i64 0, .string ⟨#[]⟩, .string ⟨#[]⟩], 52)] := (Lo.start h).alloc #[.int .i64 0, .int .i64 0, .string ⟨#[]⟩, .string ⟨#[]⟩] 52 (by decide)
  have hN := hide (now_any l0.rd)
  have hO := hide (fun w' (hb : Below (w.alloc (.cells #[.int .i64 0, .int .i64 0, .string ⟨#[]⟩, .string ⟨#[]⟩] 52)).heap.size (w.alloc (.cells #[.int .i64 0, .int .i64 0, .string ⟨#[]⟩, .string ⟨#[]⟩] 52)) w') => Op_any (nowT C.tk s).text w' (l0.rd.below hb).tab)
  rw [hop] at hO
  have hB : (Pp.opL (nowT C.tk s).text).isSome = true := by rw [has_now C s Pp.isInstr rfl] at hq; exact hq
  rw [hB] at hO
  have hfd := field_text
  have L0 := hide l0
  have HLE := hide (And.intro hl he)
  clear h l0 hq hB hop he
  obtain ⟨t, ht⟩ : ∃ t, t = nowT C.tk s := ⟨_, rfl⟩
  rw [← ht] at hN hO
  clear ht
  obtain ⟨i, hi⟩ : ∃ i, i = s.i := ⟨_, rfl⟩
  rw [← hi] at hl
  have HI := hide hi
  clear hi
  unfold tokV at hN
  go_enter Tryz.func94, Tryz.ntmps94
  go_wp2_with fail
  refine hN.out.mono ?_
  rintro e w1 ⟨rfl, hb1⟩
  go_wp2_with fail
  refine (hO.out w1 hb1).mono ?_
  rintro e w2 ⟨rfl, hw⟩
  have hw' := hw.symm
  clear hw
  subst hw'
  have l1 := L0.out.below hb1
  have k1 := l1.rd.c1
  rw [← HI.out] at k1
  have f1 := l1.rd.fz 1
  have hS := l1.rd.step HLE.out.1 HLE.out.2
  have l2 := (l1.call hS ((Fr.refl _ _).setCell (.inl (by simp)) _)).alloc #[.int .i64 31, .int .i64 0, .string ⟨#[]⟩, .string ⟨#[]⟩] 52 (by decide)
  rw [← HI.out] at l2
  have M0 : Hid (Lo w ((w1.setCell ⟨b, 1, none⟩ (.int .i64 ((i : Int) + 1))).alloc (.cells #[.int .i64 31, .int .i64 0, .string ⟨#[]⟩, .string ⟨#[]⟩] 52)) b C s.adv [(w.heap.size, #[.int .i64 0, .int .i64 0, .string ⟨#[]⟩, .string ⟨#[]⟩], 52), (w1.heap.size, #[.int .i64 31, .int .i64 0, .string ⟨#[]⟩, .string ⟨#[]⟩], 52)]) := hide (by simpa using l2)
  clear l1 l2 hS hN hO L0 hb1 HLE
  have hC1 := hide (fresh_any M0.out.rd)
  obtain ⟨n, s1, h1⟩ : ∃ r t, (Pp.fresh).run C.ws s.adv = (r, t) := ⟨_, _, rfl⟩
  rw [h1] at hC1 HR
  simp only at hC1 HR
  clear h1
  go_wp2_with fail
  refine hC1.out.mono ?_
  rintro e v1 ⟨rfl, hr1, hf1⟩
  have l1 := M0.out.call hr1 hf1
  clear hr1 hf1 M0 hC1
  have k2 := l1.cell 1 _ rfl 2
  have f2 := l1.fz 1 _ rfl 2
  simp only at k2 f2
  have M1 : Hid (Lo w (v1.setCell ⟨w1.heap.size, 2, none⟩ (.string ⟨n.toArray⟩)) b C s1 [(w.heap.size, #[.int .i64 0, .int .i64 0, .string ⟨#[]⟩, .string ⟨#[]⟩], 52), (w1.heap.size, #[.int .i64 31, .int .i64 0, .string ⟨n.toArray⟩, .string ⟨#[]⟩], 52)]) := hide (l1.set 1 _ rfl 2 (by simp) (.string ⟨n.toArray⟩))
  clear l1
  have hC2 := hide (fresh_any M1.out.rd)
  obtain ⟨m, s2, h2⟩ : ∃ r t, (Pp.fresh).run C.ws s1 = (r, t) := ⟨_, _, rfl⟩
  rw [h2] at hC2 HR
  simp only at hC2 HR
  clear h2
  go_wp2_with fail
  refine hC2.out.mono ?_
  rintro e v2 ⟨rfl, hr2, hf2⟩
  have l2 := M1.out.call hr2 hf2
  clear hr2 hf2 M1 hC2
  have k3 := l2.cell 1 _ rfl 3
  have f3 := l2.fz 1 _ rfl 3
  simp only at k3 f3
  have M2 : Hid (Lo w (v2.setCell ⟨w1.heap.size, 3, none⟩ (.string ⟨m.toArray⟩)) b C s2 [(w.heap.size, #[.int .i64 0, .int .i64 0, .string ⟨#[]⟩, .string ⟨#[]⟩], 52), (w1.heap.size, #[.int .i64 31, .int .i64 0, .string ⟨n.toArray⟩, .string ⟨m.toArray⟩], 52)]) := hide (l2.set 1 _ rfl 3 (by simp) (.string ⟨m.toArray⟩))
  clear l2
  have hC3 := hide (want_any M2.out.rd Pp.wSemi (by decide))
  obtain ⟨u3, s3, h3⟩ : ∃ r t, (Pp.want Pp.wSemi).run C.ws s2 = (r, t) := ⟨_, _, rfl⟩
  rw [h3] at hC3 HR
  simp only at hC3 HR
  clear h3
  unfold Pp.wSemi at hC3
  go_wp2_with fail
  refine hC3.out.mono ?_
  rintro e v3 ⟨rfl, hr3, hf3⟩
  have l3 := M2.out.call hr3 hf3
  clear hr3 hf3 M2 hC3
  have M3 := hide l3
  clear l3
  have p0 := M3.out.cell 0 _ rfl 0
  have q0 := M3.out.fz 0 _ rfl 0
  have r0 := M3.out.cell 1 _ rfl 0
  have p1 := M3.out.cell 0 _ rfl 1
  have q1 := M3.out.fz 0 _ rfl 1
  have r1 := M3.out.cell 1 _ rfl 1
  have p2 := M3.out.cell 0 _ rfl 2
  have q2 := M3.out.fz 0 _ rfl 2
  have r2 := M3.out.cell 1 _ rfl 2
  have p3 := M3.out.cell 0 _ rfl 3
  have q3 := M3.out.fz 0 _ rfl 3
  have r3 := M3.out.cell 1 _ rfl 3
  simp only at p0 q0 r0 p1 q1 r1 p2 q2 r2 p3 q3 r3
  go_wp2_with fail
  have l9 := ((((M3.out.set 0 _ rfl 0 (by simp) (.int .i64 31)).set 0 _ rfl 1 (by simp) (.int .i64 0)).set 0 _ rfl 2 (by simp) (.string ⟨n.toArray⟩)).set 0 _ rfl 3 (by simp) (.string ⟨m.toArray⟩))
  exact bodyPost_ret (v := .agg #[.int .i64 31, .int .i64 0, .string ⟨n.toArray⟩, .string ⟨m.toArray⟩]) (by simp [results, Tryz.results94, go_sem, *]) rfl ⟨by rw [← (Prod.mk.inj HR.out).1]; rfl, by rw [← (Prod.mk.inj HR.out).2]; exact l9.rd, l9.fr⟩

set_option maxRecDepth 100000 in
set_option maxHeartbeats 4000000 in
theorem instr_32 {w : World} {b : Nat} {C : Cx} {s : Pp.St} (h : Rd w b C s) (hq : Pp.has C.ws s Pp.isInstr = true) (hop : opN (nowT C.tk s).text = 32) :
    Calls Tryz.prog 94 #[.pointer (some ⟨b, 0, none⟩)] w fun e w' => e = .returned (insV ((Pp.instrOf 32).run C.ws s.adv).1) ∧ Rd w' b C ((Pp.instrOf 32).run C.ws s.adv).2 ∧ Fr [b] w w' := by
  obtain ⟨V, S, hVS⟩ : ∃ V S, (Pp.instrOf 32).run C.ws s.adv = (V, S) := ⟨_, _, rfl⟩
  rw [hVS]
  have HR := hide hVS
  clear hVS
  show Calls _ _ _ _ fun e w' => e = .returned (insV V) ∧ Rd w' b C S ∧ Fr [b] w w'
  have ha : Pp.args 32 = (Pp.Pr.ret (0, [], [])) := rfl
  simp only [Pp.instrOf, ha, Pp.run_bind, Pp.run_ret] at HR
  clear ha
  obtain ⟨hl, he, _⟩ := has_lt hq
  have hn := h.hn
  have hlt := hide h.lt
  have l0 : Lo w (w.alloc (.cells #[.int .i64 0, .int .i64 0, .string ⟨#[]⟩, .string ⟨#[]⟩] 52)) b C s [(w.heap.size, #[.int .i64 0, .int .i64 0, .string ⟨#[]⟩, .string ⟨#[]⟩], 52)] := (Lo.start h).alloc #[.int .i64 0, .int .i64 0, .string ⟨#[]⟩, .string ⟨#[]⟩] 52 (by decide)
  have hN := hide (now_any l0.rd)
  have hO := hide (fun w' (hb : Below (w.alloc (.cells #[.int .i64 0, .int .i64 0, .string ⟨#[]⟩, .string ⟨#[]⟩] 52)).heap.size (w.alloc (.cells #[.int .i64 0, .int .i64 0, .string ⟨#[]⟩, .string ⟨#[]⟩] 52)) w') => Op_any (nowT C.tk s).text w' (l0.rd.below hb).tab)
  rw [hop] at hO
  have hB : (Pp.opL (nowT C.tk s).text).isSome = true := by rw [has_now C s Pp.isInstr rfl] at hq; exact hq
  rw [hB] at hO
  have hfd := field_text
  have L0 := hide l0
  have HLE := hide (And.intro hl he)
  clear h l0 hq hB hop he
  obtain ⟨t, ht⟩ : ∃ t, t = nowT C.tk s := ⟨_, rfl⟩
  rw [← ht] at hN hO
  clear ht
  obtain ⟨i, hi⟩ : ∃ i, i = s.i := ⟨_, rfl⟩
  rw [← hi] at hl
  have HI := hide hi
  clear hi
  unfold tokV at hN
  go_enter Tryz.func94, Tryz.ntmps94
  go_wp2_with fail
  refine hN.out.mono ?_
  rintro e w1 ⟨rfl, hb1⟩
  go_wp2_with fail
  refine (hO.out w1 hb1).mono ?_
  rintro e w2 ⟨rfl, hw⟩
  have hw' := hw.symm
  clear hw
  subst hw'
  have l1 := L0.out.below hb1
  have k1 := l1.rd.c1
  rw [← HI.out] at k1
  have f1 := l1.rd.fz 1
  have hS := l1.rd.step HLE.out.1 HLE.out.2
  have l2 := (l1.call hS ((Fr.refl _ _).setCell (.inl (by simp)) _)).alloc #[.int .i64 32, .int .i64 0, .string ⟨#[]⟩, .string ⟨#[]⟩] 52 (by decide)
  rw [← HI.out] at l2
  have M0 : Hid (Lo w ((w1.setCell ⟨b, 1, none⟩ (.int .i64 ((i : Int) + 1))).alloc (.cells #[.int .i64 32, .int .i64 0, .string ⟨#[]⟩, .string ⟨#[]⟩] 52)) b C s.adv [(w.heap.size, #[.int .i64 0, .int .i64 0, .string ⟨#[]⟩, .string ⟨#[]⟩], 52), (w1.heap.size, #[.int .i64 32, .int .i64 0, .string ⟨#[]⟩, .string ⟨#[]⟩], 52)]) := hide (by simpa using l2)
  clear l1 l2 hS hN hO L0 hb1 HLE
  have hC1 := hide (want_any M0.out.rd Pp.wSemi (by decide))
  obtain ⟨u1, s1, h1⟩ : ∃ r t, (Pp.want Pp.wSemi).run C.ws s.adv = (r, t) := ⟨_, _, rfl⟩
  rw [h1] at hC1 HR
  simp only at hC1 HR
  clear h1
  unfold Pp.wSemi at hC1
  go_wp2_with fail
  refine hC1.out.mono ?_
  rintro e v1 ⟨rfl, hr1, hf1⟩
  have l1 := M0.out.call hr1 hf1
  clear hr1 hf1 M0 hC1
  have M1 := hide l1
  clear l1
  have p0 := M1.out.cell 0 _ rfl 0
  have q0 := M1.out.fz 0 _ rfl 0
  have r0 := M1.out.cell 1 _ rfl 0
  have p1 := M1.out.cell 0 _ rfl 1
  have q1 := M1.out.fz 0 _ rfl 1
  have r1 := M1.out.cell 1 _ rfl 1
  have p2 := M1.out.cell 0 _ rfl 2
  have q2 := M1.out.fz 0 _ rfl 2
  have r2 := M1.out.cell 1 _ rfl 2
  have p3 := M1.out.cell 0 _ rfl 3
  have q3 := M1.out.fz 0 _ rfl 3
  have r3 := M1.out.cell 1 _ rfl 3
  simp only at p0 q0 r0 p1 q1 r1 p2 q2 r2 p3 q3 r3
  go_wp2_with fail
  have l9 := ((((M1.out.set 0 _ rfl 0 (by simp) (.int .i64 32)).set 0 _ rfl 1 (by simp) (.int .i64 0)).set 0 _ rfl 2 (by simp) (.string ⟨#[]⟩)).set 0 _ rfl 3 (by simp) (.string ⟨#[]⟩))
  exact bodyPost_ret (v := .agg #[.int .i64 32, .int .i64 0, .string ⟨#[]⟩, .string ⟨#[]⟩]) (by simp [results, Tryz.results94, go_sem, *]) rfl ⟨by rw [← (Prod.mk.inj HR.out).1]; rfl, by rw [← (Prod.mk.inj HR.out).2]; exact l9.rd, l9.fr⟩
end Go.Proofs.YtdgfidaopkcjoaaGreatDoor
