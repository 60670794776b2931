/- What typed answers. -/
import Derived.Test.YtdgfidaopkcjoaaGreatDoorLo
namespace Go.Proofs.YtdgfidaopkcjoaaGreatDoor
open Go.RowKit
set_option linter.unusedVariables false
set_option linter.unusedSimpArgs false

def tyV (t : Pp.Ty) : Value := .agg #[.int .i64 t.kind, .string ⟨t.name.toArray⟩]
theorem rowOf_run (C : Cx) (s : Pp.St) (one row : Int) (n : Pp.Bs) : (Pp.rowOf one row n).run C.ws s = if Pp.has C.ws s (Pp.isW Pp.wLK) = true then (⟨row, n⟩, ((Pp.want Pp.wRK).run C.ws s.adv).2) else (⟨one, n⟩, s) := by
  cases h : Pp.has C.ws s (Pp.isW Pp.wLK) with
  | true => rw [Pp.rowOf, run_yes h, Pp.run_bind]; rfl
  | false => rw [Pp.rowOf, run_no h]; rfl

set_option maxRecDepth 100000 in
set_option maxHeartbeats 2000000 in
theorem typed_any {w : World} {b : Nat} {C : Cx} {s : Pp.St} (h : Rd w b C s) :
    Calls Tryz.prog 73 #[.pointer (some ⟨b, 0, none⟩)] w fun e w' => e = .returned (tyV (Pp.typed.run C.ws s).1) ∧ Rd w' b C (Pp.typed.run C.ws s).2 ∧ Fr [b] w w' := by
  obtain ⟨V, S, hVS⟩ : ∃ V S, Pp.typed.run C.ws s = (V, S) := ⟨_, _, rfl⟩
  rw [hVS]
  have HR := hide hVS
  clear hVS
  show Calls _ _ _ _ fun e w' => e = .returned (tyV V) ∧ Rd w' b C S ∧ Fr [b] w w'
  have l0 := (Lo.start h).alloc #[.int .i64 0, .string ⟨#[]⟩] 43 (by decide)
  have hS := hide (skip_any l0.rd Pp.wVoid (by decide))
  rw [skip_run] at hS
  cases hb : Pp.has C.ws s (Pp.isW Pp.wVoid) with
  | true =>
    rw [hb] at hS
    have HR1 : Hid ((V, S) = (⟨1, []⟩, s.adv)) := hide (by rw [← HR.out, Pp.typed, run_yes hb]; rfl)
    clear HR
    simp only [if_true] at hS
    have L0 := hide l0
    clear h l0 hb
    unfold Pp.wVoid at *
    go_enter Tryz.func73, Tryz.ntmps73
    go_wp2_with fail
    refine hS.out.mono ?_
    rintro e w1 ⟨rfl, hr1, hf1⟩
    have l1 := L0.out.call hr1 hf1
    have k0 := l1.cell 0 _ rfl 0
    have k1 := l1.cell 0 _ rfl 1
    have f0 := l1.fz 0 _ rfl 0
    have f1 := l1.fz 0 _ rfl 1
    simp only at k0 k1 f0 f1
    have L1 := hide l1
    clear hr1 hf1 l1
    go_wp2_with fail
    have l2 := (L1.out.set 0 _ rfl 0 (by simp) (.int .i64 1)).set 0 _ rfl 1 (by simp) (.string ⟨#[]⟩)
    exact bodyPost_ret (v := tyV ⟨1, []⟩) (by simp [results, Tryz.results73, go_sem, tyV, *]) rfl ⟨by rw [(Prod.mk.inj HR1.out).1], by rw [(Prod.mk.inj HR1.out).2]; exact l2.rd, l2.fr⟩
  | false =>
    rw [hb] at hS
    have HR1 : Hid ((Pp.Pr.test (Pp.isW Pp.wInt) (fun _ => Pp.rowOf 2 4 []) (Pp.fresh.bind fun n => Pp.rowOf 3 5 n)).run C.ws s = (V, S)) := hide (by rw [← HR.out, Pp.typed, run_no hb])
    clear HR
    simp only [Bool.false_eq_true, if_false] at hS
    have L0 := hide l0
    clear h l0 hb
    unfold Pp.wVoid at *
    go_enter Tryz.func73, Tryz.ntmps73
    go_wp2_with fail
    refine hS.out.mono ?_
    rintro e w1 ⟨rfl, hr1, hf1⟩
    have l1 : Lo w ((w1.alloc (.cells #[.int .i64 2, .string ⟨#[]⟩] 43)).alloc (.cells #[.int .i64 4, .string ⟨#[]⟩] 43)) b C s [(w.heap.size, #[.int .i64 0, .string ⟨#[]⟩], 43), (w1.heap.size, #[.int .i64 2, .string ⟨#[]⟩], 43), (w1.heap.size + 1, #[.int .i64 4, .string ⟨#[]⟩], 43)] := by
      have h9 := ((L0.out.call hr1 hf1).alloc #[.int .i64 2, .string ⟨#[]⟩] 43 (by decide)).alloc #[.int .i64 4, .string ⟨#[]⟩] 43 (by decide)
      simpa using h9
    have L1 := hide l1
    have hS1 := hide (skip_any l1.rd Pp.wInt (by decide))
    rw [skip_run] at hS1
    clear hr1 hf1 l1 L0 hS
    cases hb : Pp.has C.ws s (Pp.isW Pp.wInt) with
    | true =>
      rw [hb] at hS1
      simp only [if_true] at hS1
      have HR2 : Hid ((Pp.rowOf 2 4 []).run C.ws s.adv = (V, S)) := hide (by rw [← HR1.out, run_yes hb])
      clear HR1
      unfold Pp.wInt at hS1
      go_wp2_with fail
      refine hS1.out.mono ?_
      rintro e w2 ⟨rfl, hr2, hf2⟩
      have l2 := L1.out.call hr2 hf2
      clear hr2 hf2 L1 hS1 hb
      rw [rowOf_run] at HR2
      have hK := hide (skip_any l2.rd Pp.wLK (by decide))
      rw [skip_run] at hK
      have LK := hide l2
      clear l2
      cases hc : Pp.has C.ws _ (Pp.isW Pp.wLK) with
      | false =>
        rw [hc] at hK HR2
        simp only [Bool.false_eq_true, if_false] at hK HR2
        unfold Pp.wLK at hK
        go_wp2_with fail
        refine hK.out.mono ?_
        rintro e w5 ⟨rfl, hr5, hf5⟩
        have l5 := LK.out.call hr5 hf5
        have k0 := l5.cell 0 _ rfl 0
        have k1 := l5.cell 0 _ rfl 1
        have f0 := l5.fz 0 _ rfl 0
        have f1 := l5.fz 0 _ rfl 1
        have m0 := l5.cell 1 _ rfl 0
        have m1 := l5.cell 1 _ rfl 1
        simp only at k0 k1 f0 f1 m0 m1
        have L5 := hide l5
        clear hr5 hf5 l5 LK hK hc
        go_wp2_with fail
        have l6 := (L5.out.set 0 _ rfl 0 (by simp) (.int .i64 2)).set 0 _ rfl 1 (by simp) (.string ⟨#[]⟩)
        exact bodyPost_ret (v := .agg #[.int .i64 2, .string ⟨#[]⟩]) (by simp [results, Tryz.results73, go_sem, tyV, *]) rfl ⟨by rw [← (Prod.mk.inj HR2.out).1]; rfl, by rw [← (Prod.mk.inj HR2.out).2]; exact l6.rd, l6.fr⟩
      | true =>
        rw [hc] at hK HR2
        simp only [if_true] at hK HR2
        unfold Pp.wLK at hK
        go_wp2_with fail
        refine hK.out.mono ?_
        rintro e w5 ⟨rfl, hr5, hf5⟩
        have hW := hide (want_any hr5 Pp.wRK (by decide))
        have L4 := hide (LK.out.call hr5 hf5)
        unfold Pp.wRK at hW
        clear hr5 hf5 LK hK hc
        go_wp2_with fail
        refine hW.out.mono ?_
        rintro e w6 ⟨rfl, hr6, hf6⟩
        have l5 := L4.out.call hr6 hf6
        have k0 := l5.cell 0 _ rfl 0
        have k1 := l5.cell 0 _ rfl 1
        have f0 := l5.fz 0 _ rfl 0
        have f1 := l5.fz 0 _ rfl 1
        have m0 := l5.cell 2 _ rfl 0
        have m1 := l5.cell 2 _ rfl 1
        simp only at k0 k1 f0 f1 m0 m1
        have L5 := hide l5
        clear hr6 hf6 l5 L4 hW
        go_wp2_with fail
        have l6 := (L5.out.set 0 _ rfl 0 (by simp) (.int .i64 4)).set 0 _ rfl 1 (by simp) (.string ⟨#[]⟩)
        exact bodyPost_ret (v := .agg #[.int .i64 4, .string ⟨#[]⟩]) (by simp [results, Tryz.results73, go_sem, tyV, *]) rfl ⟨by rw [← (Prod.mk.inj HR2.out).1]; rfl, by rw [← (Prod.mk.inj HR2.out).2]; exact l6.rd, l6.fr⟩
    | false =>
      rw [hb] at hS1
      simp only [Bool.false_eq_true, if_false] at hS1
      have HR2 : Hid ((Pp.rowOf 3 5 (Pp.fresh.run C.ws s).1).run C.ws (Pp.fresh.run C.ws s).2 = (V, S)) := hide (by rw [← HR1.out, run_no hb, Pp.run_bind])
      clear HR1
      unfold Pp.wInt at hS1
      go_wp2_with fail
      refine hS1.out.mono ?_
      rintro e w2 ⟨rfl, hr2, hf2⟩
      have L2 := hide (L1.out.call hr2 hf2)
      have hF := hide (fresh_any hr2)
      clear hr2 hf2 L1 hS1 hb
      obtain ⟨n, s3, hns⟩ : ∃ n s3, Pp.fresh.run C.ws s = (n, s3) := ⟨_, _, rfl⟩
      rw [hns] at hF HR2
      simp only at hF HR2
      clear hns
      go_wp2_with fail
      refine hF.out.mono ?_
      rintro e w3 ⟨rfl, hr3, hf3⟩
      have l3 := L2.out.call hr3 hf3
      have a0 := l3.cell 1 _ rfl 0
      have a1 := l3.cell 1 _ rfl 1
      have a2 := l3.fz 1 _ rfl 0
      have a3 := l3.fz 1 _ rfl 1
      have b0 := l3.cell 2 _ rfl 0
      have b1 := l3.cell 2 _ rfl 1
      have b2 := l3.fz 2 _ rfl 0
      have b3 := l3.fz 2 _ rfl 1
      simp only at a0 a1 a2 a3 b0 b1 b2 b3
      have l4 : Lo w ((((w3.setCell ⟨w1.heap.size, 0, none⟩ (.int .i64 3)).setCell ⟨w1.heap.size, 1, none⟩ (.string ⟨n.toArray⟩)).setCell ⟨w1.heap.size + 1, 0, none⟩ (.int .i64 5)).setCell ⟨w1.heap.size + 1, 1, none⟩ (.string ⟨n.toArray⟩)) b C s3 [(w.heap.size, #[.int .i64 0, .string ⟨#[]⟩], 43), (w1.heap.size, #[.int .i64 3, .string ⟨n.toArray⟩], 43), (w1.heap.size + 1, #[.int .i64 5, .string ⟨n.toArray⟩], 43)] :=
        (((l3.set 1 _ rfl 0 (by simp) (.int .i64 3)).set 1 _ rfl 1 (by simp) (.string ⟨n.toArray⟩)).set 2 _ rfl 0 (by simp) (.int .i64 5)).set 2 _ rfl 1 (by simp) (.string ⟨n.toArray⟩)
      clear hr3 hf3 l3 L2 hF
      rw [rowOf_run] at HR2
      have hK := hide (skip_any l4.rd Pp.wLK (by decide))
      rw [skip_run] at hK
      have LK := hide l4
      clear l4
      cases hc : Pp.has C.ws _ (Pp.isW Pp.wLK) with
      | false =>
        rw [hc] at hK HR2
        simp only [Bool.false_eq_true, if_false] at hK HR2
        unfold Pp.wLK at hK
        go_wp2_with fail
        refine hK.out.mono ?_
        rintro e w5 ⟨rfl, hr5, hf5⟩
        have l5 := LK.out.call hr5 hf5
        have k0 := l5.cell 0 _ rfl 0
        have k1 := l5.cell 0 _ rfl 1
        have f0 := l5.fz 0 _ rfl 0
        have f1 := l5.fz 0 _ rfl 1
        have m0 := l5.cell 1 _ rfl 0
        have m1 := l5.cell 1 _ rfl 1
        simp only at k0 k1 f0 f1 m0 m1
        have L5 := hide l5
        clear hr5 hf5 l5 LK hK hc
        go_wp2_with fail
        have l6 := (L5.out.set 0 _ rfl 0 (by simp) (.int .i64 3)).set 0 _ rfl 1 (by simp) (.string ⟨n.toArray⟩)
        exact bodyPost_ret (v := .agg #[.int .i64 3, .string ⟨n.toArray⟩]) (by simp [results, Tryz.results73, go_sem, tyV, *]) rfl ⟨by rw [← (Prod.mk.inj HR2.out).1]; rfl, by rw [← (Prod.mk.inj HR2.out).2]; exact l6.rd, l6.fr⟩
      | true =>
        rw [hc] at hK HR2
        simp only [if_true] at hK HR2
        unfold Pp.wLK at hK
        go_wp2_with fail
        refine hK.out.mono ?_
        rintro e w5 ⟨rfl, hr5, hf5⟩
        have hW := hide (want_any hr5 Pp.wRK (by decide))
        have L4 := hide (LK.out.call hr5 hf5)
        unfold Pp.wRK at hW
        clear hr5 hf5 LK hK hc
        go_wp2_with fail
        refine hW.out.mono ?_
        rintro e w6 ⟨rfl, hr6, hf6⟩
        have l5 := L4.out.call hr6 hf6
        have k0 := l5.cell 0 _ rfl 0
        have k1 := l5.cell 0 _ rfl 1
        have f0 := l5.fz 0 _ rfl 0
        have f1 := l5.fz 0 _ rfl 1
        have m0 := l5.cell 2 _ rfl 0
        have m1 := l5.cell 2 _ rfl 1
        simp only at k0 k1 f0 f1 m0 m1
        have L5 := hide l5
        clear hr6 hf6 l5 L4 hW
        go_wp2_with fail
        have l6 := (L5.out.set 0 _ rfl 0 (by simp) (.int .i64 5)).set 0 _ rfl 1 (by simp) (.string ⟨n.toArray⟩)
        exact bodyPost_ret (v := .agg #[.int .i64 5, .string ⟨n.toArray⟩]) (by simp [results, Tryz.results73, go_sem, tyV, *]) rfl ⟨by rw [← (Prod.mk.inj HR2.out).1]; rfl, by rw [← (Prod.mk.inj HR2.out).2]; exact l6.rd, l6.fr⟩
end Go.Proofs.YtdgfidaopkcjoaaGreatDoor
