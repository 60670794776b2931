/- What body answers. -/
import Derived.Test.YtdgfidaopkcjoaaGreatDoorKeep2
namespace Go.Proofs.YtdgfidaopkcjoaaGreatDoor
open Go.RowKit
set_option linter.unusedVariables false
set_option linter.unusedSimpArgs false

def mthA (n : List UInt8) (st ab : Bool) (vp : Value) (rt : Pp.Ty) (lc : Int) (vc vk : Value) : Array Value :=
  #[.string ⟨n.toArray⟩, .bool st, .bool ab, vp, .int .i64 rt.kind, .string ⟨rt.name.toArray⟩, .int .i64 lc, vc, vk]
section
variable {w0 w : World} {b : Nat} {C : Cx} {s : Pp.St} {Ls : List (Nat × Array Value × TypeId)} {ix mb : Nat} {n : List UInt8} {st ab : Bool} {vp vc vk : Value} {rt : Pp.Ty} {lc : Int} {y : Nat × Array Value × TypeId}
theorem Lo.setM6 (l : Lo w0 w b C s Ls) (hx : Ls[ix]? = some (mb, mthA n st ab vp rt lc vc vk, 50)) (v : Int) : Lo w0 (w.setCell ⟨mb, 6, none⟩ (.int .i64 v)) b C s (Ls.set ix (mb, mthA n st ab vp rt v vc vk, 50)) :=
  l.set ix _ hx 6 (by simp [mthA]) (.int .i64 v)
theorem Lo.setM7 (l : Lo w0 w b C s (Ls.set ix (mb, mthA n st ab vp rt lc vc vk, 50))) (hx : Ls[ix]? = some y) (v : Value) : Lo w0 (w.setCell ⟨mb, 7, none⟩ v) b C s (Ls.set ix (mb, mthA n st ab vp rt lc v vk, 50)) := by
  have h := l.set ix _ (set_get hx) 7 (by simp [mthA]) v
  rw [List.set_set] at h
  exact h
theorem Lo.setM8 (l : Lo w0 w b C s (Ls.set ix (mb, mthA n st ab vp rt lc vc vk, 50))) (hx : Ls[ix]? = some y) (v : Value) : Lo w0 (w.setCell ⟨mb, 8, none⟩ v) b C s (Ls.set ix (mb, mthA n st ab vp rt lc vc v, 50)) := by
  have h := l.set ix _ (set_get hx) 8 (by simp [mthA]) v
  rw [List.set_set] at h
  exact h
end

set_option maxRecDepth 100000 in
set_option maxHeartbeats 8000000 in
theorem body_any {w0 w : World} {b : Nat} {C : Cx} {s : Pp.St} {Ls : List (Nat × Array Value × TypeId)} (l : Lo w0 w b C s Ls) (ix mb : Nat) (n : List UInt8) (st ab : Bool) (vp : Value) (rt : Pp.Ty)
    (hx : Ls[ix]? = some (mb, mthA n st ab vp rt 0 (.slice none 0 0) (.slice none 0 0), 50)) (hTc : ∀ (i : Nat) x, Ls[i]? = some x → x.2.2 ≠ 52) (hTk : ∀ (i : Nat) x, Ls[i]? = some x → x.2.2 ≠ 54) :
    Calls Tryz.prog 76 #[.pointer (some ⟨b, 0, none⟩), .pointer (some ⟨mb, 0, none⟩)] w fun e w' => ∃ vc vk, e = .returned (.tuple #[]) ∧
      Lo w0 w' b C (Pp.body.run C.ws s).2 (Ls.set ix (mb, mthA n st ab vp rt (Pp.body.run C.ws s).1.1 vc vk, 50)) ∧
      w'.ownsRow w0.heap.size 52 4 vc (Pp.body.run C.ws s).1.2.1.length (inssCells (Pp.body.run C.ws s).1.2.1) ∧ w'.ownsRow w0.heap.size 54 4 vk (Pp.body.run C.ws s).1.2.2.length (ctcsCells (Pp.body.run C.ws s).1.2.2) ∧ Kp 43 w w' := by
  obtain ⟨V, S, hVS⟩ := pair_eta (Pp.body.run C.ws s)
  rw [hVS]
  have HR0 := hide hVS
  clear hVS
  show Calls _ _ _ _ fun e w' => ∃ vc vk, e = .returned (.tuple #[]) ∧ Lo w0 w' b C S (Ls.set ix (mb, mthA n st ab vp rt V.1 vc vk, 50)) ∧ w'.ownsRow w0.heap.size 52 4 vc V.2.1.length (inssCells V.2.1) ∧ w'.ownsRow w0.heap.size 54 4 vk V.2.2.length (ctcsCells V.2.2) ∧ Kp 43 w w'
  simp only [Pp.body, Pp.run_bind, Pp.run_ret] at HR0
  have HX := hide hx
  have HTc := hide hTc
  have HTk := hide hTk
  have hC1 := hide (want_any l.rd Pp.wLocals (by decide))
  have L0 := hide l
  clear l hx hTc hTk
  obtain ⟨u1, s1, h1⟩ := pair_eta ((Pp.want Pp.wLocals).run C.ws s)
  rw [h1] at hC1 HR0
  simp only at hC1 HR0
  clear h1
  unfold Pp.wLocals at hC1
  go_enter Tryz.func76, Tryz.ntmps76
  go_wp2_with fail
  refine hC1.out.mono ?_
  rintro e w1 ⟨rfl, hr1, hf1⟩
  have L1 := hide (L0.out.call hr1 hf1)
  have HY1 := hide (Kp.fr (e := 43) L0.out.rd hf1 (by decide))
  have hC2 := hide (number_any hr1 0 8)
  clear hr1 hf1 L0 hC1
  obtain ⟨lc, s2, h2⟩ := pair_eta ((Pp.number 0 8).run C.ws s1)
  rw [h2] at hC2 HR0
  simp only at hC2 HR0
  clear h2
  go_wp2_with fail
  refine hC2.out.mono ?_
  rintro e w2 ⟨rfl, hr2, hf2⟩
  have l2 := L1.out.call hr2 hf2
  have k6 := l2.cell ix _ HX.out 6
  have f6 := l2.fz ix _ HX.out 6
  simp only [mthA] at k6 f6
  have l3 := l2.setM6 HX.out lc
  have HY2 := hide ((HY1.out.trans (Kp.fr L1.out.rd hf2 (by decide))).trans (Kp.set (e := 43) (t := 50) (l2.bl ix _ HX.out) (by decide) 6 (.int .i64 lc)))
  clear HY1
  have hC3 := hide (want_any l3.rd Pp.wLB (by decide))
  obtain ⟨u3, S4, h3⟩ := pair_eta ((Pp.want Pp.wLB).run C.ws s2)
  rw [h3] at hC3 HR0
  simp only at hC3 HR0
  clear h3
  unfold Pp.wLB at hC3
  have L3 := hide l3
  clear hr2 hf2 L1 hC2 l2 l3
  go_wp2_with fail
  refine hC3.out.mono ?_
  rintro e w3 ⟨rfl, hr3, hf3⟩
  have LA := hide (L3.out.call hr3 hf3)
  have HYA : Hid (Kp 43 w w3) := hide (HY2.out.trans (Kp.fr L3.out.rd hf3 (by decide)))
  clear hr3 hf3 hC3 L3 k6 f6 HY2
  go_wp2_with fail
  obtain ⟨V1, S5, hVSc⟩ := pair_eta ((Pp.many Pp.isInstr Pp.instr 48 []).run C.ws S4)
  have HRc := hide hVSc
  rename_i Qc Kc hKc
  have hcutc : ∀ (t2 t3 t4 t5 t6 t7 t8 t9 t10 t11 t12 t13 t14 t15 t16 t17 t18 t19 t20 t21 t22 t23 t24 t25 t26 t27 t28 t29 t30 t31 t32 t33 t34 t35 t36 t37 t38 t39 t40 t41 t42 t43 t44 t45 t46 t47 t48 t49 t50 t51 t52 t53 t54 t55 : Value) (wx : World), (∃ vc, Hid (Lo w0 wx b C S5 (Ls.set ix (mb, mthA n st ab vp rt lc (vc) (.slice none 0 0), 50))) ∧ Hid (wx.ownsRow w0.heap.size 52 4 vc V1.length (inssCells V1)) ∧ Hid (Kp 43 w wx)) → Kc { tmps := #[.pointer (some ⟨b, 0, none⟩), .pointer (some ⟨mb, 0, none⟩), t2, t3, t4, t5, t6, t7, t8, t9, t10, t11, t12, t13, t14, t15, t16, t17, t18, t19, t20, t21, t22, t23, t24, t25, t26, t27, t28, t29, t30, t31, t32, t33, t34, t35, t36, t37, t38, t39, t40, t41, t42, t43, t44, t45, t46, t47, t48, t49, t50, t51, t52, t53, t54, t55], defers := [] } wx := by
    intro t2 t3 t4 t5 t6 t7 t8 t9 t10 t11 t12 t13 t14 t15 t16 t17 t18 t19 t20 t21 t22 t23 t24 t25 t26 t27 t28 t29 t30 t31 t32 t33 t34 t35 t36 t37 t38 t39 t40 t41 t42 t43 t44 t45 t46 t47 t48 t49 t50 t51 t52 t53 t54 t55 wx hcut
    refine hKc _ _ ?_
    obtain ⟨vc, L6, HVC, HYB⟩ := hcut
    clear HYA
    rw [hVSc] at HR0
    simp only at HR0
    clear HRc hVSc LA hKc
    have LB := L6
    clear L6
    go_wp2_with fail
    obtain ⟨V2, S6, hVSk⟩ := pair_eta ((Pp.many (Pp.isW Pp.wCatch) Pp.catch_ 4 []).run C.ws S5)
    have HRk := hide hVSk
    rename_i Kk hKk
    have hcutk : ∀ (t2 t3 t4 t5 t6 t7 t8 t9 t10 t11 t12 t13 t14 t15 t16 t17 t18 t19 t20 t21 t22 t23 t24 t25 t26 t27 t28 t29 t30 t31 t32 t33 t34 t35 t36 t37 t38 t39 t40 t41 t42 t43 t44 t45 t46 t47 t48 t49 t50 t51 t52 t53 t54 t55 : Value) (wx : World), (∃ vk, Hid (Lo w0 wx b C S6 (Ls.set ix (mb, mthA n st ab vp rt lc vc (vk), 50))) ∧ Hid (wx.ownsRow w0.heap.size 54 4 vk V2.length (ctcsCells V2)) ∧ Hid (Kp 43 w wx) ∧ Hid (wx.ownsRow w0.heap.size 52 4 vc V1.length (inssCells V1))) → Kk { tmps := #[.pointer (some ⟨b, 0, none⟩), .pointer (some ⟨mb, 0, none⟩), t2, t3, t4, t5, t6, t7, t8, t9, t10, t11, t12, t13, t14, t15, t16, t17, t18, t19, t20, t21, t22, t23, t24, t25, t26, t27, t28, t29, t30, t31, t32, t33, t34, t35, t36, t37, t38, t39, t40, t41, t42, t43, t44, t45, t46, t47, t48, t49, t50, t51, t52, t53, t54, t55], defers := [] } wx := by
      intro t2 t3 t4 t5 t6 t7 t8 t9 t10 t11 t12 t13 t14 t15 t16 t17 t18 t19 t20 t21 t22 t23 t24 t25 t26 t27 t28 t29 t30 t31 t32 t33 t34 t35 t36 t37 t38 t39 t40 t41 t42 t43 t44 t45 t46 t47 t48 t49 t50 t51 t52 t53 t54 t55 wx hcut
      refine hKk _ _ ?_
      clear HYB HVC
      obtain ⟨vk, L7, HVK, HYC, HVC⟩ := hcut
      rw [hVSk] at HR0
      simp only at HR0
      clear HRk hVSk LB hKk
      have hC8 := hide (want_any L7.out.rd Pp.wRB (by decide))
      obtain ⟨u8, S8, h8⟩ := pair_eta ((Pp.want Pp.wRB).run C.ws S6)
      rw [h8] at hC8 HR0
      simp only at hC8 HR0
      clear h8
      unfold Pp.wRB at hC8
      go_wp2_with fail
      refine hC8.out.mono ?_
      rintro e w8 ⟨rfl, hr8, hf8⟩
      have l8 := L7.out.call hr8 hf8
      have o8 := (Kp.fr L7.out.rd hf8 (by decide)).own HVC.out
      have p8 := (Kp.fr L7.out.rd hf8 (by decide)).own HVK.out
      have y8 := HYC.out.trans (Kp.fr L7.out.rd hf8 (by decide))
      have A8 := hide (And.intro l8 (And.intro o8 (And.intro p8 y8)))
      clear hr8 hf8 l8 o8 p8 hC8 L7 HVC HVK y8 HYC
      go_wp2_with fail
      refine bodyPost_end (v := .tuple #[]) (by simp [results, Tryz.results76, go_sem]) rfl ⟨vc, vk, rfl, ?_⟩
      rw [← (Prod.mk.inj HR0.out).1, ← (Prod.mk.inj HR0.out).2]
      exact ⟨A8.out.1, A8.out.2.1, A8.out.2.2.1, A8.out.2.2.2⟩
    have HCUTk := hide hcutk
    clear hcutk hKk
    clear hVSk
    go_loopw [] (fun wr => ∃ (k : Nat) (acc : List Pp.Ctc) (s' : Pp.St) (v : Value), Hid (Lo w0 wr b C s' (Ls.set ix (mb, mthA n st ab vp rt lc vc (v), 50))) ∧ wr.ownsRow w0.heap.size 54 4 v acc.length (ctcsCells acc) ∧ acc.length + k = 4 ∧ Hid ((Pp.many (Pp.isW Pp.wCatch) Pp.catch_ k acc).run C.ws s' = (V2, S6)) ∧ Hid (Kp 43 w wr) ∧ Hid (wr.ownsRow w0.heap.size 52 4 vc V1.length (inssCells V1)))
      (fun wr => 4 - lenV ((wr.cell? ⟨mb, 8, none⟩).getD undef))
    case atStart => exact ⟨4, [], S5, .slice none 0 0, LB, World.ownsRow_nil _ _ _ _, rfl, HRk, HYB, HVC⟩
    case round =>
      obtain ⟨k, acc, s', v, hl, hown, hlen, HR, hty, hkp⟩ := hrel
      clear HRk LB HVC HYB
      obtain ⟨a0, c0, rfl⟩ := own_shapeV hown
      have HLX := hide (set_get (y := (mb, mthA n st ab vp rt lc vc (.slice a0 acc.length c0), 50)) HX.out)
      have hB := hide (sees_one hl.out.drew.rd Pp.wCatch (by decide) 9)
      unfold Pp.wCatch at hB
      have k7 := hl.out.cell ix _ HLX.out 8
      simp only [mthA] at k7
      have ka := (hl.out.drew.below ((Below.refl _ _).alloc (Nat.le_refl _) (.cells #[.string ⟨#[99, 97, 116, 99, 104]⟩] 9))).cell ix _ HLX.out 8
      simp only [mthA] at ka
      have hmb : mb < wr.heap.size := lt_of_block (hl.out.bl ix _ HLX.out)
      have hmn : ¬ mb = wr.heap.size := by omega
      have HK7 := hide k7
      have HO := hide hown
      clear hown
      cases hq : Pp.has C.ws s' (Pp.isW Pp.wCatch) with
      | false =>
        rw [show Pp.has C.ws s' (Pp.isW [99, 97, 116, 99, 104]) = false from hq] at hB
        have HE : Hid ((acc, s') = (V2, S6)) := hide (by rw [← HR.out, many_no hq])
        clear HR hq
        go_wp2_with fail
        go_region_with (first | (go_at_call 16; refine hB.out.mono ?_; rintro e w5 ⟨rfl, hb5⟩; have l5 := hl.out.drew.below hb5; have k5 := l5.cell ix _ HLX.out 8; simp only [mthA] at k5; have L5 := hide l5; have HO5 := hide ((Kp.trans (Kp.drew _ _) (Kp.below hb5)).own HO.out); have HY5 := hide (hty.out.trans (Kp.trans (Kp.drew _ _) (Kp.below hb5))); have HK5 := hide ((Kp.trans (Kp.drew _ _) (Kp.below hb5)).own hkp.out); clear l5 hb5) | (go_at_call 15; refine (more_any L5.out.rd false acc.length 4).mono ?_; rintro e w6 ⟨rfl, hr6, hf6⟩; have A6 := hide (And.intro hr6 hf6); clear hr6 hf6))
        all_goals
          have L6 := hide (L5.out.call A6.out.1 A6.out.2)
          have HO6 := hide ((Kp.fr L5.out.rd A6.out.2 (by decide)).own HO5.out)
          have HY6 := hide (HY5.out.trans (Kp.fr L5.out.rd A6.out.2 (by decide)))
          have HK6 := hide ((Kp.fr L5.out.rd A6.out.2 (by decide)).own HK5.out)
          rw [show moreS s' false acc.length 4 = s' from by simp [moreS]] at L6
          rw [(Prod.mk.inj HE.out).1] at HO6
          rw [(Prod.mk.inj HE.out).2] at L6
          rw [(Prod.mk.inj HE.out).1] at L6
          clear A6 HO5 L5 hl HO hB k5 k7 HK7 HLX ka
          go_wp2_with fail
          exact HCUTk.out _ _ _ _ _ _ _ _ _ _ _ _ _ _ _ _ _ _ _ _ _ _ _ _ _ _ _ _ _ _ _ _ _ _ _ _ _ _ _ _ _ _ _ _ _ _ _ _ _ _ _ _ _ _ _ ⟨_, L6, HO6, HY6, HK6⟩
      | true =>
        rw [show Pp.has C.ws s' (Pp.isW [99, 97, 116, 99, 104]) = true from hq] at hB
        rcases Nat.eq_zero_or_pos k with hk0 | hk0
        · subst hk0
          have HE : Hid ((acc, Pp.failS s' 2) = (V2, S6)) := hide (by rw [← HR.out, many_full hq])
          clear HR hq
          go_wp2_with fail
          go_region_with (first | (go_at_call 16; refine hB.out.mono ?_; rintro e w5 ⟨rfl, hb5⟩; have l5 := hl.out.drew.below hb5; have k5 := l5.cell ix _ HLX.out 8; simp only [mthA] at k5; have L5 := hide l5; have HO5 := hide ((Kp.trans (Kp.drew _ _) (Kp.below hb5)).own HO.out); have HY5 := hide (hty.out.trans (Kp.trans (Kp.drew _ _) (Kp.below hb5))); have HK5 := hide ((Kp.trans (Kp.drew _ _) (Kp.below hb5)).own hkp.out); clear l5 hb5) | (go_at_call 15; refine (more_any L5.out.rd true acc.length 4).mono ?_; rw [show (true && decide (acc.length < 4)) = false from by simp; omega]; rintro e w6 ⟨rfl, hr6, hf6⟩; have A6 := hide (And.intro hr6 hf6); clear hr6 hf6))
          all_goals
            have L6 := hide (L5.out.call A6.out.1 A6.out.2)
            have HO6 := hide ((Kp.fr L5.out.rd A6.out.2 (by decide)).own HO5.out)
            have HY6 := hide (HY5.out.trans (Kp.fr L5.out.rd A6.out.2 (by decide)))
            have HK6 := hide ((Kp.fr L5.out.rd A6.out.2 (by decide)).own HK5.out)
            rw [show moreS s' true acc.length 4 = Pp.failS s' 2 from by rw [moreS, if_pos ⟨rfl, by omega⟩]] at L6
            rw [(Prod.mk.inj HE.out).1] at HO6
            rw [(Prod.mk.inj HE.out).2] at L6
            rw [(Prod.mk.inj HE.out).1] at L6
            clear A6 HO5 L5 hl HO hB k5 k7 HK7 HLX ka
            go_wp2_with fail
            exact HCUTk.out _ _ _ _ _ _ _ _ _ _ _ _ _ _ _ _ _ _ _ _ _ _ _ _ _ _ _ _ _ _ _ _ _ _ _ _ _ _ _ _ _ _ _ _ _ _ _ _ _ _ _ _ _ _ _ ⟨_, L6, HO6, HY6, HK6⟩
        · obtain ⟨k, rfl⟩ : ∃ k', k = k' + 1 := ⟨k - 1, by omega⟩
          have HE : Hid ((Pp.many (Pp.isW Pp.wCatch) Pp.catch_ k (acc ++ [(Pp.catch_.run C.ws s').1])).run C.ws (Pp.catch_.run C.ws s').2 = (V2, S6)) := hide (by rw [← HR.out, many_yes hq])
          have HQ := hide hq
          clear HR hq
          go_wp2_with fail
          go_region_with (first | (go_at_call 16; refine hB.out.mono ?_; rintro e w5 ⟨rfl, hb5⟩; have l5 := hl.out.drew.below hb5; have k5 := l5.cell ix _ HLX.out 8; simp only [mthA] at k5; have L5 := hide l5; have HO5 := hide ((Kp.trans (Kp.drew _ _) (Kp.below hb5)).own HO.out); have HY5 := hide (hty.out.trans (Kp.trans (Kp.drew _ _) (Kp.below hb5))); have HK5 := hide ((Kp.trans (Kp.drew _ _) (Kp.below hb5)).own hkp.out); clear l5 hb5) | (go_at_call 15; refine (more_any L5.out.rd true acc.length 4).mono ?_; rw [show (true && decide (acc.length < 4)) = true from by simp; omega]; rintro e w6 ⟨rfl, hr6, hf6⟩; have A6 := hide (And.intro hr6 hf6); clear hr6 hf6))
          all_goals
            have L6 := hide (L5.out.call A6.out.1 A6.out.2)
            have HO6 := hide ((Kp.fr L5.out.rd A6.out.2 (by decide)).own HO5.out)
            have HY6 := hide (HY5.out.trans (Kp.fr L5.out.rd A6.out.2 (by decide)))
            have HK6 := hide ((Kp.fr L5.out.rd A6.out.2 (by decide)).own HK5.out)
            rw [show moreS s' true acc.length 4 = s' from by rw [moreS, if_neg (by omega)]] at L6
            clear A6 HO5 L5 hl HO hB k5 k7 HY5 hty HK5 hkp ka
            have hI := hide (catch_any L6.out.drew.rd)
            obtain ⟨y, s7, h7⟩ := pair_eta (Pp.catch_.run C.ws s')
            rw [h7] at hI HE
            simp only [ctcV] at hI HE
            clear h7
            have k6 := L6.out.drew.cell ix _ HLX.out 8
            simp only [mthA] at k6
            obtain ⟨i0, hi, hz0, hz1, hz2⟩ := info_parts Tryz.info54
            have HI0 := hide (And.intro hi (And.intro hz0 (And.intro hz1 hz2)))
            clear hi hz0 hz1 hz2
            go_wp2_with fail
            go_region_law (first | (refine step_append_own rfl (.tmp 47) (.tmp 50) 48 rfl w0.heap.size 54 i0 (.agg #[.string ⟨#[]⟩, .int .i64 0, .int .i64 0, .int .i64 0]) 4 40 Tryz.underlying48 HI0.out.1 HI0.out.2.1 HI0.out.2.2.1 HI0.out.2.2.2 rfl (by decide) (.slice a0 acc.length c0) acc.length (ctcsCells acc) (by simp [Act.eval, Act.put]) HO8.out ⟨w7.heap.size, 0, none⟩ 1 1 [.string ⟨y.name.toArray⟩, .int .i64 y.lo, .int .i64 y.hi, .int .i64 y.pc] (by simp [Act.eval, Act.put]) rfl HN8.out HN9.out (by unfold maxLen; omega) (by omega) (by have h3 := L8.out.fr.size; simp at h3; simpa using h3) ?_; intro v' w9 hown9 hgrow9; have l9 := L8.out.grown HO8.out hgrow9 (by decide) (set_types HX.out HTk.out); have k9 := l9.cell ix _ HLX.out 8; have f9 := l9.fz ix _ HLX.out 8; simp only [mthA] at k9 f9; have HY9 := hide (HY8.out.trans (Kp.grown HO8.out hgrow9 (by decide))); have HK9 := hide ((Kp.grown HO8.out hgrow9 (by decide)).own HK8.out); have A9 := hide (And.intro l9 hown9); obtain ⟨a9, c9, rfl⟩ := own_shapeV hown9; clear l9 hown9 hgrow9) | (go_simp; refine hI.out.mono ?_; rintro e w7 ⟨rfl, hr7, hf7⟩; have l7 := L6.out.drew.call hr7 hf7; have k7 := l7.cell ix _ HLX.out 8; simp only [mthA] at k7; have L8 := hide (l7.below ((Below.refl w7.heap.size w7).alloc (Nat.le_refl _) (.cells #[.string ⟨y.name.toArray⟩, .int .i64 y.lo, .int .i64 y.hi, .int .i64 y.pc] 54))); have k8 := L8.out.cell ix _ HLX.out 8; simp only [mthA] at k8; have HO8 := hide ((Kp.trans (Kp.trans (Kp.drew _ _) (Kp.fr L6.out.drew.rd hf7 (by decide))) (Kp.alloc _ w7 (.cells #[.string ⟨y.name.toArray⟩, .int .i64 y.lo, .int .i64 y.hi, .int .i64 y.pc] 54))).own HO6.out); have HY8 := hide (HY6.out.trans (Kp.trans (Kp.trans (Kp.drew _ _) (Kp.fr L6.out.drew.rd hf7 (by decide))) (Kp.alloc _ w7 (.cells #[.string ⟨y.name.toArray⟩, .int .i64 y.lo, .int .i64 y.hi, .int .i64 y.pc] 54)))); have HK8 := hide ((Kp.trans (Kp.trans (Kp.drew _ _) (Kp.fr L6.out.drew.rd hf7 (by decide))) (Kp.alloc _ w7 (.cells #[.string ⟨y.name.toArray⟩, .int .i64 y.lo, .int .i64 y.hi, .int .i64 y.pc] 54))).own HK6.out); have HN8 := hide (fresh_news w7 #[.string ⟨y.name.toArray⟩, .int .i64 y.lo, .int .i64 y.hi, .int .i64 y.pc] 54); have HN9 : Hid (∀ u ∈ ([.string ⟨y.name.toArray⟩, .int .i64 y.lo, .int .i64 y.hi, .int .i64 y.pc] : List Value), u.oneCell' = true) := hide (by intro u hu; simp at hu; rcases hu with rfl | rfl | rfl | rfl <;> rfl); clear l7 hr7 hf7))
            all_goals
              have l10 := A9.out.1.setM8 HX.out (.slice a9 (acc.length + 1) c9)
              have hO10 : (w9.setCell ⟨mb, 8, none⟩ (.slice a9 (acc.length + 1) c9)).ownsRow w0.heap.size 54 4 (.slice a9 (acc.length + 1) c9) (acc ++ [y]).length (ctcsCells (acc ++ [y])) := by
                rw [ctcsCells_app, List.length_append]
                exact (Kp.set (t := 50) (A9.out.1.bl ix _ HLX.out) (by decide) 8 _).own A9.out.2
              have HY10 := hide (HY9.out.trans (Kp.set (e := 43) (t := 50) (A9.out.1.bl ix _ HLX.out) (by decide) 8 (.slice a9 (acc.length + 1) c9)))
              have HK10 := hide ((Kp.set (e := 52) (t := 50) (A9.out.1.bl ix _ HLX.out) (by decide) 8 (.slice a9 (acc.length + 1) c9)).own HK9.out)
              have kk := l10.cell ix _ (set_get HX.out) 8
              simp only [mthA] at kk
              have L10 := hide l10
              have HO10 := hide hO10
              have KK := hide kk
              clear l10 hO10 kk A9 L8 HO8 HN8 HN9 L6 HO6 hI k6 k7 k8 k9
              go_wp2_with fail
              go_roundw
              case rel => exact ⟨k, acc ++ [y], s7, .slice a9 (acc.length + 1) c9, L10, HO10.out, by simp; omega, HE, HY10, HK10⟩
              case measure => rw [KK.out, HK7.out]; simp [lenV]; omega
  have HCUTc := hide hcutc
  clear hcutc hKc
  clear hVSc
  go_loopw [] (fun wr => ∃ (k : Nat) (acc : List Pp.Ins) (s' : Pp.St) (v : Value), Hid (Lo w0 wr b C s' (Ls.set ix (mb, mthA n st ab vp rt lc (v) (.slice none 0 0), 50))) ∧ wr.ownsRow w0.heap.size 52 4 v acc.length (inssCells acc) ∧ acc.length + k = 48 ∧ Hid ((Pp.many Pp.isInstr Pp.instr k acc).run C.ws s' = (V1, S5)) ∧ Hid (Kp 43 w wr))
    (fun wr => 48 - lenV ((wr.cell? ⟨mb, 7, none⟩).getD undef))
  case atStart => exact ⟨48, [], S4, .slice none 0 0, LA, World.ownsRow_nil _ _ _ _, rfl, HRc, HYA⟩
  case round =>
    obtain ⟨k, acc, s', v, hl, hown, hlen, HR, hty⟩ := hrel
    clear HRc LA HYA
    obtain ⟨a0, c0, rfl⟩ := own_shapeV hown
    have HLX := hide (set_get (y := (mb, mthA n st ab vp rt lc (.slice a0 acc.length c0) (.slice none 0 0), 50)) HX.out)
    have hB := hide (seesInstr_any hl.out.drew.rd)
    have k7 := hl.out.cell ix _ HLX.out 7
    simp only [mthA] at k7
    have HK7 := hide k7
    have HO := hide hown
    clear hown
    cases hq : Pp.has C.ws s' Pp.isInstr with
    | false =>
      rw [hq] at hB
      have HE : Hid ((acc, s') = (V1, S5)) := hide (by rw [← HR.out, many_no hq])
      clear HR hq
      go_wp2_with fail
      go_region_with (first | (go_at_call 93; refine hB.out.mono ?_; rintro e w5 ⟨rfl, hb5⟩; have l5 := hl.out.drew.below hb5; have k5 := l5.cell ix _ HLX.out 7; simp only [mthA] at k5; have L5 := hide l5; have HO5 := hide ((Kp.trans (Kp.drew _ _) (Kp.below hb5)).own HO.out); have HY5 := hide (hty.out.trans (Kp.trans (Kp.drew _ _) (Kp.below hb5))); clear l5 hb5) | (go_at_call 15; refine (more_any L5.out.rd false acc.length 48).mono ?_; rintro e w6 ⟨rfl, hr6, hf6⟩; have A6 := hide (And.intro hr6 hf6); clear hr6 hf6))
      all_goals
        have L6 := hide (L5.out.call A6.out.1 A6.out.2)
        have HO6 := hide ((Kp.fr L5.out.rd A6.out.2 (by decide)).own HO5.out)
        have HY6 := hide (HY5.out.trans (Kp.fr L5.out.rd A6.out.2 (by decide)))
        rw [show moreS s' false acc.length 48 = s' from by simp [moreS]] at L6
        rw [(Prod.mk.inj HE.out).1] at HO6
        rw [(Prod.mk.inj HE.out).2] at L6
        rw [(Prod.mk.inj HE.out).1] at L6
        clear A6 HO5 L5 hl HO hB k5 k7 HK7 HLX
        go_wp2_with fail
        exact HCUTc.out _ _ _ _ _ _ _ _ _ _ _ _ _ _ _ _ _ _ _ _ _ _ _ _ _ _ _ _ _ _ _ _ _ _ _ _ _ _ _ _ _ _ _ _ _ _ _ _ _ _ _ _ _ _ _ ⟨_, L6, HO6, HY6⟩
    | true =>
      rw [hq] at hB
      rcases Nat.eq_zero_or_pos k with hk0 | hk0
      · subst hk0
        have HE : Hid ((acc, Pp.failS s' 2) = (V1, S5)) := hide (by rw [← HR.out, many_full hq])
        clear HR hq
        go_wp2_with fail
        go_region_with (first | (go_at_call 93; refine hB.out.mono ?_; rintro e w5 ⟨rfl, hb5⟩; have l5 := hl.out.drew.below hb5; have k5 := l5.cell ix _ HLX.out 7; simp only [mthA] at k5; have L5 := hide l5; have HO5 := hide ((Kp.trans (Kp.drew _ _) (Kp.below hb5)).own HO.out); have HY5 := hide (hty.out.trans (Kp.trans (Kp.drew _ _) (Kp.below hb5))); clear l5 hb5) | (go_at_call 15; refine (more_any L5.out.rd true acc.length 48).mono ?_; rw [show (true && decide (acc.length < 48)) = false from by simp; omega]; rintro e w6 ⟨rfl, hr6, hf6⟩; have A6 := hide (And.intro hr6 hf6); clear hr6 hf6))
        all_goals
          have L6 := hide (L5.out.call A6.out.1 A6.out.2)
          have HO6 := hide ((Kp.fr L5.out.rd A6.out.2 (by decide)).own HO5.out)
          have HY6 := hide (HY5.out.trans (Kp.fr L5.out.rd A6.out.2 (by decide)))
          rw [show moreS s' true acc.length 48 = Pp.failS s' 2 from by rw [moreS, if_pos ⟨rfl, by omega⟩]] at L6
          rw [(Prod.mk.inj HE.out).1] at HO6
          rw [(Prod.mk.inj HE.out).2] at L6
          rw [(Prod.mk.inj HE.out).1] at L6
          clear A6 HO5 L5 hl HO hB k5 k7 HK7 HLX
          go_wp2_with fail
          exact HCUTc.out _ _ _ _ _ _ _ _ _ _ _ _ _ _ _ _ _ _ _ _ _ _ _ _ _ _ _ _ _ _ _ _ _ _ _ _ _ _ _ _ _ _ _ _ _ _ _ _ _ _ _ _ _ _ _ ⟨_, L6, HO6, HY6⟩
      · obtain ⟨k, rfl⟩ : ∃ k', k = k' + 1 := ⟨k - 1, by omega⟩
        have HE : Hid ((Pp.many Pp.isInstr Pp.instr k (acc ++ [(Pp.instr.run C.ws s').1])).run C.ws (Pp.instr.run C.ws s').2 = (V1, S5)) := hide (by rw [← HR.out, many_yes hq])
        have HQ := hide hq
        clear HR hq
        go_wp2_with fail
        go_region_with (first | (go_at_call 93; refine hB.out.mono ?_; rintro e w5 ⟨rfl, hb5⟩; have l5 := hl.out.drew.below hb5; have k5 := l5.cell ix _ HLX.out 7; simp only [mthA] at k5; have L5 := hide l5; have HO5 := hide ((Kp.trans (Kp.drew _ _) (Kp.below hb5)).own HO.out); have HY5 := hide (hty.out.trans (Kp.trans (Kp.drew _ _) (Kp.below hb5))); clear l5 hb5) | (go_at_call 15; refine (more_any L5.out.rd true acc.length 48).mono ?_; rw [show (true && decide (acc.length < 48)) = true from by simp; omega]; rintro e w6 ⟨rfl, hr6, hf6⟩; have A6 := hide (And.intro hr6 hf6); clear hr6 hf6))
        all_goals
          have L6 := hide (L5.out.call A6.out.1 A6.out.2)
          have HO6 := hide ((Kp.fr L5.out.rd A6.out.2 (by decide)).own HO5.out)
          have HY6 := hide (HY5.out.trans (Kp.fr L5.out.rd A6.out.2 (by decide)))
          rw [show moreS s' true acc.length 48 = s' from by rw [moreS, if_neg (by omega)]] at L6
          clear A6 HO5 L5 hl HO hB k5 k7 HY5 hty
          have hI := hide (instr_any L6.out.drew.rd HQ.out)
          obtain ⟨y, s7, h7⟩ := pair_eta (Pp.instr.run C.ws s')
          rw [h7] at hI HE
          simp only [insV] at hI HE
          clear h7
          have k6 := L6.out.drew.cell ix _ HLX.out 7
          simp only [mthA] at k6
          obtain ⟨i0, hi, hz0, hz1, hz2⟩ := info_parts Tryz.info52
          have HI0 := hide (And.intro hi (And.intro hz0 (And.intro hz1 hz2)))
          clear hi hz0 hz1 hz2
          go_wp2_with fail
          go_region_law (first | (refine step_append_own rfl (.tmp 26) (.tmp 29) 47 rfl w0.heap.size 52 i0 (.agg #[.int .i64 0, .int .i64 0, .string ⟨#[]⟩, .string ⟨#[]⟩]) 4 48 Tryz.underlying47 HI0.out.1 HI0.out.2.1 HI0.out.2.2.1 HI0.out.2.2.2 rfl (by decide) (.slice a0 acc.length c0) acc.length (inssCells acc) (by simp [Act.eval, Act.put]) HO8.out ⟨w7.heap.size, 0, none⟩ 1 1 [.int .i64 (y.op : Int), .int .i64 y.n, .string ⟨y.a.toArray⟩, .string ⟨y.b.toArray⟩] (by simp [Act.eval, Act.put]) rfl HN8.out HN9.out (by unfold maxLen; omega) (by omega) (by have h3 := L8.out.fr.size; simp at h3; simpa using h3) ?_; intro v' w9 hown9 hgrow9; have l9 := L8.out.grown HO8.out hgrow9 (by decide) (set_types HX.out HTc.out); have k9 := l9.cell ix _ HLX.out 7; have f9 := l9.fz ix _ HLX.out 7; simp only [mthA] at k9 f9; have HY9 := hide (HY8.out.trans (Kp.grown HO8.out hgrow9 (by decide))); have A9 := hide (And.intro l9 hown9); obtain ⟨a9, c9, rfl⟩ := own_shapeV hown9; clear l9 hown9 hgrow9) | (go_simp; refine hI.out.mono ?_; rintro e w7 ⟨rfl, hr7, hf7⟩; have l7 := L6.out.drew.call hr7 hf7; have k7 := l7.cell ix _ HLX.out 7; simp only [mthA] at k7; have L8 := hide (l7.below ((Below.refl w7.heap.size w7).alloc (Nat.le_refl _) (.cells #[.int .i64 (y.op : Int), .int .i64 y.n, .string ⟨y.a.toArray⟩, .string ⟨y.b.toArray⟩] 52))); have k8 := L8.out.cell ix _ HLX.out 7; simp only [mthA] at k8; have HO8 := hide ((Kp.trans (Kp.trans (Kp.drew _ _) (Kp.fr L6.out.drew.rd hf7 (by decide))) (Kp.alloc _ w7 (.cells #[.int .i64 (y.op : Int), .int .i64 y.n, .string ⟨y.a.toArray⟩, .string ⟨y.b.toArray⟩] 52))).own HO6.out); have HY8 := hide (HY6.out.trans (Kp.trans (Kp.trans (Kp.drew _ _) (Kp.fr L6.out.drew.rd hf7 (by decide))) (Kp.alloc _ w7 (.cells #[.int .i64 (y.op : Int), .int .i64 y.n, .string ⟨y.a.toArray⟩, .string ⟨y.b.toArray⟩] 52)))); have HN8 := hide (fresh_news w7 #[.int .i64 (y.op : Int), .int .i64 y.n, .string ⟨y.a.toArray⟩, .string ⟨y.b.toArray⟩] 52); have HN9 : Hid (∀ u ∈ ([.int .i64 (y.op : Int), .int .i64 y.n, .string ⟨y.a.toArray⟩, .string ⟨y.b.toArray⟩] : List Value), u.oneCell' = true) := hide (by intro u hu; simp at hu; rcases hu with rfl | rfl | rfl | rfl <;> rfl); clear l7 hr7 hf7))
          all_goals
            have l10 := A9.out.1.setM7 HX.out (.slice a9 (acc.length + 1) c9)
            have hO10 : (w9.setCell ⟨mb, 7, none⟩ (.slice a9 (acc.length + 1) c9)).ownsRow w0.heap.size 52 4 (.slice a9 (acc.length + 1) c9) (acc ++ [y]).length (inssCells (acc ++ [y])) := by
              rw [inssCells_app, List.length_append]
              exact (Kp.set (t := 50) (A9.out.1.bl ix _ HLX.out) (by decide) 7 _).own A9.out.2
            have HY10 := hide (HY9.out.trans (Kp.set (e := 43) (t := 50) (A9.out.1.bl ix _ HLX.out) (by decide) 7 (.slice a9 (acc.length + 1) c9)))
            have kk := l10.cell ix _ (set_get HX.out) 7
            simp only [mthA] at kk
            have L10 := hide l10
            have HO10 := hide hO10
            have KK := hide kk
            clear l10 hO10 kk A9 L8 HO8 HN8 HN9 L6 HO6 hI k6 k7 k8 k9
            go_wp2_with fail
            go_roundw
            case rel => exact ⟨k, acc ++ [y], s7, .slice a9 (acc.length + 1) c9, L10, HO10.out, by simp; omega, HE, HY10⟩
            case measure => rw [KK.out, HK7.out]; simp [lenV]; omega
end Go.Proofs.YtdgfidaopkcjoaaGreatDoor
