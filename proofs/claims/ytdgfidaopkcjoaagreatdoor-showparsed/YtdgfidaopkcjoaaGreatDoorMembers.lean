/- What members answers. -/
import Derived.Test.YtdgfidaopkcjoaaGreatDoorMemBase
namespace Go.Proofs.YtdgfidaopkcjoaaGreatDoor
open Go.RowKit
set_option linter.unusedVariables false
set_option linter.unusedSimpArgs false

theorem mem_go2 {C : Cx} {s z0 : Pp.St} {fs : List Pp.Fld} {ms : List Pp.Mth} {g0 g2 : Bool} (h1 : g0 = Pp.has C.ws s isF) (h2 : false = (g0 && decide (fs.length < 6))) (h3 : z0 = moreS s g0 fs.length 6) (h4 : g2 = Pp.has C.ws z0 isM) (h5 : true = (g2 && decide (ms.length < 6))) :
    Pp.has C.ws s isF = false ∧ s = z0 ∧ Pp.has C.ws s isM = true ∧ ms.length < 6 := by
  have h6 : g2 = true ∧ ms.length < 6 := by simpa using h5.symm
  cases hg : g0 with
  | true =>
    rw [hg] at h2 h3
    have : ¬ fs.length < 6 := by simpa using h2.symm
    rw [moreS, if_pos ⟨rfl, by omega⟩] at h3
    rw [h3, has_fail C s 2 (by decide)] at h4
    rw [h4] at h6; exact absurd h6.1 (by decide)
  | false =>
    rw [hg] at h1 h3
    have h7 : z0 = s := by rw [h3]; simp [moreS]
    rw [h7] at h4
    exact ⟨h1.symm, h7.symm, by rw [← h4]; exact h6.1, h6.2⟩
theorem mem_stop {C : Cx} {s z0 z2 : Pp.St} {fs : List Pp.Fld} {ms : List Pp.Mth} {g0 g2 : Bool} (h1 : g0 = Pp.has C.ws s isF) (h2 : false = (g0 && decide (fs.length < 6))) (h3 : z0 = moreS s g0 fs.length 6) (h4 : g2 = Pp.has C.ws z0 isM) (h5 : false = (g2 && decide (ms.length < 6))) (h6 : z2 = moreS z0 g2 ms.length 6) (k : Nat) :
    (Pp.members k fs ms).run C.ws s = ((fs, ms), z2) := by
  cases hg : g0 with
  | true =>
    rw [hg] at h1 h2 h3
    have hf : ¬ fs.length < 6 := by simpa using h2.symm
    rw [moreS, if_pos ⟨rfl, by omega⟩] at h3
    rw [h3, has_fail C s 2 (by decide)] at h4
    rw [h4, h3] at h6
    rw [mem_ff h1.symm (by omega), h6]; simp [moreS]
  | false =>
    rw [hg] at h1 h3
    have h7 : z0 = s := by rw [h3]; simp [moreS]
    rw [h7] at h4 h6
    cases hg2 : g2 with
    | true =>
      rw [hg2] at h4 h5 h6
      have hf : ¬ ms.length < 6 := by simpa using h5.symm
      rw [moreS, if_pos ⟨rfl, by omega⟩] at h6
      rw [mem_mm h1.symm h4.symm (by omega), h6]
    | false =>
      rw [hg2] at h4 h6
      rw [mem_none h1.symm h4.symm, h6]; simp [moreS]
theorem set_same {Ls : List (Nat × Array Value × TypeId)} {ix : Nat} {x : Nat × Array Value × TypeId} (h : Ls[ix]? = some x) : Ls.set ix x = Ls := by
  apply List.ext_getElem?
  intro i
  rw [List.getElem?_set]
  split
  · rename_i e; subst e; split
    · exact h.symm
    · rw [List.getElem?_eq_none (by omega)]
  · rfl

set_option maxRecDepth 100000 in
set_option maxHeartbeats 16000000 in
theorem members_any {w0 w : World} {b : Nat} {C : Cx} {s : Pp.St} {Ls : List (Nat × Array Value × TypeId)} (l : Lo w0 w b C s Ls) (ix cb : Nat) (n sup : List UInt8) (ic : Bool) (vi : Value)
    (hx : Ls[ix]? = some (cb, clsA n ic sup vi (.slice none 0 0) (.slice none 0 0), 41)) (hTf : ∀ (i : Nat) x, Ls[i]? = some x → x.2.2 ≠ 45) (hTm : ∀ (i : Nat) x, Ls[i]? = some x → x.2.2 ≠ 50) :
    Calls Tryz.prog 39 #[.pointer (some ⟨b, 0, none⟩), .pointer (some ⟨cb, 0, none⟩)] w fun e w' => ∃ vf vm, e = .returned (.tuple #[]) ∧
      Lo w0 w' b C ((Pp.members 12 [] []).run C.ws s).2 (Ls.set ix (cb, clsA n ic sup vi vf vm, 41)) ∧ MemRows w w' w0.heap.size ((Pp.members 12 [] []).run C.ws s).1.1 ((Pp.members 12 [] []).run C.ws s).1.2 vf vm := by
  obtain ⟨V, S, hVS⟩ := pair_eta ((Pp.members 12 [] []).run C.ws s)
  rw [hVS]
  have HR0 := hide hVS
  clear hVS
  show Calls _ _ _ _ fun e w' => ∃ vf vm, e = .returned (.tuple #[]) ∧ Lo w0 w' b C S (Ls.set ix (cb, clsA n ic sup vi vf vm, 41)) ∧ MemRows w w' w0.heap.size V.1 V.2 vf vm
  have HX := hide hx
  have HTf := hide hTf
  have HTm := hide hTm
  have LA : Hid (Lo w0 w b C s (Ls.set ix (cb, clsA n ic sup vi (.slice none 0 0) (.slice none 0 0), 41))) := hide (by rw [show Ls.set ix (cb, clsA n ic sup vi (.slice none 0 0) (.slice none 0 0), 41) = Ls from set_same hx]; exact l)
  have MA : Hid (MemRows w w w0.heap.size [] [] (.slice none 0 0) (.slice none 0 0)) := hide ⟨[], World.ownsRow_nil _ _ _ _, World.ownsRow_nil _ _ _ _, rfl, Kp.refl _ _⟩
  clear l hx hTf hTm
  go_enter Tryz.func39, Tryz.ntmps39
  go_wp2_with fail
  go_loopw [] (fun wr => ∃ (k : Nat) (fs : List Pp.Fld) (ms : List Pp.Mth) (s' : Pp.St) (vf vm : Value), Hid (Lo w0 wr b C s' (Ls.set ix (cb, clsA n ic sup vi vf vm, 41))) ∧ Hid (MemRows w wr w0.heap.size fs ms vf vm) ∧ fs.length ≤ 6 ∧ ms.length ≤ 6 ∧ fs.length + ms.length + k = 12 ∧ Hid ((Pp.members k fs ms).run C.ws s' = (V, S)))
    (fun wr => 12 - (lenV ((wr.cell? ⟨cb, 4, none⟩).getD undef) + lenV ((wr.cell? ⟨cb, 5, none⟩).getD undef)))
  case atStart => exact ⟨12, [], [], s, .slice none 0 0, .slice none 0 0, LA, MA, by simp, by simp, by simp, HR0⟩
  case round =>
    obtain ⟨k, fs, ms, s', vf, vm, hl, hm, hfl, hml, hlen, HR⟩ := hrel
    clear LA MA HR0
    obtain ⟨fa, fc, rfl⟩ := hm.out.vf
    obtain ⟨ma, mc, rfl⟩ := hm.out.vm
    have HK4 := hide (hl.out.cell ix _ (set_get HX.out) 4)
    have HK5 := hide (hl.out.cell ix _ (set_get HX.out) 5)
    simp only [clsA] at HK4 HK5
    have hB0 := hide (sees_two hl.out.drew.rd Pp.wField Pp.wStatic (by decide) (by decide) 9)
    obtain ⟨g0, hg0⟩ : ∃ g, g = Pp.has C.ws s' isF := ⟨_, rfl⟩
    rw [← hg0] at hB0
    have HG0 := hide hg0
    clear hg0
    obtain ⟨B0, hBB0⟩ : ∃ B, B = (g0 && decide (fs.length < 6)) := ⟨_, rfl⟩
    have HB0 := hide hBB0
    clear hBB0
    obtain ⟨z0, hz0⟩ : ∃ z, z = moreS s' g0 fs.length 6 := ⟨_, rfl⟩
    have HZ0 := hide hz0
    clear hz0
    unfold Pp.wField Pp.wStatic at hB0
    have HLX0 := hide (set_get (y := (cb, clsA n ic sup vi (.slice fa fs.length fc) (.slice ma ms.length mc), 41)) HX.out)
    have k0 := hl.out.cell ix _ HLX0.out 4
    have ka0 := (hl.out.drew.below ((Below.refl _ _).alloc (Nat.le_refl _) (.cells #[.string ⟨#[102, 105, 101, 108, 100]⟩, .string ⟨#[115, 116, 97, 116, 105, 99]⟩] 9))).cell ix _ HLX0.out 4
    simp only [clsA] at k0 ka0
    have hmb0 : cb < wr.heap.size := lt_of_block (hl.out.bl ix _ HLX0.out)
    have hmn0 : ¬ cb = wr.heap.size := by omega
    go_wp2_with fail
    rename_i K0 hK0
    have hcut0 : ∀ (t5 t6 t7 t8 t9 t10 t11 t12 t13 t14 t15 t16 t17 t18 t19 t20 t21 t22 t23 t24 t25 t26 t27 t28 t29 t30 t31 t32 t33 t34 t35 t36 t37 t38 t39 t40 t41 t42 t43 t44 t45 t46 t47 : Value) (wx : World), (Hid (Lo w0 wx b C z0 (Ls.set ix (cb, clsA n ic sup vi (.slice fa fs.length fc) (.slice ma ms.length mc), 41))) ∧ Hid (MemRows w wx w0.heap.size fs ms (.slice fa fs.length fc) (.slice ma ms.length mc))) → K0 { tmps := #[.pointer (some ⟨b, 0, none⟩), .pointer (some ⟨cb, 0, none⟩), undef, undef, .bool B0, t5, t6, t7, t8, t9, t10, t11, t12, t13, t14, t15, t16, t17, t18, t19, t20, t21, t22, t23, t24, t25, t26, t27, t28, t29, t30, t31, t32, t33, t34, t35, t36, t37, t38, t39, t40, t41, t42, t43, t44, t45, t46, t47], defers := [] } wx := by
      intro t5 t6 t7 t8 t9 t10 t11 t12 t13 t14 t15 t16 t17 t18 t19 t20 t21 t22 t23 t24 t25 t26 t27 t28 t29 t30 t31 t32 t33 t34 t35 t36 t37 t38 t39 t40 t41 t42 t43 t44 t45 t46 t47 wx hcut
      obtain ⟨LX0, RX0⟩ := hcut
      refine hK0 _ _ ?_
      clear hK0 hB0 k0 ka0 hmb0 hmn0 hl hm
      cases hB0 : B0 with
      | true =>
        rw [hB0] at HB0
        obtain ⟨e1, e2⟩ : g0 = true ∧ fs.length < 6 := by have := HB0.out; simp at this; exact this
        have e3 : Pp.has C.ws s' isF = true := by rw [← HG0.out]; exact e1
        have e5 : z0 = s' := by rw [HZ0.out]; simp [moreS, show ¬ 6 ≤ fs.length by omega]
        subst e5
        obtain ⟨k, rfl⟩ : ∃ k', k = k' + 1 := ⟨k - 1, by omega⟩
        have HE : Hid ((Pp.members k (fs ++ [(Pp.field.run C.ws z0).1]) ms).run C.ws (Pp.field.run C.ws z0).2 = (V, S)) := hide (by rw [← HR.out, mem_f e3 e2])
        clear HR HB0 HZ0 HG0
        have L6 := LX0
        have R6 := RX0
        clear LX0 RX0
        have HLX := hide (set_get (y := (cb, clsA n ic sup vi (.slice fa fs.length fc) (.slice ma ms.length mc), 41)) HX.out)
        have hI := hide (field_any L6.out.drew.rd)
        obtain ⟨y, s7, h7⟩ := pair_eta (Pp.field.run C.ws z0)
        rw [h7] at hI HE
        simp only [fldV] at hI HE
        clear h7
        have k6 := L6.out.drew.cell ix _ HLX.out 4
        simp only [clsA] at k6
        obtain ⟨i0, hi, hz0, hz1, hz2⟩ := info_parts Tryz.info45
        have HI0 := hide (And.intro hi (And.intro hz0 (And.intro hz1 hz2)))
        clear hi hz0 hz1 hz2
        obtain ⟨xs, hR6⟩ := R6.out
        have RO6 := hide hR6
        clear hR6 R6
        go_wp2_with fail
        go_region_law (first | (refine step_append_own rfl (.tmp 19) (.tmp 22) 38 rfl w0.heap.size 45 i0 (.agg #[.string ⟨#[]⟩, .int .i64 0, .string ⟨#[]⟩, .bool false]) 4 48 Tryz.underlying38 HI0.out.1 HI0.out.2.1 HI0.out.2.2.1 HI0.out.2.2.2 rfl (by decide) (.slice fa fs.length fc) fs.length (fldsCells fs) (by simp [Act.eval, Act.put]) RO8.out.1 ⟨w7.heap.size, 0, none⟩ 1 1 [.string ⟨y.name.toArray⟩, .int .i64 y.ty.kind, .string ⟨y.ty.name.toArray⟩, .bool y.stat] (by simp [Act.eval, Act.put]) rfl HN8.out HN9.out (by unfold maxLen; omega) (by omega) (by have h3 := L8.out.fr.size; simp at h3; simpa using h3) ?_; intro v' w9 hown9 hgrow9; have l9 := L8.out.grown RO8.out.1 hgrow9 (by decide) (set_types HX.out HTf.out); have k9 := l9.cell ix _ HLX.out 4; have f9 := l9.fz ix _ HLX.out 4; simp only [clsA] at k9 f9; have m9 := (show MemRows w _ w0.heap.size fs ms _ _ from ⟨_, RO8.out⟩).addF (y := y) hgrow9 hown9; obtain ⟨a9, c9, rfl⟩ := own_shapeV hown9; have A9 := hide (And.intro l9 m9); clear l9 hown9 hgrow9 m9) | (go_simp; refine hI.out.mono ?_; rintro e w7 ⟨rfl, hr7, hf7⟩; have l7 := L6.out.drew.call hr7 hf7; have k7 := l7.cell ix _ HLX.out 4; simp only [clsA] at k7; have L8 := hide (l7.below ((Below.refl w7.heap.size w7).alloc (Nat.le_refl _) (.cells #[.string ⟨y.name.toArray⟩, .int .i64 y.ty.kind, .string ⟨y.ty.name.toArray⟩, .bool y.stat] 45))); have k8 := L8.out.cell ix _ HLX.out 4; simp only [clsA] at k8; have KA := KpA.trans (KpA.trans (KpA.drew _) (KpA.fr L6.out.drew.rd hf7)) (KpA.alloc w7 (.cells #[.string ⟨y.name.toArray⟩, .int .i64 y.ty.kind, .string ⟨y.ty.name.toArray⟩, .bool y.stat] 45)); have RO8 := hide (And.intro (KA.fld.own RO6.out.1) (And.intro (KA.mth.own RO6.out.2.1) (And.intro (RO6.out.2.2.1.keep KA.ty KA.ins KA.ctc) (RO6.out.2.2.2.trans KA.str)))); have HN8 := hide (fresh_news w7 #[.string ⟨y.name.toArray⟩, .int .i64 y.ty.kind, .string ⟨y.ty.name.toArray⟩, .bool y.stat] 45); have HN9 : Hid (∀ u ∈ ([.string ⟨y.name.toArray⟩, .int .i64 y.ty.kind, .string ⟨y.ty.name.toArray⟩, .bool y.stat] : List Value), u.oneCell' = true) := hide (by intro u hu; simp at hu; rcases hu with rfl | rfl | rfl | rfl <;> rfl); clear l7 hr7 hf7 KA))
        all_goals
          have HLe := hide (A9.out.1.bl ix _ HLX.out)
          have kw := A9.out.1.cell ix _ HLX.out 5
          simp only [clsA] at kw
          have m10 := A9.out.2.keep (KpA.set HLe.out 4 (.slice a9 (fs.length + 1) c9))
          have l10 := A9.out.1.setC4 HX.out (.slice a9 (fs.length + 1) c9)
          have kk5 := l10.cell ix _ (set_get HX.out) 5
          have kk4 := l10.cell ix _ (set_get HX.out) 4
          simp only [clsA] at kk4 kk5
          have L10 := hide l10
          have M10 := hide m10
          have KK := hide (And.intro kk4 (And.intro kk5 kw))
          clear l10 m10 kk4 kk5 kw A9 L8 HN8 HN9 L6 hI k6 k7 k8 k9 RO6 RO8 HLe
          go_wp2_with fail
          go_roundw
          case rel => exact ⟨k, fs ++ [y], ms, s7, .slice a9 (fs.length + 1) c9, .slice ma ms.length mc, L10, M10, by first | omega | (simp; omega), by first | omega | (simp; omega), by simp; omega, HE⟩
          case measure => (first | rw [KK.out.1, KK.out.2.1, HK4.out, HK5.out] | rw [KK.out.1, KK.out.2.2, HK4.out, HK5.out] | rw [KK.out.2.1, KK.out.2.2, HK4.out, HK5.out]); simp [lenV]; omega
      | false =>
        rw [hB0] at HB0
        have hB2 := hide (sees_two LX0.out.drew.rd Pp.wMethod Pp.wFunction (by decide) (by decide) 9)
        obtain ⟨g2, hg2⟩ : ∃ g, g = Pp.has C.ws z0 isM := ⟨_, rfl⟩
        rw [← hg2] at hB2
        have HG2 := hide hg2
        clear hg2
        obtain ⟨B2, hBB2⟩ : ∃ B, B = (g2 && decide (ms.length < 6)) := ⟨_, rfl⟩
        have HB2 := hide hBB2
        clear hBB2
        obtain ⟨z2, hz2⟩ : ∃ z, z = moreS z0 g2 ms.length 6 := ⟨_, rfl⟩
        have HZ2 := hide hz2
        clear hz2
        unfold Pp.wMethod Pp.wFunction at hB2
        have HLX2 := hide (set_get (y := (cb, clsA n ic sup vi (.slice fa fs.length fc) (.slice ma ms.length mc), 41)) HX.out)
        have k2 := LX0.out.cell ix _ HLX2.out 5
        have ka2 := (LX0.out.drew.below ((Below.refl _ _).alloc (Nat.le_refl _) (.cells #[.string ⟨#[109, 101, 116, 104, 111, 100]⟩, .string ⟨#[102, 117, 110, 99, 116, 105, 111, 110]⟩] 9))).cell ix _ HLX2.out 5
        simp only [clsA] at k2 ka2
        have hmb2 : cb < wx.heap.size := lt_of_block (LX0.out.bl ix _ HLX2.out)
        have hmn2 : ¬ cb = wx.heap.size := by omega
        go_wp2_with fail
        rename_i K2 hK2
        have hcut2 : ∀ (t5 t6 t7 t8 t9 t10 t11 t12 t13 t14 t15 t16 t17 t18 t19 t20 t21 t22 t23 t24 t25 t27 t28 t29 t30 t31 t32 t33 t34 t35 t36 t37 t38 t39 t40 t41 t42 t43 t44 t45 t46 t47 : Value) (wx : World), (Hid (Lo w0 wx b C z2 (Ls.set ix (cb, clsA n ic sup vi (.slice fa fs.length fc) (.slice ma ms.length mc), 41))) ∧ Hid (MemRows w wx w0.heap.size fs ms (.slice fa fs.length fc) (.slice ma ms.length mc))) → K2 { tmps := #[.pointer (some ⟨b, 0, none⟩), .pointer (some ⟨cb, 0, none⟩), undef, undef, .bool false, t5, t6, t7, t8, t9, t10, t11, t12, t13, t14, t15, t16, t17, t18, t19, t20, t21, t22, t23, t24, t25, .bool B2, t27, t28, t29, t30, t31, t32, t33, t34, t35, t36, t37, t38, t39, t40, t41, t42, t43, t44, t45, t46, t47], defers := [] } wx := by
          intro t5 t6 t7 t8 t9 t10 t11 t12 t13 t14 t15 t16 t17 t18 t19 t20 t21 t22 t23 t24 t25 t27 t28 t29 t30 t31 t32 t33 t34 t35 t36 t37 t38 t39 t40 t41 t42 t43 t44 t45 t46 t47 wx hcut
          obtain ⟨LX2, RX2⟩ := hcut
          refine hK2 _ _ ?_
          clear hK2 hB2 k2 ka2 hmb2 hmn2 LX0 RX0
          cases hB2 : B2 with
          | true =>
            rw [hB2] at HB2
            obtain ⟨e1, e2, e3, e4⟩ := mem_go2 HG0.out HB0.out HZ0.out HG2.out HB2.out
            have e2 := e2.symm
            subst e2
            have e5 : z2 = z0 := by rw [HZ2.out]; simp [moreS, show ¬ 6 ≤ ms.length by omega]
            subst e5
            obtain ⟨k, rfl⟩ : ∃ k', k = k' + 1 := ⟨k - 1, by omega⟩
            have HE : Hid ((Pp.members k fs (ms ++ [(Pp.method.run C.ws z2).1])).run C.ws (Pp.method.run C.ws z2).2 = (V, S)) := hide (by rw [← HR.out, mem_m e1 e3 e4])
            clear HR HB0 HB2 HZ0 HZ2 HG0 HG2
            have L6 := LX2
            have R6 := RX2
            clear LX2 RX2
            have HLX := hide (set_get (y := (cb, clsA n ic sup vi (.slice fa fs.length fc) (.slice ma ms.length mc), 41)) HX.out)
            have hI := hide (method_any L6.out.drew.rd)
            obtain ⟨y, s7, h7⟩ := pair_eta (Pp.method.run C.ws z2)
            rw [h7] at hI HE
            simp only [mthA] at hI HE
            clear h7
            have k6 := L6.out.drew.cell ix _ HLX.out 5
            simp only [clsA] at k6
            obtain ⟨i0, hi, hz0, hz1, hz2⟩ := info_parts Tryz.info50
            have HI0 := hide (And.intro hi (And.intro hz0 (And.intro hz1 hz2)))
            clear hi hz0 hz1 hz2
            obtain ⟨xs, hR6⟩ := R6.out
            have RO6 := hide hR6
            clear hR6 R6
            go_wp2_with fail
            go_region_law (first | (refine step_append_own rfl (.tmp 41) (.tmp 44) 39 rfl w0.heap.size 50 i0 (.agg #[.string ⟨#[]⟩, .bool false, .bool false, .slice none 0 0, .int .i64 0, .string ⟨#[]⟩, .int .i64 0, .slice none 0 0, .slice none 0 0]) 9 128 Tryz.underlying39 HI0.out.1 HI0.out.2.1 HI0.out.2.2.1 HI0.out.2.2.2 rfl (by decide) (.slice ma ms.length mc) ms.length xs (by simp [Act.eval, Act.put]) RO8.out.2.1 ⟨w7.heap.size, 0, none⟩ 1 1 [.string ⟨y.name.toArray⟩, .bool y.stat, .bool y.abst, .slice pa y.params.length pc, .int .i64 y.ret.kind, .string ⟨y.ret.name.toArray⟩, .int .i64 y.locals, .slice ia y.code.length ic2, .slice ka2 y.catches.length kc2] (by simp [Act.eval, Act.put]) rfl HN8.out HN9.out (by unfold maxLen; omega) (by omega) (by have h3 := L8.out.fr.size; simp at h3; simpa using h3) ?_; intro v' w9 hown9 hgrow9; have l9 := L8.out.grown RO8.out.2.1 hgrow9 (by decide) (set_types HX.out HTm.out); have k9 := l9.cell ix _ HLX.out 5; have f9 := l9.fz ix _ HLX.out 5; simp only [clsA] at k9 f9; have m9 := MemRows.addM (w := w) (y := y) RO8.out.1 RO8.out.2.1 RO8.out.2.2.1 RO8.out.2.2.2 HM8.out hgrow9 hown9; obtain ⟨a9, c9, rfl⟩ := own_shapeV hown9; have A9 := hide (And.intro l9 m9); clear l9 hown9 hgrow9 m9) | (go_simp; refine hI.out.mono ?_; rintro e w7 ⟨vp, vc, vk, rfl, hm7, hr7, hf7⟩; obtain ⟨pa, pc, rfl⟩ := own_shapeV hm7.1; obtain ⟨ia, ic2, rfl⟩ := own_shapeV hm7.2.1; obtain ⟨ka2, kc2, rfl⟩ := own_shapeV hm7.2.2; have HM8 := hide ((MthRows.base hm7 (Nat.le_trans L6.out.fr.size (Nat.le_refl _))).keep (KpA.alloc w7 (.cells #[.string ⟨y.name.toArray⟩, .bool y.stat, .bool y.abst, .slice pa y.params.length pc, .int .i64 y.ret.kind, .string ⟨y.ret.name.toArray⟩, .int .i64 y.locals, .slice ia y.code.length ic2, .slice ka2 y.catches.length kc2] 50)).ty (KpA.alloc w7 (.cells #[.string ⟨y.name.toArray⟩, .bool y.stat, .bool y.abst, .slice pa y.params.length pc, .int .i64 y.ret.kind, .string ⟨y.ret.name.toArray⟩, .int .i64 y.locals, .slice ia y.code.length ic2, .slice ka2 y.catches.length kc2] 50)).ins (KpA.alloc w7 (.cells #[.string ⟨y.name.toArray⟩, .bool y.stat, .bool y.abst, .slice pa y.params.length pc, .int .i64 y.ret.kind, .string ⟨y.ret.name.toArray⟩, .int .i64 y.locals, .slice ia y.code.length ic2, .slice ka2 y.catches.length kc2] 50)).ctc); clear hm7; have l7 := L6.out.drew.call hr7 hf7; have k7 := l7.cell ix _ HLX.out 5; simp only [clsA] at k7; have L8 := hide (l7.below ((Below.refl w7.heap.size w7).alloc (Nat.le_refl _) (.cells #[.string ⟨y.name.toArray⟩, .bool y.stat, .bool y.abst, .slice pa y.params.length pc, .int .i64 y.ret.kind, .string ⟨y.ret.name.toArray⟩, .int .i64 y.locals, .slice ia y.code.length ic2, .slice ka2 y.catches.length kc2] 50))); have k8 := L8.out.cell ix _ HLX.out 5; simp only [clsA] at k8; have KA := KpA.trans (KpA.trans (KpA.drew _) (KpA.fr L6.out.drew.rd hf7)) (KpA.alloc w7 (.cells #[.string ⟨y.name.toArray⟩, .bool y.stat, .bool y.abst, .slice pa y.params.length pc, .int .i64 y.ret.kind, .string ⟨y.ret.name.toArray⟩, .int .i64 y.locals, .slice ia y.code.length ic2, .slice ka2 y.catches.length kc2] 50)); have RO8 := hide (And.intro (KA.fld.own RO6.out.1) (And.intro (KA.mth.own RO6.out.2.1) (And.intro (RO6.out.2.2.1.keep KA.ty KA.ins KA.ctc) (RO6.out.2.2.2.trans KA.str)))); have HN8 := hide (fresh_news w7 #[.string ⟨y.name.toArray⟩, .bool y.stat, .bool y.abst, .slice pa y.params.length pc, .int .i64 y.ret.kind, .string ⟨y.ret.name.toArray⟩, .int .i64 y.locals, .slice ia y.code.length ic2, .slice ka2 y.catches.length kc2] 50); have HN9 : Hid (∀ u ∈ ([.string ⟨y.name.toArray⟩, .bool y.stat, .bool y.abst, .slice pa y.params.length pc, .int .i64 y.ret.kind, .string ⟨y.ret.name.toArray⟩, .int .i64 y.locals, .slice ia y.code.length ic2, .slice ka2 y.catches.length kc2] : List Value), u.oneCell' = true) := hide (by intro u hu; simp at hu; rcases hu with rfl | rfl | rfl | rfl | rfl | rfl | rfl | rfl | rfl <;> rfl); clear l7 hr7 hf7 KA))
            all_goals
              have HLe := hide (A9.out.1.bl ix _ HLX.out)
              have kw := A9.out.1.cell ix _ HLX.out 4
              simp only [clsA] at kw
              have m10 := A9.out.2.keep (KpA.set HLe.out 5 (.slice a9 (ms.length + 1) c9))
              have l10 := A9.out.1.setC5 HX.out (.slice a9 (ms.length + 1) c9)
              have kk5 := l10.cell ix _ (set_get HX.out) 5
              have kk4 := l10.cell ix _ (set_get HX.out) 4
              simp only [clsA] at kk4 kk5
              have L10 := hide l10
              have M10 := hide m10
              have KK := hide (And.intro kk4 (And.intro kk5 kw))
              clear l10 m10 kk4 kk5 kw A9 L8 HN8 HN9 L6 hI k6 k7 k8 k9 RO6 RO8 HLe HM8
              go_wp2_with fail
              go_roundw
              case rel => exact ⟨k, fs, ms ++ [y], s7, .slice fa fs.length fc, .slice a9 (ms.length + 1) c9, L10, M10, by first | omega | (simp; omega), by first | omega | (simp; omega), by simp; omega, HE⟩
              case measure => (first | rw [KK.out.1, KK.out.2.1, HK4.out, HK5.out] | rw [KK.out.1, KK.out.2.2, HK4.out, HK5.out] | rw [KK.out.2.1, KK.out.2.2, HK4.out, HK5.out]); simp [lenV]; omega
          | false =>
            rw [hB2] at HB2
            have HE : Hid (((fs, ms), z2) = (V, S)) := hide (by rw [← HR.out, mem_stop HG0.out HB0.out HZ0.out HG2.out HB2.out HZ2.out k])
            clear HR HB0 HB2 HZ0 HZ2 HG0 HG2
            go_wp2_with fail
            refine bodyPost_ret (v := .tuple #[]) (by simp [results, Tryz.results39, go_sem]) rfl ⟨.slice fa fs.length fc, .slice ma ms.length mc, rfl, ?_⟩
            rw [← (Prod.mk.inj HE.out).1, ← (Prod.mk.inj HE.out).2]
            exact ⟨LX2.out, RX2.out⟩
        have HCUT2 := hide hcut2
        clear hcut2 hK2
        go_region_with (first | (go_at_call 16; refine hB2.out.mono ?_; rintro e w5 ⟨rfl, hb5⟩; have l5 := LX0.out.drew.below hb5; have k5 := l5.cell ix _ HLX2.out 5; simp only [clsA] at k5; have L5 := hide l5; have R5 := hide (RX0.out.keep (KpA.trans (KpA.drew _) (KpA.below hb5))); clear l5 hb5) | (go_at_call 15; refine (more_any L5.out.rd g2 ms.length 6).mono ?_; rw [← HB2.out, ← HZ2.out]; rintro e w6 ⟨rfl, hr6, hf6⟩; have A6 := hide (And.intro hr6 hf6); clear hr6 hf6))
        all_goals
          have L6 := hide (L5.out.call A6.out.1 A6.out.2)
          have R6 := hide (R5.out.keep (KpA.fr L5.out.rd A6.out.2))
          clear A6 R5 L5 hB2 k5 k2 ka2 hmb2 hmn2 LX0 RX0
          go_wp2_with fail
          exact HCUT2.out _ _ _ _ _ _ _ _ _ _ _ _ _ _ _ _ _ _ _ _ _ _ _ _ _ _ _ _ _ _ _ _ _ _ _ _ _ _ _ _ _ _ _ ⟨L6, R6⟩
    have HCUT0 := hide hcut0
    clear hcut0 hK0
    go_region_with (first | (go_at_call 16; refine hB0.out.mono ?_; rintro e w5 ⟨rfl, hb5⟩; have l5 := hl.out.drew.below hb5; have k5 := l5.cell ix _ HLX0.out 4; simp only [clsA] at k5; have L5 := hide l5; have R5 := hide (hm.out.keep (KpA.trans (KpA.drew _) (KpA.below hb5))); clear l5 hb5) | (go_at_call 15; refine (more_any L5.out.rd g0 fs.length 6).mono ?_; rw [← HB0.out, ← HZ0.out]; rintro e w6 ⟨rfl, hr6, hf6⟩; have A6 := hide (And.intro hr6 hf6); clear hr6 hf6))
    all_goals
      have L6 := hide (L5.out.call A6.out.1 A6.out.2)
      have R6 := hide (R5.out.keep (KpA.fr L5.out.rd A6.out.2))
      clear A6 R5 L5 hB0 k5 k0 ka0 hmb0 hmn0 hl hm
      go_wp2_with fail
      exact HCUT0.out _ _ _ _ _ _ _ _ _ _ _ _ _ _ _ _ _ _ _ _ _ _ _ _ _ _ _ _ _ _ _ _ _ _ _ _ _ _ _ _ _ _ _ _ ⟨L6, R6⟩
end Go.Proofs.YtdgfidaopkcjoaaGreatDoor
