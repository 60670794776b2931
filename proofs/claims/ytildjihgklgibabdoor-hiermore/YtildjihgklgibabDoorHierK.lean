/- What copyClass answers. -/
import Derived.Test.YtildjihgklgibabDoorHierJ
import Derived.Deep.RegionLaw
namespace Go.Proofs.YtildjihgklgibabDoor
open Go.RowKit
set_option linter.unusedVariables false
set_option linter.unusedSimpArgs false

set_option maxRecDepth 100000 in
set_option maxHeartbeats 16000000 in
theorem copyClass_any (m : Pp.XCls) (ys : List Value) (w : World) (h : ClsX w m ys) (hl : Pp.LtC m) :
    Calls Tryd.prog 33 #[.agg ys.toArray] w fun e w' => ∃ ys', e = .returned (.agg ys'.toArray) ∧ Ow.ClsO w' w.heap.size m ys' ∧ Below w.heap.size w w' := by
  obtain ⟨vp, vc, vk, rfl, p1, i1, k1, z1⟩ := h
  have HZ := hide z1
  have HL := hide hl.1
  have HLm := hide hl.2.2.2
  have HA := hide (fun w' (hb : Below w.heap.size w w') => cpy_str m.ifaces vp w' (p1.on hb fun _ _ h => h) (by have := hl.1.2.2.1; omega))
  have HF := hide (fun w' (hb : Below w.heap.size w w') => cpy_fld m.fields vc w' (i1.on hb fun _ _ h => h) (by have := hl.1.1; omega))
  have HM := hide (fun w' (hb : Below w.heap.size w w') => cpy_mth w m.methods vk w' (k1.on hb fun _ _ h => h) (by have := hl.1.2.1; omega))
  obtain ⟨pa, pc, rfl, _⟩ := p1.len
  obtain ⟨ia, ic, rfl, _⟩ := i1.len
  obtain ⟨ka, kc, rfl, _⟩ := k1.len
  clear p1 i1 k1 z1 hl
  simp only [clsXL]
  go_enter Tryd.func33, Tryd.ntmps33
  go_wp2_with fail
  have hx0 := Ow.blk_alloc2a w (.cells #[.string ⟨m.name.toArray⟩, .bool m.iface, .string ⟨m.super.toArray⟩, .slice pa m.ifaces.length pc, .slice ia m.fields.length ic, .slice ka m.methods.length kc] 34) (.cells #[.string ⟨#[]⟩, .bool false, .string ⟨#[]⟩, .slice none 0 0, .slice none 0 0, .slice none 0 0] 34)
  have hx1 := Ow.blk_alloc2b w (.cells #[.string ⟨m.name.toArray⟩, .bool m.iface, .string ⟨m.super.toArray⟩, .slice pa m.ifaces.length pc, .slice ia m.fields.length ic, .slice ka m.methods.length kc] 34) (.cells #[.string ⟨#[]⟩, .bool false, .string ⟨#[]⟩, .slice none 0 0, .slice none 0 0, .slice none 0 0] 34)
  have HB0 := hide (Ow.bel_alloc2 w (.cells #[.string ⟨m.name.toArray⟩, .bool m.iface, .string ⟨m.super.toArray⟩, .slice pa m.ifaces.length pc, .slice ia m.fields.length ic, .slice ka m.methods.length kc] 34) (.cells #[.string ⟨#[]⟩, .bool false, .string ⟨#[]⟩, .slice none 0 0, .slice none 0 0, .slice none 0 0] 34))
  generalize (w.alloc (.cells #[.string ⟨m.name.toArray⟩, .bool m.iface, .string ⟨m.super.toArray⟩, .slice pa m.ifaces.length pc, .slice ia m.fields.length ic, .slice ka m.methods.length kc] 34)).alloc (.cells #[.string ⟨#[]⟩, .bool false, .string ⟨#[]⟩, .slice none 0 0, .slice none 0 0, .slice none 0 0] 34) = w0 at *
  have HC : Hid (∀ wx, Below w0.heap.size w0 wx → wx.heap[w.heap.size]? = some (.cells #[.string ⟨m.name.toArray⟩, .bool m.iface, .string ⟨m.super.toArray⟩, .slice pa m.ifaces.length pc, .slice ia m.fields.length ic, .slice ka m.methods.length kc] 34 (0, 0)) ∧ wx.heap[w.heap.size + 1]? = some (.cells #[.string ⟨#[]⟩, .bool false, .string ⟨#[]⟩, .slice none 0 0, .slice none 0 0, .slice none 0 0] 34 (0, 0))) := hide fun wx hb => ⟨(hb.block w.heap.size (Ow.lt_of_blk hx0)).trans hx0, (hb.block (w.heap.size + 1) (Ow.lt_of_blk hx1)).trans hx1⟩
  have HD : Hid (Below w0.heap.size w0 w0.drew) := hide (Below.drew (Below.refl _ _))
  have hs1 : w.heap.size + 1 < w0.heap.size := Ow.lt_of_blk hx1
  clear hx0 hx1
  have c3 : w0.cell? ⟨w.heap.size, 3, none⟩ = some (.slice pa m.ifaces.length pc) := cell_box (HC.out w0 (Below.refl _ _)).1 3
  have c4 : w0.cell? ⟨w.heap.size, 4, none⟩ = some (.slice ia m.fields.length ic) := cell_box (HC.out w0 (Below.refl _ _)).1 4
  have c5 : w0.cell? ⟨w.heap.size, 5, none⟩ = some (.slice ka m.methods.length kc) := cell_box (HC.out w0 (Below.refl _ _)).1 5
  rename_i K hK
  have hcut : ∀ (t0 t3 t4 t5 t6 t7 t8 t9 t10 t11 t12 t13 t14 t15 t16 t17 t18 t19 t20 t21 t22 t23 t24 t25 t26 t27 t28 t29 t30 t31 t32 t33 t34 t35 t36 t37 t38 t39 t40 t41 t42 t43 : Value) (wx : World), (∃ a5 n5 a6 n6 a7 n7, Hid (Below w.heap.size w wx) ∧ Hid (wx.heap[w.heap.size]? = some (.cells #[.string ⟨m.name.toArray⟩, .bool m.iface, .string ⟨m.super.toArray⟩, .slice a5 m.ifaces.length n5, .slice a6 m.fields.length n6, .slice a7 m.methods.length n7] 34 (0, 0))) ∧ Hid (wx.heap[w.heap.size + 1]? = some (.cells #[.string ⟨#[]⟩, .bool false, .string ⟨#[]⟩, .slice none 0 0, .slice none 0 0, .slice none 0 0] 34 (0, 0))) ∧ Hid (Ow.OwnX wx w.heap.size 9 1 StrX (.slice a5 m.ifaces.length n5) m.ifaces) ∧ Hid (Ow.OwnX wx w.heap.size 45 4 FldX (.slice a6 m.fields.length n6) m.fields) ∧ Hid (Ow.OwnX wx w.heap.size 50 9 (MthX w) (.slice a7 m.methods.length n7) m.methods)) → K { tmps := #[t0, .pointer (some ⟨w.heap.size, 0, none⟩), .pointer (some ⟨w.heap.size + 1, 0, none⟩), t3, t4, t5, t6, t7, t8, t9, t10, t11, t12, t13, t14, t15, t16, t17, t18, t19, t20, t21, t22, t23, t24, t25, t26, t27, t28, t29, t30, t31, t32, t33, t34, t35, t36, t37, t38, t39, t40, t41, t42, t43], defers := [] } wx := by
    intro t0 t3 t4 t5 t6 t7 t8 t9 t10 t11 t12 t13 t14 t15 t16 t17 t18 t19 t20 t21 t22 t23 t24 t25 t26 t27 t28 t29 t30 t31 t32 t33 t34 t35 t36 t37 t38 t39 t40 t41 t42 t43 wx hrel
    refine hK _ _ ?_
    clear hK HA HF HM HB0
    obtain ⟨a5, n5, a6, n6, a7, n7, HBx, HCx, HZx, HOa, HOf, HOm⟩ := hrel
    have hl14 : m.methods.length ≤ 14 := HL.out.2.1
    have HOb : Hid (Ow.OwnX wx w.heap.size 50 9 (Ow.MthB wx w w.heap.size) (.slice a7 m.methods.length n7) (Ow.flags m.methods 0)) := hide (by
      have h1 := HOm.out.map (Q := Ow.MthB wx w w.heap.size) (fun m => (false, m)) (fun x ys h => by unfold Ow.MthB; exact h)
      unfold Ow.flags
      simpa using h1)
    clear HOm
    have q5 := cell_box HCx.out 5
    go_wp2_with fail
    clear q5
    go_loopw [20] (fun i wr => ∃ k : Nat, k ≤ m.methods.length ∧ i = .int .i64 k ∧ Hid (Below w.heap.size w wr) ∧ Hid (wr.heap[w.heap.size]? = some (.cells #[.string ⟨m.name.toArray⟩, .bool m.iface, .string ⟨m.super.toArray⟩, .slice a5 m.ifaces.length n5, .slice a6 m.fields.length n6, .slice a7 m.methods.length n7] 34 (0, 0))) ∧ Hid (wr.heap[w.heap.size + 1]? = some (.cells #[.string ⟨#[]⟩, .bool false, .string ⟨#[]⟩, .slice none 0 0, .slice none 0 0, .slice none 0 0] 34 (0, 0))) ∧ Hid (Ow.OwnX wr w.heap.size 9 1 StrX (.slice a5 m.ifaces.length n5) m.ifaces) ∧ Hid (Ow.OwnX wr w.heap.size 45 4 FldX (.slice a6 m.fields.length n6) m.fields) ∧ Hid (Ow.OwnX wr w.heap.size 50 9 (Ow.MthB wr w w.heap.size) (.slice a7 m.methods.length n7) (Ow.flags m.methods k))) (fun i _ => m.methods.length - (intOf i).toNat)
    case atStart => exact ⟨0, Nat.zero_le _, rfl, HBx, HCx, HZx, HOa, HOf, HOb⟩
    case round =>
      obtain ⟨k, hk, rfl, HBr, HCr, HZr, HAr, HFr, HMr⟩ := hrel
      clear HBx HCx HZx HOa HOf HOb
      have hli : (m.methods.length : Int) ≤ 14 := by omega
      by_cases hlt : k < m.methods.length
      · obtain ⟨x, hx⟩ : ∃ x, m.methods[k]? = some x := ⟨m.methods[k], List.getElem?_eq_getElem hlt⟩
        have HLx := hide (HLm.out x (List.mem_of_getElem? hx))
        obtain ⟨g, c, cur, e7, hgb, hg, hcl⟩ := HMr.out.cells Ow.shp_mthb (by rw [Ow.flags_len]; omega)
        have ea : a7 = some ⟨g, 0, none⟩ := by injection e7
        clear e7
        subst ea
        obtain ⟨ys1, hP1, hc1⟩ := hcl k _ (Ow.flags_at hx)
        have hX1 : MthX w x ys1 := by unfold Ow.MthB at hP1; simpa using hP1
        have HX1 := hide hX1
        have HGB := hide hgb
        have HG := hide hg
        have HC1 := hide hc1
        have HFS := hide (Ow.flags_step hx)
        obtain ⟨vp1, vc1, vk1, rfl, x1, x2, x3, x4⟩ := hX1
        have HZ1 := hide x4
        have HT := hide (fun w' (hb : Below w.heap.size w w') => cpy_ty x.params vp1 w' (x1.on hb fun _ _ h => h) (by have := HLx.out.1.2.1; omega))
        have HI := hide (fun w' (hb : Below w.heap.size w w') => cpy_ins x.code vc1 w' (x2.on hb fun _ _ h => h) (by have := HLx.out.1.2.2.1; omega))
        have HK := hide (fun w' (hb : Below w.heap.size w w') => cpy_ctc x.catches vk1 w' (x3.on hb fun _ _ h => h) (by have := HLx.out.1.2.2.2.1; omega))
        obtain ⟨xa, xc, rfl, _⟩ := x1.len
        obtain ⟨ya, yc, rfl, _⟩ := x2.len
        obtain ⟨za, zc, rfl, _⟩ := x3.len
        have r0 := HC1.out 0 _ rfl
        have r1 := HC1.out 1 _ rfl
        have r2 := HC1.out 2 _ rfl
        have r3 := HC1.out 3 _ rfl
        have r4 := HC1.out 4 _ rfl
        have r5 := HC1.out 5 _ rfl
        have r6 := HC1.out 6 _ rfl
        have r7 := HC1.out 7 _ rfl
        have r8 := HC1.out 8 _ rfl
        rw [Nat.add_zero] at r0
        have hlt' : (k : Int) < (m.methods.length : Int) := by omega
        have HRs := hide (And.intro r0 (And.intro r1 (And.intro r2 (And.intro r3 (And.intro r4 (And.intro r5 (And.intro r6 (And.intro r7 r8))))))))
        have hx2 := hide (heap_alloc_new wr (.cells #[.string ⟨x.name.toArray⟩, .bool x.stat, .bool x.abst, .slice xa x.params.length xc, .int .i64 x.ret.kind, .string ⟨x.ret.name.toArray⟩, .int .i64 x.locals, .slice ya x.code.length yc, .slice za x.catches.length zc] 50))
        have HBA := hide ((Below.refl wr.heap.size wr).alloc (Nat.le_refl _) (.cells #[.string ⟨x.name.toArray⟩, .bool x.stat, .bool x.abst, .slice xa x.params.length xc, .int .i64 x.ret.kind, .string ⟨x.ret.name.toArray⟩, .int .i64 x.locals, .slice ya x.code.length yc, .slice za x.catches.length zc] 50))
        clear hx hcl hP1 hc1 x1 x2 x3 x4 HX1 hg hgb
        simp only [mthXL] at HC1
        clear HC1
        go_wp2_with fail
        clear r0 r1 r2 r3 r4 r5 r6 r7 r8
        generalize wr.alloc (.cells #[.string ⟨x.name.toArray⟩, .bool x.stat, .bool x.abst, .slice xa x.params.length xc, .int .i64 x.ret.kind, .string ⟨x.ret.name.toArray⟩, .int .i64 x.locals, .slice ya x.code.length yc, .slice za x.catches.length zc] 50) = wA at *
        have HCA : Hid (∀ wx, Below wA.heap.size wA wx → wx.heap[wr.heap.size]? = some (.cells #[.string ⟨x.name.toArray⟩, .bool x.stat, .bool x.abst, .slice xa x.params.length xc, .int .i64 x.ret.kind, .string ⟨x.ret.name.toArray⟩, .int .i64 x.locals, .slice ya x.code.length yc, .slice za x.catches.length zc] 50 (0, 0))) := hide fun wx hb => (hb.block _ (Ow.lt_of_blk hx2.out)).trans hx2.out
        clear hx2
        have HDA : Hid (Below wA.heap.size wA wA.drew) := hide (Below.drew (Below.refl _ _))
        rename_i K2 hK2
        have hcut2 : ∀ (s21 s22 s23 s24 s25 s26 s27 s28 s29 s30 s31 s32 s33 s34 s35 s36 s37 s38 s39 s40 s41 s42 : Value) (wy : World), (∃ b5 e5 b6 e6 b7 e7, Hid (Below wr.heap.size wr wy) ∧ Hid (wy.heap[wr.heap.size]? = some (.cells #[.string ⟨x.name.toArray⟩, .bool x.stat, .bool x.abst, .slice b5 x.params.length e5, .int .i64 x.ret.kind, .string ⟨x.ret.name.toArray⟩, .int .i64 x.locals, .slice b6 x.code.length e6, .slice b7 x.catches.length e7] 50 (0, 0))) ∧ Hid (Ow.OwnX wy wr.heap.size 43 2 TyX (.slice b5 x.params.length e5) x.params) ∧ Hid (Ow.OwnX wy wr.heap.size 52 4 InsX (.slice b6 x.code.length e6) x.code) ∧ Hid (Ow.OwnX wy wr.heap.size 54 4 CtcX (.slice b7 x.catches.length e7) x.catches)) → K2 { tmps := #[t0, .pointer (some ⟨w.heap.size, 0, none⟩), .pointer (some ⟨w.heap.size + 1, 0, none⟩), .int .i64 k, .pointer (some ⟨wr.heap.size, 0, none⟩), t5, t6, t7, t8, t9, t10, t11, t12, t13, t14, t15, t16, .pointer (some ⟨w.heap.size, 5, none⟩), .slice (some ⟨g, 0, none⟩) m.methods.length n7, .int .i64 m.methods.length, .int .i64 k, s21, s22, s23, s24, s25, s26, s27, s28, s29, s30, s31, s32, s33, s34, s35, s36, s37, s38, s39, s40, s41, s42, t43], defers := [] } wy := by
          intro s21 s22 s23 s24 s25 s26 s27 s28 s29 s30 s31 s32 s33 s34 s35 s36 s37 s38 s39 s40 s41 s42 wy hrel
          refine hK2 _ _ ?_
          clear hK2 HT HI HK HCA HDA HBA
          obtain ⟨b5, e5, b6, e6, b7, e7, HBy, HMy, HY1, HY2, HY3⟩ := hrel
          have hgl := Ow.lt_of_blk HG.out
          have hcl := Ow.lt_of_blk HCr.out
          have HGy := hide ((HBy.out.block g hgl).trans HG.out)
          have HCy := hide ((HBy.out.block _ hcl).trans HCr.out)
          have HZy := hide ((HBy.out.block _ (Ow.lt_of_blk HZr.out)).trans HZr.out)
          have q5 := cell_box HCy.out 5
          have m0 := cell_box HMy.out 0
          have m1 := cell_box HMy.out 1
          have m2 := cell_box HMy.out 2
          have m3 := cell_box HMy.out 3
          have m4 := cell_box HMy.out 4
          have m5 := cell_box HMy.out 5
          have m6 := cell_box HMy.out 6
          have m7 := cell_box HMy.out 7
          have m8 := cell_box HMy.out 8
          have r0 := (HBy.out.cell (p := ⟨g, k * 9, none⟩) hgl).trans HRs.out.1
          have r1 := (HBy.out.cell (p := ⟨g, k * 9 + 1, none⟩) hgl).trans HRs.out.2.1
          have r2 := (HBy.out.cell (p := ⟨g, k * 9 + 2, none⟩) hgl).trans HRs.out.2.2.1
          have r3 := (HBy.out.cell (p := ⟨g, k * 9 + 3, none⟩) hgl).trans HRs.out.2.2.2.1
          have r4 := (HBy.out.cell (p := ⟨g, k * 9 + 4, none⟩) hgl).trans HRs.out.2.2.2.2.1
          have r5 := (HBy.out.cell (p := ⟨g, k * 9 + 5, none⟩) hgl).trans HRs.out.2.2.2.2.2.1
          have r6 := (HBy.out.cell (p := ⟨g, k * 9 + 6, none⟩) hgl).trans HRs.out.2.2.2.2.2.2.1
          have r7 := (HBy.out.cell (p := ⟨g, k * 9 + 7, none⟩) hgl).trans HRs.out.2.2.2.2.2.2.2.1
          have r8 := (HBy.out.cell (p := ⟨g, k * 9 + 8, none⟩) hgl).trans HRs.out.2.2.2.2.2.2.2.2
          have f0 := Ow.fz_blk HGy.out (k * 9)
          have f1 := Ow.fz_blk HGy.out (k * 9 + 1)
          have f2 := Ow.fz_blk HGy.out (k * 9 + 2)
          have f3 := Ow.fz_blk HGy.out (k * 9 + 3)
          have f4 := Ow.fz_blk HGy.out (k * 9 + 4)
          have f5 := Ow.fz_blk HGy.out (k * 9 + 5)
          have f6 := Ow.fz_blk HGy.out (k * 9 + 6)
          have f7 := Ow.fz_blk HGy.out (k * 9 + 7)
          have f8 := Ow.fz_blk HGy.out (k * 9 + 8)
          have hne1 : g ≠ wr.heap.size := by omega
          have hp : Ow.MthB wy w w.heap.size (true, x) (mthXL x (.slice b5 x.params.length e5) (.slice b6 x.code.length e6) (.slice b7 x.catches.length e7)) := by
            unfold Ow.MthB
            rw [if_pos rfl]
            exact ⟨_, _, _, rfl, HY1.out.low HBr.out.size fun _ _ h => h, HY2.out.low HBr.out.size fun _ _ h => h, HY3.out.low HBr.out.size fun _ _ h => h, HZ1.out⟩
          have hPut := (HMr.out.on HBy.out fun _ _ h => h.on HBy.out).put Ow.shp_mthb (i := k) (by rw [Ow.flags_len]; omega) hp
          rw [HFS.out] at hPut
          have hKx := Ow.kx_setCells (mthXL x (.slice b5 x.params.length e5) (.slice b6 x.code.length e6) (.slice b7 x.catches.length e7)) (k * 9) ⟨_, _, HGy.out⟩
          have hBl := Ow.bel_setCells (mthXL x (.slice b5 x.params.length e5) (.slice b6 x.code.length e6) (.slice b7 x.catches.length e7)) wy (k * 9) HGB.out
          have HZ' := hide (And.intro (hPut.low (Nat.le_refl _) fun _ _ h => h.kx hKx (by decide) (by decide) (by decide)) (And.intro hKx hBl))
          clear hPut hKx hBl hp
          have HBz := hide ((HBr.out.trans (HBy.out.mono HBr.out.size)).trans HZ'.out.2.2)
          have HCz := hide (HZ'.out.2.1.blk _ _ _ _ HCy.out (by decide))
          have HZz := hide (HZ'.out.2.1.blk _ _ _ _ HZy.out (by decide))
          have HAz := hide ((HAr.out.on HBy.out fun _ _ h => h).kx HZ'.out.2.1 (by decide) fun _ _ h => h)
          have HFz := hide ((HFr.out.on HBy.out fun _ _ h => h).kx HZ'.out.2.1 (by decide) fun _ _ h => h)
          have HMz := hide HZ'.out.1
          clear HZ' HMr HAr HFr HCr HZr HBr HFS
          go_wp2_with fail
          go_roundw
          case rel => first | exact ⟨k + 1, by omega, by go_num, HBz, HCz, HZz, HAz, HFz, HMz⟩ | ((repeat apply Exists.intro); exact ⟨⟨k + 1, by omega, by go_num, HBz, HCz, HZz, HAz, HFz, HMz⟩, rfl⟩)
          case measure => simp [intOf]; omega
        have HCUT2 := hide hcut2
        clear hcut2 hK2
        have HBwA := hide (HBr.out.trans (HBA.out.mono HBr.out.size))
        have c3 : wA.cell? ⟨wr.heap.size, 3, none⟩ = some (.slice xa x.params.length xc) := cell_box (HCA.out wA (Below.refl _ _)) 3
        have c7 : wA.cell? ⟨wr.heap.size, 7, none⟩ = some (.slice ya x.code.length yc) := cell_box (HCA.out wA (Below.refl _ _)) 7
        have c8 : wA.cell? ⟨wr.heap.size, 8, none⟩ = some (.slice za x.catches.length zc) := cell_box (HCA.out wA (Below.refl _ _)) 8
        clear HRs HMr HAr HFr HCr HZr HFS HG HGB
        go_region_law (first
          | (go_simp
             refine (HT.out _ (HBwA.out.trans (HDA.out.mono HBwA.out.size))).mono ?_
             rintro e w5 ⟨v5, rfl, ho5, hb5⟩
             have HO5 := hide ho5
             have HB5 := hide (HDA.out.trans (hb5.mono HDA.out.size))
             obtain ⟨b5, e5, rfl⟩ := ho5.shape
             have c57 : w5.cell? ⟨wr.heap.size, 7, none⟩ = some (.slice ya x.code.length yc) := cell_box (HCA.out w5 HB5.out) 7
             have c58 : w5.cell? ⟨wr.heap.size, 8, none⟩ = some (.slice za x.catches.length zc) := cell_box (HCA.out w5 HB5.out) 8
             clear ho5 hb5)
          | (go_simp
             refine (HI.out _ (HBwA.out.trans (HB5.out.mono HBwA.out.size))).mono ?_
             rintro e w6 ⟨v6, rfl, ho6, hb6⟩
             have HO6 := hide ho6
             have H6 := hide hb6
             have HB6 := hide (HB5.out.trans (hb6.mono HB5.out.size))
             obtain ⟨b6, e6, rfl⟩ := ho6.shape
             have c68 : w6.cell? ⟨wr.heap.size, 8, none⟩ = some (.slice za x.catches.length zc) := cell_box (HCA.out w6 HB6.out) 8
             clear ho6 hb6)
          | (go_simp
             refine (HK.out _ (HBwA.out.trans (HB6.out.mono HBwA.out.size))).mono ?_
             rintro e w7 ⟨v7, rfl, ho7, hb7⟩
             have HO7 := hide ho7
             have H7 := hide hb7
             have HB7 := hide (HB6.out.trans (hb7.mono HB6.out.size))
             obtain ⟨b7, e7, rfl⟩ := ho7.shape
             have d3 : w7.cell? ⟨wr.heap.size, 3, none⟩ = some (.slice xa x.params.length xc) := cell_box (HCA.out w7 HB7.out) 3
             have d7 : w7.cell? ⟨wr.heap.size, 7, none⟩ = some (.slice ya x.code.length yc) := cell_box (HCA.out w7 HB7.out) 7
             have d8 : w7.cell? ⟨wr.heap.size, 8, none⟩ = some (.slice za x.catches.length zc) := cell_box (HCA.out w7 HB7.out) 8
             have f3 := Ow.fz_blk (HCA.out w7 HB7.out) 3
             have f7 := Ow.fz_blk (HCA.out w7 HB7.out) 7
             have f8 := Ow.fz_blk (HCA.out w7 HB7.out) 8
             clear ho7 hb7))
        all_goals
          show K2 _ _
          have hE0 := HCA.out w7 HB7.out
          have hP1 := Ow.blk_put hE0 3 (.slice b5 x.params.length e5)
          have hP2 := Ow.blk_put hP1 7 (.slice b6 x.code.length e6)
          have hP3 := Ow.blk_put hP2 8 (.slice b7 x.catches.length e7)
          have hX := ((Ow.Kx.set ⟨_, _, hE0⟩ 3 (.slice b5 x.params.length e5)).trans (Ow.Kx.set ⟨_, _, hP1⟩ 7 (.slice b6 x.code.length e6))).trans (Ow.Kx.set ⟨_, _, hP2⟩ 8 (.slice b7 x.catches.length e7))
          have hBz := ((HBA.out.trans (HB7.out.mono HBA.out.size)).trans (((Below.refl wr.heap.size w7).setCell (p := ⟨wr.heap.size, 3, none⟩) (Nat.le_refl _) (.slice b5 x.params.length e5)).setCell (p := ⟨wr.heap.size, 7, none⟩) (Nat.le_refl _) (.slice b6 x.code.length e6))).setCell (p := ⟨wr.heap.size, 8, none⟩) (Nat.le_refl _) (.slice b7 x.catches.length e7)
          refine HCUT2.out _ _ _ _ _ _ _ _ _ _ _ _ _ _ _ _ _ _ _ _ _ _ _ ⟨b5, e5, b6, e6, b7, e7, hide hBz, hide hP3, hide ?_, hide ?_, hide ?_⟩
          · exact (((HO5.out.on H6.out fun _ _ h => h).on H7.out fun _ _ h => h).kx hX (by decide) fun _ _ h => h).low (Nat.le_trans HBA.out.size HDA.out.size) fun _ _ h => h
          · exact ((HO6.out.on H7.out fun _ _ h => h).kx hX (by decide) fun _ _ h => h).low (Nat.le_trans HBA.out.size HB5.out.size) fun _ _ h => h
          · exact (HO7.out.kx hX (by decide) fun _ _ h => h).low (Nat.le_trans HBA.out.size HB6.out.size) fun _ _ h => h
      · have hnl : ¬ ((k : Int) < (m.methods.length : Int)) := by omega
        have HDn := hide (HMr.out.done (by omega))
        have q0 := cell_box HCr.out 0
        have q1 := cell_box HCr.out 1
        have q2 := cell_box HCr.out 2
        have q3 := cell_box HCr.out 3
        have q4 := cell_box HCr.out 4
        have q5 := cell_box HCr.out 5
        have z0 := cell_box HZr.out 0
        have z1 := cell_box HZr.out 1
        have z2 := cell_box HZr.out 2
        have z3 := cell_box HZr.out 3
        have z4 := cell_box HZr.out 4
        have z5 := cell_box HZr.out 5
        have f0 := Ow.fz_blk HZr.out 0
        have f1 := Ow.fz_blk HZr.out 1
        have f2 := Ow.fz_blk HZr.out 2
        have f3 := Ow.fz_blk HZr.out 3
        have f4 := Ow.fz_blk HZr.out 4
        have f5 := Ow.fz_blk HZr.out 5
        have hKx := Ow.kx_setCells (clsXL m (.slice a5 m.ifaces.length n5) (.slice a6 m.fields.length n6) (.slice a7 m.methods.length n7)) 0 ⟨_, _, HZr.out⟩
        have hBl := Ow.bel_setCells (clsXL m (.slice a5 m.ifaces.length n5) (.slice a6 m.fields.length n6) (.slice a7 m.methods.length n7)) wr (g := w.heap.size + 1) (b := w.heap.size) 0 (Nat.le_succ _)
        have HKx := hide (And.intro hKx hBl)
        clear hKx hBl HMr
        go_wp2_with fail
        refine bodyPost_ret (v := .agg (clsXL m (.slice a5 m.ifaces.length n5) (.slice a6 m.fields.length n6) (.slice a7 m.methods.length n7)).toArray) (by simp [results, Tryd.results33, go_sem, clsXL, *]) rfl ?_
        refine ⟨_, rfl, ⟨_, _, _, rfl, ?_, ?_, ?_, HZ.out⟩, HBr.out.trans HKx.out.2⟩
        · exact HAr.out.kx HKx.out.1 (by decide) fun _ _ h => h
        · exact HFr.out.kx HKx.out.1 (by decide) fun _ _ h => h
        · exact HDn.out.kx HKx.out.1 (by decide) fun _ _ h => h.kx HKx.out.1 (by decide) (by decide) (by decide)
  have HCUT := hide hcut
  clear hcut hK
  go_region_law (first
    | (go_simp
       refine (HA.out _ (HB0.out.trans (HD.out.mono HB0.out.size))).mono ?_
       rintro e w5 ⟨v5, rfl, ho5, hb5⟩
       have HO5 := hide ho5
       have HB5 := hide (HD.out.trans (hb5.mono HD.out.size))
       obtain ⟨a5, n5, rfl⟩ := ho5.shape
       have c54 : w5.cell? ⟨w.heap.size, 4, none⟩ = some (.slice ia m.fields.length ic) := cell_box (HC.out w5 HB5.out).1 4
       have c55 : w5.cell? ⟨w.heap.size, 5, none⟩ = some (.slice ka m.methods.length kc) := cell_box (HC.out w5 HB5.out).1 5
       clear ho5 hb5)
    | (go_simp
       refine (HF.out _ (HB0.out.trans (HB5.out.mono HB0.out.size))).mono ?_
       rintro e w6 ⟨v6, rfl, ho6, hb6⟩
       have HO6 := hide ho6
       have H6 := hide hb6
       have HB6 := hide (HB5.out.trans (hb6.mono HB5.out.size))
       obtain ⟨a6, n6, rfl⟩ := ho6.shape
       have c65 : w6.cell? ⟨w.heap.size, 5, none⟩ = some (.slice ka m.methods.length kc) := cell_box (HC.out w6 HB6.out).1 5
       clear ho6 hb6)
    | (go_simp
       refine (HM.out _ (HB0.out.trans (HB6.out.mono HB0.out.size))).mono ?_
       rintro e w7 ⟨v7, rfl, ho7, hb7⟩
       have HO7 := hide ho7
       have H7 := hide hb7
       have HB7 := hide (HB6.out.trans (hb7.mono HB6.out.size))
       obtain ⟨a7, n7, rfl⟩ := ho7.shape
       have d3 : w7.cell? ⟨w.heap.size, 3, none⟩ = some (.slice pa m.ifaces.length pc) := cell_box (HC.out w7 HB7.out).1 3
       have d4 : w7.cell? ⟨w.heap.size, 4, none⟩ = some (.slice ia m.fields.length ic) := cell_box (HC.out w7 HB7.out).1 4
       have d5 : w7.cell? ⟨w.heap.size, 5, none⟩ = some (.slice ka m.methods.length kc) := cell_box (HC.out w7 HB7.out).1 5
       have f3 := Ow.fz_blk (HC.out w7 HB7.out).1 3
       have f4 := Ow.fz_blk (HC.out w7 HB7.out).1 4
       have f5 := Ow.fz_blk (HC.out w7 HB7.out).1 5
       clear ho7 hb7))
  all_goals
    show K _ _
    have hE0 := (HC.out w7 HB7.out).1
    have hP1 := Ow.blk_put hE0 3 (.slice a5 m.ifaces.length n5)
    have hP2 := Ow.blk_put hP1 4 (.slice a6 m.fields.length n6)
    have hP3 := Ow.blk_put hP2 5 (.slice a7 m.methods.length n7)
    have hX := ((Ow.Kx.set ⟨_, _, hE0⟩ 3 (.slice a5 m.ifaces.length n5)).trans (Ow.Kx.set ⟨_, _, hP1⟩ 4 (.slice a6 m.fields.length n6))).trans (Ow.Kx.set ⟨_, _, hP2⟩ 5 (.slice a7 m.methods.length n7))
    have hBz := ((HB0.out.trans (HB7.out.mono HB0.out.size)).trans (((Below.refl w.heap.size w7).setCell (p := ⟨w.heap.size, 3, none⟩) (Nat.le_refl _) (.slice a5 m.ifaces.length n5)).setCell (p := ⟨w.heap.size, 4, none⟩) (Nat.le_refl _) (.slice a6 m.fields.length n6))).setCell (p := ⟨w.heap.size, 5, none⟩) (Nat.le_refl _) (.slice a7 m.methods.length n7)
    refine HCUT.out _ _ _ _ _ _ _ _ _ _ _ _ _ _ _ _ _ _ _ _ _ _ _ _ _ _ _ _ _ _ _ _ _ _ _ _ _ _ _ _ _ _ _ ⟨a5, n5, a6, n6, a7, n7, hide hBz, hide hP3, hide ?_, hide ?_, hide ?_, hide ?_⟩
    · rw [Below.heap_setCell _ _ _ _ (by simp), Below.heap_setCell _ _ _ _ (by simp), Below.heap_setCell _ _ _ _ (by simp)]
      exact (HC.out w7 HB7.out).2
    · exact (((HO5.out.on H6.out fun _ _ h => h).on H7.out fun _ _ h => h).kx hX (by decide) fun _ _ h => h).low (Nat.le_trans HB0.out.size HD.out.size) fun _ _ h => h
    · exact ((HO6.out.on H7.out fun _ _ h => h).kx hX (by decide) fun _ _ h => h).low (Nat.le_trans HB0.out.size HB5.out.size) fun _ _ h => h
    · exact (HO7.out.kx hX (by decide) fun _ _ h => h).low (Nat.le_trans HB0.out.size HB6.out.size) fun _ _ h => h
end Go.Proofs.YtildjihgklgibabDoor
