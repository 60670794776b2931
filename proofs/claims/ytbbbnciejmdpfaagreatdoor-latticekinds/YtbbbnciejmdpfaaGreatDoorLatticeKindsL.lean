/- LatticeKinds: the walk. -/
import Derived.Test.YtbbbnciejmdpfaaGreatDoorPkAz
import Derived.Test.YtbbbnciejmdpfaaGreatDoorPkBa
set_option maxRecDepth 100000
set_option maxHeartbeats 64000000
set_option linter.unusedVariables false
set_option linter.unusedSimpArgs false
namespace Go.Proofs.YtbbbnciejmdpfaaGreatDoor
open Go.RowKit
theorem latticeKinds_walk (v : Value) (cs : List Pp.XCls) (a : Int) (w : World) (ht : TabS w) (h : ProgX w v cs) :
 Calls Tryz.prog 7 #[.agg #[v], .int .i64 a] w fun e w' => e = .returned (.bool true) /\ Below w.heap.size w w' := by
 have HP := hide (fun wx (hb : Below w.heap.size w wx) => h.on hb); have HT := hide (fun wx (hb : Below w.heap.size w wx) => ht.below hb); obtain ⟨pa, pc, rfl, _⟩ := h.1.len; obtain ⟨n, hn'⟩ : ∃ n, n = cs.length := ⟨_, rfl⟩; have HN := hide hn'; rw [<- hn'] at HP ⊢; clear h ht hn'; have hx0 := hide (heap_alloc_new w (.cells #[.slice pa n pc] 24)); have HB0 := hide ((Below.refl w.heap.size w).alloc (Nat.le_refl _) (.cells #[.slice pa n pc] 24)); go_enter Tryz.func7, Tryz.ntmps7; go_wp2_with fail; generalize w.alloc (.cells #[.slice pa n pc] 24) = w0 at *
 have HC : Hid (∀ wx, Below w0.heap.size w0 wx -> wx.cell? ⟨w.heap.size, 0, none⟩ = some (.slice pa n pc)) := hide fun wx hb => cell_box ((hb.block _ (Ow.lt_of_blk hx0.out)).trans hx0.out) 0; have HW : Hid (∀ wx, Below w0.heap.size w0 wx -> Below w.heap.size w wx) := hide fun wx hb => HB0.out.trans (hb.mono HB0.out.size); clear hx0; refine (Heavy_any cs _ w0 (HP.out w0 HB0.out)).mono ?_; rintro e w1 ⟨⟨b, rfl, hlb⟩, hb1⟩; have HB1 := hide hb1; clear hb1; cases b with
 | true =>
   go_wp2_with fail; go_ret; exact ⟨rfl, HW.out _ HB1.out⟩
 | false =>
   have HLt := hide (hlb rfl); have d0 := HC.out w1 HB1.out; clear hlb; go_wp2_with fail; refine (RLayout_any cs _ w1 (HP.out _ (HW.out _ HB1.out)) HLt.out).mono ?_; rintro e w2 ⟨rfl, hb2⟩; have HB2 := hide (HB1.out.trans (hb2.mono HB1.out.size)); clear hb2 d0; have d0 := HC.out w2 HB2.out; by_cases he : Ly.layE cs ≠ 0
   · generalize Ly.layE cs = er at *
     have he' : (er != 0) = true := by simpa using he
     go_wp2_with fail; go_ret; exact ⟨rfl, HW.out _ HB2.out⟩
   have HE := hide (show Ly.layE cs = 0 by simpa using he)
   have HEr := hide (Lx.lay_err HE.out); rw [HE.out]; clear he; go_wp2_with fail; refine (All_any cs _ w2 (HP.out _ (HW.out _ HB2.out)) HLt.out).mono ?_; rintro e w3 ⟨vl, rfl, hol, hb3⟩; have HB3 := hide (HB2.out.trans (hb3.mono HB2.out.size)); clear hb3 d0; have d0 := HC.out w3 HB3.out; have HRw := hide (hol.row Ow.shp_cls fun _ _ h => h.x); obtain ⟨la, lc, rfl⟩ := hol.shape; clear hol; have hml : (Hr.allL cs).length = 8 + n := by rw [Hr.all_len, HN.out]; rfl
   have hn14 : n <= 14 := by rw [HN.out]; exact HLt.out.1
   rw [hml] at HRw ⊢; obtain ⟨m, hm⟩ : ∃ m, m = 8 + n := ⟨_, rfl⟩; rw [<- hm] at HRw ⊢; have HM : Hid (m = (Hr.allL cs).length) := hide (by rw [hm, hml])
   have hm2 : 8 <= m := by omega
   have hm3 : m <= 22 := by omega
   have HAt : Hid (∀ q : Nat, q < m -> ∃ (x : Pp.XCls) (g o : Nat) (v1 v2 v3 : Value), (Hr.allL cs)[q]? = some x /\ la = some ⟨g, o, none⟩ /\ (∃ a n c, v1 = .slice a n c) /\ (∃ a n c, v2 = .slice a n c) /\ (∃ a n c, v3 = .slice a n c) /\ ∀ wx, Below w3.heap.size w3 wx -> wx.cell? ⟨g, o + q * 6, none⟩ = some (.string ⟨x.name.toArray⟩) /\ wx.cell? ⟨g, o + q * 6 + 1, none⟩ = some (.bool x.iface) /\ wx.cell? ⟨g, o + q * 6 + 2, none⟩ = some (.string ⟨x.super.toArray⟩) /\ wx.cell? ⟨g, o + q * 6 + 3, none⟩ = some v1 /\ wx.cell? ⟨g, o + q * 6 + 4, none⟩ = some v2 /\ wx.cell? ⟨g, o + q * 6 + 5, none⟩ = some v3) := hide (by
    intro q hq; have hx : (Hr.allL cs)[q]? = some ((Hr.allL cs)[q]'(by rw [<- HM.out]; exact hq)) := List.getElem?_eq_getElem _
    obtain ⟨g, o, e1, ys, hys, hc⟩ := Hr.row_at HRw.out hx; obtain ⟨va1, vd1, va2, vd2, va3, vd3, rfl⟩ := Hr.at_c hys
    exact ⟨_, g, o, _, _, _, hx, e1, ⟨_, _, _, rfl⟩, ⟨_, _, _, rfl⟩, ⟨_, _, _, rfl⟩, fun wx hb => ⟨hc wx hb 0 _ rfl, hc wx hb 1 _ rfl, hc wx hb 2 _ rfl, hc wx hb 3 _ rfl, hc wx hb 4 _ rfl, hc wx hb 5 _ rfl⟩⟩)
   have hmi : (m : Int) <= 22 := by omega
   have hm0 : ¬ m = 0 := by omega
   have hmz : ((m : Int) == 0) = false := by simp; omega
   have hwm : IntKind.u64.wrap (m : Int) = (m : Int) := by rw [IntKind.wrap_u64]; omega
   clear hml hm; obtain ⟨qa, hqa, hwa⟩ := mod_at a m (by omega) (by omega)
   obtain ⟨xa, ga, oa, va1, va2, va3, hxa, rfl, ⟨_, _, _, rfl⟩, ⟨_, _, _, rfl⟩, ⟨_, _, _, rfl⟩, hca⟩ := HAt.out qa hqa; have HXa := hide hca; have HKa : Hid (Lx.Known cs xa.name) := hide ⟨_, _, hxa, rfl⟩; have HIa := hide hxa; have hqa' : (qa : Int) < (m : Int) := by omega
   have hwa' : IntKind.i64.wrap ((IntKind.u64.wrap a).tmod (m : Int)) = (qa : Int) := by rw [IntWalk.i64_left]; exact hwa
   clear hca hxa; clear HAt HRw; obtain ⟨p0, p1, p2, p3, p4, p5⟩ := HXa.out w3 (Below.refl _ _); have HLx := hide (Lx.known_len HLt.out HKa.out); generalize xa.name = lx at *
   have HM1 : Hid (∀ wz, Below w0.heap.size w0 wz -> Calls Tryz.prog 10 #[.agg #[.slice pa n pc], .agg #[.int .i64 2, .string ⟨#[]⟩], .agg #[.int .i64 3, .string ⟨lx.toArray⟩]] wz fun e w' => e = .returned (.tuple #[.agg #[.int .i64 7, .string ⟨#[]⟩], .int .i64 0]) /\ Below wz.heap.size wz w') := hide (by
    intro wz hb; have h := LMeet_any cs _ ⟨2, []⟩ ⟨3, lx⟩ wz (HT.out _ (HW.out _ hb)) (HP.out _ (HW.out _ hb)) HLt.out (by decide) HLx.out
    rw [Lx.meetX_yes HE.out (show Lx.rightT cs ⟨2, []⟩ = true from rfl) (show Lx.rightT cs ⟨3, lx⟩ = true from Lx.right_known3 HEr.out HKa.out), Lx.meetL_none (by show ¬ ((2 : Int) = 3 /\ _); simp) (.inl rfl)] at h
    exact h)
   have HM2 : Hid (∀ wz, Below w0.heap.size w0 wz -> Calls Tryz.prog 10 #[.agg #[.slice pa n pc], .agg #[.int .i64 4, .string ⟨#[]⟩], .agg #[.int .i64 5, .string ⟨lx.toArray⟩]] wz fun e w' => e = .returned (.tuple #[.agg #[.int .i64 3, .string ⟨#[79, 98, 106, 101, 99, 116]⟩], .int .i64 0]) /\ Below wz.heap.size wz w') := hide (by
    intro wz hb; have h := LMeet_any cs _ ⟨4, []⟩ ⟨5, lx⟩ wz (HT.out _ (HW.out _ hb)) (HP.out _ (HW.out _ hb)) HLt.out (by decide) HLx.out
    rw [Lx.meetX_yes HE.out (show Lx.rightT cs ⟨4, []⟩ = true from rfl) (show Lx.rightT cs ⟨5, lx⟩ = true from Lx.right_rows HEr.out HKa.out), Lx.meetL_top (by show ¬ ((4 : Int) = 5 /\ _); simp) rfl rfl (by simp) (by simp) (by simp)] at h
    exact h)
   have HM3 : Hid (∀ wz, Below w0.heap.size w0 wz -> Calls Tryz.prog 10 #[.agg #[.slice pa n pc], .agg #[.int .i64 6, .string ⟨#[]⟩], .agg #[.int .i64 5, .string ⟨lx.toArray⟩]] wz fun e w' => e = .returned (.tuple #[.agg #[.int .i64 5, .string ⟨lx.toArray⟩], .int .i64 0]) /\ Below wz.heap.size wz w') := hide (by
    intro wz hb; have h := LMeet_any cs _ ⟨6, []⟩ ⟨5, lx⟩ wz (HT.out _ (HW.out _ hb)) (HP.out _ (HW.out _ hb)) HLt.out (by decide) HLx.out
    rw [Lx.meetX_yes HE.out (show Lx.rightT cs ⟨6, []⟩ = true from rfl) (show Lx.rightT cs ⟨5, lx⟩ = true from Lx.right_rows HEr.out HKa.out), Lx.meetL_fst (by show ¬ ((6 : Int) = 5 /\ _); simp) rfl rfl rfl] at h
    exact h)
   have HM4 : Hid (∀ wz, Below w0.heap.size w0 wz -> Calls Tryz.prog 10 #[.agg #[.slice pa n pc], .agg #[.int .i64 5, .string ⟨lx.toArray⟩], .agg #[.int .i64 3, .string ⟨lx.toArray⟩]] wz fun e w' => e = .returned (.tuple #[.agg #[.int .i64 3, .string ⟨#[79, 98, 106, 101, 99, 116]⟩], .int .i64 0]) /\ Below wz.heap.size wz w') := hide (by
    intro wz hb; have h := LMeet_any cs _ ⟨5, lx⟩ ⟨3, lx⟩ wz (HT.out _ (HW.out _ hb)) (HP.out _ (HW.out _ hb)) HLt.out HLx.out HLx.out; rw [Lx.meetX_yes HE.out (show Lx.rightT cs ⟨5, lx⟩ = true from Lx.right_rows HEr.out HKa.out) (show Lx.rightT cs ⟨3, lx⟩ = true from Lx.right_known3 HEr.out HKa.out), Lx.meetL_top (by show ¬ ((5 : Int) = 3 /\ _); simp) rfl rfl (by simp) (by simp) (by simp)] at h
    exact h)
   have HF1 : Hid (∀ wz, Below w0.heap.size w0 wz -> Calls Tryz.prog 13 #[.agg #[.slice pa n pc], .agg #[.int .i64 5, .string ⟨lx.toArray⟩], .agg #[.int .i64 3, .string ⟨#[69, 114, 114, 111, 114]⟩]] wz fun e w' => e = .returned (.bool false) /\ Below wz.heap.size wz w') := hide (by
    intro wz hb; have h := LFits_any cs _ ⟨5, lx⟩ ⟨3, Hr.errN⟩ wz (HT.out _ (HW.out _ hb)) (HP.out _ (HW.out _ hb)) HLt.out HLx.out (by decide)
    rw [Lx.fitsX_yes HE.out (show Lx.rightT cs ⟨5, lx⟩ = true from Lx.right_rows HEr.out HKa.out) (show Lx.rightT cs ⟨3, Hr.errN⟩ = true from Lx.right_known3 HEr.out (Lx.known_err cs)), show Lx.fitsH cs 5 3 lx Hr.errN = false from by unfold Lx.fitsH; rw [if_neg (by simp), if_neg (by simp [Hr.errN, Hr.objN])]; rfl] at h
    exact h)
   have HF2 : Hid (∀ wz, Below w0.heap.size w0 wz -> Calls Tryz.prog 13 #[.agg #[.slice pa n pc], .agg #[.int .i64 5, .string ⟨lx.toArray⟩], .agg #[.int .i64 3, .string ⟨#[79, 98, 106, 101, 99, 116]⟩]] wz fun e w' => e = .returned (.bool true) /\ Below wz.heap.size wz w') := hide (by
    intro wz hb; have h := LFits_any cs _ ⟨5, lx⟩ ⟨3, Hr.objN⟩ wz (HT.out _ (HW.out _ hb)) (HP.out _ (HW.out _ hb)) HLt.out HLx.out (by decide)
    rw [Lx.fitsX_yes HE.out (show Lx.rightT cs ⟨5, lx⟩ = true from Lx.right_rows HEr.out HKa.out) (show Lx.rightT cs ⟨3, Hr.objN⟩ = true from Lx.right_known3 HEr.out (Lx.class_obj cs).known), show Lx.fitsH cs 5 3 lx Hr.objN = true from by unfold Lx.fitsH; rw [if_neg (by simp), if_pos (.inr ⟨rfl, rfl⟩)]; rfl] at h
    exact h)
   have HWk : Hid (∀ wz, Below w0.heap.size w0 wz -> Calls Tryz.prog 14 #[] wz fun e w' => e = .returned (.bool true) /\ Below wz.heap.size wz w') := hide fun wz hb => LWakes_any wz (HT.out _ (HW.out _ hb)); have HT0 := heap_alloc_new w3 (.cells #[.int .i64 5, .string ⟨lx.toArray⟩] 26); have HB4 := hide (HB3.out.alloc HB3.out.size (.cells #[.int .i64 5, .string ⟨lx.toArray⟩] 26)); clear HT HP HLx; go_wp2_with fail; generalize w3.alloc (.cells #[.int .i64 5, .string ⟨lx.toArray⟩] 26) = wA at *
   have HRw := hide HT0; clear HT0 p0 p1 p2 p3 p4 p5 d0 hqa hqa' hwa hwa' hmi hm0 hmz hwm hm2 hm3 HXa HIa; rename_i K hK
   have hcut : ∀ (tb : Nat) (t0 t1 t3 t5 t10 t11 t12 t13 t14 t15 t16 t17 t18 t19 t20 t21 t22 t23 t24 t25 t26 t27 t28 t29 t30 t31 t32 t33 t34 t35 t36 t37 t38 t39 t40 t41 t42 t43 t44 t45 t46 t47 t48 t49 t50 t51 t52 t53 t54 t55 t56 t57 t58 t59 t60 t61 t62 t63 t64 t65 t66 t67 t68 t69 t70 t71 t72 t73 t74 t75 t76 t77 t78 t79 t80 t81 t82 t83 t84 t85 t86 t87 t88 t89 t90 t91 t92 t93 t94 t95 t96 t97 t98 t99 t100 t101 t102 t103 t104 t105 t106 t107 t108 t109 t110 t111 t112 t113 t114 t115 t116 t117 t118 t119 t120 : Value) (wx : World), Hid (Below wA.heap.size wA wx) -> Hid (wx.heap[tb]? = some (.cells #[.int .i64 7, .string ⟨#[]⟩] 26 (0, 0))) -> K { tmps := #[t0, t1, .pointer (some ⟨w.heap.size, 0, none⟩), t3, .bool false, t5, .string ⟨lx.toArray⟩, .pointer (some ⟨w3.heap.size, 0, none⟩), .pointer (some ⟨tb, 0, none⟩), .int .i64 0, t10, t11, t12, t13, t14, t15, t16, t17, t18, t19, t20, t21, t22, t23, t24, t25, t26, t27, t28, t29, t30, t31, t32, t33, t34, t35, t36, t37, t38, t39, t40, t41, t42, t43, t44, t45, t46, t47, t48, t49, t50, t51, t52, t53, t54, t55, t56, t57, t58, t59, t60, t61, t62, t63, t64, t65, t66, t67, t68, t69, t70, t71, t72, t73, t74, t75, t76, t77, t78, t79, t80, t81, t82, t83, t84, t85, t86, t87, t88, t89, t90, t91, t92, t93, t94, t95, t96, t97, t98, t99, t100, t101, t102, t103, t104, t105, t106, t107, t108, t109, t110, t111, t112, t113, t114, t115, t116, t117, t118, t119, t120], defers := [] } wx := by
    intro tb t0 t1 t3 t5 t10 t11 t12 t13 t14 t15 t16 t17 t18 t19 t20 t21 t22 t23 t24 t25 t26 t27 t28 t29 t30 t31 t32 t33 t34 t35 t36 t37 t38 t39 t40 t41 t42 t43 t44 t45 t46 t47 t48 t49 t50 t51 t52 t53 t54 t55 t56 t57 t58 t59 t60 t61 t62 t63 t64 t65 t66 t67 t68 t69 t70 t71 t72 t73 t74 t75 t76 t77 t78 t79 t80 t81 t82 t83 t84 t85 t86 t87 t88 t89 t90 t91 t92 t93 t94 t95 t96 t97 t98 t99 t100 t101 t102 t103 t104 t105 t106 t107 t108 t109 t110 t111 t112 t113 t114 t115 t116 t117 t118 t119 t120 wx HBx HTb; refine hK _ _ ?_; clear hK; have HBx0 := hide (HB4.out.trans (HBx.out.mono HB4.out.size)); have HRx := hide ((HBx.out.block _ (Ow.lt_of_blk HRw.out)).trans HRw.out); have d0 := HC.out wx HBx0.out; have r0 := cell_box HRx.out 0; have r1 := cell_box HRx.out 1; go_wp2_with fail; refine (HM2.out _ HBx0.out).mono ?_; rintro e w4 ⟨rfl, hb⟩; have HB5 := hide (HBx0.out.trans (hb.mono HBx0.out.size)); have HR5 := hide ((hb.block _ (Ow.lt_of_blk HRx.out)).trans HRx.out); have HT5 := hide ((hb.block _ (Ow.lt_of_blk HTb.out)).trans HTb.out); have hA : Below w4.heap.size w4 (w4.alloc (.cells #[.int .i64 3, .string ⟨#[79, 98, 106, 101, 99, 116]⟩] 26)) := (Below.refl _ _).alloc (Nat.le_refl _) _; have HB6 := hide (HB5.out.trans (hA.mono HB5.out.size)); have HR6 := hide ((hA.block _ (Ow.lt_of_blk HR5.out)).trans HR5.out); have HT6 := hide ((hA.block _ (Ow.lt_of_blk HT5.out)).trans HT5.out); have HU6 := hide (heap_alloc_new w4 (.cells #[.int .i64 3, .string ⟨#[79, 98, 106, 101, 99, 116]⟩] 26)); clear hb hA d0 r0 r1 HB5 HR5 HT5 HRx HTb HBx HBx0; have d0 := HC.out _ HB6.out; have r0 := cell_box HR6.out 0; have r1 := cell_box HR6.out 1; go_wp2_with fail; generalize w4.alloc (.cells #[.int .i64 3, .string ⟨#[79, 98, 106, 101, 99, 116]⟩] 26) = wB at *
    refine (HM3.out _ HB6.out).mono ?_; rintro e w5 ⟨rfl, hb⟩; have HB7 := hide (HB6.out.trans (hb.mono HB6.out.size)); have HR7 := hide ((hb.block _ (Ow.lt_of_blk HR6.out)).trans HR6.out); have HT7 := hide ((hb.block _ (Ow.lt_of_blk HT6.out)).trans HT6.out); have HU7 := hide ((hb.block _ (Ow.lt_of_blk HU6.out)).trans HU6.out); have hA : Below w5.heap.size w5 (w5.alloc (.cells #[.int .i64 5, .string ⟨lx.toArray⟩] 26)) := (Below.refl _ _).alloc (Nat.le_refl _) _; have HB8 := hide (HB7.out.trans (hA.mono HB7.out.size)); have HR8 := hide ((hA.block _ (Ow.lt_of_blk HR7.out)).trans HR7.out); have HT8 := hide ((hA.block _ (Ow.lt_of_blk HT7.out)).trans HT7.out); have HU8 := hide ((hA.block _ (Ow.lt_of_blk HU7.out)).trans HU7.out); have HV8 := hide (heap_alloc_new w5 (.cells #[.int .i64 5, .string ⟨lx.toArray⟩] 26)); clear hb hA d0 r0 r1 HB7 HR7 HT7 HU7 HB6 HR6 HT6 HU6; go_wp2_with fail; generalize w5.alloc (.cells #[.int .i64 5, .string ⟨lx.toArray⟩] 26) = wD at *
    rename_i K2 hK2
    have hcut2 : ∀ (td : Nat) (t0 t1 t3 t5 t16 t17 t18 t19 t20 t21 t22 t23 t24 t25 t26 t27 t28 t29 t30 t31 t32 t33 t34 t35 t36 t37 t38 t39 t40 t41 t42 t43 t44 t45 t46 t47 t48 t49 t50 t51 t52 t53 t54 t55 t56 t57 t58 t59 t60 t61 t62 t63 t64 t65 t66 t67 t68 t69 t70 t71 t72 t73 t74 t75 t76 t77 t78 t79 t80 t81 t82 t83 t84 t85 t86 t87 t88 t89 t90 t91 t92 t93 t94 t95 t96 t97 t98 t99 t100 t101 t102 t103 t104 t105 t106 t107 t108 t109 t110 t111 t112 t113 t114 t115 t116 t117 t118 t119 t120 : Value) (wy : World), Hid (Below wD.heap.size wD wy) -> Hid (wy.heap[td]? = some (.cells #[.int .i64 3, .string ⟨#[79, 98, 106, 101, 99, 116]⟩] 26 (0, 0))) -> K2 { tmps := #[t0, t1, .pointer (some ⟨w.heap.size, 0, none⟩), t3, .bool false, t5, .string ⟨lx.toArray⟩, .pointer (some ⟨w3.heap.size, 0, none⟩), .pointer (some ⟨tb, 0, none⟩), .int .i64 0, .pointer (some ⟨w4.heap.size, 0, none⟩), .int .i64 0, .pointer (some ⟨w5.heap.size, 0, none⟩), .int .i64 0, .pointer (some ⟨td, 0, none⟩), .int .i64 0, t16, t17, t18, t19, t20, t21, t22, t23, t24, t25, t26, t27, t28, t29, t30, t31, t32, t33, t34, t35, t36, t37, t38, t39, t40, t41, t42, t43, t44, t45, t46, t47, t48, t49, t50, t51, t52, t53, t54, t55, t56, t57, t58, t59, t60, t61, t62, t63, t64, t65, t66, t67, t68, t69, t70, t71, t72, t73, t74, t75, t76, t77, t78, t79, t80, t81, t82, t83, t84, t85, t86, t87, t88, t89, t90, t91, t92, t93, t94, t95, t96, t97, t98, t99, t100, t101, t102, t103, t104, t105, t106, t107, t108, t109, t110, t111, t112, t113, t114, t115, t116, t117, t118, t119, t120], defers := [] } wy := by
     intro td t0 t1 t3 t5 t16 t17 t18 t19 t20 t21 t22 t23 t24 t25 t26 t27 t28 t29 t30 t31 t32 t33 t34 t35 t36 t37 t38 t39 t40 t41 t42 t43 t44 t45 t46 t47 t48 t49 t50 t51 t52 t53 t54 t55 t56 t57 t58 t59 t60 t61 t62 t63 t64 t65 t66 t67 t68 t69 t70 t71 t72 t73 t74 t75 t76 t77 t78 t79 t80 t81 t82 t83 t84 t85 t86 t87 t88 t89 t90 t91 t92 t93 t94 t95 t96 t97 t98 t99 t100 t101 t102 t103 t104 t105 t106 t107 t108 t109 t110 t111 t112 t113 t114 t115 t116 t117 t118 t119 t120 wy HBy HTd; refine hK2 _ _ ?_; clear hK2; have HBy0 := hide (HB8.out.trans (HBy.out.mono HB8.out.size))
     have HS := hide (fun wz (hb : Below wy.heap.size wy wz) => show wz.cell? ⟨w.heap.size, 0, none⟩ = some (.slice pa n pc) /\ wz.cell? ⟨w3.heap.size, 0, none⟩ = some (.int .i64 5) /\ wz.cell? ⟨w3.heap.size, 1, none⟩ = some (.string ⟨lx.toArray⟩) /\ wz.cell? ⟨tb, 0, none⟩ = some (.int .i64 7) /\ wz.cell? ⟨w4.heap.size, 0, none⟩ = some (.int .i64 3) /\ wz.cell? ⟨w4.heap.size, 1, none⟩ = some (.string ⟨#[79, 98, 106, 101, 99, 116]⟩) /\ wz.cell? ⟨w5.heap.size, 0, none⟩ = some (.int .i64 5) /\ wz.cell? ⟨w5.heap.size, 1, none⟩ = some (.string ⟨lx.toArray⟩) /\ wz.cell? ⟨td, 0, none⟩ = some (.int .i64 3) /\ wz.cell? ⟨td, 1, none⟩ = some (.string ⟨#[79, 98, 106, 101, 99, 116]⟩) from
      have hz := HBy.out.trans (hb.mono HBy.out.size)
      ⟨HC.out wz (HBy0.out.trans (hb.mono HBy0.out.size)), cell_box ((hz.block _ (Ow.lt_of_blk HR8.out)).trans HR8.out) 0, cell_box ((hz.block _ (Ow.lt_of_blk HR8.out)).trans HR8.out) 1, cell_box ((hz.block _ (Ow.lt_of_blk HT8.out)).trans HT8.out) 0, cell_box ((hz.block _ (Ow.lt_of_blk HU8.out)).trans HU8.out) 0, cell_box ((hz.block _ (Ow.lt_of_blk HU8.out)).trans HU8.out) 1, cell_box ((hz.block _ (Ow.lt_of_blk HV8.out)).trans HV8.out) 0, cell_box ((hz.block _ (Ow.lt_of_blk HV8.out)).trans HV8.out) 1, cell_box ((hb.block _ (Ow.lt_of_blk HTd.out)).trans HTd.out) 0, cell_box ((hb.block _ (Ow.lt_of_blk HTd.out)).trans HTd.out) 1⟩)
     have HBz : Hid (Below wy.heap.size wy wy.drew) := hide (Below.drew (Below.refl _ _)); clear HR8 HT8 HU8 HV8 HC HBy HTd HB8; go_wp2_with fail
     go_region_held3 (fun wz => wz.cell? ⟨w.heap.size, 0, none⟩ = some (.slice pa n pc) /\ wz.cell? ⟨w3.heap.size, 0, none⟩ = some (.int .i64 5) /\ wz.cell? ⟨w3.heap.size, 1, none⟩ = some (.string ⟨lx.toArray⟩) /\ wz.cell? ⟨tb, 0, none⟩ = some (.int .i64 7) /\ wz.cell? ⟨w4.heap.size, 0, none⟩ = some (.int .i64 3) /\ wz.cell? ⟨w4.heap.size, 1, none⟩ = some (.string ⟨#[79, 98, 106, 101, 99, 116]⟩) /\ wz.cell? ⟨w5.heap.size, 0, none⟩ = some (.int .i64 5) /\ wz.cell? ⟨w5.heap.size, 1, none⟩ = some (.string ⟨lx.toArray⟩) /\ wz.cell? ⟨td, 0, none⟩ = some (.int .i64 3) /\ wz.cell? ⟨td, 1, none⟩ = some (.string ⟨#[79, 98, 106, 101, 99, 116]⟩)) (exact HS.out _ HBz.out)
      (first
      | (go_at_call 19
         with_reducible refine (lref_any _ _).mono ?_
         rintro e w6 ⟨rfl, hb6⟩; have HBz := hide (HBz.out.trans (hb6.mono HBz.out.size))
         clear hb6)
      | (go_at_call 13
         with_reducible refine (HF1.out _ (HBy0.out.trans (HBz.out.mono HBy0.out.size))).mono ?_
         rintro e w6 ⟨rfl, hb6⟩; have HBz := hide (HBz.out.trans (hb6.mono HBz.out.size))
         clear hb6)
      | (go_at_call 13
         with_reducible refine (HF2.out _ (HBy0.out.trans (HBz.out.mono HBy0.out.size))).mono ?_
         rintro e w6 ⟨rfl, hb6⟩; have HBz := hide (HBz.out.trans (hb6.mono HBz.out.size))
         clear hb6)
      | (go_at_call 14
         with_reducible refine (HWk.out _ (HBy0.out.trans (HBz.out.mono HBy0.out.size))).mono ?_
         rintro e w6 ⟨rfl, hb6⟩; have HBz := hide (HBz.out.trans (hb6.mono HBz.out.size))
         clear hb6)
      | fail)
     all_goals
      go_wp2_with fail; go_ret; exact ⟨rfl, HW.out _ (HBy0.out.trans (HBz.out.mono HBy0.out.size))⟩
    clear hK2; have HS := hide (fun wz (hb : Below wD.heap.size wD wz) => show wz.cell? ⟨w.heap.size, 0, none⟩ = some (.slice pa n pc) /\ wz.cell? ⟨w3.heap.size, 0, none⟩ = some (.int .i64 5) /\ wz.cell? ⟨w3.heap.size, 1, none⟩ = some (.string ⟨lx.toArray⟩) from ⟨HC.out wz (HB8.out.trans (hb.mono HB8.out.size)), cell_box ((hb.block _ (Ow.lt_of_blk HR8.out)).trans HR8.out) 0, cell_box ((hb.block _ (Ow.lt_of_blk HR8.out)).trans HR8.out) 1⟩)
    have HBz : Hid (Below wD.heap.size wD wD.drew) := hide (Below.drew (Below.refl _ _)); have HBo := hide (fun o => HBz.out.alloc HBz.out.size o); have HBd := hide (fun o => Below.drew ((Below.refl wD.heap.size wD).alloc (Nat.le_refl _) o)); have hk : wD.heap.size <= wD.heap.size := Nat.le_refl _
    go_region_held3 (fun wz => wz.cell? ⟨w.heap.size, 0, none⟩ = some (.slice pa n pc) /\ wz.cell? ⟨w3.heap.size, 0, none⟩ = some (.int .i64 5) /\ wz.cell? ⟨w3.heap.size, 1, none⟩ = some (.string ⟨lx.toArray⟩)) (first | with_reducible exact HS.out _ HBz.out | with_reducible exact HS.out _ (HBo.out _) | with_reducible exact HS.out _ (HBd.out _) | with_reducible exact HS.out _ ((HBz.out.setCell (p := ⟨_, 0, none⟩) hk _).setCell (p := ⟨_, 1, none⟩) hk _))
     (first
     | (go_at_call 19
        with_reducible refine (lref_any _ _).mono ?_
        rintro e w6 ⟨rfl, hb6⟩
        try
         have hN6 := (hb6.block wD.heap.size (by simp)).trans (heap_alloc_new wD (.cells #[.int .i64 0, .string ⟨#[]⟩] 26))
         have hk : wD.heap.size <= wD.heap.size := Nat.le_refl _
        have hbx : Below wD.heap.size wD w6 := by
         first
          | with_reducible exact HBz.out.trans (hb6.mono HBz.out.size)
          | with_reducible exact (HBo.out _).trans (hb6.mono (HBo.out _).size)
          | with_reducible exact (HBd.out _).trans (hb6.mono (HBd.out _).size)
        have HBz := hide hbx; have HBo := hide (fun o => HBz.out.alloc HBz.out.size o); have HBd := hide (fun o => Below.drew (HBz.out.alloc HBz.out.size o))
        clear hb6 hbx)
     | (go_at_call 10
        first
         | with_reducible refine (HM4.out _ (HB8.out.trans (HBz.out.mono HB8.out.size))).mono ?_
         | with_reducible refine (HM4.out _ (HB8.out.trans ((HBo.out _).mono HB8.out.size))).mono ?_
         | with_reducible refine (HM4.out _ (HB8.out.trans ((HBd.out _).mono HB8.out.size))).mono ?_
        rintro e w7 ⟨rfl, hb7⟩
        first
         | (have HN7 := hide ((hb7.block wD.heap.size (Ow.lt_of_blk hN6)).trans hN6)
            clear hN6)
         | (have HN7 := hide ((hb7.block w6.heap.size (by simp)).trans (heap_alloc_new w6 (.cells #[.int .i64 0, .string ⟨#[]⟩] 26)))
            have hk : wD.heap.size <= w6.heap.size := HBz.out.size)
         | skip
        try
         have n0 := cell_box HN7.out 0; have n1 := cell_box HN7.out 1; have f0 := Ow.fz_blk HN7.out 0; have f1 := Ow.fz_blk HN7.out 1
        have hbx : Below wD.heap.size wD w7 := by
         first
          | with_reducible exact HBz.out.trans (hb7.mono HBz.out.size)
          | with_reducible exact (HBo.out _).trans (hb7.mono (HBo.out _).size)
          | with_reducible exact (HBd.out _).trans (hb7.mono (HBd.out _).size)
        have HBz := hide hbx; have HBo := hide (fun o => HBz.out.alloc HBz.out.size o); have HBd := hide (fun o => Below.drew (HBz.out.alloc HBz.out.size o))
        clear hb7 hbx)
     | fail)
    all_goals
     first
      | (have hP := Ow.blk_put (Ow.blk_put HN7.out 0 (.int .i64 3)) 1 (.string ⟨#[79, 98, 106, 101, 99, 116]⟩)
         exact hcut2 _ _ _ _ _ _ _ _ _ _ _ _ _ _ _ _ _ _ _ _ _ _ _ _ _ _ _ _ _ _ _ _ _ _ _ _ _ _ _ _ _ _ _ _ _ _ _ _ _ _ _ _ _ _ _ _ _ _ _ _ _ _ _ _ _ _ _ _ _ _ _ _ _ _ _ _ _ _ _ _ _ _ _ _ _ _ _ _ _ _ _ _ _ _ _ _ _ _ _ _ _ _ _ _ _ _ _ _ _ _ _ (hide ((HBz.out.setCell (p := ⟨_, 0, none⟩) hk _).setCell (p := ⟨_, 1, none⟩) hk _)) (hide hP))
      | exact hcut2 _ _ _ _ _ _ _ _ _ _ _ _ _ _ _ _ _ _ _ _ _ _ _ _ _ _ _ _ _ _ _ _ _ _ _ _ _ _ _ _ _ _ _ _ _ _ _ _ _ _ _ _ _ _ _ _ _ _ _ _ _ _ _ _ _ _ _ _ _ _ _ _ _ _ _ _ _ _ _ _ _ _ _ _ _ _ _ _ _ _ _ _ _ _ _ _ _ _ _ _ _ _ _ _ _ _ _ _ _ _ _ (hide (HBz.out.alloc HBz.out.size _)) (hide (heap_alloc_new _ _))
   clear hK; have HS := hide (fun wz (hb : Below wA.heap.size wA wz) => HC.out wz (HB4.out.trans (hb.mono HB4.out.size))); have HBz : Hid (Below wA.heap.size wA wA.drew) := hide (Below.drew (Below.refl _ _)); have HBo := hide (fun o => HBz.out.alloc HBz.out.size o); have HBd := hide (fun o => Below.drew ((Below.refl wA.heap.size wA).alloc (Nat.le_refl _) o)); have hk : wA.heap.size <= wA.heap.size := Nat.le_refl _
   go_region_held3 (fun wz => wz.cell? ⟨w.heap.size, 0, none⟩ = some (.slice pa n pc)) (first | with_reducible exact HS.out _ HBz.out | with_reducible exact HS.out _ (HBo.out _) | with_reducible exact HS.out _ (HBd.out _) | with_reducible exact HS.out _ ((HBz.out.setCell (p := ⟨_, 0, none⟩) hk _).setCell (p := ⟨_, 1, none⟩) hk _))
    (first
    | (go_at_call 19
       with_reducible refine (lref_any _ _).mono ?_
       rintro e w6 ⟨rfl, hb6⟩
       try
        have hN6 := (hb6.block wA.heap.size (by simp)).trans (heap_alloc_new wA (.cells #[.int .i64 0, .string ⟨#[]⟩] 26))
        have hk : wA.heap.size <= wA.heap.size := Nat.le_refl _
       have hbx : Below wA.heap.size wA w6 := by
        first
         | with_reducible exact HBz.out.trans (hb6.mono HBz.out.size)
         | with_reducible exact (HBo.out _).trans (hb6.mono (HBo.out _).size)
         | with_reducible exact (HBd.out _).trans (hb6.mono (HBd.out _).size)
       have HBz := hide hbx; have HBo := hide (fun o => HBz.out.alloc HBz.out.size o); have HBd := hide (fun o => Below.drew (HBz.out.alloc HBz.out.size o))
       clear hb6 hbx)
    | (go_at_call 10
       first
        | with_reducible refine (HM1.out _ (HB4.out.trans (HBz.out.mono HB4.out.size))).mono ?_
        | with_reducible refine (HM1.out _ (HB4.out.trans ((HBo.out _).mono HB4.out.size))).mono ?_
        | with_reducible refine (HM1.out _ (HB4.out.trans ((HBd.out _).mono HB4.out.size))).mono ?_
       rintro e w7 ⟨rfl, hb7⟩
       first
        | (have HN7 := hide ((hb7.block wA.heap.size (Ow.lt_of_blk hN6)).trans hN6)
           clear hN6)
        | (have HN7 := hide ((hb7.block w6.heap.size (by simp)).trans (heap_alloc_new w6 (.cells #[.int .i64 0, .string ⟨#[]⟩] 26)))
           have hk : wA.heap.size <= w6.heap.size := HBz.out.size)
        | skip
       try
        have n0 := cell_box HN7.out 0; have n1 := cell_box HN7.out 1; have f0 := Ow.fz_blk HN7.out 0; have f1 := Ow.fz_blk HN7.out 1
       have hbx : Below wA.heap.size wA w7 := by
        first
         | with_reducible exact HBz.out.trans (hb7.mono HBz.out.size)
         | with_reducible exact (HBo.out _).trans (hb7.mono (HBo.out _).size)
         | with_reducible exact (HBd.out _).trans (hb7.mono (HBd.out _).size)
       have HBz := hide hbx; have HBo := hide (fun o => HBz.out.alloc HBz.out.size o); have HBd := hide (fun o => Below.drew (HBz.out.alloc HBz.out.size o))
       clear hb7 hbx)
    | fail)
   all_goals
    first
     | (have hP := Ow.blk_put (Ow.blk_put HN7.out 0 (.int .i64 7)) 1 (.string ⟨#[]⟩)
        exact hcut _ _ _ _ _ _ _ _ _ _ _ _ _ _ _ _ _ _ _ _ _ _ _ _ _ _ _ _ _ _ _ _ _ _ _ _ _ _ _ _ _ _ _ _ _ _ _ _ _ _ _ _ _ _ _ _ _ _ _ _ _ _ _ _ _ _ _ _ _ _ _ _ _ _ _ _ _ _ _ _ _ _ _ _ _ _ _ _ _ _ _ _ _ _ _ _ _ _ _ _ _ _ _ _ _ _ _ _ _ _ _ _ _ _ _ _ _ (hide ((HBz.out.setCell (p := ⟨_, 0, none⟩) hk _).setCell (p := ⟨_, 1, none⟩) hk _)) (hide hP))
     | exact hcut _ _ _ _ _ _ _ _ _ _ _ _ _ _ _ _ _ _ _ _ _ _ _ _ _ _ _ _ _ _ _ _ _ _ _ _ _ _ _ _ _ _ _ _ _ _ _ _ _ _ _ _ _ _ _ _ _ _ _ _ _ _ _ _ _ _ _ _ _ _ _ _ _ _ _ _ _ _ _ _ _ _ _ _ _ _ _ _ _ _ _ _ _ _ _ _ _ _ _ _ _ _ _ _ _ _ _ _ _ _ _ _ _ _ _ _ _ (hide (HBz.out.alloc HBz.out.size _)) (hide (heap_alloc_new _ _))
end Go.Proofs.YtbbbnciejmdpfaaGreatDoor
