/- LatticeLeast: the walk. -/
import Derived.Test.YtbbbnciejmdpfaaGreatDoorPkAz
import Derived.Test.YtbbbnciejmdpfaaGreatDoorPkBa
set_option maxRecDepth 100000
set_option maxHeartbeats 64000000
set_option linter.unusedVariables false
set_option linter.unusedSimpArgs false
namespace Go.Proofs.YtbbbnciejmdpfaaGreatDoor
open Go.RowKit
theorem blk3a (w : World) (o1 o2 o3 : Obj) : (((w.alloc o1).alloc o2).alloc o3).drew.heap[w.heap.size]? = some o1 :=
 (heap_alloc_old _ _ (by simp <;> omega)).trans ((heap_alloc_old _ _ (by simp)).trans (heap_alloc_new w o1))
theorem blk3b (w : World) (o1 o2 o3 : Obj) : (((w.alloc o1).alloc o2).alloc o3).drew.heap[w.heap.size + 1]? = some o2 := by
 have q := heap_alloc_new (w.alloc o1) o2; have e : (w.alloc o1).heap.size = w.heap.size + 1 := by simp
 rw [e] at q; exact (heap_alloc_old _ _ (by simp)).trans q
theorem blk3c (w : World) (o1 o2 o3 : Obj) : (((w.alloc o1).alloc o2).alloc o3).drew.heap[w.heap.size + 1 + 1]? = some o3 := by
 have q := heap_alloc_new ((w.alloc o1).alloc o2) o3; have e : ((w.alloc o1).alloc o2).heap.size = w.heap.size + 1 + 1 := by simp
 rw [e] at q; exact q
theorem latticeLeast_walk (v : Value) (cs : List Pp.XCls) (a : Int) (b : Int) (c : Int) (w : World) (ht : TabS w) (h : ProgX w v cs) :
 Calls Tryz.prog 6 #[.agg #[v], .int .i64 a, .int .i64 b, .int .i64 c] w fun e w' => e = .returned (.bool true) /\ Below w.heap.size w w' := by
 have HP := hide (fun wx (hb : Below w.heap.size w wx) => h.on hb); have HT := hide (fun wx (hb : Below w.heap.size w wx) => ht.below hb); obtain ⟨pa, pc, rfl, _⟩ := h.1.len; obtain ⟨n, hn'⟩ : ∃ n, n = cs.length := ⟨_, rfl⟩; have HN := hide hn'; rw [<- hn'] at HP ⊢; clear h ht hn'; have hx0 := hide (heap_alloc_new w (.cells #[.slice pa n pc] 24)); have HB0 := hide ((Below.refl w.heap.size w).alloc (Nat.le_refl _) (.cells #[.slice pa n pc] 24)); go_enter Tryz.func6, Tryz.ntmps6; go_wp2_with fail; generalize w.alloc (.cells #[.slice pa n pc] 24) = w0 at *
 have HC : Hid (∀ wx, Below w0.heap.size w0 wx -> wx.cell? ⟨w.heap.size, 0, none⟩ = some (.slice pa n pc)) := hide fun wx hb => cell_box ((hb.block _ (Ow.lt_of_blk hx0.out)).trans hx0.out) 0; have HW : Hid (∀ wx, Below w0.heap.size w0 wx -> Below w.heap.size w wx) := hide fun wx hb => HB0.out.trans (hb.mono HB0.out.size); clear hx0; refine (Heavy_any cs _ w0 (HP.out w0 HB0.out)).mono ?_; rintro e w1 ⟨⟨b, rfl, hlb⟩, hb1⟩; have HB1 := hide hb1; clear hb1; cases b with
 | true =>
   go_wp2_with fail; go_ret; exact ⟨rfl, HW.out _ HB1.out⟩
 | false =>
   have HLt := hide (hlb rfl); have d0 := HC.out w1 HB1.out; clear hlb; go_wp2_with fail; refine (RLayout_any cs _ w1 (HP.out _ (HW.out _ HB1.out)) HLt.out).mono ?_; rintro e w2 ⟨rfl, hb2⟩; have HB2 := hide (HB1.out.trans (hb2.mono HB1.out.size)); clear hb2 d0; have d0 := HC.out w2 HB2.out; by_cases he : Ly.layE cs ≠ 0
   · generalize Ly.layE cs = er at *
     have he' : (er != 0) = true := by simpa using he
     go_wp2_with fail; go_ret; exact ⟨rfl, HW.out _ HB2.out⟩
   have HE := hide (show Ly.layE cs = 0 by simpa using he)
   have HEr := hide (Lx.lay_err HE.out); rw [HE.out]; clear he; go_wp2_with fail; refine (All_any cs _ w2 (HP.out _ (HW.out _ HB2.out)) HLt.out).mono ?_; rintro e w3 ⟨vl, rfl, hol, hb3⟩; have HB3 := hide (HB2.out.trans (hb3.mono HB2.out.size)); clear hb3 d0; have d0 := HC.out w3 HB3.out; have HRw := hide (hol.row Ow.shp_cls fun _ _ h => h.x); obtain ⟨la, lc, rfl⟩ := hol.shape; clear hol; have hml : (Hr.allL cs).length = 8 + n := by rw [Hr.all_len, HN.out]; rfl
   have hn14 : n <= 14 := by rw [HN.out]; exact HLt.out.1
   rw [hml] at HRw ⊢; obtain ⟨m, hm⟩ : ∃ m, m = 8 + n := ⟨_, rfl⟩; rw [<- hm] at HRw ⊢; have HM : Hid (m = (Hr.allL cs).length) := hide (by rw [hm, hml])
   have hm2 : 8 <= m := by omega
   have hm3 : m <= 22 := by omega
   have HAt : Hid (∀ q : Nat, q < m -> ∃ (x : Pp.XCls) (g o : Nat) (v1 v2 v3 : Value), (Hr.allL cs)[q]? = some x /\ la = some ⟨g, o, none⟩ /\ (∃ a n c, v1 = .slice a n c) /\ (∃ a n c, v2 = .slice a n c) /\ (∃ a n c, v3 = .slice a n c) /\ ∀ wx, Below w3.heap.size w3 wx -> wx.cell? ⟨g, o + q * 6, none⟩ = some (.string ⟨x.name.toArray⟩) /\ wx.cell? ⟨g, o + q * 6 + 1, none⟩ = some (.bool x.iface) /\ wx.cell? ⟨g, o + q * 6 + 2, none⟩ = some (.string ⟨x.super.toArray⟩) /\ wx.cell? ⟨g, o + q * 6 + 3, none⟩ = some v1 /\ wx.cell? ⟨g, o + q * 6 + 4, none⟩ = some v2 /\ wx.cell? ⟨g, o + q * 6 + 5, none⟩ = some v3) := hide (by
    intro q hq; have hx : (Hr.allL cs)[q]? = some ((Hr.allL cs)[q]'(by rw [<- HM.out]; exact hq)) := List.getElem?_eq_getElem _
    obtain ⟨g, o, e1, ys, hys, hc⟩ := Hr.row_at HRw.out hx; obtain ⟨va1, vd1, va2, vd2, va3, vd3, rfl⟩ := Hr.at_c hys
    exact ⟨_, g, o, _, _, _, hx, e1, ⟨_, _, _, rfl⟩, ⟨_, _, _, rfl⟩, ⟨_, _, _, rfl⟩, fun wx hb => ⟨hc wx hb 0 _ rfl, hc wx hb 1 _ rfl, hc wx hb 2 _ rfl, hc wx hb 3 _ rfl, hc wx hb 4 _ rfl, hc wx hb 5 _ rfl⟩⟩)
   have hmi : (m : Int) <= 22 := by omega
   have hm0 : ¬ m = 0 := by omega
   have hmz : ((m : Int) == 0) = false := by simp; omega
   have hwm : IntKind.u64.wrap (m : Int) = (m : Int) := by rw [IntKind.wrap_u64]; omega
   clear hml hm; obtain ⟨qa, hqa, hwa⟩ := mod_at a m (by omega) (by omega)
   obtain ⟨xa, ga, oa, va1, va2, va3, hxa, rfl, ⟨ya3, na3, ca3, rfl⟩, ⟨ya4, na4, ca4, rfl⟩, ⟨ya5, na5, ca5, rfl⟩, hca⟩ := HAt.out qa hqa; have HXa := hide hca; have HKa : Hid (Lx.Known cs xa.name) := hide ⟨_, _, hxa, rfl⟩; have HIa := hide hxa; have hqa' : (qa : Int) < (m : Int) := by omega
   have hwa' : IntKind.i64.wrap ((IntKind.u64.wrap a).tmod (m : Int)) = (qa : Int) := by rw [IntWalk.i64_left]; exact hwa
   clear hca hxa; obtain ⟨qb, hqb, hwb⟩ := mod_at b m (by omega) (by omega)
   obtain ⟨xb, gb, ob, vb1, vb2, vb3, hxb, eb, ⟨yb3, nb3, cb3, rfl⟩, ⟨yb4, nb4, cb4, rfl⟩, ⟨yb5, nb5, cb5, rfl⟩, hcb⟩ := HAt.out qb hqb; cases eb; have HXb := hide hcb; have HKb : Hid (Lx.Known cs xb.name) := hide ⟨_, _, hxb, rfl⟩; have HIb := hide hxb; have hqb' : (qb : Int) < (m : Int) := by omega
   have hwb' : IntKind.i64.wrap ((IntKind.u64.wrap b).tmod (m : Int)) = (qb : Int) := by rw [IntWalk.i64_left]; exact hwb
   clear hcb hxb; obtain ⟨qc, hqc, hwc⟩ := mod_at c m (by omega) (by omega)
   obtain ⟨xc, gc, oc, vc1, vc2, vc3, hxc, ec, ⟨yc3, nc3, cc3, rfl⟩, ⟨yc4, nc4, cc4, rfl⟩, ⟨yc5, nc5, cc5, rfl⟩, hcc⟩ := HAt.out qc hqc; cases ec; have HXc := hide hcc; have HKc : Hid (Lx.Known cs xc.name) := hide ⟨_, _, hxc, rfl⟩; have HIc := hide hxc; have hqc' : (qc : Int) < (m : Int) := by omega
   have hwc' : IntKind.i64.wrap ((IntKind.u64.wrap c).tmod (m : Int)) = (qc : Int) := by rw [IntWalk.i64_left]; exact hwc
   clear hcc hxc; clear HAt HRw; go_wp2_with fail; rename_i K hK; have HS := hide (fun wz (hb : Below w3.heap.size w3 wz) => And.intro (HXa.out wz hb) (And.intro (HXb.out wz hb) (HXc.out wz hb)))
   have hcut : ∀ (ba bb bc : Nat) (t0 t1 t2 t3 t5 t6 t7 t9 t13 t14 t15 t16 t17 t18 t19 t20 t21 t22 t23 t24 t25 t26 t27 t28 t29 t30 t31 t32 t33 t34 t35 t36 t37 t38 t39 t40 t41 t42 t43 t44 t45 t46 t47 t48 t49 t50 t51 t52 t53 t54 t55 t56 t57 t58 t59 t60 t61 t62 t63 t64 t65 t66 t67 t68 t69 t70 t71 t72 t73 t74 t75 t76 t77 t78 t79 t80 t81 t82 t83 t84 t85 t86 t87 t88 t89 t90 t91 t92 t93 t94 t95 t96 t97 t98 t99 t100 t101 t102 t103 t104 t105 t106 t107 t108 t109 t110 t111 t112 : Value) (wx : World), Hid (Below w3.heap.size w3 wx) -> Hid (wx.heap[ba]? = some (.cells #[.string ⟨xa.name.toArray⟩, .bool xa.iface, .string ⟨xa.super.toArray⟩, .slice ya3 na3 ca3, .slice ya4 na4 ca4, .slice ya5 na5 ca5] 42 (0, 0))) -> Hid (wx.heap[bb]? = some (.cells #[.string ⟨xb.name.toArray⟩, .bool xb.iface, .string ⟨xb.super.toArray⟩, .slice yb3 nb3 cb3, .slice yb4 nb4 cb4, .slice yb5 nb5 cb5] 42 (0, 0))) -> Hid (wx.heap[bc]? = some (.cells #[.string ⟨xc.name.toArray⟩, .bool xc.iface, .string ⟨xc.super.toArray⟩, .slice yc3 nc3 cc3, .slice yc4 nc4 cc4, .slice yc5 nc5 cc5] 42 (0, 0))) -> K { tmps := #[t0, t1, t2, t3, .pointer (some ⟨w.heap.size, 0, none⟩), t5, t6, t7, .bool false, t9, .pointer (some ⟨ba, 0, none⟩), .pointer (some ⟨bb, 0, none⟩), .pointer (some ⟨bc, 0, none⟩), t13, t14, t15, t16, t17, t18, t19, t20, t21, t22, t23, t24, t25, t26, t27, t28, t29, t30, t31, t32, t33, t34, t35, t36, t37, t38, t39, t40, t41, t42, t43, t44, t45, t46, t47, t48, t49, t50, t51, t52, t53, t54, t55, t56, t57, t58, t59, t60, t61, t62, t63, t64, t65, t66, t67, t68, t69, t70, t71, t72, t73, t74, t75, t76, t77, t78, t79, t80, t81, t82, t83, t84, t85, t86, t87, t88, t89, t90, t91, t92, t93, t94, t95, t96, t97, t98, t99, t100, t101, t102, t103, t104, t105, t106, t107, t108, t109, t110, t111, t112], defers := [] } wx := by
    intro ba bb bc t0 t1 t2 t3 t5 t6 t7 t9 t13 t14 t15 t16 t17 t18 t19 t20 t21 t22 t23 t24 t25 t26 t27 t28 t29 t30 t31 t32 t33 t34 t35 t36 t37 t38 t39 t40 t41 t42 t43 t44 t45 t46 t47 t48 t49 t50 t51 t52 t53 t54 t55 t56 t57 t58 t59 t60 t61 t62 t63 t64 t65 t66 t67 t68 t69 t70 t71 t72 t73 t74 t75 t76 t77 t78 t79 t80 t81 t82 t83 t84 t85 t86 t87 t88 t89 t90 t91 t92 t93 t94 t95 t96 t97 t98 t99 t100 t101 t102 t103 t104 t105 t106 t107 t108 t109 t110 t111 t112 wx HBx HA0 HB0' HC0; refine hK _ _ ?_; clear hK HS HXa HXb HXc hqa hqa' hwa hwa' hqb hqb' hwb hwb' hqc hqc' hwc hwc' hmi hm0 hmz hwm hm2 hm3 d0; have HBx0 := hide (HB3.out.trans (HBx.out.mono HB3.out.size)); have i0 := cell_box HA0.out 1; have i1 := cell_box HB0'.out 1; have i2 := cell_box HC0.out 1; by_cases hif : xa.iface = true \/ xb.iface = true \/ xc.iface = true
    · have hif' : xa.iface = true \/ (xa.iface = false /\ xb.iface = true) \/ (xa.iface = false /\ xb.iface = false /\ xc.iface = true) := by
       revert hif; cases xa.iface <;> cases xb.iface <;> cases xc.iface <;> simp
      clear hif
      rcases hif' with h1 | ⟨h1, h2⟩ | ⟨h1, h2, h3⟩
      all_goals
       go_wp2_with fail; refine (LWakes_any _ (HT.out _ (HW.out _ HBx0.out))).mono ?_; rintro e w4 ⟨rfl, hb⟩; have HBf := hide (HBx0.out.trans (hb.mono HBx0.out.size)); clear hb; go_wp2_with fail; go_ret; exact ⟨rfl, HW.out _ HBf.out⟩
    have hia : xa.iface = false := by cases h : xa.iface with | false => rfl | true => exact absurd (.inl h) hif
    have hib : xb.iface = false := by cases h : xb.iface with | false => rfl | true => exact absurd (.inr (.inl h)) hif
    have hic : xc.iface = false := by cases h : xc.iface with | false => rfl | true => exact absurd (.inr (.inr h)) hif
    have HCa : Hid (Lx.ClassN cs false xa.name) := hide ⟨_, _, HIa.out, rfl, hia⟩; have HCb : Hid (Lx.ClassN cs false xb.name) := hide ⟨_, _, HIb.out, rfl, hib⟩; have HCc : Hid (Lx.ClassN cs false xc.name) := hide ⟨_, _, HIc.out, rfl, hic⟩; clear hif; have HLa := hide (Lx.known_len HLt.out HKa.out); have HLb := hide (Lx.known_len HLt.out HKb.out)
    have HM : Hid (∀ wz, Below w0.heap.size w0 wz -> Calls Tryz.prog 10 #[.agg #[.slice pa n pc], .agg #[.int .i64 3, .string ⟨xa.name.toArray⟩], .agg #[.int .i64 3, .string ⟨xb.name.toArray⟩]] wz fun e w' => e = .returned (.tuple #[.agg #[.int .i64 3, .string ⟨(Lx.meetN cs xa.name xb.name).toArray⟩], .int .i64 0]) /\ Below wz.heap.size wz w') := hide (by
     intro wz hb; have h := LMeet_any cs _ ⟨3, xa.name⟩ ⟨3, xb.name⟩ wz (HT.out _ (HW.out _ hb)) (HP.out _ (HW.out _ hb)) HLt.out HLa.out HLb.out; rw [Lx.meetX_yes HE.out (show Lx.rightT cs ⟨3, xa.name⟩ = true from Lx.right_known3 HEr.out HKa.out) (show Lx.rightT cs ⟨3, xb.name⟩ = true from Lx.right_known3 HEr.out HKb.out), Lx.meetL_known HEr.out HKa.out] at h
     exact h)
    have HLe := hide (fun h1 h2 => Lx.meet_least HEr.out HCa.out HCb.out HCc.out h1 h2); generalize Lx.meetN cs xa.name xb.name = lm at *
    go_wp2_with fail; rename_i K2 hK2
    have hcut2 : ∀ (bt : Nat) (t0 t1 t2 t3 t5 t6 t7 t9 t15 t16 t17 t18 t19 t20 t21 t22 t23 t24 t25 t26 t27 t28 t29 t30 t31 t32 t33 t34 t35 t36 t37 t38 t39 t40 t41 t42 t43 t44 t45 t46 t47 t48 t49 t50 t51 t52 t53 t54 t55 t56 t57 t58 t59 t60 t61 t62 t63 t64 t65 t66 t67 t68 t69 t70 t71 t72 t73 t74 t75 t76 t77 t78 t79 t80 t81 t82 t83 t84 t85 t86 t87 t88 t89 t90 t91 t92 t93 t94 t95 t96 t97 t98 t99 t100 t101 t102 t103 t104 t105 t106 t107 t108 t109 t110 t111 t112 : Value) (wy : World), Hid (Below wx.heap.size wx wy) -> Hid (wy.heap[bt]? = some (.cells #[.int .i64 3, .string ⟨lm.toArray⟩] 26 (0, 0))) -> K2 { tmps := #[t0, t1, t2, t3, .pointer (some ⟨w.heap.size, 0, none⟩), t5, t6, t7, .bool false, t9, .pointer (some ⟨ba, 0, none⟩), .pointer (some ⟨bb, 0, none⟩), .pointer (some ⟨bc, 0, none⟩), .pointer (some ⟨bt, 0, none⟩), .int .i64 0, t15, t16, t17, t18, t19, t20, t21, t22, t23, t24, t25, t26, t27, t28, t29, t30, t31, t32, t33, t34, t35, t36, t37, t38, t39, t40, t41, t42, t43, t44, t45, t46, t47, t48, t49, t50, t51, t52, t53, t54, t55, t56, t57, t58, t59, t60, t61, t62, t63, t64, t65, t66, t67, t68, t69, t70, t71, t72, t73, t74, t75, t76, t77, t78, t79, t80, t81, t82, t83, t84, t85, t86, t87, t88, t89, t90, t91, t92, t93, t94, t95, t96, t97, t98, t99, t100, t101, t102, t103, t104, t105, t106, t107, t108, t109, t110, t111, t112], defers := [] } wy := by
     intro bt t0 t1 t2 t3 t5 t6 t7 t9 t15 t16 t17 t18 t19 t20 t21 t22 t23 t24 t25 t26 t27 t28 t29 t30 t31 t32 t33 t34 t35 t36 t37 t38 t39 t40 t41 t42 t43 t44 t45 t46 t47 t48 t49 t50 t51 t52 t53 t54 t55 t56 t57 t58 t59 t60 t61 t62 t63 t64 t65 t66 t67 t68 t69 t70 t71 t72 t73 t74 t75 t76 t77 t78 t79 t80 t81 t82 t83 t84 t85 t86 t87 t88 t89 t90 t91 t92 t93 t94 t95 t96 t97 t98 t99 t100 t101 t102 t103 t104 t105 t106 t107 t108 t109 t110 t111 t112 wy HBy HTt; refine hK2 _ _ ?_; clear hK2; have HBy0 := hide (HBx0.out.trans (HBy.out.mono HBx0.out.size))
     have HSy := hide (fun wz (hb : Below wy.heap.size wy wz) => show wz.cell? ⟨w.heap.size, 0, none⟩ = some (.slice pa n pc) /\ wz.cell? ⟨ba, 0, none⟩ = some (.string ⟨xa.name.toArray⟩) /\ wz.cell? ⟨bb, 0, none⟩ = some (.string ⟨xb.name.toArray⟩) /\ wz.cell? ⟨bc, 0, none⟩ = some (.string ⟨xc.name.toArray⟩) /\ wz.cell? ⟨bt, 0, none⟩ = some (.int .i64 3) /\ wz.cell? ⟨bt, 1, none⟩ = some (.string ⟨lm.toArray⟩) from
      have hz := HBy.out.trans (hb.mono HBy.out.size)
      ⟨HC.out wz (HBy0.out.trans (hb.mono HBy0.out.size)), cell_box ((hz.block _ (Ow.lt_of_blk HA0.out)).trans HA0.out) 0, cell_box ((hz.block _ (Ow.lt_of_blk HB0'.out)).trans HB0'.out) 0, cell_box ((hz.block _ (Ow.lt_of_blk HC0.out)).trans HC0.out) 0, cell_box ((hb.block _ (Ow.lt_of_blk HTt.out)).trans HTt.out) 0, cell_box ((hb.block _ (Ow.lt_of_blk HTt.out)).trans HTt.out) 1⟩)
     clear HA0 HB0' HC0 HTt HC i0 i1 i2; obtain ⟨d0, d1, d2, d3, d4, d5⟩ := HSy.out wy (Below.refl _ _); go_wp2_with fail; refine (Under_any cs _ xa.name xc.name wy (HT.out _ (HW.out _ HBy0.out)) (HP.out _ (HW.out _ HBy0.out))).mono ?_; rintro e w8 ⟨hy, hb⟩; have HB8 := hide hb; have HB80 := hide (HBy0.out.trans (hb.mono HBy0.out.size)); clear hb d0 d1 d2 d3 d4 d5; obtain ⟨d0, d1, d2, d3, d4, d5⟩ := HSy.out w8 HB8.out; by_cases hu1 : Hr.underQ cs xa.name xc.name
     case neg =>
      have hq := hy.f hu1; subst hq; clear hy hu1; go_wp2_with fail; refine (LWakes_any _ (HT.out _ (HW.out _ HB80.out))).mono ?_; rintro e w9 ⟨rfl, hb⟩; have HBf := hide (HB80.out.trans (hb.mono HB80.out.size)); clear hb; go_wp2_with fail; go_ret; exact ⟨rfl, HW.out _ HBf.out⟩
     have hq := hy.t hu1; subst hq; have HU1 := hide hu1; clear hy hu1; go_wp2_with fail; refine (Under_any cs _ xb.name xc.name w8 (HT.out _ (HW.out _ HB80.out)) (HP.out _ (HW.out _ HB80.out))).mono ?_; rintro e w9 ⟨hy, hb⟩; have HB9 := hide (HB8.out.trans (hb.mono HB8.out.size)); have HB90 := hide (HB80.out.trans (hb.mono HB80.out.size)); clear hb d0 d1 d2 d3 d4 d5; obtain ⟨d0, d1, d2, d3, d4, d5⟩ := HSy.out w9 HB9.out; by_cases hu2 : Hr.underQ cs xb.name xc.name
     case neg =>
      have hq := hy.f hu2; subst hq; clear hy hu2; go_wp2_with fail; refine (LWakes_any _ (HT.out _ (HW.out _ HB90.out))).mono ?_; rintro e w10 ⟨rfl, hb⟩; have HBf := hide (HB90.out.trans (hb.mono HB90.out.size)); clear hb; go_wp2_with fail; go_ret; exact ⟨rfl, HW.out _ HBf.out⟩
     have hq := hy.t hu2; subst hq; have HU2 := hide hu2; clear hy hu2; go_wp2_with fail; refine (Under_any cs _ lm xc.name w9 (HT.out _ (HW.out _ HB90.out)) (HP.out _ (HW.out _ HB90.out))).mono ?_; rintro e w10 ⟨hy, hb⟩; have HB100 := hide (HB90.out.trans (hb.mono HB90.out.size)); clear hb d0 d1 d2 d3 d4 d5; have hq := hy.t (HLe.out HU1.out HU2.out); subst hq; clear hy; go_wp2_with fail; refine (LWakes_any _ (HT.out _ (HW.out _ HB100.out))).mono ?_; rintro e w11 ⟨rfl, hb⟩; have HBf := hide (HB100.out.trans (hb.mono HB100.out.size)); clear hb; go_wp2_with fail; go_ret; exact ⟨rfl, HW.out _ HBf.out⟩
    clear hK2; have HS := hide (fun wz (hb : Below wx.heap.size wx wz) => show wz.cell? ⟨w.heap.size, 0, none⟩ = some (.slice pa n pc) /\ wz.cell? ⟨ba, 0, none⟩ = some (.string ⟨xa.name.toArray⟩) /\ wz.cell? ⟨bb, 0, none⟩ = some (.string ⟨xb.name.toArray⟩) from ⟨HC.out wz (HBx0.out.trans (hb.mono HBx0.out.size)), cell_box ((hb.block _ (Ow.lt_of_blk HA0.out)).trans HA0.out) 0, cell_box ((hb.block _ (Ow.lt_of_blk HB0'.out)).trans HB0'.out) 0⟩)
    have HBz : Hid (Below wx.heap.size wx wx.drew) := hide (Below.drew (Below.refl _ _)); have HBo := hide (fun o => HBz.out.alloc HBz.out.size o); have HBd := hide (fun o => Below.drew ((Below.refl wx.heap.size wx).alloc (Nat.le_refl _) o)); have hk : wx.heap.size <= wx.heap.size := Nat.le_refl _; clear i0 i1 i2 HA0 HB0' HC0
    go_region_held3 (fun wz => wz.cell? ⟨w.heap.size, 0, none⟩ = some (.slice pa n pc) /\ wz.cell? ⟨ba, 0, none⟩ = some (.string ⟨xa.name.toArray⟩) /\ wz.cell? ⟨bb, 0, none⟩ = some (.string ⟨xb.name.toArray⟩)) (first | with_reducible exact HS.out _ HBz.out | with_reducible exact HS.out _ (HBo.out _) | with_reducible exact HS.out _ (HBd.out _) | with_reducible exact HS.out _ ((HBz.out.setCell (p := ⟨_, 0, none⟩) hk _).setCell (p := ⟨_, 1, none⟩) hk _))
     (first
     | (go_at_call 19
        with_reducible refine (lref_any _ _).mono ?_
        rintro e w6 ⟨rfl, hb6⟩
        first
         | (have hN6 := (hb6.block wx.heap.size (by simp)).trans (heap_alloc_new wx (.cells #[.int .i64 0, .string ⟨#[]⟩] 26))
            have hk : wx.heap.size <= wx.heap.size := Nat.le_refl _)
         | (have hN6 := (hb6.block _ (by simp)).trans (heap_alloc_new _ (.cells #[.int .i64 0, .string ⟨#[]⟩] 26))
            have hk := HBz.out.size)
         | (have hN6 := (hb6.block _ (Ow.lt_of_blk hN6)).trans hN6)
         | skip
        have hbx : Below wx.heap.size wx w6 := by
         first
          | with_reducible exact HBz.out.trans (hb6.mono HBz.out.size)
          | with_reducible exact (HBo.out _).trans (hb6.mono (HBo.out _).size)
          | with_reducible exact (HBd.out _).trans (hb6.mono (HBd.out _).size)
        have HBz := hide hbx; have HBo := hide (fun o => HBz.out.alloc HBz.out.size o); have HBd := hide (fun o => Below.drew (HBz.out.alloc HBz.out.size o))
        clear hb6 hbx)
     | (go_at_call 10
        first
         | with_reducible refine (HM.out _ (HBx0.out.trans (HBz.out.mono HBx0.out.size))).mono ?_
         | with_reducible refine (HM.out _ (HBx0.out.trans ((HBo.out _).mono HBx0.out.size))).mono ?_
         | with_reducible refine (HM.out _ (HBx0.out.trans ((HBd.out _).mono HBx0.out.size))).mono ?_
        rintro e w7 ⟨rfl, hb7⟩
        first
         | (have HN7 := hide ((hb7.block _ (Ow.lt_of_blk hN6)).trans hN6)
            clear hN6)
         | (have HN7 := hide ((hb7.block _ (by simp)).trans (heap_alloc_new _ (.cells #[.int .i64 0, .string ⟨#[]⟩] 26)))
            have hk := HBz.out.size)
         | skip
        try
         have n0 := cell_box HN7.out 0; have n1 := cell_box HN7.out 1; have f0 := Ow.fz_blk HN7.out 0; have f1 := Ow.fz_blk HN7.out 1
        have hbx : Below wx.heap.size wx w7 := by
         first
          | with_reducible exact HBz.out.trans (hb7.mono HBz.out.size)
          | with_reducible exact (HBo.out _).trans (hb7.mono (HBo.out _).size)
          | with_reducible exact (HBd.out _).trans (hb7.mono (HBd.out _).size)
        have HBz := hide hbx; have HBo := hide (fun o => HBz.out.alloc HBz.out.size o); have HBd := hide (fun o => Below.drew (HBz.out.alloc HBz.out.size o))
        clear hb7 hbx)
     | fail)
    all_goals
     first
      | (have hP := Ow.blk_put (Ow.blk_put HN7.out 0 (.int .i64 3)) 1 (.string ⟨lm.toArray⟩)
         exact hcut2 _ _ _ _ _ _ _ _ _ _ _ _ _ _ _ _ _ _ _ _ _ _ _ _ _ _ _ _ _ _ _ _ _ _ _ _ _ _ _ _ _ _ _ _ _ _ _ _ _ _ _ _ _ _ _ _ _ _ _ _ _ _ _ _ _ _ _ _ _ _ _ _ _ _ _ _ _ _ _ _ _ _ _ _ _ _ _ _ _ _ _ _ _ _ _ _ _ _ _ _ _ _ _ _ _ _ _ _ (hide ((HBz.out.setCell (p := ⟨_, 0, none⟩) hk _).setCell (p := ⟨_, 1, none⟩) hk _)) (hide hP))
      | exact hcut2 _ _ _ _ _ _ _ _ _ _ _ _ _ _ _ _ _ _ _ _ _ _ _ _ _ _ _ _ _ _ _ _ _ _ _ _ _ _ _ _ _ _ _ _ _ _ _ _ _ _ _ _ _ _ _ _ _ _ _ _ _ _ _ _ _ _ _ _ _ _ _ _ _ _ _ _ _ _ _ _ _ _ _ _ _ _ _ _ _ _ _ _ _ _ _ _ _ _ _ _ _ _ _ _ _ _ _ _ (hide (HBz.out.alloc HBz.out.size _)) (hide (heap_alloc_new _ _))
   clear HXa HXb HXc hK; have HB0d : Hid (Below w3.heap.size w3 w3.drew) := hide (Below.drew (Below.refl _ _)); have HB1d := hide (fun o => Below.drew ((Below.refl w3.heap.size w3).alloc (Nat.le_refl _) o)); have HB2d := hide (fun o o' => Below.drew (((Below.refl w3.heap.size w3).alloc (Nat.le_refl _) o).alloc (by simp) o'))
   have HB3d := hide (fun o o' o'' => Below.drew ((((Below.refl w3.heap.size w3).alloc (Nat.le_refl _) o).alloc (by simp) o').alloc (by simp; omega) o''))
   go_region_held3 (fun wz => (wz.cell? ⟨ga, oa + qa * 6, none⟩ = some (.string ⟨xa.name.toArray⟩) /\ wz.cell? ⟨ga, oa + qa * 6 + 1, none⟩ = some (.bool xa.iface) /\ wz.cell? ⟨ga, oa + qa * 6 + 2, none⟩ = some (.string ⟨xa.super.toArray⟩) /\ wz.cell? ⟨ga, oa + qa * 6 + 3, none⟩ = some (.slice ya3 na3 ca3) /\ wz.cell? ⟨ga, oa + qa * 6 + 4, none⟩ = some (.slice ya4 na4 ca4) /\ wz.cell? ⟨ga, oa + qa * 6 + 5, none⟩ = some (.slice ya5 na5 ca5)) /\ (wz.cell? ⟨ga, oa + qb * 6, none⟩ = some (.string ⟨xb.name.toArray⟩) /\ wz.cell? ⟨ga, oa + qb * 6 + 1, none⟩ = some (.bool xb.iface) /\ wz.cell? ⟨ga, oa + qb * 6 + 2, none⟩ = some (.string ⟨xb.super.toArray⟩) /\ wz.cell? ⟨ga, oa + qb * 6 + 3, none⟩ = some (.slice yb3 nb3 cb3) /\ wz.cell? ⟨ga, oa + qb * 6 + 4, none⟩ = some (.slice yb4 nb4 cb4) /\ wz.cell? ⟨ga, oa + qb * 6 + 5, none⟩ = some (.slice yb5 nb5 cb5)) /\ (wz.cell? ⟨ga, oa + qc * 6, none⟩ = some (.string ⟨xc.name.toArray⟩) /\ wz.cell? ⟨ga, oa + qc * 6 + 1, none⟩ = some (.bool xc.iface) /\ wz.cell? ⟨ga, oa + qc * 6 + 2, none⟩ = some (.string ⟨xc.super.toArray⟩) /\ wz.cell? ⟨ga, oa + qc * 6 + 3, none⟩ = some (.slice yc3 nc3 cc3) /\ wz.cell? ⟨ga, oa + qc * 6 + 4, none⟩ = some (.slice yc4 nc4 cc4) /\ wz.cell? ⟨ga, oa + qc * 6 + 5, none⟩ = some (.slice yc5 nc5 cc5))) (first | with_reducible exact HS.out _ HB0d.out | with_reducible exact HS.out _ (HB1d.out _) | with_reducible exact HS.out _ (HB2d.out _ _) | with_reducible exact HS.out _ (HB3d.out _ _ _)) (fail)
   all_goals
    refine hcut _ _ _ _ _ _ _ _ _ _ _ _ _ _ _ _ _ _ _ _ _ _ _ _ _ _ _ _ _ _ _ _ _ _ _ _ _ _ _ _ _ _ _ _ _ _ _ _ _ _ _ _ _ _ _ _ _ _ _ _ _ _ _ _ _ _ _ _ _ _ _ _ _ _ _ _ _ _ _ _ _ _ _ _ _ _ _ _ _ _ _ _ _ _ _ _ _ _ _ _ _ _ _ _ _ _ _ _ _ _ _ _ (hide (HB3d.out _ _ _)) ?_ ?_ ?_
    all_goals first | exact hide (blk3a w3 _ _ _) | exact hide (blk3b w3 _ _ _) | exact hide (blk3c w3 _ _ _)
end Go.Proofs.YtbbbnciejmdpfaaGreatDoor
