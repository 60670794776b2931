/- LatticeUnder: the walk. -/
import Derived.Test.YtbbbnciejmdpfabGreatDoorPkBy
import Derived.Test.YtbbbnciejmdpfabGreatDoorPkBz
set_option maxRecDepth 100000
set_option maxHeartbeats 64000000
set_option linter.unusedVariables false
set_option linter.unusedSimpArgs false
namespace Go.Proofs.YtbbbnciejmdpfabGreatDoor
open Go.RowKit
theorem latticeUnder_walk (v : Value) (cs : List Pp.XCls) (a : Int) (b : Int) (w : World) (ht : TabS w) (h : ProgX w v cs) :
 Calls Tryz.prog 3 #[.agg #[v], .int .i64 a, .int .i64 b] w fun e w' => e = .returned (.bool true) /\ Below w.heap.size w w' := by
 have HP := hide (fun wx (hb : Below w.heap.size w wx) => h.on hb); have HT := hide (fun wx (hb : Below w.heap.size w wx) => ht.below hb); obtain ⟨pa, pc, rfl, _⟩ := h.1.len; obtain ⟨n, hn'⟩ : ∃ n, n = cs.length := ⟨_, rfl⟩; have HN := hide hn'; rw [<- hn'] at HP ⊢; clear h ht hn'; have hx0 := hide (heap_alloc_new w (.cells #[.slice pa n pc] 24)); have HB0 := hide ((Below.refl w.heap.size w).alloc (Nat.le_refl _) (.cells #[.slice pa n pc] 24)); go_enter Tryz.func3, Tryz.ntmps3; go_wp2_with fail; generalize w.alloc (.cells #[.slice pa n pc] 24) = w0 at *
 have HC : Hid (∀ wx, Below w0.heap.size w0 wx -> wx.cell? ⟨w.heap.size, 0, none⟩ = some (.slice pa n pc)) := hide fun wx hb => cell_box ((hb.block _ (Ow.lt_of_blk hx0.out)).trans hx0.out) 0; have HW : Hid (∀ wx, Below w0.heap.size w0 wx -> Below w.heap.size w wx) := hide fun wx hb => HB0.out.trans (hb.mono HB0.out.size); clear hx0; refine (Heavy_any cs _ w0 (HP.out w0 HB0.out)).mono ?_; rintro e w1 ⟨⟨b, rfl, hlb⟩, hb1⟩; have HB1 := hide hb1; clear hb1; cases b with
 | true =>
   go_wp2_with fail; go_ret; exact ⟨rfl, HW.out _ HB1.out⟩
 | false =>
   have HLt := hide (hlb rfl); have d0 := HC.out w1 HB1.out; clear hlb; go_wp2_with fail; refine (RLayout_any cs _ w1 (HP.out _ (HW.out _ HB1.out)) HLt.out).mono ?_; rintro e w2 ⟨rfl, hb2⟩; have HB2 := hide (HB1.out.trans (hb2.mono HB1.out.size)); clear hb2 d0; have d0 := HC.out w2 HB2.out; by_cases he : Ly.layE cs ≠ 0
   · generalize Ly.layE cs = er at *
     have he' : (er != 0) = true := by simpa using he
     go_wp2_with fail; go_ret; exact ⟨rfl, HW.out _ HB2.out⟩
   have HE := hide (show Ly.layE cs = 0 by simpa using he)
   have HEr := hide (Lx.lay_err HE.out); rw [HE.out]; clear he; go_wp2_with fail; refine (All_any cs _ w2 (HP.out _ (HW.out _ HB2.out)) HLt.out).mono ?_; rintro e w3 ⟨vl, rfl, hol, hb3⟩; have HB3 := hide (HB2.out.trans (hb3.mono HB2.out.size)); clear hb3 d0; have d0 := HC.out w3 HB3.out; have HRw := hide (hol.row Ow.shp_cls fun _ _ h => h.x); obtain ⟨la, lc, rfl⟩ := hol.shape; clear hol; have hml : (Hr.allL cs).length = 8 + n := by rw [Hr.all_len, HN.out]; rfl
   have hn14 : n <= 14 := by rw [HN.out]; exact HLt.out.1
   rw [hml] at HRw ⊢; obtain ⟨m, hm⟩ : ∃ m, m = 8 + n := ⟨_, rfl⟩; rw [<- hm] at HRw ⊢; have HM : Hid (m = (Hr.allL cs).length) := hide (by rw [hm, hml])
   have hm2 : 8 <= m := by omega
   have hm3 : m <= 22 := by omega
   have HAt : Hid (∀ q : Nat, q < m -> ∃ (x : Pp.XCls) (g o : Nat) (v1 v2 v3 : Value), (Hr.allL cs)[q]? = some x /\ la = some ⟨g, o, none⟩ /\ (∃ a n c, v1 = .slice a n c) /\ (∃ a n c, v2 = .slice a n c) /\ (∃ a n c, v3 = .slice a n c) /\ ∀ wx, Below w3.heap.size w3 wx -> wx.cell? ⟨g, o + q * 6, none⟩ = some (.string ⟨x.name.toArray⟩) /\ wx.cell? ⟨g, o + q * 6 + 1, none⟩ = some (.bool x.iface) /\ wx.cell? ⟨g, o + q * 6 + 2, none⟩ = some (.string ⟨x.super.toArray⟩) /\ wx.cell? ⟨g, o + q * 6 + 3, none⟩ = some v1 /\ wx.cell? ⟨g, o + q * 6 + 4, none⟩ = some v2 /\ wx.cell? ⟨g, o + q * 6 + 5, none⟩ = some v3) := hide (by
    intro q hq; have hx : (Hr.allL cs)[q]? = some ((Hr.allL cs)[q]'(by rw [<- HM.out]; exact hq)) := List.getElem?_eq_getElem _
    obtain ⟨g, o, e1, ys, hys, hc⟩ := Hr.row_at HRw.out hx; obtain ⟨va1, vd1, va2, vd2, va3, vd3, rfl⟩ := Hr.at_c hys
    exact ⟨_, g, o, _, _, _, hx, e1, ⟨_, _, _, rfl⟩, ⟨_, _, _, rfl⟩, ⟨_, _, _, rfl⟩, fun wx hb => ⟨hc wx hb 0 _ rfl, hc wx hb 1 _ rfl, hc wx hb 2 _ rfl, hc wx hb 3 _ rfl, hc wx hb 4 _ rfl, hc wx hb 5 _ rfl⟩⟩)
   have hmi : (m : Int) <= 22 := by omega
   have hm0 : ¬ m = 0 := by omega
   have hmz : ((m : Int) == 0) = false := by simp; omega
   have hwm : IntKind.u64.wrap (m : Int) = (m : Int) := by rw [IntKind.wrap_u64]; omega
   clear hml hm; obtain ⟨qa, hqa, hwa⟩ := mod_at a m (by omega) (by omega)
   obtain ⟨xa, ga, oa, va1, va2, va3, hxa, rfl, ⟨ya3, na3, ca3, rfl⟩, ⟨ya4, na4, ca4, rfl⟩, ⟨ya5, na5, ca5, rfl⟩, hca⟩ := HAt.out qa hqa; have HXa := hide hca; have HKa : Hid (Lx.Known cs xa.name) := hide ⟨_, _, hxa, rfl⟩; have HIa := hide hxa; have hqa' : (qa : Int) < (m : Int) := by omega
   have hwa' : IntKind.i64.wrap ((IntKind.u64.wrap a).tmod (m : Int)) = (qa : Int) := by rw [IntWalk.i64_left]; exact hwa
   clear hca hxa; obtain ⟨qb, hqb, hwb⟩ := mod_at b m (by omega) (by omega)
   obtain ⟨xb, gb, ob, vb1, vb2, vb3, hxb, eb, ⟨yb3, nb3, cb3, rfl⟩, ⟨yb4, nb4, cb4, rfl⟩, ⟨yb5, nb5, cb5, rfl⟩, hcb⟩ := HAt.out qb hqb; cases eb; have HXb := hide hcb; have HKb : Hid (Lx.Known cs xb.name) := hide ⟨_, _, hxb, rfl⟩; have HIb := hide hxb; have hqb' : (qb : Int) < (m : Int) := by omega
   have hwb' : IntKind.i64.wrap ((IntKind.u64.wrap b).tmod (m : Int)) = (qb : Int) := by rw [IntWalk.i64_left]; exact hwb
   clear hcb hxb; clear HAt HRw; have HWk : Hid (∀ wz, Below w0.heap.size w0 wz -> Calls Tryz.prog 10 #[] wz fun e w' => e = .returned (.bool true) /\ Below wz.heap.size wz w') := hide fun wz hb => LWakes_any wz (HT.out _ (HW.out _ hb)); have HD : Hid (Below w3.heap.size w3 w3.drew) := hide (Below.drew (Below.refl _ _)); clear d0; go_wp2_with fail
   go_region_held3 (fun wz => wz.cell? ⟨ga, oa + qa * 6, none⟩ = some (.string ⟨xa.name.toArray⟩) /\ wz.cell? ⟨ga, oa + qb * 6, none⟩ = some (.string ⟨xb.name.toArray⟩)) (exact ⟨(HXa.out _ HD.out).1, (HXb.out _ HD.out).1⟩) (fail)
   all_goals
    have HB4 := hide (HB3.out.trans (HD.out.mono HB3.out.size)); clear HXa HXb hqa hqa' hwa hwa' hqb hqb' hwb hwb' hmi hm0 hwm hm2 hm3 HD HIa HIb; generalize w3.drew = w4 at *
    try simp only [hmz]
    clear hmz; have HLlx := hide (Lx.known_len HLt.out HKa.out); have HLly := hide (Lx.known_len HLt.out HKb.out); have HKlx := HKa; have HKly := HKb; generalize xa.name = lx at *
    generalize xb.name = ly at *
    clear HKa HKb; by_cases hxy : lx = ly
    · subst hxy
      by_cases ho : lx = Hr.objN
      · have HOb := hide ho
        clear ho
        have HF1 : Hid (∀ wz, Below w0.heap.size w0 wz -> Calls Tryz.prog 7 #[.agg #[.slice pa n pc], .agg #[.int .i64 3, .string ⟨lx.toArray⟩], .agg #[.int .i64 3, .string ⟨lx.toArray⟩]] wz fun e w' => e = .returned (.bool (Hr.underB cs lx lx)) /\ Below wz.heap.size wz w') := hide (by
         intro wz hb; have h := LFits_any cs _ ⟨3, lx⟩ ⟨3, lx⟩ wz (HT.out _ (HW.out _ hb)) (HP.out _ (HW.out _ hb)) HLt.out HLlx.out HLlx.out; rw [Lx.fitsX_yes HE.out (show Lx.rightT cs ⟨3, lx⟩ = true from Lx.right_known3 HEr.out HKlx.out) (show Lx.rightT cs ⟨3, lx⟩ = true from Lx.right_known3 HEr.out HKlx.out), show Lx.fitsH cs 3 3 lx lx = (Hr.underB cs lx lx) from Lx.fits_refs HEr.out HKlx.out] at h
         exact h)
        have HF2 : Hid (∀ wz, Below w0.heap.size w0 wz -> Calls Tryz.prog 7 #[.agg #[.slice pa n pc], .agg #[.int .i64 5, .string ⟨lx.toArray⟩], .agg #[.int .i64 5, .string ⟨lx.toArray⟩]] wz fun e w' => e = .returned (.bool true) /\ Below wz.heap.size wz w') := hide (by
         intro wz hb; have h := LFits_any cs _ ⟨5, lx⟩ ⟨5, lx⟩ wz (HT.out _ (HW.out _ hb)) (HP.out _ (HW.out _ hb)) HLt.out HLlx.out HLlx.out; rw [Lx.fitsX_yes HE.out (show Lx.rightT cs ⟨5, lx⟩ = true from Lx.right_rows HEr.out HKlx.out) (show Lx.rightT cs ⟨5, lx⟩ = true from Lx.right_rows HEr.out HKlx.out), show Lx.fitsH cs 5 5 lx lx = true from Lx.fits_self _ _ _] at h
         exact h)
        have HF3 : Hid (∀ wz, Below w0.heap.size w0 wz -> Calls Tryz.prog 7 #[.agg #[.slice pa n pc], .agg #[.int .i64 5, .string ⟨lx.toArray⟩], .agg #[.int .i64 3, .string ⟨lx.toArray⟩]] wz fun e w' => e = .returned (.bool true) /\ Below wz.heap.size wz w') := hide (by
         intro wz hb; have h := LFits_any cs _ ⟨5, lx⟩ ⟨3, lx⟩ wz (HT.out _ (HW.out _ hb)) (HP.out _ (HW.out _ hb)) HLt.out HLlx.out HLlx.out; rw [Lx.fitsX_yes HE.out (show Lx.rightT cs ⟨5, lx⟩ = true from Lx.right_rows HEr.out HKlx.out) (show Lx.rightT cs ⟨3, lx⟩ = true from Lx.right_known3 HEr.out HKlx.out), show Lx.fitsH cs 5 3 lx lx = true from (by have h := Lx.fits_top cs lx; rw [<- HOb.out] at h; exact h)] at h
         exact h)
        have HF4 : Hid (∀ wz, Below w0.heap.size w0 wz -> Calls Tryz.prog 7 #[.agg #[.slice pa n pc], .agg #[.int .i64 3, .string ⟨lx.toArray⟩], .agg #[.int .i64 5, .string ⟨lx.toArray⟩]] wz fun e w' => e = .returned (.bool false) /\ Below wz.heap.size wz w') := hide (by
         intro wz hb; have h := LFits_any cs _ ⟨3, lx⟩ ⟨5, lx⟩ wz (HT.out _ (HW.out _ hb)) (HP.out _ (HW.out _ hb)) HLt.out HLlx.out HLlx.out; rw [Lx.fitsX_yes HE.out (show Lx.rightT cs ⟨3, lx⟩ = true from Lx.right_known3 HEr.out HKlx.out) (show Lx.rightT cs ⟨5, lx⟩ = true from Lx.right_rows HEr.out HKlx.out), show Lx.fitsH cs 3 5 lx lx = false from Lx.fits_row cs _ _] at h
         exact h)
        have HUn : Hid (∀ wz, Below w0.heap.size w0 wz -> Calls Tryz.prog 9 #[.agg #[.slice pa n pc], .string ⟨lx.toArray⟩, .string ⟨lx.toArray⟩] wz fun e w' => e = .returned (.bool (Hr.underB cs lx lx)) /\ Below wz.heap.size wz w') := hide (by
         intro wz hb; refine (Under_any cs _ lx lx wz (HT.out _ (HW.out _ hb)) (HP.out _ (HW.out _ hb))).mono ?_; rintro e w' ⟨⟨z, rfl, hz⟩, hb'⟩
         have : z = Hr.underB cs lx lx := by
          rw [Bool.eq_iff_iff, hz]; exact (Hr.underB_iff _ _ _).symm
         rw [this]
         exact ⟨rfl, hb'⟩)
        generalize Hr.underB cs lx lx = uv at *
        have hxy : (lx == lx) = true := by simp
        have hyo : (lx == [79, 98, 106, 101, 99, 116]) = true := by rw [HOb.out]; rfl
        have hw : Below w4.heap.size w4 ((w4.alloc (.cells #[.int .i64 5, .string ⟨lx.toArray⟩] 36)).alloc (.cells #[.int .i64 5, .string ⟨lx.toArray⟩] 36)) := Ow.bel_alloc2 w4 _ _; have HBA := hide (HB4.out.trans (hw.mono HB4.out.size)); have hA := Ow.blk_alloc2a w4 (.cells #[.int .i64 5, .string ⟨lx.toArray⟩] 36) (.cells #[.int .i64 5, .string ⟨lx.toArray⟩] 36); have hB := Ow.blk_alloc2b w4 (.cells #[.int .i64 5, .string ⟨lx.toArray⟩] 36) (.cells #[.int .i64 5, .string ⟨lx.toArray⟩] 36); clear hw; go_wp2_with fail; generalize (w4.alloc (.cells #[.int .i64 5, .string ⟨lx.toArray⟩] 36)).alloc (.cells #[.int .i64 5, .string ⟨lx.toArray⟩] 36) = wA at *
        have HS := hide (fun wz (hb : Below wA.heap.size wA wz) => show wz.cell? ⟨w.heap.size, 0, none⟩ = some (.slice pa n pc) /\ wz.cell? ⟨w4.heap.size, 0, none⟩ = some (.int .i64 5) /\ wz.cell? ⟨w4.heap.size, 1, none⟩ = some (.string ⟨lx.toArray⟩) /\ wz.cell? ⟨w4.heap.size + 1, 0, none⟩ = some (.int .i64 5) /\ wz.cell? ⟨w4.heap.size + 1, 1, none⟩ = some (.string ⟨lx.toArray⟩) from
         ⟨HC.out wz (HBA.out.trans (hb.mono HBA.out.size)), cell_box ((hb.block _ (Ow.lt_of_blk hA)).trans hA) 0, cell_box ((hb.block _ (Ow.lt_of_blk hA)).trans hA) 1, cell_box ((hb.block _ (Ow.lt_of_blk hB)).trans hB) 0, cell_box ((hb.block _ (Ow.lt_of_blk hB)).trans hB) 1⟩)
        have HBz : Hid (Below wA.heap.size wA wA.drew) := hide (Below.drew (Below.refl _ _)); clear HC hA hB
        go_region_held3 (fun wz => wz.cell? ⟨w.heap.size, 0, none⟩ = some (.slice pa n pc) /\ wz.cell? ⟨w4.heap.size, 0, none⟩ = some (.int .i64 5) /\ wz.cell? ⟨w4.heap.size, 1, none⟩ = some (.string ⟨lx.toArray⟩) /\ wz.cell? ⟨w4.heap.size + 1, 0, none⟩ = some (.int .i64 5) /\ wz.cell? ⟨w4.heap.size + 1, 1, none⟩ = some (.string ⟨lx.toArray⟩)) (exact HS.out _ HBz.out)
         (first
         | (go_at_call 8
            with_reducible refine (lref_any _ _).mono ?_
            rintro e w6 ⟨rfl, hb6⟩; have HBz := hide (HBz.out.trans (hb6.mono HBz.out.size))
            clear hb6)
         | (go_at_call 7
            with_reducible refine (HF1.out _ (HBA.out.trans (HBz.out.mono HBA.out.size))).mono ?_
            rintro e w6 ⟨rfl, hb6⟩; have HBz := hide (HBz.out.trans (hb6.mono HBz.out.size))
            clear hb6)
         | (go_at_call 7
            with_reducible refine (HF2.out _ (HBA.out.trans (HBz.out.mono HBA.out.size))).mono ?_
            rintro e w6 ⟨rfl, hb6⟩; have HBz := hide (HBz.out.trans (hb6.mono HBz.out.size))
            clear hb6)
         | (go_at_call 7
            with_reducible refine (HF3.out _ (HBA.out.trans (HBz.out.mono HBA.out.size))).mono ?_
            rintro e w6 ⟨rfl, hb6⟩; have HBz := hide (HBz.out.trans (hb6.mono HBz.out.size))
            clear hb6)
         | (go_at_call 7
            with_reducible refine (HF4.out _ (HBA.out.trans (HBz.out.mono HBA.out.size))).mono ?_
            rintro e w6 ⟨rfl, hb6⟩; have HBz := hide (HBz.out.trans (hb6.mono HBz.out.size))
            clear hb6)
         | (go_at_call 9
            with_reducible refine (HUn.out _ (HBA.out.trans (HBz.out.mono HBA.out.size))).mono ?_
            rintro e w6 ⟨rfl, hb6⟩; have HBz := hide (HBz.out.trans (hb6.mono HBz.out.size))
            clear hb6)
         | (go_at_call 10
            with_reducible refine (HWk.out _ (HBA.out.trans (HBz.out.mono HBA.out.size))).mono ?_
            rintro e w6 ⟨rfl, hb6⟩; have HBz := hide (HBz.out.trans (hb6.mono HBz.out.size))
            clear hb6)
         | fail)
        all_goals
         go_wp2_with fail; go_ret; exact ⟨rfl, HW.out _ (HBA.out.trans (HBz.out.mono HBA.out.size))⟩
      · have HOb := hide ho
        clear ho
        have HF1 : Hid (∀ wz, Below w0.heap.size w0 wz -> Calls Tryz.prog 7 #[.agg #[.slice pa n pc], .agg #[.int .i64 3, .string ⟨lx.toArray⟩], .agg #[.int .i64 3, .string ⟨lx.toArray⟩]] wz fun e w' => e = .returned (.bool (Hr.underB cs lx lx)) /\ Below wz.heap.size wz w') := hide (by
         intro wz hb; have h := LFits_any cs _ ⟨3, lx⟩ ⟨3, lx⟩ wz (HT.out _ (HW.out _ hb)) (HP.out _ (HW.out _ hb)) HLt.out HLlx.out HLlx.out; rw [Lx.fitsX_yes HE.out (show Lx.rightT cs ⟨3, lx⟩ = true from Lx.right_known3 HEr.out HKlx.out) (show Lx.rightT cs ⟨3, lx⟩ = true from Lx.right_known3 HEr.out HKlx.out), show Lx.fitsH cs 3 3 lx lx = (Hr.underB cs lx lx) from Lx.fits_refs HEr.out HKlx.out] at h
         exact h)
        have HF2 : Hid (∀ wz, Below w0.heap.size w0 wz -> Calls Tryz.prog 7 #[.agg #[.slice pa n pc], .agg #[.int .i64 5, .string ⟨lx.toArray⟩], .agg #[.int .i64 5, .string ⟨lx.toArray⟩]] wz fun e w' => e = .returned (.bool true) /\ Below wz.heap.size wz w') := hide (by
         intro wz hb; have h := LFits_any cs _ ⟨5, lx⟩ ⟨5, lx⟩ wz (HT.out _ (HW.out _ hb)) (HP.out _ (HW.out _ hb)) HLt.out HLlx.out HLlx.out; rw [Lx.fitsX_yes HE.out (show Lx.rightT cs ⟨5, lx⟩ = true from Lx.right_rows HEr.out HKlx.out) (show Lx.rightT cs ⟨5, lx⟩ = true from Lx.right_rows HEr.out HKlx.out), show Lx.fitsH cs 5 5 lx lx = true from Lx.fits_self _ _ _] at h
         exact h)
        have HF3 : Hid (∀ wz, Below w0.heap.size w0 wz -> Calls Tryz.prog 7 #[.agg #[.slice pa n pc], .agg #[.int .i64 5, .string ⟨lx.toArray⟩], .agg #[.int .i64 3, .string ⟨lx.toArray⟩]] wz fun e w' => e = .returned (.bool false) /\ Below wz.heap.size wz w') := hide (by
         intro wz hb; have h := LFits_any cs _ ⟨5, lx⟩ ⟨3, lx⟩ wz (HT.out _ (HW.out _ hb)) (HP.out _ (HW.out _ hb)) HLt.out HLlx.out HLlx.out; rw [Lx.fitsX_yes HE.out (show Lx.rightT cs ⟨5, lx⟩ = true from Lx.right_rows HEr.out HKlx.out) (show Lx.rightT cs ⟨3, lx⟩ = true from Lx.right_known3 HEr.out HKlx.out), show Lx.fitsH cs 5 3 lx lx = false from Lx.fits_not cs HOb.out] at h
         exact h)
        have HF4 : Hid (∀ wz, Below w0.heap.size w0 wz -> Calls Tryz.prog 7 #[.agg #[.slice pa n pc], .agg #[.int .i64 3, .string ⟨lx.toArray⟩], .agg #[.int .i64 5, .string ⟨lx.toArray⟩]] wz fun e w' => e = .returned (.bool false) /\ Below wz.heap.size wz w') := hide (by
         intro wz hb; have h := LFits_any cs _ ⟨3, lx⟩ ⟨5, lx⟩ wz (HT.out _ (HW.out _ hb)) (HP.out _ (HW.out _ hb)) HLt.out HLlx.out HLlx.out; rw [Lx.fitsX_yes HE.out (show Lx.rightT cs ⟨3, lx⟩ = true from Lx.right_known3 HEr.out HKlx.out) (show Lx.rightT cs ⟨5, lx⟩ = true from Lx.right_rows HEr.out HKlx.out), show Lx.fitsH cs 3 5 lx lx = false from Lx.fits_row cs _ _] at h
         exact h)
        have HUn : Hid (∀ wz, Below w0.heap.size w0 wz -> Calls Tryz.prog 9 #[.agg #[.slice pa n pc], .string ⟨lx.toArray⟩, .string ⟨lx.toArray⟩] wz fun e w' => e = .returned (.bool (Hr.underB cs lx lx)) /\ Below wz.heap.size wz w') := hide (by
         intro wz hb; refine (Under_any cs _ lx lx wz (HT.out _ (HW.out _ hb)) (HP.out _ (HW.out _ hb))).mono ?_; rintro e w' ⟨⟨z, rfl, hz⟩, hb'⟩
         have : z = Hr.underB cs lx lx := by
          rw [Bool.eq_iff_iff, hz]; exact (Hr.underB_iff _ _ _).symm
         rw [this]
         exact ⟨rfl, hb'⟩)
        generalize Hr.underB cs lx lx = uv at *
        have hxy : (lx == lx) = true := by simp
        have hyo : (lx == [79, 98, 106, 101, 99, 116]) = false := by rw [beq_eq_false_iff_ne]; exact HOb.out
        have hw : Below w4.heap.size w4 ((w4.alloc (.cells #[.int .i64 5, .string ⟨lx.toArray⟩] 36)).alloc (.cells #[.int .i64 5, .string ⟨lx.toArray⟩] 36)) := Ow.bel_alloc2 w4 _ _; have HBA := hide (HB4.out.trans (hw.mono HB4.out.size)); have hA := Ow.blk_alloc2a w4 (.cells #[.int .i64 5, .string ⟨lx.toArray⟩] 36) (.cells #[.int .i64 5, .string ⟨lx.toArray⟩] 36); have hB := Ow.blk_alloc2b w4 (.cells #[.int .i64 5, .string ⟨lx.toArray⟩] 36) (.cells #[.int .i64 5, .string ⟨lx.toArray⟩] 36); clear hw; go_wp2_with fail; generalize (w4.alloc (.cells #[.int .i64 5, .string ⟨lx.toArray⟩] 36)).alloc (.cells #[.int .i64 5, .string ⟨lx.toArray⟩] 36) = wA at *
        have HS := hide (fun wz (hb : Below wA.heap.size wA wz) => show wz.cell? ⟨w.heap.size, 0, none⟩ = some (.slice pa n pc) /\ wz.cell? ⟨w4.heap.size, 0, none⟩ = some (.int .i64 5) /\ wz.cell? ⟨w4.heap.size, 1, none⟩ = some (.string ⟨lx.toArray⟩) /\ wz.cell? ⟨w4.heap.size + 1, 0, none⟩ = some (.int .i64 5) /\ wz.cell? ⟨w4.heap.size + 1, 1, none⟩ = some (.string ⟨lx.toArray⟩) from
         ⟨HC.out wz (HBA.out.trans (hb.mono HBA.out.size)), cell_box ((hb.block _ (Ow.lt_of_blk hA)).trans hA) 0, cell_box ((hb.block _ (Ow.lt_of_blk hA)).trans hA) 1, cell_box ((hb.block _ (Ow.lt_of_blk hB)).trans hB) 0, cell_box ((hb.block _ (Ow.lt_of_blk hB)).trans hB) 1⟩)
        have HBz : Hid (Below wA.heap.size wA wA.drew) := hide (Below.drew (Below.refl _ _)); clear HC hA hB
        go_region_held3 (fun wz => wz.cell? ⟨w.heap.size, 0, none⟩ = some (.slice pa n pc) /\ wz.cell? ⟨w4.heap.size, 0, none⟩ = some (.int .i64 5) /\ wz.cell? ⟨w4.heap.size, 1, none⟩ = some (.string ⟨lx.toArray⟩) /\ wz.cell? ⟨w4.heap.size + 1, 0, none⟩ = some (.int .i64 5) /\ wz.cell? ⟨w4.heap.size + 1, 1, none⟩ = some (.string ⟨lx.toArray⟩)) (exact HS.out _ HBz.out)
         (first
         | (go_at_call 8
            with_reducible refine (lref_any _ _).mono ?_
            rintro e w6 ⟨rfl, hb6⟩; have HBz := hide (HBz.out.trans (hb6.mono HBz.out.size))
            clear hb6)
         | (go_at_call 7
            with_reducible refine (HF1.out _ (HBA.out.trans (HBz.out.mono HBA.out.size))).mono ?_
            rintro e w6 ⟨rfl, hb6⟩; have HBz := hide (HBz.out.trans (hb6.mono HBz.out.size))
            clear hb6)
         | (go_at_call 7
            with_reducible refine (HF2.out _ (HBA.out.trans (HBz.out.mono HBA.out.size))).mono ?_
            rintro e w6 ⟨rfl, hb6⟩; have HBz := hide (HBz.out.trans (hb6.mono HBz.out.size))
            clear hb6)
         | (go_at_call 7
            with_reducible refine (HF3.out _ (HBA.out.trans (HBz.out.mono HBA.out.size))).mono ?_
            rintro e w6 ⟨rfl, hb6⟩; have HBz := hide (HBz.out.trans (hb6.mono HBz.out.size))
            clear hb6)
         | (go_at_call 7
            with_reducible refine (HF4.out _ (HBA.out.trans (HBz.out.mono HBA.out.size))).mono ?_
            rintro e w6 ⟨rfl, hb6⟩; have HBz := hide (HBz.out.trans (hb6.mono HBz.out.size))
            clear hb6)
         | (go_at_call 9
            with_reducible refine (HUn.out _ (HBA.out.trans (HBz.out.mono HBA.out.size))).mono ?_
            rintro e w6 ⟨rfl, hb6⟩; have HBz := hide (HBz.out.trans (hb6.mono HBz.out.size))
            clear hb6)
         | (go_at_call 10
            with_reducible refine (HWk.out _ (HBA.out.trans (HBz.out.mono HBA.out.size))).mono ?_
            rintro e w6 ⟨rfl, hb6⟩; have HBz := hide (HBz.out.trans (hb6.mono HBz.out.size))
            clear hb6)
         | fail)
        all_goals
         go_wp2_with fail; go_ret; exact ⟨rfl, HW.out _ (HBA.out.trans (HBz.out.mono HBA.out.size))⟩
    · have HNe := hide hxy
      clear hxy; by_cases ho : ly = Hr.objN
      · have HOb := hide ho
        clear ho
        have HF1 : Hid (∀ wz, Below w0.heap.size w0 wz -> Calls Tryz.prog 7 #[.agg #[.slice pa n pc], .agg #[.int .i64 3, .string ⟨lx.toArray⟩], .agg #[.int .i64 3, .string ⟨ly.toArray⟩]] wz fun e w' => e = .returned (.bool (Hr.underB cs lx ly)) /\ Below wz.heap.size wz w') := hide (by
         intro wz hb; have h := LFits_any cs _ ⟨3, lx⟩ ⟨3, ly⟩ wz (HT.out _ (HW.out _ hb)) (HP.out _ (HW.out _ hb)) HLt.out HLlx.out HLly.out; rw [Lx.fitsX_yes HE.out (show Lx.rightT cs ⟨3, lx⟩ = true from Lx.right_known3 HEr.out HKlx.out) (show Lx.rightT cs ⟨3, ly⟩ = true from Lx.right_known3 HEr.out HKly.out), show Lx.fitsH cs 3 3 lx ly = (Hr.underB cs lx ly) from Lx.fits_refs HEr.out HKlx.out] at h
         exact h)
        have HF2 : Hid (∀ wz, Below w0.heap.size w0 wz -> Calls Tryz.prog 7 #[.agg #[.slice pa n pc], .agg #[.int .i64 5, .string ⟨lx.toArray⟩], .agg #[.int .i64 5, .string ⟨ly.toArray⟩]] wz fun e w' => e = .returned (.bool false) /\ Below wz.heap.size wz w') := hide (by
         intro wz hb; have h := LFits_any cs _ ⟨5, lx⟩ ⟨5, ly⟩ wz (HT.out _ (HW.out _ hb)) (HP.out _ (HW.out _ hb)) HLt.out HLlx.out HLly.out; rw [Lx.fitsX_yes HE.out (show Lx.rightT cs ⟨5, lx⟩ = true from Lx.right_rows HEr.out HKlx.out) (show Lx.rightT cs ⟨5, ly⟩ = true from Lx.right_rows HEr.out HKly.out), show Lx.fitsH cs 5 5 lx ly = false from Lx.fits_rows cs HNe.out] at h
         exact h)
        have HF3 : Hid (∀ wz, Below w0.heap.size w0 wz -> Calls Tryz.prog 7 #[.agg #[.slice pa n pc], .agg #[.int .i64 5, .string ⟨lx.toArray⟩], .agg #[.int .i64 3, .string ⟨ly.toArray⟩]] wz fun e w' => e = .returned (.bool true) /\ Below wz.heap.size wz w') := hide (by
         intro wz hb; have h := LFits_any cs _ ⟨5, lx⟩ ⟨3, ly⟩ wz (HT.out _ (HW.out _ hb)) (HP.out _ (HW.out _ hb)) HLt.out HLlx.out HLly.out; rw [Lx.fitsX_yes HE.out (show Lx.rightT cs ⟨5, lx⟩ = true from Lx.right_rows HEr.out HKlx.out) (show Lx.rightT cs ⟨3, ly⟩ = true from Lx.right_known3 HEr.out HKly.out), show Lx.fitsH cs 5 3 lx ly = true from (by have h := Lx.fits_top cs lx; rw [<- HOb.out] at h; exact h)] at h
         exact h)
        have HF4 : Hid (∀ wz, Below w0.heap.size w0 wz -> Calls Tryz.prog 7 #[.agg #[.slice pa n pc], .agg #[.int .i64 3, .string ⟨lx.toArray⟩], .agg #[.int .i64 5, .string ⟨lx.toArray⟩]] wz fun e w' => e = .returned (.bool false) /\ Below wz.heap.size wz w') := hide (by
         intro wz hb; have h := LFits_any cs _ ⟨3, lx⟩ ⟨5, lx⟩ wz (HT.out _ (HW.out _ hb)) (HP.out _ (HW.out _ hb)) HLt.out HLlx.out HLlx.out; rw [Lx.fitsX_yes HE.out (show Lx.rightT cs ⟨3, lx⟩ = true from Lx.right_known3 HEr.out HKlx.out) (show Lx.rightT cs ⟨5, lx⟩ = true from Lx.right_rows HEr.out HKlx.out), show Lx.fitsH cs 3 5 lx lx = false from Lx.fits_row cs _ _] at h
         exact h)
        have HUn : Hid (∀ wz, Below w0.heap.size w0 wz -> Calls Tryz.prog 9 #[.agg #[.slice pa n pc], .string ⟨lx.toArray⟩, .string ⟨ly.toArray⟩] wz fun e w' => e = .returned (.bool (Hr.underB cs lx ly)) /\ Below wz.heap.size wz w') := hide (by
         intro wz hb; refine (Under_any cs _ lx ly wz (HT.out _ (HW.out _ hb)) (HP.out _ (HW.out _ hb))).mono ?_; rintro e w' ⟨⟨z, rfl, hz⟩, hb'⟩
         have : z = Hr.underB cs lx ly := by
          rw [Bool.eq_iff_iff, hz]; exact (Hr.underB_iff _ _ _).symm
         rw [this]
         exact ⟨rfl, hb'⟩)
        generalize Hr.underB cs lx ly = uv at *
        have hxy : (lx == ly) = false := by simpa using HNe.out
        have hyo : (ly == [79, 98, 106, 101, 99, 116]) = true := by rw [HOb.out]; rfl
        have hw : Below w4.heap.size w4 ((w4.alloc (.cells #[.int .i64 5, .string ⟨lx.toArray⟩] 36)).alloc (.cells #[.int .i64 5, .string ⟨ly.toArray⟩] 36)) := Ow.bel_alloc2 w4 _ _; have HBA := hide (HB4.out.trans (hw.mono HB4.out.size)); have hA := Ow.blk_alloc2a w4 (.cells #[.int .i64 5, .string ⟨lx.toArray⟩] 36) (.cells #[.int .i64 5, .string ⟨ly.toArray⟩] 36); have hB := Ow.blk_alloc2b w4 (.cells #[.int .i64 5, .string ⟨lx.toArray⟩] 36) (.cells #[.int .i64 5, .string ⟨ly.toArray⟩] 36); clear hw; go_wp2_with fail; generalize (w4.alloc (.cells #[.int .i64 5, .string ⟨lx.toArray⟩] 36)).alloc (.cells #[.int .i64 5, .string ⟨ly.toArray⟩] 36) = wA at *
        have HS := hide (fun wz (hb : Below wA.heap.size wA wz) => show wz.cell? ⟨w.heap.size, 0, none⟩ = some (.slice pa n pc) /\ wz.cell? ⟨w4.heap.size, 0, none⟩ = some (.int .i64 5) /\ wz.cell? ⟨w4.heap.size, 1, none⟩ = some (.string ⟨lx.toArray⟩) /\ wz.cell? ⟨w4.heap.size + 1, 0, none⟩ = some (.int .i64 5) /\ wz.cell? ⟨w4.heap.size + 1, 1, none⟩ = some (.string ⟨ly.toArray⟩) from
         ⟨HC.out wz (HBA.out.trans (hb.mono HBA.out.size)), cell_box ((hb.block _ (Ow.lt_of_blk hA)).trans hA) 0, cell_box ((hb.block _ (Ow.lt_of_blk hA)).trans hA) 1, cell_box ((hb.block _ (Ow.lt_of_blk hB)).trans hB) 0, cell_box ((hb.block _ (Ow.lt_of_blk hB)).trans hB) 1⟩)
        have HBz : Hid (Below wA.heap.size wA wA.drew) := hide (Below.drew (Below.refl _ _)); clear HC hA hB
        go_region_held3 (fun wz => wz.cell? ⟨w.heap.size, 0, none⟩ = some (.slice pa n pc) /\ wz.cell? ⟨w4.heap.size, 0, none⟩ = some (.int .i64 5) /\ wz.cell? ⟨w4.heap.size, 1, none⟩ = some (.string ⟨lx.toArray⟩) /\ wz.cell? ⟨w4.heap.size + 1, 0, none⟩ = some (.int .i64 5) /\ wz.cell? ⟨w4.heap.size + 1, 1, none⟩ = some (.string ⟨ly.toArray⟩)) (exact HS.out _ HBz.out)
         (first
         | (go_at_call 8
            with_reducible refine (lref_any _ _).mono ?_
            rintro e w6 ⟨rfl, hb6⟩; have HBz := hide (HBz.out.trans (hb6.mono HBz.out.size))
            clear hb6)
         | (go_at_call 7
            with_reducible refine (HF1.out _ (HBA.out.trans (HBz.out.mono HBA.out.size))).mono ?_
            rintro e w6 ⟨rfl, hb6⟩; have HBz := hide (HBz.out.trans (hb6.mono HBz.out.size))
            clear hb6)
         | (go_at_call 7
            with_reducible refine (HF2.out _ (HBA.out.trans (HBz.out.mono HBA.out.size))).mono ?_
            rintro e w6 ⟨rfl, hb6⟩; have HBz := hide (HBz.out.trans (hb6.mono HBz.out.size))
            clear hb6)
         | (go_at_call 7
            with_reducible refine (HF3.out _ (HBA.out.trans (HBz.out.mono HBA.out.size))).mono ?_
            rintro e w6 ⟨rfl, hb6⟩; have HBz := hide (HBz.out.trans (hb6.mono HBz.out.size))
            clear hb6)
         | (go_at_call 7
            with_reducible refine (HF4.out _ (HBA.out.trans (HBz.out.mono HBA.out.size))).mono ?_
            rintro e w6 ⟨rfl, hb6⟩; have HBz := hide (HBz.out.trans (hb6.mono HBz.out.size))
            clear hb6)
         | (go_at_call 9
            with_reducible refine (HUn.out _ (HBA.out.trans (HBz.out.mono HBA.out.size))).mono ?_
            rintro e w6 ⟨rfl, hb6⟩; have HBz := hide (HBz.out.trans (hb6.mono HBz.out.size))
            clear hb6)
         | (go_at_call 10
            with_reducible refine (HWk.out _ (HBA.out.trans (HBz.out.mono HBA.out.size))).mono ?_
            rintro e w6 ⟨rfl, hb6⟩; have HBz := hide (HBz.out.trans (hb6.mono HBz.out.size))
            clear hb6)
         | fail)
        all_goals
         go_wp2_with fail; go_ret; exact ⟨rfl, HW.out _ (HBA.out.trans (HBz.out.mono HBA.out.size))⟩
      · have HOb := hide ho
        clear ho
        have HF1 : Hid (∀ wz, Below w0.heap.size w0 wz -> Calls Tryz.prog 7 #[.agg #[.slice pa n pc], .agg #[.int .i64 3, .string ⟨lx.toArray⟩], .agg #[.int .i64 3, .string ⟨ly.toArray⟩]] wz fun e w' => e = .returned (.bool (Hr.underB cs lx ly)) /\ Below wz.heap.size wz w') := hide (by
         intro wz hb; have h := LFits_any cs _ ⟨3, lx⟩ ⟨3, ly⟩ wz (HT.out _ (HW.out _ hb)) (HP.out _ (HW.out _ hb)) HLt.out HLlx.out HLly.out; rw [Lx.fitsX_yes HE.out (show Lx.rightT cs ⟨3, lx⟩ = true from Lx.right_known3 HEr.out HKlx.out) (show Lx.rightT cs ⟨3, ly⟩ = true from Lx.right_known3 HEr.out HKly.out), show Lx.fitsH cs 3 3 lx ly = (Hr.underB cs lx ly) from Lx.fits_refs HEr.out HKlx.out] at h
         exact h)
        have HF2 : Hid (∀ wz, Below w0.heap.size w0 wz -> Calls Tryz.prog 7 #[.agg #[.slice pa n pc], .agg #[.int .i64 5, .string ⟨lx.toArray⟩], .agg #[.int .i64 5, .string ⟨ly.toArray⟩]] wz fun e w' => e = .returned (.bool false) /\ Below wz.heap.size wz w') := hide (by
         intro wz hb; have h := LFits_any cs _ ⟨5, lx⟩ ⟨5, ly⟩ wz (HT.out _ (HW.out _ hb)) (HP.out _ (HW.out _ hb)) HLt.out HLlx.out HLly.out; rw [Lx.fitsX_yes HE.out (show Lx.rightT cs ⟨5, lx⟩ = true from Lx.right_rows HEr.out HKlx.out) (show Lx.rightT cs ⟨5, ly⟩ = true from Lx.right_rows HEr.out HKly.out), show Lx.fitsH cs 5 5 lx ly = false from Lx.fits_rows cs HNe.out] at h
         exact h)
        have HF3 : Hid (∀ wz, Below w0.heap.size w0 wz -> Calls Tryz.prog 7 #[.agg #[.slice pa n pc], .agg #[.int .i64 5, .string ⟨lx.toArray⟩], .agg #[.int .i64 3, .string ⟨ly.toArray⟩]] wz fun e w' => e = .returned (.bool false) /\ Below wz.heap.size wz w') := hide (by
         intro wz hb; have h := LFits_any cs _ ⟨5, lx⟩ ⟨3, ly⟩ wz (HT.out _ (HW.out _ hb)) (HP.out _ (HW.out _ hb)) HLt.out HLlx.out HLly.out; rw [Lx.fitsX_yes HE.out (show Lx.rightT cs ⟨5, lx⟩ = true from Lx.right_rows HEr.out HKlx.out) (show Lx.rightT cs ⟨3, ly⟩ = true from Lx.right_known3 HEr.out HKly.out), show Lx.fitsH cs 5 3 lx ly = false from Lx.fits_not cs HOb.out] at h
         exact h)
        have HF4 : Hid (∀ wz, Below w0.heap.size w0 wz -> Calls Tryz.prog 7 #[.agg #[.slice pa n pc], .agg #[.int .i64 3, .string ⟨lx.toArray⟩], .agg #[.int .i64 5, .string ⟨lx.toArray⟩]] wz fun e w' => e = .returned (.bool false) /\ Below wz.heap.size wz w') := hide (by
         intro wz hb; have h := LFits_any cs _ ⟨3, lx⟩ ⟨5, lx⟩ wz (HT.out _ (HW.out _ hb)) (HP.out _ (HW.out _ hb)) HLt.out HLlx.out HLlx.out; rw [Lx.fitsX_yes HE.out (show Lx.rightT cs ⟨3, lx⟩ = true from Lx.right_known3 HEr.out HKlx.out) (show Lx.rightT cs ⟨5, lx⟩ = true from Lx.right_rows HEr.out HKlx.out), show Lx.fitsH cs 3 5 lx lx = false from Lx.fits_row cs _ _] at h
         exact h)
        have HUn : Hid (∀ wz, Below w0.heap.size w0 wz -> Calls Tryz.prog 9 #[.agg #[.slice pa n pc], .string ⟨lx.toArray⟩, .string ⟨ly.toArray⟩] wz fun e w' => e = .returned (.bool (Hr.underB cs lx ly)) /\ Below wz.heap.size wz w') := hide (by
         intro wz hb; refine (Under_any cs _ lx ly wz (HT.out _ (HW.out _ hb)) (HP.out _ (HW.out _ hb))).mono ?_; rintro e w' ⟨⟨z, rfl, hz⟩, hb'⟩
         have : z = Hr.underB cs lx ly := by
          rw [Bool.eq_iff_iff, hz]; exact (Hr.underB_iff _ _ _).symm
         rw [this]
         exact ⟨rfl, hb'⟩)
        generalize Hr.underB cs lx ly = uv at *
        have hxy : (lx == ly) = false := by simpa using HNe.out
        have hyo : (ly == [79, 98, 106, 101, 99, 116]) = false := by rw [beq_eq_false_iff_ne]; exact HOb.out
        have hw : Below w4.heap.size w4 ((w4.alloc (.cells #[.int .i64 5, .string ⟨lx.toArray⟩] 36)).alloc (.cells #[.int .i64 5, .string ⟨ly.toArray⟩] 36)) := Ow.bel_alloc2 w4 _ _; have HBA := hide (HB4.out.trans (hw.mono HB4.out.size)); have hA := Ow.blk_alloc2a w4 (.cells #[.int .i64 5, .string ⟨lx.toArray⟩] 36) (.cells #[.int .i64 5, .string ⟨ly.toArray⟩] 36); have hB := Ow.blk_alloc2b w4 (.cells #[.int .i64 5, .string ⟨lx.toArray⟩] 36) (.cells #[.int .i64 5, .string ⟨ly.toArray⟩] 36); clear hw; go_wp2_with fail; generalize (w4.alloc (.cells #[.int .i64 5, .string ⟨lx.toArray⟩] 36)).alloc (.cells #[.int .i64 5, .string ⟨ly.toArray⟩] 36) = wA at *
        have HS := hide (fun wz (hb : Below wA.heap.size wA wz) => show wz.cell? ⟨w.heap.size, 0, none⟩ = some (.slice pa n pc) /\ wz.cell? ⟨w4.heap.size, 0, none⟩ = some (.int .i64 5) /\ wz.cell? ⟨w4.heap.size, 1, none⟩ = some (.string ⟨lx.toArray⟩) /\ wz.cell? ⟨w4.heap.size + 1, 0, none⟩ = some (.int .i64 5) /\ wz.cell? ⟨w4.heap.size + 1, 1, none⟩ = some (.string ⟨ly.toArray⟩) from
         ⟨HC.out wz (HBA.out.trans (hb.mono HBA.out.size)), cell_box ((hb.block _ (Ow.lt_of_blk hA)).trans hA) 0, cell_box ((hb.block _ (Ow.lt_of_blk hA)).trans hA) 1, cell_box ((hb.block _ (Ow.lt_of_blk hB)).trans hB) 0, cell_box ((hb.block _ (Ow.lt_of_blk hB)).trans hB) 1⟩)
        have HBz : Hid (Below wA.heap.size wA wA.drew) := hide (Below.drew (Below.refl _ _)); clear HC hA hB
        go_region_held3 (fun wz => wz.cell? ⟨w.heap.size, 0, none⟩ = some (.slice pa n pc) /\ wz.cell? ⟨w4.heap.size, 0, none⟩ = some (.int .i64 5) /\ wz.cell? ⟨w4.heap.size, 1, none⟩ = some (.string ⟨lx.toArray⟩) /\ wz.cell? ⟨w4.heap.size + 1, 0, none⟩ = some (.int .i64 5) /\ wz.cell? ⟨w4.heap.size + 1, 1, none⟩ = some (.string ⟨ly.toArray⟩)) (exact HS.out _ HBz.out)
         (first
         | (go_at_call 8
            with_reducible refine (lref_any _ _).mono ?_
            rintro e w6 ⟨rfl, hb6⟩; have HBz := hide (HBz.out.trans (hb6.mono HBz.out.size))
            clear hb6)
         | (go_at_call 7
            with_reducible refine (HF1.out _ (HBA.out.trans (HBz.out.mono HBA.out.size))).mono ?_
            rintro e w6 ⟨rfl, hb6⟩; have HBz := hide (HBz.out.trans (hb6.mono HBz.out.size))
            clear hb6)
         | (go_at_call 7
            with_reducible refine (HF2.out _ (HBA.out.trans (HBz.out.mono HBA.out.size))).mono ?_
            rintro e w6 ⟨rfl, hb6⟩; have HBz := hide (HBz.out.trans (hb6.mono HBz.out.size))
            clear hb6)
         | (go_at_call 7
            with_reducible refine (HF3.out _ (HBA.out.trans (HBz.out.mono HBA.out.size))).mono ?_
            rintro e w6 ⟨rfl, hb6⟩; have HBz := hide (HBz.out.trans (hb6.mono HBz.out.size))
            clear hb6)
         | (go_at_call 7
            with_reducible refine (HF4.out _ (HBA.out.trans (HBz.out.mono HBA.out.size))).mono ?_
            rintro e w6 ⟨rfl, hb6⟩; have HBz := hide (HBz.out.trans (hb6.mono HBz.out.size))
            clear hb6)
         | (go_at_call 9
            with_reducible refine (HUn.out _ (HBA.out.trans (HBz.out.mono HBA.out.size))).mono ?_
            rintro e w6 ⟨rfl, hb6⟩; have HBz := hide (HBz.out.trans (hb6.mono HBz.out.size))
            clear hb6)
         | (go_at_call 10
            with_reducible refine (HWk.out _ (HBA.out.trans (HBz.out.mono HBA.out.size))).mono ?_
            rintro e w6 ⟨rfl, hb6⟩; have HBz := hide (HBz.out.trans (hb6.mono HBz.out.size))
            clear hb6)
         | fail)
        all_goals
         go_wp2_with fail; go_ret; exact ⟨rfl, HW.out _ (HBA.out.trans (HBz.out.mono HBA.out.size))⟩
end Go.Proofs.YtbbbnciejmdpfabGreatDoor
