/- LatticeExact: the walk. -/
import Derived.Test.YtbbbnciejmdpfaaGreatDoorPkAz
import Derived.Test.YtbbbnciejmdpfaaGreatDoorLatU
set_option maxRecDepth 100000
set_option maxHeartbeats 64000000
set_option linter.unusedVariables false
set_option linter.unusedSimpArgs false
namespace Go.Proofs.YtbbbnciejmdpfaaGreatDoor
open Go.RowKit
theorem latticeExact_walk (v : Value) (cs : List Pp.XCls) (a : Pp.Ty) (b : Pp.Ty) (w : World) (ht : TabS w) (h : ProgX w v cs) (ha : a.name.length <= maxLen) (hb : b.name.length <= maxLen) :
 Calls Tryz.prog 3 #[.agg #[v], .agg #[.int .i64 a.kind, .string ⟨a.name.toArray⟩], .agg #[.int .i64 b.kind, .string ⟨b.name.toArray⟩]] w fun e w' => e = .returned (.bool true) /\ Below w.heap.size w w' := by
 have HP := hide (fun wx (hb : Below w.heap.size w wx) => h.on hb); have HT := hide (fun wx (hb : Below w.heap.size w wx) => ht.below hb); have HLa := hide ha; have HLb := hide hb; obtain ⟨pa, pc, rfl, _⟩ := h.1.len; generalize cs.length = n at *
 obtain ⟨ka, na⟩ := a; obtain ⟨kb, nb⟩ := b; clear h ht ha hb; have b0 := (Below.refl w.heap.size w).alloc (Nat.le_refl _) (.cells #[.slice pa n pc] 24); have b1 := b0.alloc b0.size (.cells #[.int .i64 ka, .string ⟨na.toArray⟩] 26); have b2 := b1.alloc b1.size (.cells #[.int .i64 kb, .string ⟨nb.toArray⟩] 26); have HB0 := hide b2; clear b0 b1 b2
 have hx0 : (((w.alloc (.cells #[.slice pa n pc] 24)).alloc (.cells #[.int .i64 ka, .string ⟨na.toArray⟩] 26)).alloc (.cells #[.int .i64 kb, .string ⟨nb.toArray⟩] 26)).heap[w.heap.size]? = some (.cells #[.slice pa n pc] 24 (0, 0)) := by
  have q := heap_alloc_new w (.cells #[.slice pa n pc] 24); have e1 : w.heap.size = w.heap.size := by simp
  rw [e1] at q; exact (heap_alloc_old _ _ (by simp <;> omega)).trans ((heap_alloc_old _ _ (by simp <;> omega)).trans (q))
 have hx1 : (((w.alloc (.cells #[.slice pa n pc] 24)).alloc (.cells #[.int .i64 ka, .string ⟨na.toArray⟩] 26)).alloc (.cells #[.int .i64 kb, .string ⟨nb.toArray⟩] 26)).heap[w.heap.size + 1]? = some (.cells #[.int .i64 ka, .string ⟨na.toArray⟩] 26 (0, 0)) := by
  have q := heap_alloc_new (w.alloc (.cells #[.slice pa n pc] 24)) (.cells #[.int .i64 ka, .string ⟨na.toArray⟩] 26); have e1 : (w.alloc (.cells #[.slice pa n pc] 24)).heap.size = w.heap.size + 1 := by simp
  rw [e1] at q; exact (heap_alloc_old _ _ (by simp <;> omega)).trans (q)
 have hx2 : (((w.alloc (.cells #[.slice pa n pc] 24)).alloc (.cells #[.int .i64 ka, .string ⟨na.toArray⟩] 26)).alloc (.cells #[.int .i64 kb, .string ⟨nb.toArray⟩] 26)).heap[w.heap.size + 1 + 1]? = some (.cells #[.int .i64 kb, .string ⟨nb.toArray⟩] 26 (0, 0)) := by
  have q := heap_alloc_new ((w.alloc (.cells #[.slice pa n pc] 24)).alloc (.cells #[.int .i64 ka, .string ⟨na.toArray⟩] 26)) (.cells #[.int .i64 kb, .string ⟨nb.toArray⟩] 26); have e1 : ((w.alloc (.cells #[.slice pa n pc] 24)).alloc (.cells #[.int .i64 ka, .string ⟨na.toArray⟩] 26)).heap.size = w.heap.size + 1 + 1 := by simp
  rw [e1] at q; exact q
 go_enter Tryz.func3, Tryz.ntmps3; go_wp2_with fail; generalize (((w.alloc (.cells #[.slice pa n pc] 24)).alloc (.cells #[.int .i64 ka, .string ⟨na.toArray⟩] 26)).alloc (.cells #[.int .i64 kb, .string ⟨nb.toArray⟩] 26)) = w0 at *
 have HC : Hid (∀ wx, Below w0.heap.size w0 wx -> wx.cell? ⟨w.heap.size, 0, none⟩ = some (.slice pa n pc) /\ wx.cell? ⟨w.heap.size + 1, 0, none⟩ = some (.int .i64 ka) /\ wx.cell? ⟨w.heap.size + 1, 1, none⟩ = some (.string ⟨na.toArray⟩) /\ wx.cell? ⟨w.heap.size + 1 + 1, 0, none⟩ = some (.int .i64 kb) /\ wx.cell? ⟨w.heap.size + 1 + 1, 1, none⟩ = some (.string ⟨nb.toArray⟩)) := hide fun wx hb => ⟨cell_box ((hb.block _ (Ow.lt_of_blk hx0)).trans hx0) 0, cell_box ((hb.block _ (Ow.lt_of_blk hx1)).trans hx1) 0, cell_box ((hb.block _ (Ow.lt_of_blk hx1)).trans hx1) 1, cell_box ((hb.block _ (Ow.lt_of_blk hx2)).trans hx2) 0, cell_box ((hb.block _ (Ow.lt_of_blk hx2)).trans hx2) 1⟩; have HW : Hid (∀ wx, Below w0.heap.size w0 wx -> Below w.heap.size w wx) := hide fun wx hb => HB0.out.trans (hb.mono HB0.out.size); clear hx0 hx1 hx2; refine (Heavy_any cs _ w0 (HP.out w0 HB0.out)).mono ?_; rintro e w1 ⟨⟨b, rfl, hlb⟩, hb1⟩; have HB1 := hide hb1; clear hb1; cases b with
 | true =>
   go_wp2_with fail; go_ret; exact ⟨rfl, HW.out _ HB1.out⟩
 | false =>
   have HLt := hide (hlb rfl); obtain ⟨d0, d1, d2, d3, d4⟩ := HC.out w1 HB1.out; clear hlb; have hsa : (⟨na.toArray⟩ : ByteArray).size = na.length := by simp [ByteArray.size]
   have hsb : (⟨nb.toArray⟩ : ByteArray).size = nb.length := by simp [ByteArray.size]
   obtain ⟨d0, d1, d2, d3, d4⟩ := HC.out w1 HB1.out; by_cases hla : 60 < na.length
   · have hli : (60 : Int) < ((⟨na.toArray⟩ : ByteArray).size : Int) := by rw [hsa]; omega
     have hli2 : (60 : Int) < (na.length : Int) := by omega
     clear hsa hsb; go_wp2_with fail; go_ret; exact ⟨rfl, HW.out _ HB1.out⟩
   have hli : ¬ (60 : Int) < ((⟨na.toArray⟩ : ByteArray).size : Int) := by rw [hsa]; omega
   have hli2 : ¬ (60 : Int) < (na.length : Int) := by omega
   by_cases hlb' : 60 < nb.length
   · have hlj : (60 : Int) < ((⟨nb.toArray⟩ : ByteArray).size : Int) := by rw [hsb]; omega
     have hlj2 : (60 : Int) < (nb.length : Int) := by omega
     clear hsa hsb; go_wp2_with fail; go_ret; exact ⟨rfl, HW.out _ HB1.out⟩
   have hlj : ¬ (60 : Int) < ((⟨nb.toArray⟩ : ByteArray).size : Int) := by rw [hsb]; omega
   have hlj2 : ¬ (60 : Int) < (nb.length : Int) := by omega
   clear hsa hsb hla hlb'; obtain ⟨mk, mn, me, hme⟩ : ∃ mk mn me, Lx.meetX cs ⟨ka, na⟩ ⟨kb, nb⟩ = ((mk, mn), me) := ⟨_, _, _, rfl⟩; have HMe := hide hme; clear hme; go_wp2_with fail; have hq := LMeet_any cs _ ⟨ka, na⟩ ⟨kb, nb⟩ w1 (HT.out _ (HW.out _ HB1.out)) (HP.out _ (HW.out _ HB1.out)) HLt.out HLa.out HLb.out; rw [HMe.out] at hq; refine hq.mono ?_; clear hq hli hlj hli2 hlj2; rintro e w2 ⟨rfl, hb2⟩; have HB2 := hide (HB1.out.trans (hb2.mono HB1.out.size)); clear hb2 d0 d1 d2 d3 d4; have hT1 := heap_alloc_new w2 (.cells #[.int .i64 mk, .string ⟨mn.toArray⟩] 26); have HBA := hide (HB2.out.alloc HB2.out.size (.cells #[.int .i64 mk, .string ⟨mn.toArray⟩] 26)); obtain ⟨d0, d1, d2, d3, d4⟩ := HC.out (w2.alloc (.cells #[.int .i64 mk, .string ⟨mn.toArray⟩] 26)) HBA.out; go_wp2_with fail; generalize w2.alloc (.cells #[.int .i64 mk, .string ⟨mn.toArray⟩] 26) = wA at *
   have HS := hide (fun wz (hb : Below wA.heap.size wA wz) => show wz.cell? ⟨w.heap.size, 0, none⟩ = some (.slice pa n pc) /\ wz.cell? ⟨w.heap.size + 1, 0, none⟩ = some (.int .i64 ka) /\ wz.cell? ⟨w.heap.size + 1, 1, none⟩ = some (.string ⟨na.toArray⟩) /\ wz.cell? ⟨w.heap.size + 1 + 1, 0, none⟩ = some (.int .i64 kb) /\ wz.cell? ⟨w.heap.size + 1 + 1, 1, none⟩ = some (.string ⟨nb.toArray⟩) /\ wz.cell? ⟨w2.heap.size, 0, none⟩ = some (.int .i64 mk) /\ wz.cell? ⟨w2.heap.size, 1, none⟩ = some (.string ⟨mn.toArray⟩) from
    have h := HC.out wz (HBA.out.trans (hb.mono HBA.out.size))
    ⟨h.1, h.2.1, h.2.2.1, h.2.2.2.1, h.2.2.2.2, cell_box ((hb.block _ (Ow.lt_of_blk hT1)).trans hT1) 0, cell_box ((hb.block _ (Ow.lt_of_blk hT1)).trans hT1) 1⟩)
   clear hT1 HC d0 d1 d2 d3 d4; refine (RLayout_any cs _ wA (HP.out _ (HW.out _ HBA.out)) HLt.out).mono ?_; rintro e w3 ⟨rfl, hb3⟩; have HBA3 := hide hb3; have HB3 := hide (HBA.out.trans (hb3.mono HBA.out.size)); clear hb3; obtain ⟨d0, d1, d2, d3, d4, t0, t1⟩ := HS.out w3 HBA3.out; by_cases he : Ly.layE cs ≠ 0
   · have HNo : Hid (∀ ts, Lx.lookOk cs ts = false) := hide (fun ts => by unfold Lx.lookOk; rw [show (Ly.layE cs == 0) = false by simpa using he]; rfl)
     generalize Ly.layE cs = er at *
     have he' : (er != 0) = true := by simpa using he
     have hm0 := HMe.out; unfold Lx.meetX at hm0; rw [if_neg (by rw [HNo.out]; decide)] at hm0
     simp only [Prod.mk.injEq] at hm0; obtain ⟨⟨rfl, rfl⟩, rfl⟩ := hm0; clear he; go_wp2_with fail; have hq := LRight_any cs _ ⟨ka, na⟩ w3 (HT.out _ (HW.out _ HB3.out)) (HP.out _ (HW.out _ HB3.out)) HLt.out HLa.out; rw [HNo.out] at hq; refine hq.mono ?_; clear hq; rintro e w4 ⟨rfl, hb4⟩; have HBA4 := hide (HBA3.out.trans (hb4.mono HBA3.out.size)); have HB4 := hide (HB3.out.trans (hb4.mono HB3.out.size)); clear hb4 d0 d1 d2 d3 d4 t0 t1; obtain ⟨d0, d1, d2, d3, d4, t0, t1⟩ := HS.out w4 HBA4.out; go_wp2_with fail; have hq := LFits_any cs _ ⟨ka, na⟩ ⟨kb, nb⟩ w4 (HT.out _ (HW.out _ HB4.out)) (HP.out _ (HW.out _ HB4.out)) HLt.out HLa.out HLb.out; rw [show Lx.fitsX cs ⟨ka, na⟩ ⟨kb, nb⟩ = false from by unfold Lx.fitsX; rw [HNo.out]; rfl] at hq
     refine hq.mono ?_; clear hq; rintro e w5 ⟨rfl, hb5⟩; have HBA5 := hide (HBA4.out.trans (hb5.mono HBA4.out.size)); have HB5 := hide (HB4.out.trans (hb5.mono HB4.out.size)); clear hb5 d0 d1 d2 d3 d4 t0 t1; obtain ⟨d0, d1, d2, d3, d4, t0, t1⟩ := HS.out w5 HBA5.out; go_wp2_with fail; refine (LWakes_any w5 (HT.out _ (HW.out _ HB5.out))).mono ?_; rintro e w6 ⟨rfl, hb⟩; have HBf := hide (HB5.out.trans (hb.mono HB5.out.size)); clear hb; go_wp2_with fail; go_ret; exact ⟨rfl, HW.out _ HBf.out⟩
   have HE := hide (show Ly.layE cs = 0 by simpa using he)
   have HEr := hide (Lx.lay_err HE.out); rw [HE.out]; clear he; obtain ⟨xa, hxa⟩ : ∃ x, x = Lx.rightL (Hr.allL cs) ka na := ⟨_, rfl⟩; obtain ⟨xb, hxb⟩ : ∃ x, x = Lx.rightL (Hr.allL cs) kb nb := ⟨_, rfl⟩; have HXa := hide hxa; have HXb := hide hxb; clear hxa hxb; obtain ⟨fv, hfv⟩ : ∃ x, x = Lx.fitsP cs ka kb na nb := ⟨_, rfl⟩; have HFv := hide hfv; clear hfv
   have HR1 : Hid (∀ wz, Below w0.heap.size w0 wz -> Calls Tryz.prog 15 #[.agg #[.slice pa n pc], .agg #[.int .i64 ka, .string ⟨na.toArray⟩]] wz fun e w' => e = .returned (.bool xa) /\ Below wz.heap.size wz w') := hide (by
    intro wz hb; rw [HXa.out]; exact RRight_any cs _ ⟨ka, na⟩ wz (HP.out _ (HW.out _ hb)) HLt.out
   )
   have HR2 : Hid (∀ wz, Below w0.heap.size w0 wz -> Calls Tryz.prog 15 #[.agg #[.slice pa n pc], .agg #[.int .i64 kb, .string ⟨nb.toArray⟩]] wz fun e w' => e = .returned (.bool xb) /\ Below wz.heap.size wz w') := hide (by
    intro wz hb; rw [HXb.out]; exact RRight_any cs _ ⟨kb, nb⟩ wz (HP.out _ (HW.out _ hb)) HLt.out
   )
   have HR3 : Hid (∀ wz, Below w0.heap.size w0 wz -> Calls Tryz.prog 12 #[.agg #[.slice pa n pc], .agg #[.int .i64 ka, .string ⟨na.toArray⟩]] wz fun e w' => e = .returned (.bool xa) /\ Below wz.heap.size wz w') := hide (by
    intro wz hb; have h := LRight_any cs _ ⟨ka, na⟩ wz (HT.out _ (HW.out _ hb)) (HP.out _ (HW.out _ hb)) HLt.out HLa.out; rw [Lx.look_right HE.out, show Lx.rightT cs ⟨ka, na⟩ = xa from HXa.out.symm] at h
    exact h
   )
   have HR4 : Hid (∀ wz, Below w0.heap.size w0 wz -> Calls Tryz.prog 13 #[.agg #[.slice pa n pc], .agg #[.int .i64 ka, .string ⟨na.toArray⟩], .agg #[.int .i64 kb, .string ⟨nb.toArray⟩]] wz fun e w' => e = .returned (.bool fv) /\ Below wz.heap.size wz w') := hide (by
    intro wz hb; have h := LFits_any cs _ ⟨ka, na⟩ ⟨kb, nb⟩ wz (HT.out _ (HW.out _ hb)) (HP.out _ (HW.out _ hb)) HLt.out HLa.out HLb.out; rw [Lx.fitsX_P HE.out, <- HFv.out] at h; exact h
   )
   have HR5 : Hid (∀ wz, Below w0.heap.size w0 wz -> Calls Tryz.prog 16 #[.agg #[.slice pa n pc], .agg #[.int .i64 ka, .string ⟨na.toArray⟩], .agg #[.int .i64 kb, .string ⟨nb.toArray⟩]] wz fun e w' => e = .returned (.bool fv) /\ Below wz.heap.size wz w') := hide (by
    intro wz hb; rw [HFv.out]; exact RFits_any cs _ ka kb na nb wz (HP.out _ (HW.out _ hb)) HLt.out HEr.out HLa.out
   )
   have HWk : Hid (∀ wz, Below w0.heap.size w0 wz -> Calls Tryz.prog 14 #[] wz fun e w' => e = .returned (.bool true) /\ Below wz.heap.size wz w') := hide fun wz hb => LWakes_any wz (HT.out _ (HW.out _ hb)); clear d0 d1 d2 d3 d4 t0 t1; go_wp2_with fail; have HBz : Hid (Below w3.heap.size w3 w3.drew) := hide (Below.drew (Below.refl _ _))
   go_region_held3 (fun wz => wz.cell? ⟨w.heap.size, 0, none⟩ = some (.slice pa n pc) /\ wz.cell? ⟨w.heap.size + 1, 0, none⟩ = some (.int .i64 ka) /\ wz.cell? ⟨w.heap.size + 1, 1, none⟩ = some (.string ⟨na.toArray⟩) /\ wz.cell? ⟨w.heap.size + 1 + 1, 0, none⟩ = some (.int .i64 kb) /\ wz.cell? ⟨w.heap.size + 1 + 1, 1, none⟩ = some (.string ⟨nb.toArray⟩) /\ wz.cell? ⟨w2.heap.size, 0, none⟩ = some (.int .i64 mk) /\ wz.cell? ⟨w2.heap.size, 1, none⟩ = some (.string ⟨mn.toArray⟩)) (exact HS.out _ (HBA3.out.trans (HBz.out.mono HBA3.out.size)))
    (first
    | (go_at_call 15
       with_reducible refine (HR1.out _ (HB3.out.trans (HBz.out.mono HB3.out.size))).mono ?_
       rintro e w6 ⟨rfl, hb6⟩; have HBz := hide (HBz.out.trans (hb6.mono HBz.out.size))
       clear hb6)
    | (go_at_call 15
       with_reducible refine (HR2.out _ (HB3.out.trans (HBz.out.mono HB3.out.size))).mono ?_
       rintro e w6 ⟨rfl, hb6⟩; have HBz := hide (HBz.out.trans (hb6.mono HBz.out.size))
       clear hb6)
    | fail)
   all_goals
    have HB7 := hide (HB3.out.trans (HBz.out.mono HB3.out.size)); have HBA7 := hide (HBA3.out.trans (HBz.out.mono HBA3.out.size)); clear HBz; go_wp2_with fail; have HBz : Hid (Below w6.heap.size w6 w6.drew) := hide (Below.drew (Below.refl _ _))
    go_region_held3 (fun wz => wz.cell? ⟨w.heap.size, 0, none⟩ = some (.slice pa n pc) /\ wz.cell? ⟨w.heap.size + 1, 0, none⟩ = some (.int .i64 ka) /\ wz.cell? ⟨w.heap.size + 1, 1, none⟩ = some (.string ⟨na.toArray⟩) /\ wz.cell? ⟨w.heap.size + 1 + 1, 0, none⟩ = some (.int .i64 kb) /\ wz.cell? ⟨w.heap.size + 1 + 1, 1, none⟩ = some (.string ⟨nb.toArray⟩) /\ wz.cell? ⟨w2.heap.size, 0, none⟩ = some (.int .i64 mk) /\ wz.cell? ⟨w2.heap.size, 1, none⟩ = some (.string ⟨mn.toArray⟩)) (exact HS.out _ (HBA7.out.trans (HBz.out.mono HBA7.out.size)))
     (first
     | (go_at_call 12
        with_reducible refine (HR3.out _ (HB7.out.trans (HBz.out.mono HB7.out.size))).mono ?_
        rintro e w8 ⟨rfl, hb6⟩; have HBz := hide (HBz.out.trans (hb6.mono HBz.out.size))
        clear hb6)
     | (go_at_call 13
        with_reducible refine (HR4.out _ (HB7.out.trans (HBz.out.mono HB7.out.size))).mono ?_
        rintro e w8 ⟨rfl, hb6⟩; have HBz := hide (HBz.out.trans (hb6.mono HBz.out.size))
        clear hb6)
     | (go_at_call 16
        with_reducible refine (HR5.out _ (HB7.out.trans (HBz.out.mono HB7.out.size))).mono ?_
        rintro e w8 ⟨rfl, hb6⟩; have HBz := hide (HBz.out.trans (hb6.mono HBz.out.size))
        clear hb6)
     | fail)
    all_goals
     have HB8 := hide (HB7.out.trans (HBz.out.mono HB7.out.size)); have HBA8 := hide (HBA7.out.trans (HBz.out.mono HBA7.out.size)); clear HBz; have hne1 : (xa != xa) = false := by simp
     have hne2 : (fv != fv) = false := by simp
     clear HR1 HR2 HR3 HR4 HR5; cases xa with
     | false =>
       have HNo : Hid (Lx.lookOk cs [⟨ka, na⟩, ⟨kb, nb⟩] = false) := hide (by unfold Lx.lookOk Lx.allR; rw [HE.out]; simp [<- HXa.out, <- HXb.out])
       have hm0 := HMe.out; unfold Lx.meetX at hm0; rw [if_neg (by rw [HNo.out]; decide)] at hm0
       simp only [Prod.mk.injEq] at hm0; obtain ⟨⟨rfl, rfl⟩, rfl⟩ := hm0; obtain ⟨d0, d1, d2, d3, d4, t0, t1⟩ := HS.out _ HBA8.out; go_wp2_with fail; refine (LWakes_any w8 (HT.out _ (HW.out _ HB8.out))).mono ?_; rintro e w9 ⟨rfl, hb⟩; have HBf := hide (HB8.out.trans (hb.mono HB8.out.size)); clear hb; go_wp2_with fail; go_ret; exact ⟨rfl, HW.out _ HBf.out⟩
     | true =>
       cases xb with
       | false =>
         have HNo : Hid (Lx.lookOk cs [⟨ka, na⟩, ⟨kb, nb⟩] = false) := hide (by unfold Lx.lookOk Lx.allR; rw [HE.out]; simp [<- HXa.out, <- HXb.out])
         have hm0 := HMe.out; unfold Lx.meetX at hm0; rw [if_neg (by rw [HNo.out]; decide)] at hm0
         simp only [Prod.mk.injEq] at hm0; obtain ⟨⟨rfl, rfl⟩, rfl⟩ := hm0; obtain ⟨d0, d1, d2, d3, d4, t0, t1⟩ := HS.out _ HBA8.out; go_wp2_with fail; refine (LWakes_any w8 (HT.out _ (HW.out _ HB8.out))).mono ?_; rintro e w9 ⟨rfl, hb⟩; have HBf := hide (HB8.out.trans (hb.mono HB8.out.size)); clear hb; go_wp2_with fail; go_ret; exact ⟨rfl, HW.out _ HBf.out⟩
       | true =>
         have hra : Lx.rightL (Hr.allL cs) ka na = true := HXa.out.symm; have hrb : Lx.rightL (Hr.allL cs) kb nb = true := HXb.out.symm; have hm0 := HMe.out; rw [Lx.meetX_yes HE.out (show Lx.rightT cs ⟨ka, na⟩ = true from hra) (show Lx.rightT cs ⟨kb, nb⟩ = true from hrb)] at hm0
         simp only [Prod.mk.injEq] at hm0; obtain ⟨hm1, rfl⟩ := hm0; have HM1 := hide hm1; have HQa := hide hra; have HQb := hide hrb; clear hm1 hra hrb
         have HR6 : Hid (∀ wz, Below w0.heap.size w0 wz -> Calls Tryz.prog 17 #[.agg #[.slice pa n pc], .agg #[.int .i64 ka, .string ⟨na.toArray⟩], .agg #[.int .i64 kb, .string ⟨nb.toArray⟩]] wz fun e w' => e = .returned (.agg #[.int .i64 mk, .string ⟨mn.toArray⟩]) /\ Below wz.heap.size wz w') := hide (by
          intro wz hb; have h := RMeet_any cs _ ka kb na nb wz (HP.out _ (HW.out _ hb)) HLt.out HEr.out HQa.out HQb.out HLa.out HLb.out; rw [HM1.out] at h; exact h
         )
         go_wp2_with fail; have HBz : Hid (Below w8.heap.size w8 w8.drew) := hide (Below.drew (Below.refl _ _))
         go_region_held3 (fun wz => wz.cell? ⟨w.heap.size, 0, none⟩ = some (.slice pa n pc) /\ wz.cell? ⟨w.heap.size + 1, 0, none⟩ = some (.int .i64 ka) /\ wz.cell? ⟨w.heap.size + 1, 1, none⟩ = some (.string ⟨na.toArray⟩) /\ wz.cell? ⟨w.heap.size + 1 + 1, 0, none⟩ = some (.int .i64 kb) /\ wz.cell? ⟨w.heap.size + 1 + 1, 1, none⟩ = some (.string ⟨nb.toArray⟩) /\ wz.cell? ⟨w2.heap.size, 0, none⟩ = some (.int .i64 mk) /\ wz.cell? ⟨w2.heap.size, 1, none⟩ = some (.string ⟨mn.toArray⟩)) (exact HS.out _ (HBA8.out.trans (HBz.out.mono HBA8.out.size)))
          (first
          | (go_at_call 17
             with_reducible refine (HR6.out _ (HB8.out.trans (HBz.out.mono HB8.out.size))).mono ?_
             rintro e w9 ⟨rfl, hb6⟩; have HBz := hide (HBz.out.trans (hb6.mono HBz.out.size))
             clear hb6)
          | (go_at_call 14
             with_reducible refine (HWk.out _ (HB8.out.trans (HBz.out.mono HB8.out.size))).mono ?_
             rintro e w9 ⟨rfl, hb6⟩; have HBz := hide (HBz.out.trans (hb6.mono HBz.out.size))
             clear hb6)
          | fail)
         all_goals
          go_wp2_with fail; go_ret; exact ⟨rfl, HW.out _ (HB8.out.trans (HBz.out.mono HB8.out.size))⟩
end Go.Proofs.YtbbbnciejmdpfaaGreatDoor
