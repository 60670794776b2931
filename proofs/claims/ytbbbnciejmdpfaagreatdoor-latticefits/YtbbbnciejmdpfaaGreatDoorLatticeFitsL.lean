/- LatticeFits: the walk. -/
import Derived.Test.YtbbbnciejmdpfaaGreatDoorPkAz
set_option maxRecDepth 100000
set_option maxHeartbeats 64000000
set_option linter.unusedVariables false
set_option linter.unusedSimpArgs false
namespace Go.Proofs.YtbbbnciejmdpfaaGreatDoor
open Go.RowKit
theorem latticeFits_walk (v : Value) (cs : List Pp.XCls) (a : Pp.Ty) (b : Pp.Ty) (c : Pp.Ty) (w : World) (ht : TabS w) (h : ProgX w v cs) (ha : a.name.length <= maxLen) (hb : b.name.length <= maxLen) (hc : c.name.length <= maxLen) :
 Calls Tryz.prog 4 #[.agg #[v], .agg #[.int .i64 a.kind, .string ⟨a.name.toArray⟩], .agg #[.int .i64 b.kind, .string ⟨b.name.toArray⟩], .agg #[.int .i64 c.kind, .string ⟨c.name.toArray⟩]] w fun e w' => e = .returned (.bool true) /\ Below w.heap.size w w' := by
 have HP := hide (fun wx (hb : Below w.heap.size w wx) => h.on hb); have HT := hide (fun wx (hb : Below w.heap.size w wx) => ht.below hb); have HLa := hide ha; have HLb := hide hb; have HLc := hide hc; obtain ⟨pa, pc, rfl, _⟩ := h.1.len; generalize cs.length = n at *
 obtain ⟨ka, na⟩ := a; obtain ⟨kb, nb⟩ := b; obtain ⟨kc, nc⟩ := c; clear h ht ha hb hc; have b0 := (Below.refl w.heap.size w).alloc (Nat.le_refl _) (.cells #[.slice pa n pc] 24); have b1 := b0.alloc b0.size (.cells #[.int .i64 ka, .string ⟨na.toArray⟩] 26); have b2 := b1.alloc b1.size (.cells #[.int .i64 kb, .string ⟨nb.toArray⟩] 26); have b3 := b2.alloc b2.size (.cells #[.int .i64 kc, .string ⟨nc.toArray⟩] 26); have HB0 := hide b3; clear b0 b1 b2 b3
 have hx0 : ((((w.alloc (.cells #[.slice pa n pc] 24)).alloc (.cells #[.int .i64 ka, .string ⟨na.toArray⟩] 26)).alloc (.cells #[.int .i64 kb, .string ⟨nb.toArray⟩] 26)).alloc (.cells #[.int .i64 kc, .string ⟨nc.toArray⟩] 26)).heap[w.heap.size]? = some (.cells #[.slice pa n pc] 24 (0, 0)) := by
  have q := heap_alloc_new w (.cells #[.slice pa n pc] 24); have e1 : w.heap.size = w.heap.size := by simp
  rw [e1] at q; exact (heap_alloc_old _ _ (by simp <;> omega)).trans ((heap_alloc_old _ _ (by simp <;> omega)).trans ((heap_alloc_old _ _ (by simp <;> omega)).trans (q)))
 have hx1 : ((((w.alloc (.cells #[.slice pa n pc] 24)).alloc (.cells #[.int .i64 ka, .string ⟨na.toArray⟩] 26)).alloc (.cells #[.int .i64 kb, .string ⟨nb.toArray⟩] 26)).alloc (.cells #[.int .i64 kc, .string ⟨nc.toArray⟩] 26)).heap[w.heap.size + 1]? = some (.cells #[.int .i64 ka, .string ⟨na.toArray⟩] 26 (0, 0)) := by
  have q := heap_alloc_new (w.alloc (.cells #[.slice pa n pc] 24)) (.cells #[.int .i64 ka, .string ⟨na.toArray⟩] 26); have e1 : (w.alloc (.cells #[.slice pa n pc] 24)).heap.size = w.heap.size + 1 := by simp
  rw [e1] at q; exact (heap_alloc_old _ _ (by simp <;> omega)).trans ((heap_alloc_old _ _ (by simp <;> omega)).trans (q))
 have hx2 : ((((w.alloc (.cells #[.slice pa n pc] 24)).alloc (.cells #[.int .i64 ka, .string ⟨na.toArray⟩] 26)).alloc (.cells #[.int .i64 kb, .string ⟨nb.toArray⟩] 26)).alloc (.cells #[.int .i64 kc, .string ⟨nc.toArray⟩] 26)).heap[w.heap.size + 1 + 1]? = some (.cells #[.int .i64 kb, .string ⟨nb.toArray⟩] 26 (0, 0)) := by
  have q := heap_alloc_new ((w.alloc (.cells #[.slice pa n pc] 24)).alloc (.cells #[.int .i64 ka, .string ⟨na.toArray⟩] 26)) (.cells #[.int .i64 kb, .string ⟨nb.toArray⟩] 26); have e1 : ((w.alloc (.cells #[.slice pa n pc] 24)).alloc (.cells #[.int .i64 ka, .string ⟨na.toArray⟩] 26)).heap.size = w.heap.size + 1 + 1 := by simp
  rw [e1] at q; exact (heap_alloc_old _ _ (by simp <;> omega)).trans (q)
 have hx3 : ((((w.alloc (.cells #[.slice pa n pc] 24)).alloc (.cells #[.int .i64 ka, .string ⟨na.toArray⟩] 26)).alloc (.cells #[.int .i64 kb, .string ⟨nb.toArray⟩] 26)).alloc (.cells #[.int .i64 kc, .string ⟨nc.toArray⟩] 26)).heap[w.heap.size + 1 + 1 + 1]? = some (.cells #[.int .i64 kc, .string ⟨nc.toArray⟩] 26 (0, 0)) := by
  have q := heap_alloc_new (((w.alloc (.cells #[.slice pa n pc] 24)).alloc (.cells #[.int .i64 ka, .string ⟨na.toArray⟩] 26)).alloc (.cells #[.int .i64 kb, .string ⟨nb.toArray⟩] 26)) (.cells #[.int .i64 kc, .string ⟨nc.toArray⟩] 26); have e1 : (((w.alloc (.cells #[.slice pa n pc] 24)).alloc (.cells #[.int .i64 ka, .string ⟨na.toArray⟩] 26)).alloc (.cells #[.int .i64 kb, .string ⟨nb.toArray⟩] 26)).heap.size = w.heap.size + 1 + 1 + 1 := by simp
  rw [e1] at q; exact q
 go_enter Tryz.func4, Tryz.ntmps4; go_wp2_with fail; generalize ((((w.alloc (.cells #[.slice pa n pc] 24)).alloc (.cells #[.int .i64 ka, .string ⟨na.toArray⟩] 26)).alloc (.cells #[.int .i64 kb, .string ⟨nb.toArray⟩] 26)).alloc (.cells #[.int .i64 kc, .string ⟨nc.toArray⟩] 26)) = w0 at *
 have HC : Hid (∀ wx, Below w0.heap.size w0 wx -> wx.cell? ⟨w.heap.size, 0, none⟩ = some (.slice pa n pc) /\ wx.cell? ⟨w.heap.size + 1, 0, none⟩ = some (.int .i64 ka) /\ wx.cell? ⟨w.heap.size + 1, 1, none⟩ = some (.string ⟨na.toArray⟩) /\ wx.cell? ⟨w.heap.size + 1 + 1, 0, none⟩ = some (.int .i64 kb) /\ wx.cell? ⟨w.heap.size + 1 + 1, 1, none⟩ = some (.string ⟨nb.toArray⟩) /\ wx.cell? ⟨w.heap.size + 1 + 1 + 1, 0, none⟩ = some (.int .i64 kc) /\ wx.cell? ⟨w.heap.size + 1 + 1 + 1, 1, none⟩ = some (.string ⟨nc.toArray⟩)) := hide fun wx hb => ⟨cell_box ((hb.block _ (Ow.lt_of_blk hx0)).trans hx0) 0, cell_box ((hb.block _ (Ow.lt_of_blk hx1)).trans hx1) 0, cell_box ((hb.block _ (Ow.lt_of_blk hx1)).trans hx1) 1, cell_box ((hb.block _ (Ow.lt_of_blk hx2)).trans hx2) 0, cell_box ((hb.block _ (Ow.lt_of_blk hx2)).trans hx2) 1, cell_box ((hb.block _ (Ow.lt_of_blk hx3)).trans hx3) 0, cell_box ((hb.block _ (Ow.lt_of_blk hx3)).trans hx3) 1⟩; have HW : Hid (∀ wx, Below w0.heap.size w0 wx -> Below w.heap.size w wx) := hide fun wx hb => HB0.out.trans (hb.mono HB0.out.size); clear hx0 hx1 hx2 hx3; refine (Heavy_any cs _ w0 (HP.out w0 HB0.out)).mono ?_; rintro e w1 ⟨⟨b, rfl, hlb⟩, hb1⟩; have HB1 := hide hb1; clear hb1; cases b with
 | true =>
   go_wp2_with fail; go_ret; exact ⟨rfl, HW.out _ HB1.out⟩
 | false =>
   have HLt := hide (hlb rfl); obtain ⟨d0, d1, d2, d3, d4, d5, d6⟩ := HC.out w1 HB1.out; clear hlb; go_wp2_with fail; refine (RLayout_any cs _ w1 (HP.out _ (HW.out _ HB1.out)) HLt.out).mono ?_; rintro e w2 ⟨rfl, hb2⟩; have HB2 := hide (HB1.out.trans (hb2.mono HB1.out.size)); clear hb2 d0 d1 d2 d3 d4 d5 d6; obtain ⟨d0, d1, d2, d3, d4, d5, d6⟩ := HC.out w2 HB2.out; by_cases he : Ly.layE cs ≠ 0
   · generalize Ly.layE cs = er at *
     have he' : (er != 0) = true := by simpa using he
     go_wp2_with fail; go_ret; exact ⟨rfl, HW.out _ HB2.out⟩
   have HE := hide (show Ly.layE cs = 0 by simpa using he)
   have HEr := hide (Lx.lay_err HE.out); rw [HE.out]; clear he; go_wp2_with fail; refine (RRight_any cs _ ⟨ka, na⟩ w2 (HP.out _ (HW.out _ HB2.out)) HLt.out).mono ?_; rintro e w3 ⟨rfl, hb3⟩; have HB3 := hide (HB2.out.trans (hb3.mono HB2.out.size)); clear hb3 d0 d1 d2 d3 d4 d5 d6; obtain ⟨d0, d1, d2, d3, d4, d5, d6⟩ := HC.out w3 HB3.out; cases hra : Lx.rightL (Hr.allL cs) ka na with
   | false =>
     go_wp2_with fail; go_ret; exact ⟨rfl, HW.out _ HB3.out⟩
   | true =>
   have HRa : Hid (Lx.rightT cs ⟨ka, na⟩ = true) := hide hra; clear hra; go_wp2_with fail; refine (RRight_any cs _ ⟨kb, nb⟩ w3 (HP.out _ (HW.out _ HB3.out)) HLt.out).mono ?_; rintro e w4 ⟨rfl, hb4⟩; have HB4 := hide (HB3.out.trans (hb4.mono HB3.out.size)); clear hb4 d0 d1 d2 d3 d4 d5 d6; obtain ⟨d0, d1, d2, d3, d4, d5, d6⟩ := HC.out w4 HB4.out; cases hrb : Lx.rightL (Hr.allL cs) kb nb with
   | false =>
     go_wp2_with fail; go_ret; exact ⟨rfl, HW.out _ HB4.out⟩
   | true =>
   have HRb : Hid (Lx.rightT cs ⟨kb, nb⟩ = true) := hide hrb; clear hrb; go_wp2_with fail; refine (RRight_any cs _ ⟨kc, nc⟩ w4 (HP.out _ (HW.out _ HB4.out)) HLt.out).mono ?_; rintro e w5 ⟨rfl, hb5⟩; have HB5 := hide (HB4.out.trans (hb5.mono HB4.out.size)); clear hb5 d0 d1 d2 d3 d4 d5 d6; obtain ⟨d0, d1, d2, d3, d4, d5, d6⟩ := HC.out w5 HB5.out; cases hrc : Lx.rightL (Hr.allL cs) kc nc with
   | false =>
     go_wp2_with fail; go_ret; exact ⟨rfl, HW.out _ HB5.out⟩
   | true =>
   have HRc : Hid (Lx.rightT cs ⟨kc, nc⟩ = true) := hide hrc; clear hrc; go_wp2_with fail; have hf5 := LFits_any cs _ ⟨ka, na⟩ ⟨ka, na⟩ w5 (HT.out _ (HW.out _ HB5.out)) (HP.out _ (HW.out _ HB5.out)) HLt.out HLa.out HLa.out; rw [Lx.fitsX_yes HE.out HRa.out HRa.out] at hf5; rw [Lx.fits_self] at hf5; refine hf5.mono ?_; clear hf5; rintro e w6 ⟨rfl, hb6⟩; have HB6 := hide (HB5.out.trans (hb6.mono HB5.out.size)); clear hb6 d0 d1 d2 d3 d4 d5 d6; obtain ⟨d0, d1, d2, d3, d4, d5, d6⟩ := HC.out w6 HB6.out; go_wp2_with fail; have hf6 := LFits_any cs _ ⟨ka, na⟩ ⟨7, []⟩ w6 (HT.out _ (HW.out _ HB6.out)) (HP.out _ (HW.out _ HB6.out)) HLt.out HLa.out (by decide)
   rw [Lx.fitsX_yes HE.out HRa.out (Lx.right_nothing cs)] at hf6; rw [Lx.fits_nothing] at hf6; refine hf6.mono ?_; clear hf6; rintro e w7 ⟨rfl, hb7⟩; have HB7 := hide (HB6.out.trans (hb7.mono HB6.out.size)); clear hb7 d0 d1 d2 d3 d4 d5 d6; obtain ⟨d0, d1, d2, d3, d4, d5, d6⟩ := HC.out w7 HB7.out; go_wp2_with fail; have hf7 := LFits_any cs _ ⟨ka, na⟩ ⟨kb, nb⟩ w7 (HT.out _ (HW.out _ HB7.out)) (HP.out _ (HW.out _ HB7.out)) HLt.out HLa.out HLb.out; rw [Lx.fitsX_yes HE.out HRa.out HRb.out] at hf7; refine hf7.mono ?_; clear hf7; rintro e w8 ⟨rfl, hb8⟩; have HB8 := hide (HB7.out.trans (hb8.mono HB7.out.size)); clear hb8 d0 d1 d2 d3 d4 d5 d6; obtain ⟨d0, d1, d2, d3, d4, d5, d6⟩ := HC.out w8 HB8.out; cases hab : Lx.fitsH cs ka kb na nb with
   | false =>
     clear hab; go_wp2_with fail; refine (LWakes_any w8 (HT.out _ (HW.out _ HB8.out))).mono ?_; rintro e w9 ⟨rfl, hb9⟩; have HB9 := hide (HB8.out.trans (hb9.mono HB8.out.size)); clear hb9; go_wp2_with fail; go_ret; exact ⟨rfl, HW.out _ HB9.out⟩
   | true =>
     have HAB := hide hab; clear hab; go_wp2_with fail; have hf8 := LFits_any cs _ ⟨kb, nb⟩ ⟨kc, nc⟩ w8 (HT.out _ (HW.out _ HB8.out)) (HP.out _ (HW.out _ HB8.out)) HLt.out HLb.out HLc.out; rw [Lx.fitsX_yes HE.out HRb.out HRc.out] at hf8; refine hf8.mono ?_; clear hf8; rintro e w9 ⟨rfl, hb9⟩; have HB9 := hide (HB8.out.trans (hb9.mono HB8.out.size)); clear hb9 d0 d1 d2 d3 d4 d5 d6; obtain ⟨d0, d1, d2, d3, d4, d5, d6⟩ := HC.out w9 HB9.out; cases hbc : Lx.fitsH cs kb kc nb nc with
     | false =>
       clear hbc; go_wp2_with fail; refine (LWakes_any w9 (HT.out _ (HW.out _ HB9.out))).mono ?_; rintro e w10 ⟨rfl, hb10⟩; have HB10 := hide (HB9.out.trans (hb10.mono HB9.out.size)); clear hb10; go_wp2_with fail; go_ret; exact ⟨rfl, HW.out _ HB10.out⟩
     | true =>
       have HAC := hide (Lx.fits_trans HEr.out HAB.out hbc HRc.out); clear hbc; go_wp2_with fail; have hf9 := LFits_any cs _ ⟨ka, na⟩ ⟨kc, nc⟩ w9 (HT.out _ (HW.out _ HB9.out)) (HP.out _ (HW.out _ HB9.out)) HLt.out HLa.out HLc.out; rw [Lx.fitsX_yes HE.out HRa.out HRc.out] at hf9; rw [show Lx.fitsH cs ka kc na nc = true from HAC.out] at hf9
       refine hf9.mono ?_; clear hf9; rintro e w10 ⟨rfl, hb10⟩; have HB10 := hide (HB9.out.trans (hb10.mono HB9.out.size)); clear hb10 d0 d1 d2 d3 d4 d5 d6; obtain ⟨d0, d1, d2, d3, d4, d5, d6⟩ := HC.out w10 HB10.out; go_wp2_with fail; refine (LWakes_any w10 (HT.out _ (HW.out _ HB10.out))).mono ?_; rintro e w11 ⟨rfl, hb11⟩; have HB11 := hide (HB10.out.trans (hb11.mono HB10.out.size)); clear hb11; go_wp2_with fail; go_ret; exact ⟨rfl, HW.out _ HB11.out⟩
end Go.Proofs.YtbbbnciejmdpfaaGreatDoor
