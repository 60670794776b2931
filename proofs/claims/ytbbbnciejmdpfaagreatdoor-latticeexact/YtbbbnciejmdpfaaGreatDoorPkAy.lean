/- What the laws of this seat lean on: 3 texts. -/
import Derived.Test.YtbbbnciejmdpfaaGreatDoorPkAx
set_option maxRecDepth 100000
set_option maxHeartbeats 64000000
set_option linter.unusedVariables false
set_option linter.unusedSimpArgs false
namespace Go.Proofs.YtbbbnciejmdpfaaGreatDoor
open Go.RowKit
namespace Lx
open Pp Hr
def meetL (cs : List XCls) (ka kb : Int) (na nb : Bs) : Int × Bs :=
 if ka = kb /\ na = nb then (ka, na) else if (ka != 2 && ka != 7) = false \/ (kb != 2 && kb != 7) = false then (7, [])
 else if ka = 6 then (kb, nb) else if kb = 6 then (ka, na) else if ka = 3 /\ kb = 3 then (3, meetN cs na nb) else (3, objN)
end Lx
theorem meet_any (cs : List Pp.XCls) (v : Value) (ka kb : Int) (na nb : Pp.Bs) (w : World) (ht : TabS w) (h : ProgX w v cs) (he : Hr.errL cs = 0) (hk : ka = 3 -> kb = 3 -> Lx.Known cs na) :
 Calls Tryz.prog 23 #[.agg #[v], .agg #[.int .i64 ka, .string ⟨na.toArray⟩], .agg #[.int .i64 kb, .string ⟨nb.toArray⟩]] w fun e w' => e = .returned (.agg #[.int .i64 (Lx.meetL cs ka kb na nb).1, .string ⟨(Lx.meetL cs ka kb na nb).2.toArray⟩]) /\ Below w.heap.size w w' := by
 have HMn := hide (fun hq wx (hb : Below w.heap.size w wx) => meetByName_any cs v na nb wx (ht.below hb) (h.on hb) he hq); obtain ⟨pa, pc, rfl, _⟩ := h.1.len; generalize cs.length = n at *
 clear h ht he; go_enter Tryz.func23, Tryz.ntmps23
 have hstart : ∃ w4, w4 = (((w.alloc (.cells #[.slice pa n pc] 24)).alloc (.cells #[.int .i64 ka, .string ⟨na.toArray⟩] 26)).alloc (.cells #[.int .i64 kb, .string ⟨nb.toArray⟩] 26)).alloc (.cells #[.int .i64 0, .string ⟨#[]⟩] 26) /\ Below w.heap.size w w4 /\ w4.heap[w.heap.size]? = some (.cells #[.slice pa n pc] 24) /\ w4.heap[w.heap.size + 1]? = some (.cells #[.int .i64 ka, .string ⟨na.toArray⟩] 26) /\ w4.heap[w.heap.size + 2]? = some (.cells #[.int .i64 kb, .string ⟨nb.toArray⟩] 26) /\ w4.heap[w.heap.size + 3]? = some (.cells #[.int .i64 0, .string ⟨#[]⟩] 26) := by
  have e1 : (w.alloc (.cells #[.slice pa n pc] 24)).heap.size = w.heap.size + 1 := by show (w.heap.push _).size = _; simp
  have e2 : ((w.alloc (.cells #[.slice pa n pc] 24)).alloc (.cells #[.int .i64 ka, .string ⟨na.toArray⟩] 26)).heap.size = w.heap.size + 2 := by show ((w.alloc (.cells #[.slice pa n pc] 24)).heap.push _).size = _; rw [Array.size_push, e1]
  have e3 : (((w.alloc (.cells #[.slice pa n pc] 24)).alloc (.cells #[.int .i64 ka, .string ⟨na.toArray⟩] 26)).alloc (.cells #[.int .i64 kb, .string ⟨nb.toArray⟩] 26)).heap.size = w.heap.size + 3 := by show (((w.alloc (.cells #[.slice pa n pc] 24)).alloc (.cells #[.int .i64 ka, .string ⟨na.toArray⟩] 26)).heap.push _).size = _; rw [Array.size_push, e2]
  have b1 := (Below.refl w.heap.size w).alloc (Nat.le_refl _) (.cells #[.slice pa n pc] 24); have b2 := (Below.refl (w.alloc (.cells #[.slice pa n pc] 24)).heap.size (w.alloc (.cells #[.slice pa n pc] 24))).alloc (Nat.le_refl _) (.cells #[.int .i64 ka, .string ⟨na.toArray⟩] 26); have b3 := (Below.refl ((w.alloc (.cells #[.slice pa n pc] 24)).alloc (.cells #[.int .i64 ka, .string ⟨na.toArray⟩] 26)).heap.size ((w.alloc (.cells #[.slice pa n pc] 24)).alloc (.cells #[.int .i64 ka, .string ⟨na.toArray⟩] 26))).alloc (Nat.le_refl _) (.cells #[.int .i64 kb, .string ⟨nb.toArray⟩] 26); have b4 := (Below.refl (((w.alloc (.cells #[.slice pa n pc] 24)).alloc (.cells #[.int .i64 ka, .string ⟨na.toArray⟩] 26)).alloc (.cells #[.int .i64 kb, .string ⟨nb.toArray⟩] 26)).heap.size (((w.alloc (.cells #[.slice pa n pc] 24)).alloc (.cells #[.int .i64 ka, .string ⟨na.toArray⟩] 26)).alloc (.cells #[.int .i64 kb, .string ⟨nb.toArray⟩] 26))).alloc (Nat.le_refl _) (.cells #[.int .i64 0, .string ⟨#[]⟩] 26); have x1 := heap_alloc_new w (.cells #[.slice pa n pc] 24); have x2 := heap_alloc_new (w.alloc (.cells #[.slice pa n pc] 24)) (.cells #[.int .i64 ka, .string ⟨na.toArray⟩] 26); have x3 := heap_alloc_new ((w.alloc (.cells #[.slice pa n pc] 24)).alloc (.cells #[.int .i64 ka, .string ⟨na.toArray⟩] 26)) (.cells #[.int .i64 kb, .string ⟨nb.toArray⟩] 26); have x4 := heap_alloc_new (((w.alloc (.cells #[.slice pa n pc] 24)).alloc (.cells #[.int .i64 ka, .string ⟨na.toArray⟩] 26)).alloc (.cells #[.int .i64 kb, .string ⟨nb.toArray⟩] 26)) (.cells #[.int .i64 0, .string ⟨#[]⟩] 26); rw [e1] at x2; rw [e2] at x3; rw [e3] at x4; refine ⟨_, rfl, ((b1.alloc b1.size _).alloc (b1.alloc b1.size _).size _).alloc ((b1.alloc b1.size _).alloc (b1.alloc b1.size _).size _).size _, ?_, ?_, ?_, x4⟩
  · exact (b4.block _ (by rw [e3]; omega)).trans ((b3.block _ (by rw [e2]; omega)).trans ((b2.block _ (by rw [e1]; omega)).trans x1))
  · exact (b4.block _ (by rw [e3]; omega)).trans ((b3.block _ (by rw [e2]; omega)).trans x2)
  · exact (b4.block _ (by rw [e3]; omega)).trans x3
 obtain ⟨w4, hw4, hB4, hC4, hA4, hT4, hR4⟩ := hstart; have HB4 := hide hB4; have HC4 := hide hC4; have HA4 := hide hA4; have HT4 := hide hT4; have HR4 := hide hR4; clear hB4 hC4 hA4 hT4 hR4; by_cases hab : ka = kb /\ na = nb
 · have HF : Hid (Lx.meetL cs ka kb na nb = (ka, na)) := hide (by unfold Lx.meetL; exact if_pos hab)
   obtain ⟨rfl, rfl⟩ := hab; have q1 := (Below.refl w.heap.size w).alloc (Nat.le_refl _) (.cells #[.slice pa n pc] 24); have q2 := q1.alloc q1.size (.cells #[.int .i64 ka, .string ⟨na.toArray⟩] 26); have q3 := q2.alloc q2.size (.cells #[.int .i64 ka, .string ⟨na.toArray⟩] 26); have HBz := hide (q3.alloc q3.size (.cells #[.int .i64 ka, .string ⟨na.toArray⟩] 26)); clear hw4 q1 q2 q3; go_wp2_with fail; refine bodyPost_ret (v := .agg #[.int .i64 ka, .string ⟨na.toArray⟩]) (by simp [results, Tryz.results23, go_sem, *]) rfl ?_
   exact ⟨by rw [HF.out] <;> rfl, HBz.out⟩
 by_cases ek : ka = kb
 · subst ek
   have en : ¬ na = nb := fun h => hab ⟨rfl, h⟩; have gn : (na == nb) = false := by simpa using en
   have HEN := hide en; clear en hab; cases hra : (ka != 2 && ka != 7) with
   | false =>
     have HF : Hid (Lx.meetL cs ka ka na nb = (7, [])) := hide (by unfold Lx.meetL; rw [if_neg (fun h => HEN.out h.2), if_pos (.inl hra)])
     have HX := hide hra; clear hra; go_wp2_with fail; rw [<- hw4]; clear hw4; refine (isRef_any ka _ _).mono ?_; rintro e w5 ⟨rfl, hb5⟩; rw [HX.out]; have HB5 := hide (HB4.out.trans (hb5.mono HB4.out.size)); have HC5 := hide ((hb5.block _ (Ow.lt_of_blk HC4.out)).trans HC4.out); have HA5 := hide ((hb5.block _ (Ow.lt_of_blk HA4.out)).trans HA4.out); have HT5 := hide ((hb5.block _ (Ow.lt_of_blk HT4.out)).trans HT4.out); have HR5 := hide ((hb5.block _ (Ow.lt_of_blk HR4.out)).trans HR4.out); clear hb5; have hP := Ow.blk_put (Ow.blk_put HR5.out 0 (.int .i64 7)) 1 (.string ⟨#[]⟩); have HBz := hide ((HB5.out.setCell (p := ⟨w.heap.size + 3, 0, none⟩) (by show w.heap.size <= w.heap.size + 3; omega) (.int .i64 7)).setCell (p := ⟨w.heap.size + 3, 1, none⟩) (by show w.heap.size <= w.heap.size + 3; omega) (.string ⟨#[]⟩))
     have s0 := cell_box HR5.out 0; have s1 := cell_box HR5.out 1; have f0 := Ow.fz_blk HR5.out 0; have f1 := Ow.fz_blk HR5.out 1; have z0 := cell_box hP 0; have z1 := cell_box hP 1; clear hP; go_wp2_with fail; refine bodyPost_ret (v := .agg #[.int .i64 7, .string ⟨#[]⟩]) (by simp [results, Tryz.results23, go_sem, *]) rfl ?_
     exact ⟨by rw [HF.out] <;> rfl, HBz.out⟩
   | true =>
     have HXa := hide hra; cases hrb : (ka != 2 && ka != 7) with
     | false =>
       have HF : Hid (Lx.meetL cs ka ka na nb = (7, [])) := hide (by unfold Lx.meetL; rw [if_neg (fun h => HEN.out h.2), if_pos (.inr hrb)])
       have HXb := hide hrb; clear hra hrb; go_wp2_with fail; rw [<- hw4]; clear hw4; refine (isRef_any ka _ _).mono ?_; rintro e w5 ⟨rfl, hb5⟩; rw [HXa.out]; have HB5 := hide (HB4.out.trans (hb5.mono HB4.out.size)); have HC5 := hide ((hb5.block _ (Ow.lt_of_blk HC4.out)).trans HC4.out); have HA5 := hide ((hb5.block _ (Ow.lt_of_blk HA4.out)).trans HA4.out); have HT5 := hide ((hb5.block _ (Ow.lt_of_blk HT4.out)).trans HT4.out); have HR5 := hide ((hb5.block _ (Ow.lt_of_blk HR4.out)).trans HR4.out); clear hb5; have b0 := cell_box HT5.out 0; have b1 := cell_box HT5.out 1; go_wp2_with fail; refine (isRef_any ka _ _).mono ?_; rintro e w6 ⟨rfl, hb6⟩; rw [HXb.out]; have HB6 := hide (HB5.out.trans (hb6.mono HB5.out.size)); have HC6 := hide ((hb6.block _ (Ow.lt_of_blk HC5.out)).trans HC5.out); have HA6 := hide ((hb6.block _ (Ow.lt_of_blk HA5.out)).trans HA5.out); have HT6 := hide ((hb6.block _ (Ow.lt_of_blk HT5.out)).trans HT5.out); have HR6 := hide ((hb6.block _ (Ow.lt_of_blk HR5.out)).trans HR5.out); clear hb6; clear b0 b1; have hP := Ow.blk_put (Ow.blk_put HR6.out 0 (.int .i64 7)) 1 (.string ⟨#[]⟩); have HBz := hide ((HB6.out.setCell (p := ⟨w.heap.size + 3, 0, none⟩) (by show w.heap.size <= w.heap.size + 3; omega) (.int .i64 7)).setCell (p := ⟨w.heap.size + 3, 1, none⟩) (by show w.heap.size <= w.heap.size + 3; omega) (.string ⟨#[]⟩))
       have s0 := cell_box HR6.out 0; have s1 := cell_box HR6.out 1; have f0 := Ow.fz_blk HR6.out 0; have f1 := Ow.fz_blk HR6.out 1; have z0 := cell_box hP 0; have z1 := cell_box hP 1; clear hP; go_wp2_with fail; refine bodyPost_ret (v := .agg #[.int .i64 7, .string ⟨#[]⟩]) (by simp [results, Tryz.results23, go_sem, *]) rfl ?_
       exact ⟨by rw [HF.out] <;> rfl, HBz.out⟩
     | true =>
       have HXb := hide hrb; clear hra hrb; have HRE : Hid (¬ ((ka != 2 && ka != 7) = false \/ (ka != 2 && ka != 7) = false)) := hide (by intro h; rcases h with h | h; exact absurd (HXa.out.symm.trans h) (by decide); exact absurd (HXb.out.symm.trans h) (by decide))
       go_wp2_with fail; rw [<- hw4]; clear hw4; refine (isRef_any ka _ _).mono ?_; rintro e w5 ⟨rfl, hb5⟩; rw [HXa.out]; have HB5 := hide (HB4.out.trans (hb5.mono HB4.out.size)); have HC5 := hide ((hb5.block _ (Ow.lt_of_blk HC4.out)).trans HC4.out); have HA5 := hide ((hb5.block _ (Ow.lt_of_blk HA4.out)).trans HA4.out); have HT5 := hide ((hb5.block _ (Ow.lt_of_blk HT4.out)).trans HT4.out); have HR5 := hide ((hb5.block _ (Ow.lt_of_blk HR4.out)).trans HR4.out); clear hb5; have b0 := cell_box HT5.out 0; have b1 := cell_box HT5.out 1; go_wp2_with fail; refine (isRef_any ka _ _).mono ?_; rintro e w6 ⟨rfl, hb6⟩; rw [HXb.out]; have HB6 := hide (HB5.out.trans (hb6.mono HB5.out.size)); have HC6 := hide ((hb6.block _ (Ow.lt_of_blk HC5.out)).trans HC5.out); have HA6 := hide ((hb6.block _ (Ow.lt_of_blk HA5.out)).trans HA5.out); have HT6 := hide ((hb6.block _ (Ow.lt_of_blk HT5.out)).trans HT5.out); have HR6 := hide ((hb6.block _ (Ow.lt_of_blk HR5.out)).trans HR5.out); clear hb6; clear b0 b1; have a0 := cell_box HA6.out 0; have a1 := cell_box HA6.out 1; have b0 := cell_box HT6.out 0; have b1 := cell_box HT6.out 1; by_cases h6 : ka = 6
       · have HF : Hid (Lx.meetL cs ka ka na nb = (ka, nb)) := hide (by unfold Lx.meetL; rw [if_neg (fun h => HEN.out h.2), if_neg HRE.out, if_pos h6])
         have g6 : (ka == 6) = true := by simp [h6]
         clear h6; have hP := Ow.blk_put (Ow.blk_put HR6.out 0 (.int .i64 ka)) 1 (.string ⟨nb.toArray⟩); have HBz := hide ((HB6.out.setCell (p := ⟨w.heap.size + 3, 0, none⟩) (by show w.heap.size <= w.heap.size + 3; omega) (.int .i64 ka)).setCell (p := ⟨w.heap.size + 3, 1, none⟩) (by show w.heap.size <= w.heap.size + 3; omega) (.string ⟨nb.toArray⟩))
         have s0 := cell_box HR6.out 0; have s1 := cell_box HR6.out 1; have f0 := Ow.fz_blk HR6.out 0; have f1 := Ow.fz_blk HR6.out 1; have z0 := cell_box hP 0; have z1 := cell_box hP 1; clear hP; go_wp2_with fail; refine bodyPost_ret (v := .agg #[.int .i64 ka, .string ⟨nb.toArray⟩]) (by simp [results, Tryz.results23, go_sem, *]) rfl ?_
         exact ⟨by rw [HF.out] <;> rfl, HBz.out⟩
       have g6 : (ka == 6) = false := by simpa using h6
       by_cases h3 : ka = 3
       · have HF : Hid (Lx.meetL cs ka ka na nb = (3, Lx.meetN cs na nb)) := hide (by unfold Lx.meetL; rw [if_neg (fun h => HEN.out h.2), if_neg HRE.out, if_neg h6, if_neg h6, if_pos ⟨h3, h3⟩])
         have g3 : (ka == 3) = true := by simp [h3]
         have HK := hide (hk h3 h3); clear h3 h6; have p0 := cell_box HC6.out 0; go_wp2_with fail; refine (HMn.out HK.out w6 HB6.out).mono ?_; rintro e w7 ⟨rfl, hb7⟩; have HB7 := hide (HB6.out.trans (hb7.mono HB6.out.size)); have HR7 := hide ((hb7.block _ (Ow.lt_of_blk HR6.out)).trans HR6.out); clear hb7 p0 a0 a1 b0 b1; go_wp2_with fail; refine (ref_any _ _).mono ?_; rintro e w8 ⟨rfl, hb8⟩; have HB8 := hide (HB7.out.trans (hb8.mono HB7.out.size)); have HR8 := hide ((hb8.block _ (Ow.lt_of_blk HR7.out)).trans HR7.out); clear hb8; have hP := Ow.blk_put (Ow.blk_put HR8.out 0 (.int .i64 3)) 1 (.string ⟨(Lx.meetN cs na nb).toArray⟩); have HBz := hide ((HB8.out.setCell (p := ⟨w.heap.size + 3, 0, none⟩) (by show w.heap.size <= w.heap.size + 3; omega) (.int .i64 3)).setCell (p := ⟨w.heap.size + 3, 1, none⟩) (by show w.heap.size <= w.heap.size + 3; omega) (.string ⟨(Lx.meetN cs na nb).toArray⟩))
         have s0 := cell_box HR8.out 0; have s1 := cell_box HR8.out 1; have f0 := Ow.fz_blk HR8.out 0; have f1 := Ow.fz_blk HR8.out 1; have z0 := cell_box hP 0; have z1 := cell_box hP 1; clear hP; go_wp2_with fail; refine bodyPost_ret (v := .agg #[.int .i64 3, .string ⟨(Lx.meetN cs na nb).toArray⟩]) (by simp [results, Tryz.results23, go_sem, *]) rfl ?_
         exact ⟨by rw [HF.out] <;> rfl, HBz.out⟩
       have g3 : (ka == 3) = false := by simpa using h3
       have HF : Hid (Lx.meetL cs ka ka na nb = (3, Hr.objN)) := hide (by unfold Lx.meetL; rw [if_neg (fun h => HEN.out h.2), if_neg HRE.out, if_neg h6, if_neg h6, if_neg (fun h => h3 h.1)])
       clear h3 h6; go_wp2_with fail; refine (ref_any _ _).mono ?_; rintro e w7 ⟨rfl, hb7⟩; have HB7 := hide (HB6.out.trans (hb7.mono HB6.out.size)); have HR7 := hide ((hb7.block _ (Ow.lt_of_blk HR6.out)).trans HR6.out); clear hb7; have hP := Ow.blk_put (Ow.blk_put HR7.out 0 (.int .i64 3)) 1 (.string ⟨#[79, 98, 106, 101, 99, 116]⟩); have HBz := hide ((HB7.out.setCell (p := ⟨w.heap.size + 3, 0, none⟩) (by show w.heap.size <= w.heap.size + 3; omega) (.int .i64 3)).setCell (p := ⟨w.heap.size + 3, 1, none⟩) (by show w.heap.size <= w.heap.size + 3; omega) (.string ⟨#[79, 98, 106, 101, 99, 116]⟩))
       have s0 := cell_box HR7.out 0; have s1 := cell_box HR7.out 1; have f0 := Ow.fz_blk HR7.out 0; have f1 := Ow.fz_blk HR7.out 1; have z0 := cell_box hP 0; have z1 := cell_box hP 1; clear hP; go_wp2_with fail; refine bodyPost_ret (v := .agg #[.int .i64 3, .string ⟨#[79, 98, 106, 101, 99, 116]⟩]) (by simp [results, Tryz.results23, go_sem, *]) rfl ?_
       exact ⟨by rw [HF.out] <;> rfl, HBz.out⟩
 · have gk : (ka == kb) = false := by simpa using ek
   have HEK := hide ek; clear hab ek; cases hra : (ka != 2 && ka != 7) with
   | false =>
     have HF : Hid (Lx.meetL cs ka kb na nb = (7, [])) := hide (by unfold Lx.meetL; rw [if_neg (fun h => HEK.out h.1), if_pos (.inl hra)])
     have HX := hide hra; clear hra; go_wp2_with fail; rw [<- hw4]; clear hw4; refine (isRef_any ka _ _).mono ?_; rintro e w5 ⟨rfl, hb5⟩; rw [HX.out]; have HB5 := hide (HB4.out.trans (hb5.mono HB4.out.size)); have HC5 := hide ((hb5.block _ (Ow.lt_of_blk HC4.out)).trans HC4.out); have HA5 := hide ((hb5.block _ (Ow.lt_of_blk HA4.out)).trans HA4.out); have HT5 := hide ((hb5.block _ (Ow.lt_of_blk HT4.out)).trans HT4.out); have HR5 := hide ((hb5.block _ (Ow.lt_of_blk HR4.out)).trans HR4.out); clear hb5; have hP := Ow.blk_put (Ow.blk_put HR5.out 0 (.int .i64 7)) 1 (.string ⟨#[]⟩); have HBz := hide ((HB5.out.setCell (p := ⟨w.heap.size + 3, 0, none⟩) (by show w.heap.size <= w.heap.size + 3; omega) (.int .i64 7)).setCell (p := ⟨w.heap.size + 3, 1, none⟩) (by show w.heap.size <= w.heap.size + 3; omega) (.string ⟨#[]⟩))
     have s0 := cell_box HR5.out 0; have s1 := cell_box HR5.out 1; have f0 := Ow.fz_blk HR5.out 0; have f1 := Ow.fz_blk HR5.out 1; have z0 := cell_box hP 0; have z1 := cell_box hP 1; clear hP; go_wp2_with fail; refine bodyPost_ret (v := .agg #[.int .i64 7, .string ⟨#[]⟩]) (by simp [results, Tryz.results23, go_sem, *]) rfl ?_
     exact ⟨by rw [HF.out] <;> rfl, HBz.out⟩
   | true =>
     have HXa := hide hra; cases hrb : (kb != 2 && kb != 7) with
     | false =>
       have HF : Hid (Lx.meetL cs ka kb na nb = (7, [])) := hide (by unfold Lx.meetL; rw [if_neg (fun h => HEK.out h.1), if_pos (.inr hrb)])
       have HXb := hide hrb; clear hra hrb; go_wp2_with fail; rw [<- hw4]; clear hw4; refine (isRef_any ka _ _).mono ?_; rintro e w5 ⟨rfl, hb5⟩; rw [HXa.out]; have HB5 := hide (HB4.out.trans (hb5.mono HB4.out.size)); have HC5 := hide ((hb5.block _ (Ow.lt_of_blk HC4.out)).trans HC4.out); have HA5 := hide ((hb5.block _ (Ow.lt_of_blk HA4.out)).trans HA4.out); have HT5 := hide ((hb5.block _ (Ow.lt_of_blk HT4.out)).trans HT4.out); have HR5 := hide ((hb5.block _ (Ow.lt_of_blk HR4.out)).trans HR4.out); clear hb5; have b0 := cell_box HT5.out 0; have b1 := cell_box HT5.out 1; go_wp2_with fail; refine (isRef_any kb _ _).mono ?_; rintro e w6 ⟨rfl, hb6⟩; rw [HXb.out]; have HB6 := hide (HB5.out.trans (hb6.mono HB5.out.size)); have HC6 := hide ((hb6.block _ (Ow.lt_of_blk HC5.out)).trans HC5.out); have HA6 := hide ((hb6.block _ (Ow.lt_of_blk HA5.out)).trans HA5.out); have HT6 := hide ((hb6.block _ (Ow.lt_of_blk HT5.out)).trans HT5.out); have HR6 := hide ((hb6.block _ (Ow.lt_of_blk HR5.out)).trans HR5.out); clear hb6; clear b0 b1; have hP := Ow.blk_put (Ow.blk_put HR6.out 0 (.int .i64 7)) 1 (.string ⟨#[]⟩); have HBz := hide ((HB6.out.setCell (p := ⟨w.heap.size + 3, 0, none⟩) (by show w.heap.size <= w.heap.size + 3; omega) (.int .i64 7)).setCell (p := ⟨w.heap.size + 3, 1, none⟩) (by show w.heap.size <= w.heap.size + 3; omega) (.string ⟨#[]⟩))
       have s0 := cell_box HR6.out 0; have s1 := cell_box HR6.out 1; have f0 := Ow.fz_blk HR6.out 0; have f1 := Ow.fz_blk HR6.out 1; have z0 := cell_box hP 0; have z1 := cell_box hP 1; clear hP; go_wp2_with fail; refine bodyPost_ret (v := .agg #[.int .i64 7, .string ⟨#[]⟩]) (by simp [results, Tryz.results23, go_sem, *]) rfl ?_
       exact ⟨by rw [HF.out] <;> rfl, HBz.out⟩
     | true =>
       have HXb := hide hrb; clear hra hrb; have HRE : Hid (¬ ((ka != 2 && ka != 7) = false \/ (kb != 2 && kb != 7) = false)) := hide (by intro h; rcases h with h | h; exact absurd (HXa.out.symm.trans h) (by decide); exact absurd (HXb.out.symm.trans h) (by decide))
       go_wp2_with fail; rw [<- hw4]; clear hw4; refine (isRef_any ka _ _).mono ?_; rintro e w5 ⟨rfl, hb5⟩; rw [HXa.out]; have HB5 := hide (HB4.out.trans (hb5.mono HB4.out.size)); have HC5 := hide ((hb5.block _ (Ow.lt_of_blk HC4.out)).trans HC4.out); have HA5 := hide ((hb5.block _ (Ow.lt_of_blk HA4.out)).trans HA4.out); have HT5 := hide ((hb5.block _ (Ow.lt_of_blk HT4.out)).trans HT4.out); have HR5 := hide ((hb5.block _ (Ow.lt_of_blk HR4.out)).trans HR4.out); clear hb5; have b0 := cell_box HT5.out 0; have b1 := cell_box HT5.out 1; go_wp2_with fail; refine (isRef_any kb _ _).mono ?_; rintro e w6 ⟨rfl, hb6⟩; rw [HXb.out]; have HB6 := hide (HB5.out.trans (hb6.mono HB5.out.size)); have HC6 := hide ((hb6.block _ (Ow.lt_of_blk HC5.out)).trans HC5.out); have HA6 := hide ((hb6.block _ (Ow.lt_of_blk HA5.out)).trans HA5.out); have HT6 := hide ((hb6.block _ (Ow.lt_of_blk HT5.out)).trans HT5.out); have HR6 := hide ((hb6.block _ (Ow.lt_of_blk HR5.out)).trans HR5.out); clear hb6; clear b0 b1; have a0 := cell_box HA6.out 0; have a1 := cell_box HA6.out 1; have b0 := cell_box HT6.out 0; have b1 := cell_box HT6.out 1; by_cases h6 : ka = 6
       · have HF : Hid (Lx.meetL cs ka kb na nb = (kb, nb)) := hide (by unfold Lx.meetL; rw [if_neg (fun h => HEK.out h.1), if_neg HRE.out, if_pos h6])
         have g6 : (ka == 6) = true := by simp [h6]
         clear h6; have hP := Ow.blk_put (Ow.blk_put HR6.out 0 (.int .i64 kb)) 1 (.string ⟨nb.toArray⟩); have HBz := hide ((HB6.out.setCell (p := ⟨w.heap.size + 3, 0, none⟩) (by show w.heap.size <= w.heap.size + 3; omega) (.int .i64 kb)).setCell (p := ⟨w.heap.size + 3, 1, none⟩) (by show w.heap.size <= w.heap.size + 3; omega) (.string ⟨nb.toArray⟩))
         have s0 := cell_box HR6.out 0; have s1 := cell_box HR6.out 1; have f0 := Ow.fz_blk HR6.out 0; have f1 := Ow.fz_blk HR6.out 1; have z0 := cell_box hP 0; have z1 := cell_box hP 1; clear hP; go_wp2_with fail; refine bodyPost_ret (v := .agg #[.int .i64 kb, .string ⟨nb.toArray⟩]) (by simp [results, Tryz.results23, go_sem, *]) rfl ?_
         exact ⟨by rw [HF.out] <;> rfl, HBz.out⟩
       have g6 : (ka == 6) = false := by simpa using h6
       by_cases h6' : kb = 6
       · have HF : Hid (Lx.meetL cs ka kb na nb = (ka, na)) := hide (by unfold Lx.meetL; rw [if_neg (fun h => HEK.out h.1), if_neg HRE.out, if_neg h6, if_pos h6'])
         have g6' : (kb == 6) = true := by simp [h6']
         clear h6 h6'; have hP := Ow.blk_put (Ow.blk_put HR6.out 0 (.int .i64 ka)) 1 (.string ⟨na.toArray⟩); have HBz := hide ((HB6.out.setCell (p := ⟨w.heap.size + 3, 0, none⟩) (by show w.heap.size <= w.heap.size + 3; omega) (.int .i64 ka)).setCell (p := ⟨w.heap.size + 3, 1, none⟩) (by show w.heap.size <= w.heap.size + 3; omega) (.string ⟨na.toArray⟩))
         have s0 := cell_box HR6.out 0; have s1 := cell_box HR6.out 1; have f0 := Ow.fz_blk HR6.out 0; have f1 := Ow.fz_blk HR6.out 1; have z0 := cell_box hP 0; have z1 := cell_box hP 1; clear hP; go_wp2_with fail; refine bodyPost_ret (v := .agg #[.int .i64 ka, .string ⟨na.toArray⟩]) (by simp [results, Tryz.results23, go_sem, *]) rfl ?_
         exact ⟨by rw [HF.out] <;> rfl, HBz.out⟩
       have g6' : (kb == 6) = false := by simpa using h6'
       have HF : Hid (Lx.meetL cs ka kb na nb = (3, Hr.objN)) := hide (by unfold Lx.meetL; rw [if_neg (fun h => HEK.out h.1), if_neg HRE.out, if_neg h6, if_neg h6', if_neg (fun h => HEK.out (h.1.trans h.2.symm))])
       have g33 : (ka == 3 && kb == 3) = false := by
        cases e : (ka == 3 && kb == 3) with
        | false => rfl
        | true =>
          simp only [Bool.and_eq_true, beq_iff_eq] at e; exact absurd (e.1.trans e.2.symm) HEK.out
       cases g3 : (ka == 3) with
       | false =>
         clear h6 h6' g33; go_wp2_with fail; refine (ref_any _ _).mono ?_; rintro e w7 ⟨rfl, hb7⟩; have HB7 := hide (HB6.out.trans (hb7.mono HB6.out.size)); have HR7 := hide ((hb7.block _ (Ow.lt_of_blk HR6.out)).trans HR6.out); clear hb7; have hP := Ow.blk_put (Ow.blk_put HR7.out 0 (.int .i64 3)) 1 (.string ⟨#[79, 98, 106, 101, 99, 116]⟩); have HBz := hide ((HB7.out.setCell (p := ⟨w.heap.size + 3, 0, none⟩) (by show w.heap.size <= w.heap.size + 3; omega) (.int .i64 3)).setCell (p := ⟨w.heap.size + 3, 1, none⟩) (by show w.heap.size <= w.heap.size + 3; omega) (.string ⟨#[79, 98, 106, 101, 99, 116]⟩))
         have s0 := cell_box HR7.out 0; have s1 := cell_box HR7.out 1; have f0 := Ow.fz_blk HR7.out 0; have f1 := Ow.fz_blk HR7.out 1; have z0 := cell_box hP 0; have z1 := cell_box hP 1; clear hP; go_wp2_with fail; refine bodyPost_ret (v := .agg #[.int .i64 3, .string ⟨#[79, 98, 106, 101, 99, 116]⟩]) (by simp [results, Tryz.results23, go_sem, *]) rfl ?_
         exact ⟨by rw [HF.out] <;> rfl, HBz.out⟩
       | true =>
         have g4 : (kb == 3) = false := by rw [g3] at g33; simpa using g33
         clear h6 h6' g33; go_wp2_with fail; refine (ref_any _ _).mono ?_; rintro e w7 ⟨rfl, hb7⟩; have HB7 := hide (HB6.out.trans (hb7.mono HB6.out.size)); have HR7 := hide ((hb7.block _ (Ow.lt_of_blk HR6.out)).trans HR6.out); clear hb7; have hP := Ow.blk_put (Ow.blk_put HR7.out 0 (.int .i64 3)) 1 (.string ⟨#[79, 98, 106, 101, 99, 116]⟩); have HBz := hide ((HB7.out.setCell (p := ⟨w.heap.size + 3, 0, none⟩) (by show w.heap.size <= w.heap.size + 3; omega) (.int .i64 3)).setCell (p := ⟨w.heap.size + 3, 1, none⟩) (by show w.heap.size <= w.heap.size + 3; omega) (.string ⟨#[79, 98, 106, 101, 99, 116]⟩))
         have s0 := cell_box HR7.out 0; have s1 := cell_box HR7.out 1; have f0 := Ow.fz_blk HR7.out 0; have f1 := Ow.fz_blk HR7.out 1; have z0 := cell_box hP 0; have z1 := cell_box hP 1; clear hP; go_wp2_with fail; refine bodyPost_ret (v := .agg #[.int .i64 3, .string ⟨#[79, 98, 106, 101, 99, 116]⟩]) (by simp [results, Tryz.results23, go_sem, *]) rfl ?_
         exact ⟨by rw [HF.out] <;> rfl, HBz.out⟩
namespace Lx
open Pp Hr
def allR (cs : List XCls) (ts : List Ty) : Bool := ts.all fun t => rightL (allL cs) t.kind t.name
def lookOk (cs : List XCls) (ts : List Ty) : Bool := Ly.layE cs == 0 && allR cs ts
theorem lay_err {cs : List XCls} (h : Ly.layE cs = 0) : errL cs = 0 := by
 unfold Ly.layE at h
 split at h
 · assumption
 · exact h
def Looked (cs : List XCls) (ok : Bool) (e : Ending) (w : World) : Prop := (ok = true /\ ∃ hv, e = .returned (.tuple #[.agg #[hv], .bool true]) /\ ProgX w hv (cs.map hd)) \/ (ok = false /\ e = .returned (.tuple #[.agg #[.slice none 0 0], .bool false]))
end Lx
theorem llook_any (cs : List Pp.XCls) (v : Value) (ts : List Pp.Ty) (tv : Value) (w : World) (ht : TabS w) (h : ProgX w v cs) (hl : Pp.Light cs) (hT : RowX w 2 TyX tv ts) (hn : ts.length <= 10) :
 Calls Tryz.prog 22 #[.agg #[v], tv] w fun e w' => Lx.Looked cs (Lx.lookOk cs ts) e w' /\ Below w.heap.size w w' := by
 have HCk := hide (fun wx (hb : Below w.heap.size w wx) => lCheck_any cs v wx (ht.below hb) (h.on hb) hl); have HHd := hide (fun wx (hb : Below w.heap.size w wx) => headsOf_any cs v w wx h hb hl); have HTb := hide (fun wx (hb : Below w.heap.size w wx) => ht.below hb); have HL := hide (Lx.light_hd hl); have HTs := hide hT; obtain ⟨pa, pc, rfl, _⟩ := h.1.len; obtain ⟨ta, tc, rfl, _⟩ := hT.len; obtain ⟨m, hm⟩ : ∃ m, m = ts.length := ⟨_, rfl⟩; have HMx := hide hm; rw [<- hm] at HTs hn ⊢; generalize cs.length = n at *
 obtain ⟨ok, hok⟩ : ∃ ok, ok = Lx.lookOk cs ts := ⟨_, rfl⟩; have HOk := hide hok; rw [<- hok]; clear hok hm h ht hl hT; have HB0 := hide (Ow.bel_alloc2 w (.cells #[.slice pa n pc] 24) (.cells #[.slice none 0 0] 24)); have HC0 := hide (Ow.blk_alloc2a w (.cells #[.slice pa n pc] 24) (.cells #[.slice none 0 0] 24)); have HR0 := hide (Ow.blk_alloc2b w (.cells #[.slice pa n pc] 24) (.cells #[.slice none 0 0] 24)); go_enter Tryz.func22, Tryz.ntmps22; go_wp2_with fail; generalize (w.alloc (.cells #[.slice pa n pc] 24)).alloc (.cells #[.slice none 0 0] 24) = w0 at *
 refine (HCk.out w0 HB0.out).mono ?_; rintro e w1 ⟨rfl, hb1⟩; have HB1 := hide (HB0.out.trans (hb1.mono HB0.out.size)); have HC1 := hide ((hb1.block _ (Ow.lt_of_blk HC0.out)).trans HC0.out); have HR1 := hide ((hb1.block _ (Ow.lt_of_blk HR0.out)).trans HR0.out); clear hb1 HB0 HC0 HR0; obtain ⟨le, hle⟩ : ∃ le, le = Ly.layE cs := ⟨_, rfl⟩; rw [<- hle]; by_cases hz : le = 0
 case neg =>
  have HF : Hid (ok = false) := hide (by rw [HOk.out]; unfold Lx.lookOk; rw [<- hle]; simp [hz])
  have g0 : (le != 0) = true := by simp [hz]
  clear hz hle; have s0 := cell_box HR1.out 0; have f0 := Ow.fz_blk HR1.out 0; have hP := Ow.blk_put HR1.out 0 (.slice none 0 0); have HBz := hide (HB1.out.setCell (p := ⟨w.heap.size + 1, 0, none⟩) (by show w.heap.size <= w.heap.size + 1; omega) (.slice none 0 0))
  have z0 := cell_box hP 0; clear hP; go_wp2_with fail; refine bodyPost_ret (v := .tuple #[.agg #[.slice none 0 0], .bool false]) (by simp [results, Tryz.results22, go_sem, *]) rfl ?_
  exact ⟨.inr ⟨HF.out, rfl⟩, HBz.out⟩
 case pos =>
  have HE := hide (hle.symm.trans hz); have g0 : (le != 0) = false := by simp [hz]
  clear hz hle; have c0 := cell_box HC1.out 0; go_wp2_with fail; refine (HHd.out w1 HB1.out).mono ?_; rintro e w2 ⟨hv, rfl, hpr, hb2⟩; have HB2 := hide (HB1.out.trans (hb2.mono HB1.out.size)); have HR2 := hide ((hb2.block _ (Ow.lt_of_blk HR1.out)).trans HR1.out); have HO2 := hide hpr; have HP2 := hide (Lx.heads_prog hpr HB2.out HL.out); clear hb2 hpr HB1 HC1 HR1 c0 HCk HHd; obtain ⟨qa, qc, hqe, _⟩ := HP2.out.1.len; subst hqe; have HO3 := hide (fun wx (hb : Below w2.heap.size w2 wx) => HO2.out.on hb fun _ _ h => h); clear HO2; generalize (cs.map Lx.hd).length = n2 at *
  have HB3 := hide (HB2.out.alloc HB2.out.size (.cells #[.slice qa n2 qc] 24)); have hA3 : Below w2.heap.size w2 (w2.alloc (.cells #[.slice qa n2 qc] 24)) := (Below.refl _ _).alloc (Nat.le_refl _) _; have HR3 := hide ((hA3.block _ (Ow.lt_of_blk HR2.out)).trans HR2.out); have HH3 := hide (heap_alloc_new w2 (.cells #[.slice qa n2 qc] 24)); have HP3 := hide (HP2.out.on hA3); have HO4 := hide (fun wx (hb : Below (w2.alloc (.cells #[.slice qa n2 qc] 24)).heap.size (w2.alloc (.cells #[.slice qa n2 qc] 24)) wx) => HO3.out wx (hA3.trans (hb.mono hA3.size))); clear hA3 HO3; go_wp2_with fail; have HT3 := hide (HTb.out _ HB3.out); generalize w2.alloc (.cells #[.slice qa n2 qc] 24) = w3 at *
  clear HP2 HR2
  go_loopw [17] (fun i wr => ∃ k : Nat, k <= m /\ i = .int .i64 k /\ Hid (Below w3.heap.size w3 wr) /\ Hid (Lx.allR cs (ts.take k) = true)) (fun i _ => m - (intOf i).toNat)
  case atStart => exact ⟨0, Nat.zero_le _, rfl, hide (Below.refl _ _), hide rfl⟩
  case round =>
   obtain ⟨k, hk, rfl, HBr, HAl⟩ := hrel; have HBw := hide (HB3.out.trans (HBr.out.mono HB3.out.size)); have HRr := hide ((HBr.out.block _ (Ow.lt_of_blk HR3.out)).trans HR3.out); have HHr := hide ((HBr.out.block _ (Ow.lt_of_blk HH3.out)).trans HH3.out); by_cases hlt : k < m
   · obtain ⟨t, hx⟩ : ∃ t, ts[k]? = some t := ⟨ts[k]'(by rw [<- HMx.out]; exact hlt), List.getElem?_eq_getElem _⟩
     obtain ⟨g1, o1, eg1, ys1, w1', hc1⟩ := Ow.row_at HTs.out hx; subst eg1; have HCx := hide (hc1 wr HBw.out); obtain ⟨rfl, hnm⟩ := w1'; have r0 := HCx.out 0 _ rfl; have r1 := HCx.out 1 _ rfl; rw [Nat.add_zero] at r0; have hlt' : (k : Int) < (m : Int) := by omega
     have hm10 : (m : Int) <= 10 := by omega
     have hA : Below wr.heap.size wr (wr.alloc (.cells #[.int .i64 t.kind, .string ⟨t.name.toArray⟩] 26)) := (Below.refl _ _).alloc (Nat.le_refl _) _; have h0 := cell_box ((hA.block _ (Ow.lt_of_blk HHr.out)).trans HHr.out) 0; have HBa := hide (HBr.out.trans (hA.mono HBr.out.size)); have HRa := hide ((hA.block _ (Ow.lt_of_blk HRr.out)).trans HRr.out); have HRi := hide (isRight_any (cs.map Lx.hd) _ t _ (HTb.out _ (HBw.out.trans (hA.mono HBw.out.size))) (HP3.out.on HBa.out) HL.out); clear hc1 hA HCx; go_wp2_with fail; refine HRi.out.mono ?_; rintro e w5 ⟨rfl, hb5⟩; rw [Lx.rightH_hd (Lx.lay_err HE.out)]; have HB5 := hide (HBa.out.trans (hb5.mono HBa.out.size)); have HR5 := hide ((hb5.block _ (Ow.lt_of_blk HRa.out)).trans HRa.out); clear hb5 HRi r0 r1 h0 HRa HBa; cases hq : Lx.rightL (Hr.allL cs) t.kind t.name with
     | false =>
       have HF : Hid (ok = false) := hide (by
        rw [HOk.out]; unfold Lx.lookOk Lx.allR; rw [Bool.and_eq_false_iff]; right; rw [List.all_eq_false]
        exact ⟨t, List.mem_of_getElem? hx, by rw [hq]; decide⟩)
       clear hq hx; have s0 := cell_box HR5.out 0; have f0 := Ow.fz_blk HR5.out 0; have hP := Ow.blk_put HR5.out 0 (.slice none 0 0); have HBz := hide ((HB3.out.trans (HB5.out.mono HB3.out.size)).setCell (p := ⟨w.heap.size + 1, 0, none⟩) (by show w.heap.size <= w.heap.size + 1; omega) (.slice none 0 0))
       have z0 := cell_box hP 0; clear hP; go_wp2_with fail; refine bodyPost_ret (v := .tuple #[.agg #[.slice none 0 0], .bool false]) (by simp [results, Tryz.results22, go_sem, *]) rfl ?_
       exact ⟨.inr ⟨HF.out, rfl⟩, HBz.out⟩
     | true =>
       have HG : Hid (Lx.allR cs (ts.take (k + 1)) = true) := hide (by
        have h1 := HAl.out; unfold Lx.allR at h1 ⊢; rw [List.take_add_one, hx, List.all_append, h1]
        simp [hq])
       clear hq hx; go_wp2_with fail
       go_roundw
       case rel => exact ⟨k + 1, by omega, by go_num, HB5, HG⟩
       case measure => simp [intOf]; omega
   · have HF : Hid (ok = true) := hide (by
      rw [HOk.out]; unfold Lx.lookOk; rw [HE.out]; have h1 := HAl.out; rw [List.take_of_length_le (by rw [<- HMx.out]; omega)] at h1
      rw [h1]; rfl)
     have hnl : ¬ ((k : Int) < (m : Int)) := by omega
     have h0 := cell_box HHr.out 0; have s0 := cell_box HRr.out 0; have f0 := Ow.fz_blk HRr.out 0; have hP := Ow.blk_put HRr.out 0 (.slice qa n2 qc); have HBz := hide (HBw.out.setCell (p := ⟨w.heap.size + 1, 0, none⟩) (by show w.heap.size <= w.heap.size + 1; omega) (.slice qa n2 qc))
     have z0 := cell_box hP 0; have hK : Ow.Kx 24 wr (wr.setCell ⟨w.heap.size + 1, 0, none⟩ (.slice qa n2 qc)) := Ow.Kx.set ⟨_, _, HRr.out⟩ 0 (.slice qa n2 qc); have HPz := hide (Lx.heads_prog ((HO4.out wr HBr.out).kx hK (by decide) fun _ _ h => h) HBz.out HL.out)
     clear hK; clear hP; go_wp2_with fail; refine bodyPost_ret (v := .tuple #[.agg #[.slice qa n2 qc], .bool true]) (by simp [results, Tryz.results22, go_sem, *]) rfl ?_
     exact ⟨.inl ⟨HF.out, _, rfl, HPz.out⟩, HBz.out⟩
namespace Lx
open Pp Hr
theorem far_first {up : List (List Nat)} {i j : Nat} (h : Far up i j) : ∃ k, Step up i k /\ (k = j \/ Far up k j) := by
 refine Far.ind (C := fun i j => ∃ k, Step up i k /\ (k = j \/ Far up k j)) (fun s => ⟨_, s, .inl rfl⟩) ?_ h; rintro i j k _ s ⟨q, h1, h2⟩
 rcases h2 with rfl | h2
 · exact ⟨q, h1, .inr (.one s)⟩
 · exact ⟨q, h1, .inr (.more h2 s)⟩
theorem ifs_true {l : List XCls} : ∀ {ns : List Bs} {u : List Nat}, ifsL l ns = some u -> ∀ k ∈ u, ∃ c, l[k]? = some c /\ c.iface = true
 | [], u, h => by cases h; intro k hk; cases hk
 | n :: ns, u, h => by
   unfold ifsL at h; cases hu : upL l true n with
   | none => rw [hu] at h; cases h
   | some q =>
     rw [hu] at h; simp only at h; cases hr : ifsL l ns with
     | none => rw [hr] at h; cases h
     | some r =>
       rw [hr] at h; cases h; obtain ⟨_, _, c, hc, hi⟩ := upL_lt hu; intro k hk
       rcases List.mem_cons.1 hk with rfl | hk
       · exact ⟨c, hc, hi⟩
       · exact ifs_true hr k hk
theorem step_kinds {cs : List XCls} {up : List (List Nat)} (hg : growL (allL cs) (allL cs) = some up) {p k : Nat} {c : XCls} (hc : (allL cs)[p]? = some c) (h : Step up p k) :
 (∃ s, superL c = some s /\ placeL (allL cs) s = some k) \/ ∃ d, (allL cs)[k]? = some d /\ d.iface = true := by
 obtain ⟨u, hu, huc⟩ := growL_at hg hc; obtain ⟨u', hu', hk⟩ := h; rw [hu] at hu'; cases hu'; unfold upsL supL at huc; cases hs : superL c with
 | none =>
   rw [hs] at huc; simp only at huc; cases hi : ifsL (allL cs) c.ifaces with
   | none => rw [hi] at huc; cases huc
   | some b =>
     rw [hi] at huc; cases huc; simp only [List.nil_append] at hk; exact .inr (ifs_true hi k hk)
 | some s =>
   rw [hs] at huc; simp only at huc; cases hu1 : upL (allL cs) false s with
   | none => rw [hu1] at huc; cases huc
   | some q =>
     rw [hu1] at huc; simp only [Option.map_some] at huc; cases hi : ifsL (allL cs) c.ifaces with
     | none => rw [hi] at huc; cases huc
     | some b =>
       rw [hi] at huc; cases huc
       rcases List.mem_append.1 hk with hk | hk
       · cases List.mem_singleton.1 hk
         exact .inl ⟨s, rfl, (upL_lt hu1).2.1⟩
       · exact .inr (ifs_true hi k hk)
theorem iface_step {cs : List XCls} {up : List (List Nat)} (hg : growL (allL cs) (allL cs) = some up) {p k : Nat} {c : XCls} (hc : (allL cs)[p]? = some c) (hi : c.iface = true) (h : Step up p k) : ∃ d, (allL cs)[k]? = some d /\ d.iface = true := by
 rcases step_kinds hg hc h with ⟨s, hs, _⟩ | h
 · unfold superL at hs
   rw [if_pos (.inl hi)] at hs; cases hs
 · exact h
theorem iface_far {cs : List XCls} {up : List (List Nat)} (hg : growL (allL cs) (allL cs) = some up) {p k : Nat} (h : Far up p k) : (∃ c, (allL cs)[p]? = some c /\ c.iface = true) -> ∃ d, (allL cs)[k]? = some d /\ d.iface = true := by
 refine Far.ind (C := fun p k => (∃ c, (allL cs)[p]? = some c /\ c.iface = true) -> ∃ d, (allL cs)[k]? = some d /\ d.iface = true) ?_ ?_ h
 · rintro i j s ⟨c, hc, hi⟩
   exact iface_step hg hc hi s
 · rintro i j k _ s ih hc
   obtain ⟨d, hd, hi⟩ := ih hc; exact iface_step hg hd hi s
def ClassN (cs : List XCls) (b : Bool) (a : Bs) : Prop := ∃ (p : Nat) (c : XCls), (allL cs)[p]? = some c /\ c.name = a /\ c.iface = b
theorem known_kind {cs : List XCls} {a : Bs} (h : Known cs a) : ClassN cs true a \/ ClassN cs false a := by
 obtain ⟨p, c, hc, hn⟩ := h; cases hi : c.iface with
 | true => exact .inl ⟨p, c, hc, hn, hi⟩
 | false => exact .inr ⟨p, c, hc, hn, hi⟩
theorem ClassN.known {cs : List XCls} {b : Bool} {a : Bs} (h : ClassN cs b a) : Known cs a := by
 obtain ⟨p, c, hc, hn, _⟩ := h; exact ⟨p, c, hc, hn⟩
theorem class_obj (cs : List XCls) : ClassN cs false objN := ⟨0, plain objN [], rfl, rfl, rfl⟩
theorem self_under {cs : List XCls} (he : errL cs = 0) {a : Bs} (h : Known cs a) : underQ cs a a := by
 obtain ⟨p, c, hc, rfl⟩ := h; exact under_self he hc
theorem top_under {cs : List XCls} (he : errL cs = 0) {a : Bs} (h : Known cs a) : underQ cs a objN := by
 obtain ⟨p, c, hc, rfl⟩ := h; exact under_top he hc
theorem super_under {cs : List XCls} (he : errL cs = 0) {a s : Bs} (h : Known cs a) (hs : superQ cs a = some s) : underQ cs a s := by
 obtain ⟨p, c, hc, rfl⟩ := h; obtain ⟨_, ho, up, hg, hr⟩ := err_zero he; rw [superQ_at he hc] at hs; obtain ⟨q, d, h1, h2, h3, h4, h5, h6⟩ := super_step hg hc hs; exact ⟨up, p, q, he, hg, ho p c hc, h1, .inr (.inr (.one h5))⟩
theorem super_class {cs : List XCls} (he : errL cs = 0) {a s : Bs} (h : Known cs a) (hs : superQ cs a = some s) : ClassN cs false s := by
 obtain ⟨p, c, hc, rfl⟩ := h; obtain ⟨_, ho, up, hg, hr⟩ := err_zero he; rw [superQ_at he hc] at hs; obtain ⟨q, d, h1, h2, h3, h4, h5, h6⟩ := super_step hg hc hs; exact ⟨q, d, h2, h3, h4⟩
theorem iface_under {cs : List XCls} (he : errL cs = 0) {a z : Bs} (ha : ClassN cs true a) (hz : ClassN cs false z) (h : underQ cs a z) : z = objN := by
 obtain ⟨up, i, j, _, hg, hi, hj, h⟩ := h; obtain ⟨_, ho, _⟩ := err_zero he; obtain ⟨p, c, hc, hn, hf⟩ := ha; obtain ⟨q, d, hd, hm, hfd⟩ := hz; have e1 := ho p c hc; rw [hn, hi] at e1; cases e1; have e2 := ho q d hd; rw [hm, hj] at e2; cases e2
 rcases h with rfl | rfl | h
 · rw [hc] at hd; cases hd; rw [hf] at hfd; cases hfd
 · rw [<- hm]
   have : (allL cs)[0]? = some (plain objN []) := rfl; rw [this] at hd; cases hd; rfl
 · obtain ⟨d', hd', hi'⟩ := iface_far hg h ⟨c, hc, hf⟩
   rw [hd] at hd'; cases hd'; rw [hfd] at hi'; cases hi'
theorem class_up {cs : List XCls} (he : errL cs = 0) {a s z : Bs} (ha : Known cs a) (hs : superQ cs a = some s) (hz : ClassN cs false z) (hne : a ≠ z) (h : underQ cs a z) : underQ cs s z := by
 have hks := known_super he ha hs; by_cases hzo : z = objN
 · rw [hzo]; exact top_under he hks
 obtain ⟨up, i, j, _, hg, hi, hj, h⟩ := h; obtain ⟨_, ho, _⟩ := err_zero he; obtain ⟨p, c, hc, hn⟩ := ha; obtain ⟨q, d, hd, hm, hfd⟩ := hz; have e1 := ho p c hc; rw [hn, hi] at e1; cases e1; have e2 := ho q d hd; rw [hm, hj] at e2; cases e2; rw [<- hn, superQ_at he hc] at hs
 rcases h with rfl | rfl | h
 · rw [hc] at hd; cases hd; exact absurd (hn.symm.trans hm) hne
 · exfalso
   have : (allL cs)[0]? = some (plain objN []) := rfl; rw [this] at hd; cases hd; exact hzo hm.symm
 · obtain ⟨k, h1, h2⟩ := far_first h
   rcases step_kinds hg hc h1 with ⟨s', hs', hk⟩ | hif
   · rw [hs] at hs'; cases hs'
     refine ⟨up, k, j, he, hg, hk, hj, ?_⟩
     rcases h2 with rfl | h2
     · exact .inl rfl
     · exact .inr (.inr h2)
   · exfalso
     rcases h2 with rfl | h2
     · obtain ⟨d', hd', hi'⟩ := hif
       rw [hd] at hd'; cases hd'; rw [hfd] at hi'; cases hi'
     · obtain ⟨d', hd', hi'⟩ := iface_far hg h2 hif
       rw [hd] at hd'; cases hd'; rw [hfd] at hi'; cases hi'
theorem class_top {cs : List XCls} (he : errL cs = 0) {a : Bs} (ha : ClassN cs false a) (hs : superQ cs a = none) : a = objN := by
 obtain ⟨p, c, hc, rfl, hf⟩ := ha; rw [superQ_at he hc] at hs
 rcases superL_none hs with h | h
 · exact h
 · rw [hf] at h; cases h
theorem iface_top {cs : List XCls} (he : errL cs = 0) {a : Bs} (ha : ClassN cs true a) : superQ cs a = none := by
 obtain ⟨p, c, hc, rfl, hf⟩ := ha; rw [superQ_at he hc]; unfold superL; rw [if_pos (.inl hf)]
theorem climb_ind {cs : List XCls} (he : errL cs = 0) (b : Bs) {C : Bs -> Bs -> Prop}
 (here : ∀ a, Known cs a -> underB cs b a = true -> C a a)
 (stop : ∀ a, Known cs a -> ¬ underB cs b a = true -> superQ cs a = none -> C a objN)
 (more : ∀ a s r, Known cs a -> ¬ underB cs b a = true -> superQ cs a = some s -> C s r -> C a r) :
 ∀ (n : Nat) (a : Bs), tallN cs a <= n -> Known cs a -> C a (climbN cs b (allL cs).length a) := by
 intro n
 induction n with
 | zero =>
   intro a hn ha; by_cases hu : underB cs b a = true
   · rw [climb_here he ha b hu]; exact here a ha hu
   · cases hs : superQ cs a with
     | none => rw [climb_end he ha b hu hs]; exact stop a ha hu hs
     | some s => have := tall_step he ha hs; omega
 | succ n ih =>
   intro a hn ha; by_cases hu : underB cs b a = true
   · rw [climb_here he ha b hu]; exact here a ha hu
   · cases hs : superQ cs a with
     | none => rw [climb_end he ha b hu hs]; exact stop a ha hu hs
     | some s =>
       rw [climb_step he ha b hu hs]; exact more a s _ ha hu hs (ih s (by have := tall_step he ha hs; omega) (known_super he ha hs))
theorem climb_low {cs : List XCls} (he : errL cs = 0) {a : Bs} (b : Bs) (ha : Known cs a) : underQ cs a (climbN cs b (allL cs).length a) := by
 refine climb_ind he b (C := fun a r => underQ cs a r) ?_ ?_ ?_ _ a (Nat.le_refl _) ha
 · intro a ha _; exact self_under he ha
 · intro a ha _ _; exact top_under he ha
 · intro a s r ha _ hs h; exact under_trans (super_under he ha hs) h
theorem climb_high {cs : List XCls} (he : errL cs = 0) {a b : Bs} (hb : Known cs b) (ha : Known cs a) : underQ cs b (climbN cs b (allL cs).length a) := by
 refine climb_ind he b (C := fun a r => underQ cs b r) ?_ ?_ ?_ _ a (Nat.le_refl _) ha
 · intro a ha h; exact (underB_iff _ _ _).1 h
 · intro a ha _ _; exact top_under he hb
 · intro a s r ha _ hs h; exact h
theorem climb_class {cs : List XCls} (he : errL cs = 0) {a : Bs} (b : Bs) (ha : ClassN cs false a) : ClassN cs false (climbN cs b (allL cs).length a) := by
 refine climb_ind he b (C := fun a r => ClassN cs false a -> ClassN cs false r) ?_ ?_ ?_ _ a (Nat.le_refl _) ha.known ha
 · intro a _ _ h; exact h
 · intro a _ _ _ _; exact class_obj cs
 · intro a s r ha _ hs h _; exact h (super_class he ha hs)
theorem climb_least {cs : List XCls} (he : errL cs = 0) {a b z : Bs} (ha : ClassN cs false a) (hz : ClassN cs false z) (h1 : underQ cs a z) (h2 : underQ cs b z) : underQ cs (climbN cs b (allL cs).length a) z := by
 refine climb_ind he b (C := fun a r => ClassN cs false a -> underQ cs a z -> underQ cs r z) ?_ ?_ ?_ _ a (Nat.le_refl _) ha.known ha h1
 · intro a _ _ _ h; exact h
 · intro a _ _ hs hc h; rw [<- class_top he hc hs]; exact h
 · intro a s r ha hn hs h _ hu
   refine h (super_class he ha hs) (class_up he ha hs hz ?_ hu); rintro rfl; exact hn ((underB_iff _ _ _).2 h2)
theorem meet_low {cs : List XCls} (he : errL cs = 0) {a b : Bs} (ha : Known cs a) (hb : Known cs b) : underQ cs a (meetN cs a b) := by
 unfold meetN
 split
 · exact (underB_iff _ _ _).1 (by assumption)
 · exact climb_low he b ha
theorem meet_high {cs : List XCls} (he : errL cs = 0) {a b : Bs} (ha : Known cs a) (hb : Known cs b) : underQ cs b (meetN cs a b) := by
 unfold meetN
 split
 · exact self_under he hb
 · exact climb_high he hb ha
theorem meet_least {cs : List XCls} (he : errL cs = 0) {a b z : Bs} (ha : ClassN cs false a) (hb : ClassN cs false b) (hz : ClassN cs false z) (h1 : underQ cs a z) (h2 : underQ cs b z) : underQ cs (meetN cs a b) z := by
 unfold meetN
 split
 · exact h2
 · exact climb_least he ha hz h1 h2
theorem meet_class {cs : List XCls} (he : errL cs = 0) {a b : Bs} (ha : ClassN cs false a) (hb : ClassN cs false b) : ClassN cs false (meetN cs a b) := by
 unfold meetN
 split
 · exact hb
 · exact climb_class he b ha
theorem climb_iface {cs : List XCls} (he : errL cs = 0) {a b : Bs} (ha : ClassN cs false a) (hb : ClassN cs true b) : climbN cs b (allL cs).length a = objN :=
 iface_under he hb (climb_class he b ha) (climb_high he hb.known ha.known)
theorem meet_comm {cs : List XCls} (he : errL cs = 0) {a b : Bs} (ha : Known cs a) (hb : Known cs b) : meetN cs a b = meetN cs b a := by
 by_cases h1 : underB cs a b = true
 · have e1 : meetN cs a b = b := by unfold meetN; exact if_pos h1
   rw [e1]; unfold meetN; by_cases h2 : underB cs b a = true
   · rw [if_pos h2]; exact under_anti ((underB_iff _ _ _).1 h2) ((underB_iff _ _ _).1 h1)
   · rw [if_neg h2]; exact (climb_here he hb a h1).symm
 by_cases h2 : underB cs b a = true
 · have e2 : meetN cs b a = a := by unfold meetN; exact if_pos h2
   rw [e2]; unfold meetN; rw [if_neg h1]; exact climb_here he ha b h2
 have e1 : meetN cs a b = climbN cs b (allL cs).length a := by unfold meetN; exact if_neg h1
 have e2 : meetN cs b a = climbN cs a (allL cs).length b := by unfold meetN; exact if_neg h2
 rw [e1, e2]
 rcases known_kind ha with ca | ca
 · rw [climb_end he ha b h2 (iface_top he ca)]
   rcases known_kind hb with cb | cb
   · exact (climb_end he hb a h1 (iface_top he cb)).symm
   · exact (climb_iface he cb ca).symm
 · rcases known_kind hb with cb | cb
   · rw [climb_end he hb a h1 (iface_top he cb)]
     exact climb_iface he ca cb
   · exact under_anti (climb_least he ca (climb_class he a cb) (climb_high he ha hb) (climb_low he a hb)) (climb_least he cb (climb_class he b ca) (climb_high he hb ha) (climb_low he b ha))
theorem meet_under {cs : List XCls} {a b : Bs} (h : underB cs a b = true) : meetN cs a b = b := by unfold meetN; exact if_pos h
end Lx
end Go.Proofs.YtbbbnciejmdpfaaGreatDoor
