/- What the laws of this seat lean on: 6 texts. -/
import Derived.Test.YtbbbnciejmdpfaaGreatDoorPkAw
import Derived.Test.YtbbbnciejmdpfaaGreatDoorPkAc
import Derived.Test.YtbbbnciejmdpfaaGreatDoorPkAj
import Derived.Test.YtbbbnciejmdpfaaGreatDoorPkAo
set_option maxRecDepth 100000
set_option maxHeartbeats 64000000
set_option linter.unusedVariables false
set_option linter.unusedSimpArgs false
namespace Go.Proofs.YtbbbnciejmdpfaaGreatDoor
open Go.RowKit
namespace Lx
open Pp Hr
def refB (k : Int) : Bool := k != 2 && k != 7
def fitsH (cs : List XCls) (ka kb : Int) (na nb : Bs) : Bool :=
 if (ka = kb /\ na = nb) \/ kb = 7 then true else if ka = 6 \/ (kb = 3 /\ nb = objN) then refB ka && refB kb else ka == 3 && (kb == 3 && underB cs na nb)
end Lx
theorem fits_any (cs : List Pp.XCls) (v : Value) (ka kb : Int) (na nb : Pp.Bs) (w : World) (ht : TabS w) (h : ProgX w v cs) :
 Calls Tryz.prog 30 #[.agg #[v], .agg #[.int .i64 ka, .string ⟨na.toArray⟩], .agg #[.int .i64 kb, .string ⟨nb.toArray⟩]] w fun e w' => e = .returned (.bool (Lx.fitsH cs ka kb na nb)) /\ Below w.heap.size w w' := by
 have HUn := hide (fun wx (hb : Below w.heap.size w wx) => Under_any cs v na nb wx (ht.below hb) (h.on hb)); obtain ⟨pa, pc, rfl, _⟩ := h.1.len; generalize cs.length = n at *
 obtain ⟨r, hr⟩ : ∃ r, r = Lx.fitsH cs ka kb na nb := ⟨_, rfl⟩; have HR := hide hr; rw [<- hr]; clear hr h ht; go_enter Tryz.func30, Tryz.ntmps30
 have hstart : ∃ w3, w3 = ((w.alloc (.cells #[.slice pa n pc] 24)).alloc (.cells #[.int .i64 ka, .string ⟨na.toArray⟩] 26)).alloc (.cells #[.int .i64 kb, .string ⟨nb.toArray⟩] 26) /\ Below w.heap.size w w3 /\ w3.heap[w.heap.size]? = some (.cells #[.slice pa n pc] 24) /\ w3.heap[w.heap.size + 1]? = some (.cells #[.int .i64 ka, .string ⟨na.toArray⟩] 26) /\ w3.heap[w.heap.size + 2]? = some (.cells #[.int .i64 kb, .string ⟨nb.toArray⟩] 26) := by
  have e1 : (w.alloc (.cells #[.slice pa n pc] 24)).heap.size = w.heap.size + 1 := by show (w.heap.push _).size = _; simp
  have e2 : ((w.alloc (.cells #[.slice pa n pc] 24)).alloc (.cells #[.int .i64 ka, .string ⟨na.toArray⟩] 26)).heap.size = w.heap.size + 2 := by show ((w.alloc (.cells #[.slice pa n pc] 24)).heap.push _).size = _; rw [Array.size_push, e1]
  have b1 := (Below.refl w.heap.size w).alloc (Nat.le_refl _) (.cells #[.slice pa n pc] 24); have b2 := (Below.refl (w.alloc (.cells #[.slice pa n pc] 24)).heap.size (w.alloc (.cells #[.slice pa n pc] 24))).alloc (Nat.le_refl _) (.cells #[.int .i64 ka, .string ⟨na.toArray⟩] 26); have b3 := (Below.refl ((w.alloc (.cells #[.slice pa n pc] 24)).alloc (.cells #[.int .i64 ka, .string ⟨na.toArray⟩] 26)).heap.size ((w.alloc (.cells #[.slice pa n pc] 24)).alloc (.cells #[.int .i64 ka, .string ⟨na.toArray⟩] 26))).alloc (Nat.le_refl _) (.cells #[.int .i64 kb, .string ⟨nb.toArray⟩] 26); have x1 := heap_alloc_new w (.cells #[.slice pa n pc] 24); have x2 := heap_alloc_new (w.alloc (.cells #[.slice pa n pc] 24)) (.cells #[.int .i64 ka, .string ⟨na.toArray⟩] 26); have x3 := heap_alloc_new ((w.alloc (.cells #[.slice pa n pc] 24)).alloc (.cells #[.int .i64 ka, .string ⟨na.toArray⟩] 26)) (.cells #[.int .i64 kb, .string ⟨nb.toArray⟩] 26); rw [e1] at x2; rw [e2] at x3; refine ⟨_, rfl, (b1.alloc b1.size _).alloc (b1.alloc b1.size _).size _, ?_, ?_, x3⟩
  · exact (b3.block _ (by rw [e2]; omega)).trans ((b2.block _ (by rw [e1]; omega)).trans x1)
  · exact (b3.block _ (by rw [e2]; omega)).trans x2
 obtain ⟨w3, hw3, hB3, hC3, hA3, hT3⟩ := hstart; have HB3 := hide hB3; have HC3 := hide hC3; have HA3 := hide hA3; have HT3 := hide hT3; clear hB3 hC3 hA3 hT3; by_cases hab : ka = kb /\ na = nb
 · have HF : Hid (r = true) := hide (by rw [HR.out]; unfold Lx.fitsH; exact if_pos (.inl hab))
   obtain ⟨rfl, rfl⟩ := hab; go_wp2_with fail; rw [<- hw3]; clear hw3; go_ret; exact ⟨by rw [HF.out]; rfl, HB3.out⟩
 by_cases ek : ka = kb
 · subst ek
   have en : ¬ na = nb := fun h => hab ⟨rfl, h⟩; have gn : (na == nb) = false := by simpa using en
   by_cases h7 : ka = 7
   · have HF : Hid (r = true) := hide (by rw [HR.out]; unfold Lx.fitsH; exact if_pos (.inr h7))
     have g7 : (ka == 7) = true := by simp [h7]
     clear h7 hab; go_wp2_with fail; rw [<- hw3]; clear hw3; go_ret; exact ⟨by rw [HF.out]; rfl, HB3.out⟩
   have g7 : (ka == 7) = false := by simpa using h7
   by_cases h6 : ka = 6
   · have HF : Hid (r = Lx.refB ka) := hide (by rw [HR.out]; unfold Lx.fitsH; rw [if_neg (fun h => h.elim hab h7), if_pos (.inl h6), h6]; simp [Lx.refB])
     have g6 : (ka == 6) = true := by simp [h6]
     have hk : (ka != 2 && ka != 7) = true := by rw [h6]; rfl
     clear h6 h7 hab; have HK := hide hk; clear hk; go_wp2_with fail; rw [<- hw3]; clear hw3; refine (isRef_any ka _ _).mono ?_; rintro e w5 ⟨rfl, hb5⟩; rw [HK.out]; have c0 := cell_box ((hb5.block _ (Ow.lt_of_blk HT3.out)).trans HT3.out) 0; have c1 := cell_box ((hb5.block _ (Ow.lt_of_blk HT3.out)).trans HT3.out) 1; have HB5 := hide (HB3.out.trans (hb5.mono HB3.out.size)); clear hb5; go_wp2_with fail; refine (isRef_any ka _ _).mono ?_; rintro e w6 ⟨rfl, hb6⟩; have HB6 := hide (HB5.out.trans (hb6.mono HB5.out.size)); go_wp2_with fail; go_ret; exact ⟨by rw [HF.out]; rfl, HB6.out⟩
   have g6 : (ka == 6) = false := by simpa using h6
   have HS := hide (fun wz (hb : Below w3.heap.size w3 wz) => show wz.cell? ⟨w.heap.size + 1 + 1, 0, none⟩ = some (.int .i64 ka) /\ wz.cell? ⟨w.heap.size + 1 + 1, 1, none⟩ = some (.string ⟨nb.toArray⟩) from
    ⟨cell_box ((hb.block _ (Ow.lt_of_blk HT3.out)).trans HT3.out) 0, cell_box ((hb.block _ (Ow.lt_of_blk HT3.out)).trans HT3.out) 1⟩)
   have HBz : Hid (Below w3.heap.size w3 w3.drew) := hide (Below.drew (Below.refl _ _)); by_cases hob : ka = 3 /\ nb = Hr.objN
   · have HF : Hid (r = (Lx.refB ka)) := hide (by rw [HR.out]; unfold Lx.fitsH; rw [if_neg (fun h => h.elim hab h7), if_pos (.inr hob), hob.1]; simp [Lx.refB])
     have HO1 := hide hob.1; have HO2 := hide hob.2; clear hob h6 h7 hab; go_wp2_with fail; rw [<- hw3]; clear hw3; rw [HO1.out, HO2.out] at HS; have HS2 := hide (fun wz (hb : Below w3.heap.size w3 wz) => show wz.cell? ⟨w.heap.size + 1 + 1, 0, none⟩ = some (.int .i64 3) /\ wz.cell? ⟨w.heap.size + 1 + 1, 1, none⟩ = some (.string ⟨#[79, 98, 106, 101, 99, 116]⟩) from HS.out wz hb)
     clear HS
     go_region_held3 (fun wz => wz.cell? ⟨w.heap.size + 1 + 1, 0, none⟩ = some (.int .i64 3) /\ wz.cell? ⟨w.heap.size + 1 + 1, 1, none⟩ = some (.string ⟨#[79, 98, 106, 101, 99, 116]⟩)) (exact HS2.out _ HBz.out)
      (first
        | (go_at_call 44
           with_reducible refine (ref_any _ _).mono ?_
           rintro e w5 ⟨rfl, hb5⟩; have HBz := hide (HBz.out.trans (hb5.mono HBz.out.size))
           clear hb5)
        | fail)
     all_goals
      have HB5 := hide (HB3.out.trans (HBz.out.mono HB3.out.size)); have d0 := cell_box ((HBz.out.block _ (Ow.lt_of_blk HA3.out)).trans HA3.out) 0; have d1 := cell_box ((HBz.out.block _ (Ow.lt_of_blk HA3.out)).trans HA3.out) 1; go_wp2_with fail; refine (isRef_any ka _ _).mono ?_; rintro e w6 ⟨rfl, hb6⟩; have HB6 := hide (HB5.out.trans (hb6.mono HB5.out.size)); have HBy := hide (HBz.out.trans (hb6.mono HBz.out.size)); clear d0 d1 hb6; obtain ⟨rk, hrk⟩ : ∃ y, y = (ka != 2 && ka != 7) := ⟨_, rfl⟩; rw [<- hrk]; have HF2 : Hid (r = rk) := hide (HF.out.trans hrk.symm); clear hrk; cases rk with
      | false =>
        go_wp2_with fail; go_ret; exact ⟨by rw [HF2.out]; rfl, HB6.out⟩
      | true =>
        obtain ⟨c0, c1⟩ := HS2.out w6 HBy.out; go_wp2_with fail; refine (isRef_any 3 _ _).mono ?_; rintro e w7 ⟨rfl, hb7⟩; have HB7 := hide (HB6.out.trans (hb7.mono HB6.out.size)); rw [show ((3 : Int) != 2 && (3 : Int) != 7) = true from rfl]
        clear hb7; go_wp2_with fail; go_ret; exact ⟨by rw [HF2.out]; rfl, HB7.out⟩
   have HF : Hid (r = (ka == 3 && (ka == 3 && Hr.underB cs na nb))) := hide (by rw [HR.out]; unfold Lx.fitsH; rw [if_neg (fun h => h.elim hab h7), if_neg (fun h => h.elim h6 hob)])
   by_cases h3 : ka = 3
   · have ho : ¬ nb = Hr.objN := fun h => hob ⟨h3, h⟩
     have ho2 : ¬ nb = [79, 98, 106, 101, 99, 116] := ho; have go : (nb == [79, 98, 106, 101, 99, 116]) = false := by simpa using ho2
     have H3 := hide h3; have gk3 : (ka == 3) = true := by simp [h3]
     have HFu : Hid (r = Hr.underB cs na nb) := hide (by rw [HF.out, gk3]; rfl)
     clear HF h3 ho ho2 hob h6 h7 hab; go_wp2_with fail; rw [<- hw3]; clear hw3
     go_region_held3 (fun wz => wz.cell? ⟨w.heap.size + 1 + 1, 0, none⟩ = some (.int .i64 ka) /\ wz.cell? ⟨w.heap.size + 1 + 1, 1, none⟩ = some (.string ⟨nb.toArray⟩)) (exact HS.out _ HBz.out)
      (first
        | (go_at_call 44
           with_reducible refine (ref_any _ _).mono ?_
           rintro e w5 ⟨rfl, hb5⟩; have HBz := hide (HBz.out.trans (hb5.mono HBz.out.size))
           clear hb5)
        | fail)
     all_goals
      have HB5 := hide (HB3.out.trans (HBz.out.mono HB3.out.size)); have d0 := cell_box ((HBz.out.block _ (Ow.lt_of_blk HA3.out)).trans HA3.out) 0; have d1 := cell_box ((HBz.out.block _ (Ow.lt_of_blk HA3.out)).trans HA3.out) 1; have p0 := cell_box ((HBz.out.block _ (Ow.lt_of_blk HC3.out)).trans HC3.out) 0; obtain ⟨c0, c1⟩ := HS.out w5 HBz.out; have HF2 : Hid (r = Hr.underB cs na nb) := hide (by rw [HFu.out])
      go_wp2_with fail; refine (HUn.out w5 HB5.out).mono ?_; rintro e w6 ⟨hy, hb6⟩; have HB6 := hide (HB5.out.trans (hb6.mono HB5.out.size)); clear hb6 d0 d1 p0 c0 c1; by_cases hu : Hr.underQ cs na nb
      · have HF3 : Hid (r = true) := hide (by rw [HF2.out]; exact (Hr.underB_iff _ _ _).2 hu)
        have he := hy.t hu; subst he; clear hy hu; go_wp2_with fail; go_ret; exact ⟨by rw [HF3.out]; rfl, HB6.out⟩
      · have HF3 : Hid (r = false) := hide (by
         rw [HF2.out]; cases hz : Hr.underB cs na nb with
         | false => rfl
         | true => exact absurd ((Hr.underB_iff _ _ _).1 hz) hu)
        have he := hy.f hu; subst he; clear hy hu; go_wp2_with fail; go_ret; exact ⟨by rw [HF3.out]; rfl, HB6.out⟩
   · have gk3 : (ka == 3) = false := by simpa using h3
     have HF2 : Hid (r = false) := hide (by rw [HF.out, gk3]; simp)
     clear HF h3 hob h6 h7 hab; go_wp2_with fail; rw [<- hw3]; clear hw3
     go_region_held3 (fun wz => wz.cell? ⟨w.heap.size + 1 + 1, 0, none⟩ = some (.int .i64 ka) /\ wz.cell? ⟨w.heap.size + 1 + 1, 1, none⟩ = some (.string ⟨nb.toArray⟩)) (exact HS.out _ HBz.out)
      (first
        | (go_at_call 44
           with_reducible refine (ref_any _ _).mono ?_
           rintro e w5 ⟨rfl, hb5⟩; have HBz := hide (HBz.out.trans (hb5.mono HBz.out.size))
           clear hb5)
        | fail)
     all_goals
      have HB5 := hide (HB3.out.trans (HBz.out.mono HB3.out.size)); have d0 := cell_box ((HBz.out.block _ (Ow.lt_of_blk HA3.out)).trans HA3.out) 0; have d1 := cell_box ((HBz.out.block _ (Ow.lt_of_blk HA3.out)).trans HA3.out) 1; have p0 := cell_box ((HBz.out.block _ (Ow.lt_of_blk HC3.out)).trans HC3.out) 0; obtain ⟨c0, c1⟩ := HS.out w5 HBz.out; cases ha : (ka == 3) with
      | true =>
        go_wp2_with fail; go_ret; exact ⟨by rw [HF2.out]; rfl, HB5.out⟩
      | false =>
        go_wp2_with fail; go_ret; exact ⟨by rw [HF2.out]; rfl, HB5.out⟩
 · have gk : (ka == kb) = false := by simpa using ek
   by_cases h7 : kb = 7
   · have HF : Hid (r = true) := hide (by rw [HR.out]; unfold Lx.fitsH; exact if_pos (.inr h7))
     have g7 : (kb == 7) = true := by simp [h7]
     clear h7 hab; go_wp2_with fail; rw [<- hw3]; clear hw3; go_ret; exact ⟨by rw [HF.out]; rfl, HB3.out⟩
   have g7 : (kb == 7) = false := by simpa using h7
   by_cases h6 : ka = 6
   · have HF : Hid (r = Lx.refB kb) := hide (by rw [HR.out]; unfold Lx.fitsH; rw [if_neg (fun h => h.elim hab h7), if_pos (.inl h6), h6]; simp [Lx.refB])
     have g6 : (ka == 6) = true := by simp [h6]
     have hk : (ka != 2 && ka != 7) = true := by rw [h6]; rfl
     clear h6 h7 hab; have HK := hide hk; clear hk; go_wp2_with fail; rw [<- hw3]; clear hw3; refine (isRef_any ka _ _).mono ?_; rintro e w5 ⟨rfl, hb5⟩; rw [HK.out]; have c0 := cell_box ((hb5.block _ (Ow.lt_of_blk HT3.out)).trans HT3.out) 0; have c1 := cell_box ((hb5.block _ (Ow.lt_of_blk HT3.out)).trans HT3.out) 1; have HB5 := hide (HB3.out.trans (hb5.mono HB3.out.size)); clear hb5; go_wp2_with fail; refine (isRef_any kb _ _).mono ?_; rintro e w6 ⟨rfl, hb6⟩; have HB6 := hide (HB5.out.trans (hb6.mono HB5.out.size)); go_wp2_with fail; go_ret; exact ⟨by rw [HF.out]; rfl, HB6.out⟩
   have g6 : (ka == 6) = false := by simpa using h6
   have HS := hide (fun wz (hb : Below w3.heap.size w3 wz) => show wz.cell? ⟨w.heap.size + 1 + 1, 0, none⟩ = some (.int .i64 kb) /\ wz.cell? ⟨w.heap.size + 1 + 1, 1, none⟩ = some (.string ⟨nb.toArray⟩) from
    ⟨cell_box ((hb.block _ (Ow.lt_of_blk HT3.out)).trans HT3.out) 0, cell_box ((hb.block _ (Ow.lt_of_blk HT3.out)).trans HT3.out) 1⟩)
   have HBz : Hid (Below w3.heap.size w3 w3.drew) := hide (Below.drew (Below.refl _ _)); by_cases hob : kb = 3 /\ nb = Hr.objN
   · have HF : Hid (r = (Lx.refB ka)) := hide (by rw [HR.out]; unfold Lx.fitsH; rw [if_neg (fun h => h.elim hab h7), if_pos (.inr hob), hob.1]; simp [Lx.refB])
     have HO1 := hide hob.1; have HO2 := hide hob.2; clear hob h6 h7 hab; go_wp2_with fail; rw [<- hw3]; clear hw3; rw [HO1.out, HO2.out] at HS; have HS2 := hide (fun wz (hb : Below w3.heap.size w3 wz) => show wz.cell? ⟨w.heap.size + 1 + 1, 0, none⟩ = some (.int .i64 3) /\ wz.cell? ⟨w.heap.size + 1 + 1, 1, none⟩ = some (.string ⟨#[79, 98, 106, 101, 99, 116]⟩) from HS.out wz hb)
     clear HS
     go_region_held3 (fun wz => wz.cell? ⟨w.heap.size + 1 + 1, 0, none⟩ = some (.int .i64 3) /\ wz.cell? ⟨w.heap.size + 1 + 1, 1, none⟩ = some (.string ⟨#[79, 98, 106, 101, 99, 116]⟩)) (exact HS2.out _ HBz.out)
      (first
        | (go_at_call 44
           with_reducible refine (ref_any _ _).mono ?_
           rintro e w5 ⟨rfl, hb5⟩; have HBz := hide (HBz.out.trans (hb5.mono HBz.out.size))
           clear hb5)
        | fail)
     all_goals
      have HB5 := hide (HB3.out.trans (HBz.out.mono HB3.out.size)); have d0 := cell_box ((HBz.out.block _ (Ow.lt_of_blk HA3.out)).trans HA3.out) 0; have d1 := cell_box ((HBz.out.block _ (Ow.lt_of_blk HA3.out)).trans HA3.out) 1; go_wp2_with fail; refine (isRef_any ka _ _).mono ?_; rintro e w6 ⟨rfl, hb6⟩; have HB6 := hide (HB5.out.trans (hb6.mono HB5.out.size)); have HBy := hide (HBz.out.trans (hb6.mono HBz.out.size)); clear d0 d1 hb6; obtain ⟨rk, hrk⟩ : ∃ y, y = (ka != 2 && ka != 7) := ⟨_, rfl⟩; rw [<- hrk]; have HF2 : Hid (r = rk) := hide (HF.out.trans hrk.symm); clear hrk; cases rk with
      | false =>
        go_wp2_with fail; go_ret; exact ⟨by rw [HF2.out]; rfl, HB6.out⟩
      | true =>
        obtain ⟨c0, c1⟩ := HS2.out w6 HBy.out; go_wp2_with fail; refine (isRef_any 3 _ _).mono ?_; rintro e w7 ⟨rfl, hb7⟩; have HB7 := hide (HB6.out.trans (hb7.mono HB6.out.size)); rw [show ((3 : Int) != 2 && (3 : Int) != 7) = true from rfl]
        clear hb7; go_wp2_with fail; go_ret; exact ⟨by rw [HF2.out]; rfl, HB7.out⟩
   have HF : Hid (r = (ka == 3 && (kb == 3 && Hr.underB cs na nb))) := hide (by rw [HR.out]; unfold Lx.fitsH; rw [if_neg (fun h => h.elim hab h7), if_neg (fun h => h.elim h6 hob)])
   by_cases h3 : kb = 3
   · have ho : ¬ nb = Hr.objN := fun h => hob ⟨h3, h⟩
     have ho2 : ¬ nb = [79, 98, 106, 101, 99, 116] := ho; have go : (nb == [79, 98, 106, 101, 99, 116]) = false := by simpa using ho2
     have H3 := hide h3; have gk3 : (kb == 3) = true := by simp [h3]
     have HFu : Hid (r = (ka == 3 && Hr.underB cs na nb)) := hide (by rw [HF.out, gk3]; rfl)
     clear HF h3 ho ho2 hob h6 h7 hab; go_wp2_with fail; rw [<- hw3]; clear hw3
     go_region_held3 (fun wz => wz.cell? ⟨w.heap.size + 1 + 1, 0, none⟩ = some (.int .i64 kb) /\ wz.cell? ⟨w.heap.size + 1 + 1, 1, none⟩ = some (.string ⟨nb.toArray⟩)) (exact HS.out _ HBz.out)
      (first
        | (go_at_call 44
           with_reducible refine (ref_any _ _).mono ?_
           rintro e w5 ⟨rfl, hb5⟩; have HBz := hide (HBz.out.trans (hb5.mono HBz.out.size))
           clear hb5)
        | fail)
     all_goals
      have HB5 := hide (HB3.out.trans (HBz.out.mono HB3.out.size)); have d0 := cell_box ((HBz.out.block _ (Ow.lt_of_blk HA3.out)).trans HA3.out) 0; have d1 := cell_box ((HBz.out.block _ (Ow.lt_of_blk HA3.out)).trans HA3.out) 1; have p0 := cell_box ((HBz.out.block _ (Ow.lt_of_blk HC3.out)).trans HC3.out) 0; obtain ⟨c0, c1⟩ := HS.out w5 HBz.out; cases ha : (ka == 3) with
      | true =>
        have HF2 : Hid (r = Hr.underB cs na nb) := hide (by rw [HFu.out, ha]; rfl)
        go_wp2_with fail; refine (HUn.out w5 HB5.out).mono ?_; rintro e w6 ⟨hy, hb6⟩; have HB6 := hide (HB5.out.trans (hb6.mono HB5.out.size)); clear hb6 d0 d1 p0 c0 c1; by_cases hu : Hr.underQ cs na nb
        · have HF3 : Hid (r = true) := hide (by rw [HF2.out]; exact (Hr.underB_iff _ _ _).2 hu)
          have he := hy.t hu; subst he; clear hy hu; go_wp2_with fail; go_ret; exact ⟨by rw [HF3.out]; rfl, HB6.out⟩
        · have HF3 : Hid (r = false) := hide (by
           rw [HF2.out]; cases hz : Hr.underB cs na nb with
           | false => rfl
           | true => exact absurd ((Hr.underB_iff _ _ _).1 hz) hu)
          have he := hy.f hu; subst he; clear hy hu; go_wp2_with fail; go_ret; exact ⟨by rw [HF3.out]; rfl, HB6.out⟩
      | false =>
        have HF2 : Hid (r = false) := hide (by rw [HFu.out, ha]; rfl)
        go_wp2_with fail; go_ret; exact ⟨by rw [HF2.out]; rfl, HB5.out⟩
   · have gk3 : (kb == 3) = false := by simpa using h3
     have HF2 : Hid (r = false) := hide (by rw [HF.out, gk3]; simp)
     clear HF h3 hob h6 h7 hab; go_wp2_with fail; rw [<- hw3]; clear hw3
     go_region_held3 (fun wz => wz.cell? ⟨w.heap.size + 1 + 1, 0, none⟩ = some (.int .i64 kb) /\ wz.cell? ⟨w.heap.size + 1 + 1, 1, none⟩ = some (.string ⟨nb.toArray⟩)) (exact HS.out _ HBz.out)
      (first
        | (go_at_call 44
           with_reducible refine (ref_any _ _).mono ?_
           rintro e w5 ⟨rfl, hb5⟩; have HBz := hide (HBz.out.trans (hb5.mono HBz.out.size))
           clear hb5)
        | fail)
     all_goals
      have HB5 := hide (HB3.out.trans (HBz.out.mono HB3.out.size)); have d0 := cell_box ((HBz.out.block _ (Ow.lt_of_blk HA3.out)).trans HA3.out) 0; have d1 := cell_box ((HBz.out.block _ (Ow.lt_of_blk HA3.out)).trans HA3.out) 1; have p0 := cell_box ((HBz.out.block _ (Ow.lt_of_blk HC3.out)).trans HC3.out) 0; obtain ⟨c0, c1⟩ := HS.out w5 HBz.out; cases ha : (ka == 3) with
      | true =>
        go_wp2_with fail; go_ret; exact ⟨by rw [HF2.out]; rfl, HB5.out⟩
      | false =>
        go_wp2_with fail; go_ret; exact ⟨by rw [HF2.out]; rfl, HB5.out⟩
namespace Lx
open Pp Hr
def fitsV (cs : List XCls) (ka kb : Int) (na nb : Bs) : Bool :=
 if kb = 7 then true else if ka = 6 then refK kb else if kb = 3 /\ ka = 3 then underB cs na nb else if kb = 3 /\ nb = objN then ka == 4 || ka == 5 else decide (ka = kb /\ na = nb) && ka != 7
def fitsP (cs : List XCls) (ka kb : Int) (na nb : Bs) : Bool := rightL (allL cs) ka na && (rightL (allL cs) kb nb && fitsV cs ka kb na nb)
end Lx
theorem RFits_any (cs : List Pp.XCls) (v : Value) (ka kb : Int) (na nb : Pp.Bs) (w : World) (h : ProgX w v cs) (hl : Pp.Light cs) (he : Hr.errL cs = 0) (hn : na.length <= maxLen) :
 Calls Tryz.prog 16 #[.agg #[v], .agg #[.int .i64 ka, .string ⟨na.toArray⟩], .agg #[.int .i64 kb, .string ⟨nb.toArray⟩]] w fun e w' => e = .returned (.bool (Lx.fitsP cs ka kb na nb)) /\ Below w.heap.size w w' := by
 have HUn := hide (fun wx (hb : Below w.heap.size w wx) => RUnder_any cs v na nb wx (h.on hb) hl he (Hr.light_ifs hl) (Hr.light_len hl) hn); have HRa : Hid (∀ wx, Below w.heap.size w wx -> Calls Tryz.prog 15 #[.agg #[v], .agg #[.int .i64 ka, .string ⟨na.toArray⟩]] wx fun e w' => e = .returned (.bool (Lx.rightL (Hr.allL cs) ka na)) /\ Below wx.heap.size wx w') := hide fun wx hb => RRight_any cs v ⟨ka, na⟩ wx (h.on hb) hl; have HRb : Hid (∀ wx, Below w.heap.size w wx -> Calls Tryz.prog 15 #[.agg #[v], .agg #[.int .i64 kb, .string ⟨nb.toArray⟩]] wx fun e w' => e = .returned (.bool (Lx.rightL (Hr.allL cs) kb nb)) /\ Below wx.heap.size wx w') := hide fun wx hb => RRight_any cs v ⟨kb, nb⟩ wx (h.on hb) hl; obtain ⟨pa, pc, rfl, _⟩ := h.1.len; generalize cs.length = n at *
 obtain ⟨r, hr⟩ : ∃ r, r = Lx.fitsP cs ka kb na nb := ⟨_, rfl⟩; have HR := hide hr; rw [<- hr]; clear hr h hl he hn; go_enter Tryz.func16, Tryz.ntmps16
 have hstart : ∃ w3, w3 = ((w.alloc (.cells #[.slice pa n pc] 24)).alloc (.cells #[.int .i64 ka, .string ⟨na.toArray⟩] 26)).alloc (.cells #[.int .i64 kb, .string ⟨nb.toArray⟩] 26) /\ Below w.heap.size w w3 /\ w3.heap[w.heap.size]? = some (.cells #[.slice pa n pc] 24) /\ w3.heap[w.heap.size + 1]? = some (.cells #[.int .i64 ka, .string ⟨na.toArray⟩] 26) /\ w3.heap[w.heap.size + 2]? = some (.cells #[.int .i64 kb, .string ⟨nb.toArray⟩] 26) := by
  have e1 : (w.alloc (.cells #[.slice pa n pc] 24)).heap.size = w.heap.size + 1 := by show (w.heap.push _).size = _; simp
  have e2 : ((w.alloc (.cells #[.slice pa n pc] 24)).alloc (.cells #[.int .i64 ka, .string ⟨na.toArray⟩] 26)).heap.size = w.heap.size + 2 := by show ((w.alloc (.cells #[.slice pa n pc] 24)).heap.push _).size = _; rw [Array.size_push, e1]
  have b1 := (Below.refl w.heap.size w).alloc (Nat.le_refl _) (.cells #[.slice pa n pc] 24); have b2 := (Below.refl (w.alloc (.cells #[.slice pa n pc] 24)).heap.size (w.alloc (.cells #[.slice pa n pc] 24))).alloc (Nat.le_refl _) (.cells #[.int .i64 ka, .string ⟨na.toArray⟩] 26); have b3 := (Below.refl ((w.alloc (.cells #[.slice pa n pc] 24)).alloc (.cells #[.int .i64 ka, .string ⟨na.toArray⟩] 26)).heap.size ((w.alloc (.cells #[.slice pa n pc] 24)).alloc (.cells #[.int .i64 ka, .string ⟨na.toArray⟩] 26))).alloc (Nat.le_refl _) (.cells #[.int .i64 kb, .string ⟨nb.toArray⟩] 26); have x1 := heap_alloc_new w (.cells #[.slice pa n pc] 24); have x2 := heap_alloc_new (w.alloc (.cells #[.slice pa n pc] 24)) (.cells #[.int .i64 ka, .string ⟨na.toArray⟩] 26); have x3 := heap_alloc_new ((w.alloc (.cells #[.slice pa n pc] 24)).alloc (.cells #[.int .i64 ka, .string ⟨na.toArray⟩] 26)) (.cells #[.int .i64 kb, .string ⟨nb.toArray⟩] 26); rw [e1] at x2; rw [e2] at x3; refine ⟨_, rfl, (b1.alloc b1.size _).alloc (b1.alloc b1.size _).size _, ?_, ?_, x3⟩
  · exact (b3.block _ (by rw [e2]; omega)).trans ((b2.block _ (by rw [e1]; omega)).trans x1)
  · exact (b3.block _ (by rw [e2]; omega)).trans x2
 obtain ⟨w3, hw3, hB3, hC3, hA3, hT3⟩ := hstart; have HB3 := hide hB3; have HC3 := hide hC3; have HA3 := hide hA3; have HT3 := hide hT3; clear hB3 hC3 hA3 hT3; go_wp2_with fail; rw [<- hw3]; clear hw3; refine (HRa.out w3 HB3.out).mono ?_; rintro e w4 ⟨rfl, hb4⟩; have HB4 := hide (HB3.out.trans (hb4.mono HB3.out.size)); have HBx := hide hb4; clear hb4; cases hra : Lx.rightL (Hr.allL cs) ka na with
 | false =>
   have HF : Hid (r = false) := hide (by rw [HR.out]; unfold Lx.fitsP; rw [hra]; rfl)
   clear hra; go_wp2_with fail; go_ret; exact ⟨by rw [HF.out]; rfl, HB4.out⟩
 | true =>
 have p0 := cell_box ((HBx.out.block _ (Ow.lt_of_blk HC3.out)).trans HC3.out) 0; have b0 := cell_box ((HBx.out.block _ (Ow.lt_of_blk HT3.out)).trans HT3.out) 0; have b1 := cell_box ((HBx.out.block _ (Ow.lt_of_blk HT3.out)).trans HT3.out) 1; have HRA := hide hra; clear hra; go_wp2_with fail; refine (HRb.out w4 HB4.out).mono ?_; rintro e w5 ⟨rfl, hb5⟩; have HB5 := hide (HB4.out.trans (hb5.mono HB4.out.size)); have HBz := hide (HBx.out.trans (hb5.mono HBx.out.size)); clear hb5 p0 b0 b1; cases hrb : Lx.rightL (Hr.allL cs) kb nb with
 | false =>
   have HF : Hid (r = false) := hide (by rw [HR.out]; unfold Lx.fitsP; rw [HRA.out, hrb]; rfl)
   clear hrb; go_wp2_with fail; go_ret; exact ⟨by rw [HF.out]; rfl, HB5.out⟩
 | true =>
 have HV : Hid (r = Lx.fitsV cs ka kb na nb) := hide (by rw [HR.out]; unfold Lx.fitsP; rw [HRA.out, hrb]; rfl)
 clear hrb HRa HRb HR HRA; have p0 := cell_box ((HBz.out.block _ (Ow.lt_of_blk HC3.out)).trans HC3.out) 0; have b0 := cell_box ((HBz.out.block _ (Ow.lt_of_blk HT3.out)).trans HT3.out) 0; have b1 := cell_box ((HBz.out.block _ (Ow.lt_of_blk HT3.out)).trans HT3.out) 1; have a0 := cell_box ((HBz.out.block _ (Ow.lt_of_blk HA3.out)).trans HA3.out) 0; have a1 := cell_box ((HBz.out.block _ (Ow.lt_of_blk HA3.out)).trans HA3.out) 1; clear HBx; by_cases h7 : kb = 7
 · have HF : Hid (r = true) := hide (by rw [HV.out]; unfold Lx.fitsV; exact if_pos h7)
   have g7 : (kb == 7) = true := by simp [h7]
   clear h7; go_wp2_with fail; go_ret; exact ⟨by rw [HF.out]; rfl, HB5.out⟩
 have g7 : (kb == 7) = false := by simpa using h7
 by_cases h6 : ka = 6
 · have HF : Hid (r = Lx.refK kb) := hide (by rw [HV.out]; unfold Lx.fitsV; rw [if_neg h7, if_pos h6])
   have g6 : (ka == 6) = true := by simp [h6]
   clear h6 h7; go_wp2_with fail; refine (refType_any kb _ _).mono ?_; rintro e w6 ⟨rfl, hb6⟩; have HB6 := hide (HB5.out.trans (hb6.mono HB5.out.size)); clear hb6; go_wp2_with fail; go_ret; exact ⟨by rw [HF.out]; rfl, HB6.out⟩
 have g6 : (ka == 6) = false := by simpa using h6
 by_cases h33 : kb = 3 /\ ka = 3
 · have HF : Hid (r = Hr.underB cs na nb) := hide (by rw [HV.out]; unfold Lx.fitsV; rw [if_neg h7, if_neg h6, if_pos h33])
   have gb3 : (kb == 3) = true := by simp [h33.1]
   have ga3 : (ka == 3) = true := by simp [h33.2]
   clear h33 h6 h7; go_wp2_with fail; refine (HUn.out w5 HB5.out).mono ?_; rintro e w6 ⟨rfl, hb6⟩; have HB6 := hide (HB5.out.trans (hb6.mono HB5.out.size)); clear hb6; go_wp2_with fail; go_ret; exact ⟨by rw [HF.out]; rfl, HB6.out⟩
 by_cases hob : kb = 3 /\ nb = Hr.objN
 · have HF : Hid (r = (ka == 4 || ka == 5)) := hide (by rw [HV.out]; unfold Lx.fitsV; rw [if_neg h7, if_neg h6, if_neg h33, if_pos hob])
   have ga3 : (ka == 3) = false := by
    have : ¬ ka = 3 := fun h => h33 ⟨hob.1, h⟩
    simpa using this
   have gb3 : (kb == 3) = true := by simp [hob.1]
   have HO2 := hide hob.2; rw [show (nb.toArray) = #[79, 98, 106, 101, 99, 116] from by rw [HO2.out]; rfl] at b1
   clear hob h33 h6 h7; cases h4 : (ka == 4) with
   | true =>
     have HF2 : Hid (r = true) := hide (by rw [HF.out, h4]; rfl)
     go_wp2_with fail; go_ret; exact ⟨by rw [HF2.out]; rfl, HB5.out⟩
   | false =>
     cases h5 : (ka == 5) with
     | true =>
       have HF2 : Hid (r = true) := hide (by rw [HF.out, h4, h5]; rfl)
       go_wp2_with fail; go_ret; exact ⟨by rw [HF2.out]; rfl, HB5.out⟩
     | false =>
       have HF2 : Hid (r = false) := hide (by rw [HF.out, h4, h5]; rfl)
       go_wp2_with fail; go_ret; exact ⟨by rw [HF2.out]; rfl, HB5.out⟩
 have HF : Hid (r = (decide (ka = kb /\ na = nb) && ka != 7)) := hide (by rw [HV.out]; unfold Lx.fitsV; rw [if_neg h7, if_neg h6, if_neg h33, if_neg hob])
 by_cases hab : ka = kb /\ na = nb
 · obtain ⟨rfl, rfl⟩ := hab
   have HF2 : Hid (r = true) := hide (by rw [HF.out]; simp [h7])
   have f7 : (ka != 7) = true := by simpa using h7
   have ga3 : (ka == 3) = false := by
    have : ¬ ka = 3 := fun h => h33 ⟨h, h⟩
    simpa using this
   clear h7 h6 h33 hob HF HV; go_wp2_with fail; go_ret; exact ⟨by rw [HF2.out]; rfl, HB5.out⟩
 have HF2 : Hid (r = false) := hide (by rw [HF.out]; simp [hab])
 clear HF HV; by_cases ek : ka = kb
 · subst ek
   have ga3 : (ka == 3) = false := by
    have : ¬ ka = 3 := fun h => h33 ⟨h, h⟩
    simpa using this
   have en : ¬ na = nb := fun h => hab ⟨rfl, h⟩; have gn : (na == nb) = false := by simpa using en
   clear h7 h6 h33 hob hab en; go_wp2_with fail; go_ret; exact ⟨by rw [HF2.out]; rfl, HB5.out⟩
 have gk : (ka == kb) = false := by simpa using ek
 by_cases hb3 : kb = 3
 · have gb3 : (kb == 3) = true := by simp [hb3]
   have ga3 : (ka == 3) = false := by
    have : ¬ ka = 3 := fun h => h33 ⟨hb3, h⟩
    simpa using this
   have ho2 : ¬ nb = [79, 98, 106, 101, 99, 116] := fun h => hob ⟨hb3, h⟩; have go : (nb == [79, 98, 106, 101, 99, 116]) = false := by simpa using ho2
   clear h7 h6 h33 hob hab ek hb3 ho2; go_wp2_with fail; go_ret; exact ⟨by rw [HF2.out]; rfl, HB5.out⟩
 have gb3 : (kb == 3) = false := by simpa using hb3
 clear h7 h6 h33 hob hab ek hb3; go_wp2_with fail; go_ret; exact ⟨by rw [HF2.out]; rfl, HB5.out⟩
namespace Lx
open Pp Hr
theorem right_ref {l : List XCls} {k : Int} {n : Bs} (h : rightL l k n = true) (h3 : k = 3) : ∃ q, placeL l n = some q := by
 subst h3; unfold rightL at h; rw [if_neg (by decide), if_pos (by decide)] at h
 exact Option.isSome_iff_exists.1 h
theorem right_kind {l : List XCls} {k : Int} {n : Bs} (h : rightL l k n = true) : k = 2 \/ k = 3 \/ k = 4 \/ k = 5 \/ k = 6 \/ k = 7 := by
 unfold rightL at h
 split at h
 · rename_i h1
   unfold plainK at h1; simp at h1; omega
 · split at h
   · rename_i h1
     simp at h1; omega
   · cases h
theorem fits_eq {cs : List XCls} (he : errL cs = 0) {ka kb : Int} {na nb : Bs} (ha : rightL (allL cs) ka na = true) (hb : rightL (allL cs) kb nb = true) : fitsV cs ka kb na nb = fitsH cs ka kb na nb := by
 have h1 := right_kind ha; have h2 := right_kind hb; unfold fitsV fitsH; by_cases h7 : kb = 7
 · rw [if_pos h7, if_pos (.inr h7)]
 rw [if_neg h7]; by_cases h6 : ka = 6
 · rw [if_pos h6]
   by_cases hab : ka = kb /\ na = nb
   · rw [if_pos (.inl hab), <- hab.1, h6]; rfl
   · rw [if_neg (fun h => h.elim hab h7), if_pos (.inl h6), h6]
     rcases h2 with h | h | h | h | h | h <;> subst h <;> first | rfl | exact absurd rfl h7
 rw [if_neg h6]; by_cases h33 : kb = 3 /\ ka = 3
 · rw [if_pos h33]
   obtain ⟨i, hi⟩ := right_ref ha h33.2; obtain ⟨j, hj⟩ := right_ref hb h33.1; by_cases hab : ka = kb /\ na = nb
   · rw [if_pos (.inl hab)]
     exact (under_reach he hi hj).2 (.inr (hab.2 ▸ .refl _))
   · rw [if_neg (fun h => h.elim hab h7)]
     by_cases ho : nb = objN
     · rw [if_pos (.inr ⟨h33.1, ho⟩), h33.1, h33.2]
       exact (under_reach he hi hj).2 (.inl ho)
     · rw [if_neg (fun h => h.elim h6 fun h => ho h.2), h33.1, h33.2]
       rfl
 rw [if_neg h33]; by_cases hob : kb = 3 /\ nb = objN
 · have hn : ¬ (ka = kb /\ na = nb) := fun h => h33 ⟨hob.1, h.1.trans hob.1⟩
   rw [if_pos hob, if_neg (fun h => h.elim hn h7), if_pos (.inr hob), hob.1]
   rcases h1 with h | h | h | h | h | h <;> subst h <;> first | rfl | exact absurd rfl h6 | exact absurd ⟨hob.1, rfl⟩ h33
 rw [if_neg hob]; by_cases hab : ka = kb /\ na = nb
 · rw [if_pos (.inl hab)]
   have h8 : ¬ ka = 7 := fun h => h7 (hab.1 ▸ h); simp [hab, h7]
 · rw [if_neg (fun h => h.elim hab h7), if_neg (fun h => h.elim h6 hob)]
   have h9 : (ka == 3 && (kb == 3 && underB cs na nb)) = false := by
    cases hz : (ka == 3) with
    | false => rfl
    | true =>
      cases hy : (kb == 3) with
      | false => rfl
      | true => exact absurd ⟨by simpa using hy, by simpa using hz⟩ h33
   rw [h9]; simp [hab]
end Lx
namespace Lx
open Pp Hr
theorem place_hd (l : List XCls) (n : Bs) : placeL (l.map hd) n = placeL l n := by
 induction l with
 | nil => rfl
 | cons c l ih => rw [List.map_cons]; unfold placeL; rw [ih]; rfl
theorem at_hd (l : List XCls) (k : Nat) : (l.map hd)[k]? = (l[k]?).map hd := by rw [List.getElem?_map]
theorem up_hd (l : List XCls) (b : Bool) (n : Bs) : upL (l.map hd) b n = upL l b n := by
 unfold upL; rw [place_hd]; cases placeL l n with
 | none => rfl
 | some k =>
   simp only [at_hd]; cases l[k]? with
   | none => rfl
   | some c => rfl
theorem super_hd (c : XCls) : superL (hd c) = superL c := rfl
theorem sup_hd (l : List XCls) (c : XCls) : supL (l.map hd) (hd c) = supL l c := by
 unfold supL; rw [super_hd]; cases superL c with
 | none => rfl
 | some n => simp only [up_hd]
theorem ifs_hd (l : List XCls) (ns : List Bs) : ifsL (l.map hd) ns = ifsL l ns := by
 induction ns with
 | nil => rfl
 | cons n ns ih => unfold ifsL; rw [up_hd, ih]
theorem ups_hd (l : List XCls) (c : XCls) : upsL (l.map hd) (hd c) = upsL l c := by
 unfold upsL; rw [sup_hd]; have : (hd c).ifaces = c.ifaces := rfl; rw [this]; cases supL l c with
 | none => rfl
 | some a => simp only [ifs_hd]
theorem grow_hd (l m : List XCls) : growL (l.map hd) (m.map hd) = growL l m := by
 induction m with
 | nil => rfl
 | cons c m ih => rw [List.map_cons]; unfold growL; rw [ups_hd, ih]
theorem all_hd (cs : List XCls) : allL (cs.map hd) = (allL cs).map hd := by
 unfold allL; rw [List.map_append]
 rfl
theorem one_hd (l : List XCls) : oneB (l.map hd) = oneB l := by
 unfold oneB; rw [List.length_map]; apply congrArg (fun f => (List.range l.length).all f)
 funext j
 rw [at_hd]; cases l[j]? with
 | none => rfl
 | some c => show (placeL (l.map hd) (hd c).name == some j) = _; rw [place_hd]; rfl
theorem cls_hd {c : XCls} (h : clsB c = true) : clsB (hd c) = true := by
 unfold clsB at h ⊢; simp only [Bool.and_eq_true] at h ⊢; exact ⟨h.1, h.2.1, h.2.2.1, rfl, rfl⟩
theorem prog_hd {cs : List XCls} (h : progB cs = true) : progB (cs.map hd) = true := by
 unfold progB at h ⊢; rw [eachB_iff] at h ⊢; rw [List.length_map]; refine ⟨h.1, fun x hx => ?_⟩; obtain ⟨c, hc, rfl⟩ := List.mem_map.1 hx; exact cls_hd (h.2 c hc)
theorem err_hd {cs : List XCls} (h : errL cs = 0) : errL (cs.map hd) = 0 := by
 unfold errL at h ⊢; rw [all_hd, grow_hd, one_hd]
 split at h
 · rename_i hp
   rw [if_pos (prog_hd hp)]; exact h
 · cases h
theorem look_hd {cs : List XCls} (h : errL cs = 0) (n : Bs) : Hr.lookL (cs.map hd) n = Hr.lookL cs n := by
 rw [lookL_yes (err_hd h), lookL_yes h, all_hd, place_hd]
theorem superQ_hd {cs : List XCls} (h : errL cs = 0) (n : Bs) : superQ (cs.map hd) n = superQ cs n := by
 unfold superQ; rw [look_hd h]; cases Hr.lookL cs n with
 | none => rfl
 | some k =>
   simp only [all_hd, at_hd]; cases (allL cs)[k]? with
   | none => rfl
   | some c => rfl
theorem underQ_hd {cs : List XCls} (h : errL cs = 0) (a b : Bs) : underQ (cs.map hd) a b ↔ underQ cs a b := by
 unfold underQ; rw [all_hd, grow_hd, place_hd, place_hd]; simp only [err_hd h, h]
theorem underB_hd {cs : List XCls} (h : errL cs = 0) (a b : Bs) : underB (cs.map hd) a b = underB cs a b := by
 rw [Bool.eq_iff_iff, underB_iff, underB_iff]; exact underQ_hd h a b
theorem rightH_hd {cs : List XCls} (h : errL cs = 0) (k : Int) (n : Bs) : rightH (cs.map hd) k n = rightL (allL cs) k n := by
 rw [rightH_eq (err_hd h)]; unfold rightL; rw [all_hd, place_hd]
theorem fitsH_hd {cs : List XCls} (h : errL cs = 0) (ka kb : Int) (na nb : Bs) : fitsH (cs.map hd) ka kb na nb = fitsH cs ka kb na nb := by
 unfold fitsH; simp only [underB_hd h]
theorem light_hd {cs : List XCls} (h : Light cs) : Light (cs.map hd) := by
 refine ⟨by rw [List.length_map]; exact h.1, fun x hx => ?_⟩
 obtain ⟨c, hc, rfl⟩ := List.mem_map.1 hx; have := h.2 c hc; exact ⟨⟨Nat.zero_le _, Nat.zero_le _, this.1.2.2⟩, (by intro f hf; cases hf), this.2.2.1, (by intro m hm; cases hm)⟩
end Lx
namespace Lx
open Pp Hr
def climbN (cs : List XCls) (b : Bs) : Nat -> Bs -> Bs
 | 0, _ => objN
 | f + 1, a => if underB cs b a = true then a else match superQ cs a with
   | none => objN
   | some s => climbN cs b f s
def chainN (cs : List XCls) : Nat -> Bs -> Nat
 | 0, _ => 0
 | f + 1, a => match superQ cs a with
   | none => 0
   | some s => chainN cs f s + 1
def tallN (cs : List XCls) (a : Bs) : Nat := chainN cs (allL cs).length a
def meetN (cs : List XCls) (a b : Bs) : Bs := if underB cs a b = true then b else climbN cs b (allL cs).length a
def Known (cs : List XCls) (a : Bs) : Prop := ∃ (p : Nat) (c : XCls), (allL cs)[p]? = some c /\ c.name = a
theorem known_place {cs : List XCls} {a : Bs} {k : Nat} (h : placeL (allL cs) a = some k) : Known cs a := by
 obtain ⟨c, h1, h2, _⟩ := placeL_lt h; exact ⟨k, c, h1, h2⟩
theorem known_super {cs : List XCls} (he : errL cs = 0) {a s : Bs} (h : Known cs a) (hs : superQ cs a = some s) : Known cs s := by
 obtain ⟨p, c, hc, rfl⟩ := h; obtain ⟨_, ho, up, hg, hr⟩ := err_zero he; rw [superQ_at he hc] at hs; obtain ⟨q, d, h1, _⟩ := super_step hg hc hs; exact known_place h1
theorem stab_at {cs : List XCls} {up : List (List Nat)} (he : errL cs = 0) (hg : growL (allL cs) (allL cs) = some up) (hr : ¬ Ring up) (b : Bs) (p0 : Nat) :
 ∀ (f p : Nat) (vs : List Nat) (c : XCls), (allL cs)[p]? = some c -> Climb cs up p0 p vs -> (allL cs).length <= f + vs.length -> climbN cs b (f + 1) c.name = climbN cs b f c.name /\ chainN cs (f + 1) c.name = chainN cs f c.name
 | 0, p, vs, c, hc, hC, hl => by have := hC.few; omega
 | f + 1, p, vs, c, hc, hC, hl => by
   have hsq := superQ_at he hc; cases hs : superL c with
   | none =>
     rw [hs] at hsq; constructor
     · unfold climbN; rw [hsq]
     · unfold chainN; rw [hsq]
   | some s =>
     rw [hs] at hsq; obtain ⟨q, d, h1, h2, rfl, h4, h5, h6⟩ := super_step hg hc hs; obtain ⟨e1, e2⟩ := stab_at he hg hr b p0 f q (p :: vs) d h2 (hC.step hr h5 h6) (by rw [List.length_cons]; omega)
     constructor
     · rw [show climbN cs b (f + 1 + 1) c.name = if underB cs b c.name = true then c.name else match superQ cs c.name with | none => objN | some s => climbN cs b (f + 1) s from rfl,
        show climbN cs b (f + 1) c.name = if underB cs b c.name = true then c.name else match superQ cs c.name with | none => objN | some s => climbN cs b f s from rfl, hsq]
       simp only [e1]
     · rw [show chainN cs (f + 1 + 1) c.name = match superQ cs c.name with | none => 0 | some s => chainN cs (f + 1) s + 1 from rfl,
        show chainN cs (f + 1) c.name = match superQ cs c.name with | none => 0 | some s => chainN cs f s + 1 from rfl, hsq]
       simp only [e2]
theorem stab {cs : List XCls} (he : errL cs = 0) {a : Bs} (h : Known cs a) (b : Bs) : climbN cs b ((allL cs).length + 1) a = climbN cs b (allL cs).length a /\ chainN cs ((allL cs).length + 1) a = chainN cs (allL cs).length a := by
 obtain ⟨p, c, hc, rfl⟩ := h; obtain ⟨_, ho, up, hg, hr⟩ := err_zero he
 have hp : p < (allL cs).length := by
  rcases Nat.lt_or_ge p (allL cs).length with h | h
  · exact h
  · rw [List.getElem?_eq_none h] at hc; cases hc
 exact stab_at he hg hr b p _ p [] c hc (Climb.start hp) (by simp)
theorem tall_step {cs : List XCls} (he : errL cs = 0) {a s : Bs} (h : Known cs a) (hs : superQ cs a = some s) : tallN cs s < tallN cs a := by
 have h1 := (stab he h []).2; rw [show chainN cs ((allL cs).length + 1) a = match superQ cs a with | none => 0 | some s => chainN cs (allL cs).length s + 1 from rfl, hs] at h1
 simp only at h1; unfold tallN; omega
theorem climb_step {cs : List XCls} (he : errL cs = 0) {a s : Bs} (h : Known cs a) (b : Bs) (hn : ¬ underB cs b a = true) (hs : superQ cs a = some s) : climbN cs b (allL cs).length a = climbN cs b (allL cs).length s := by
 rw [<- (stab he h b).1, show climbN cs b ((allL cs).length + 1) a = if underB cs b a = true then a else match superQ cs a with | none => objN | some s => climbN cs b (allL cs).length s from rfl, if_neg hn, hs]
theorem climb_end {cs : List XCls} (he : errL cs = 0) {a : Bs} (h : Known cs a) (b : Bs) (hn : ¬ underB cs b a = true) (hs : superQ cs a = none) : climbN cs b (allL cs).length a = objN := by
 rw [<- (stab he h b).1, show climbN cs b ((allL cs).length + 1) a = if underB cs b a = true then a else match superQ cs a with | none => objN | some s => climbN cs b (allL cs).length s from rfl, if_neg hn, hs]
theorem climb_here {cs : List XCls} (he : errL cs = 0) {a : Bs} (h : Known cs a) (b : Bs) (hy : underB cs b a = true) : climbN cs b (allL cs).length a = a := by
 rw [<- (stab he h b).1, show climbN cs b ((allL cs).length + 1) a = if underB cs b a = true then a else match superQ cs a with | none => objN | some s => climbN cs b (allL cs).length s from rfl, if_pos hy]
theorem meetN_known {cs : List XCls} (he : errL cs = 0) {a b : Bs} (ha : Known cs a) (hb : Known cs b) : Known cs (meetN cs a b) := by
 have hk : ∀ (f : Nat) (a : Bs), Known cs a -> Known cs (climbN cs b f a) := by
  intro f
  induction f with
  | zero => intro a _; exact ⟨0, plain objN [], rfl, rfl⟩
  | succ f ih =>
    intro a h; unfold climbN
    split
    · exact h
    · cases hs : superQ cs a with
      | none => exact ⟨0, plain objN [], rfl, rfl⟩
      | some s => exact ih s (known_super he h hs)
 unfold meetN
 split
 · exact hb
 · exact hk _ a ha
end Lx
namespace Lx
def bytesOf : Value -> Pp.Bs
 | .string s => s.data.toList
 | _ => []
theorem bytesOf_str (s : Pp.Bs) : bytesOf (.string ⟨s.toArray⟩) = s := rfl
end Lx
theorem meetByName_any (cs : List Pp.XCls) (v : Value) (a b : Pp.Bs) (w : World) (ht : TabS w) (h : ProgX w v cs) (he : Hr.errL cs = 0) (hk : Lx.Known cs a) :
 Calls Tryz.prog 45 #[.agg #[v], .string ⟨a.toArray⟩, .string ⟨b.toArray⟩] w fun e w' => e = .returned (.string ⟨(Lx.meetN cs a b).toArray⟩) /\ Below w.heap.size w w' := by
 have HUn := hide (fun x y wx (hb : Below w.heap.size w wx) => Under_any cs v x y wx (ht.below hb) (h.on hb)); have HSu := hide (fun x wx (hb : Below w.heap.size w wx) => Super_any cs v x wx (ht.below hb) (h.on hb)); have HE := hide he; have HK := hide hk; obtain ⟨pa, pc, rfl, _⟩ := h.1.len; generalize cs.length = n at *
 obtain ⟨r, hr⟩ : ∃ r, r = Lx.meetN cs a b := ⟨_, rfl⟩; have HR := hide hr; rw [<- hr]; clear hr h ht he hk; have hx0 := hide (heap_alloc_new w (.cells #[.slice pa n pc] 24)); have HB0 := hide ((Below.refl w.heap.size w).alloc (Nat.le_refl _) (.cells #[.slice pa n pc] 24)); go_enter Tryz.func45, Tryz.ntmps45; go_wp2_with fail; generalize w.alloc (.cells #[.slice pa n pc] 24) = w0 at *
 refine (HUn.out a b w0 HB0.out).mono ?_; rintro e w1 ⟨hy, hb1⟩; have HB1 := hide (HB0.out.trans (hb1.mono HB0.out.size)); have HT1 := hide ((hb1.block _ (Ow.lt_of_blk hx0.out)).trans hx0.out); clear hb1 hx0 HB0; by_cases hu : Hr.underQ cs a b
 · have HF : Hid (r = b) := hide (by rw [HR.out]; unfold Lx.meetN; exact if_pos ((Hr.underB_iff _ _ _).2 hu))
   have hq := hy.t hu; subst hq; clear hy hu; go_wp2_with fail; go_ret; exact ⟨by rw [HF.out]; rfl, HB1.out⟩
 · have HF : Hid (Lx.climbN cs b (Hr.allL cs).length a = r) := hide (by rw [HR.out]; unfold Lx.meetN; exact (if_neg (fun h => hu ((Hr.underB_iff _ _ _).1 h))).symm)
   have hq := hy.f hu; subst hq; clear hy hu; go_wp2_with fail
   go_loopw [1] (fun i wr => ∃ x : Pp.Bs, i = .string ⟨x.toArray⟩ /\ Hid (Lx.Known cs x) /\ Hid (Lx.climbN cs b (Hr.allL cs).length x = r) /\ Hid (Below w.heap.size w wr) /\ Hid (wr.heap[w.heap.size]? = some (.cells #[.slice pa n pc] 24 (0, 0)))) (fun i _ => Lx.tallN cs (Lx.bytesOf i))
   case atStart => exact ⟨a, rfl, HK, HF, HB1, HT1⟩
   case round =>
    obtain ⟨x, rfl, HKx, HFx, HBr, HTr⟩ := hrel; clear HF HK HB1 HT1; have c0 := cell_box HTr.out 0; go_wp2_with fail; refine (HUn.out b x wr HBr.out).mono ?_; rintro e w2 ⟨hy, hb2⟩; have HB2 := hide (HBr.out.trans (hb2.mono HBr.out.size)); have HT2 := hide ((hb2.block _ (Ow.lt_of_blk HTr.out)).trans HTr.out); clear hb2 HBr HTr c0; by_cases hu : Hr.underQ cs b x
    · have HG : Hid (x = r) := hide (by rw [<- HFx.out]; exact (Lx.climb_here HE.out HKx.out b ((Hr.underB_iff _ _ _).2 hu)).symm)
      have hq := hy.t hu; subst hq; clear hy hu; go_wp2_with fail; go_ret; exact ⟨by rw [<- HG.out]; rfl, HB2.out⟩
    · have HN := hide (fun h => hu ((Hr.underB_iff _ _ _).1 h))
      have hq := hy.f hu; subst hq; clear hy hu; have c0 := cell_box HT2.out 0; go_wp2_with fail; refine (HSu.out x w2 HB2.out).mono ?_; rintro e w3 ⟨rfl, hb3⟩; have HB3 := hide (HB2.out.trans (hb3.mono HB2.out.size)); have HT3 := hide ((hb3.block _ (Ow.lt_of_blk HT2.out)).trans HT2.out); clear hb3 HB2 HT2 c0; cases hs : Hr.superQ cs x with
      | none =>
        have HG : Hid (r = Hr.objN) := hide (by rw [<- HFx.out]; exact Lx.climb_end HE.out HKx.out b HN.out hs)
        clear hs; simp only [Hr.pairS]; go_wp2_with fail; go_ret; exact ⟨by rw [HG.out]; rfl, HB3.out⟩
      | some s =>
        have HKs := hide (Lx.known_super HE.out HKx.out hs); have HG := hide ((Lx.climb_step HE.out HKx.out b HN.out hs).symm.trans HFx.out); have HM := hide (Lx.tall_step HE.out HKx.out hs); clear hs; simp only [Hr.pairS]; go_wp2_with fail
        go_roundw
        case rel => exact ⟨s, rfl, HKs, HG, HB3, HT3⟩
        case measure => exact HM.out
end Go.Proofs.YtbbbnciejmdpfaaGreatDoor
