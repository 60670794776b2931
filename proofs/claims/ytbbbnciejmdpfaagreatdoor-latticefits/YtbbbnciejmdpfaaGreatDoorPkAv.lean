/- What fits, as package lattice tells it of the heads. What fits, as the page tells it. What fits by the page fits by package lattice (pure). The heads of a program: who comes of whom is the same there. Going up by supers till another one is under it: the name that two of All meet in. What meetByName answers. What lattice's meet answers. What lattice's look answers: the heads, where a program is taken and each type is right. What two names meet in: above both, the least of the classes, whichever comes first. -/
import Derived.Test.YtbbbnciejmdpfaaGreatDoorPkAu
import Derived.Test.YtbbbnciejmdpfaaGreatDoorPkAb
import Derived.Test.YtbbbnciejmdpfaaGreatDoorPkAh
import Derived.Test.YtbbbnciejmdpfaaGreatDoorPkAm
set_option maxRecDepth 100000
set_option maxHeartbeats 64000000
set_option linter.unusedVariables false
set_option linter.unusedSimpArgs false
namespace Go.Proofs.YtbbbnciejmdpfaaGreatDoor
open Go.RowKit
namespace Lx
open Pp Hr
def refB (k : Int) : Bool := k != 2 && k != 7
def fitsH (cs : List XCls) (ka kb : Int) (na nb : Bs) : Bool :=
  if (ka = kb ∧ na = nb) ∨ kb = 7 then true else if ka = 6 ∨ (kb = 3 ∧ nb = objN) then refB ka && refB kb else ka == 3 && (kb == 3 && underB cs na nb)
end Lx
theorem fits_any (cs : List Pp.XCls) (v : Value) (ka kb : Int) (na nb : Pp.Bs) (w : World) (ht : TabS w) (h : ProgX w v cs) :
    Calls Tryz.prog 30 #[.agg #[v], .agg #[.int .i64 ka, .string ⟨na.toArray⟩], .agg #[.int .i64 kb, .string ⟨nb.toArray⟩]] w fun e w' => e = .returned (.bool (Lx.fitsH cs ka kb na nb)) ∧ Below w.heap.size w w' := by
  have HUn := hide (fun wx (hb : Below w.heap.size w wx) => Under_any cs v na nb wx (ht.below hb) (h.on hb))
  obtain ⟨pa, pc, rfl, _⟩ := h.1.len
  generalize cs.length = n at *
  obtain ⟨r, hr⟩ : ∃ r, r = Lx.fitsH cs ka kb na nb := ⟨_, rfl⟩
  have HR := hide hr
  rw [← hr]
  clear hr h ht
  go_enter Tryz.func30, Tryz.ntmps30
  have hstart : ∃ w3, w3 = ((w.alloc (.cells #[.slice pa n pc] 24)).alloc (.cells #[.int .i64 ka, .string ⟨na.toArray⟩] 26)).alloc (.cells #[.int .i64 kb, .string ⟨nb.toArray⟩] 26) ∧ Below w.heap.size w w3 ∧ w3.heap[w.heap.size]? = some (.cells #[.slice pa n pc] 24) ∧ w3.heap[w.heap.size + 1]? = some (.cells #[.int .i64 ka, .string ⟨na.toArray⟩] 26) ∧ w3.heap[w.heap.size + 2]? = some (.cells #[.int .i64 kb, .string ⟨nb.toArray⟩] 26) := by
    have e1 : (w.alloc (.cells #[.slice pa n pc] 24)).heap.size = w.heap.size + 1 := by show (w.heap.push _).size = _; simp
    have e2 : ((w.alloc (.cells #[.slice pa n pc] 24)).alloc (.cells #[.int .i64 ka, .string ⟨na.toArray⟩] 26)).heap.size = w.heap.size + 2 := by show ((w.alloc (.cells #[.slice pa n pc] 24)).heap.push _).size = _; rw [Array.size_push, e1]
    have b1 := (Below.refl w.heap.size w).alloc (Nat.le_refl _) (.cells #[.slice pa n pc] 24)
    have b2 := (Below.refl (w.alloc (.cells #[.slice pa n pc] 24)).heap.size (w.alloc (.cells #[.slice pa n pc] 24))).alloc (Nat.le_refl _) (.cells #[.int .i64 ka, .string ⟨na.toArray⟩] 26)
    have b3 := (Below.refl ((w.alloc (.cells #[.slice pa n pc] 24)).alloc (.cells #[.int .i64 ka, .string ⟨na.toArray⟩] 26)).heap.size ((w.alloc (.cells #[.slice pa n pc] 24)).alloc (.cells #[.int .i64 ka, .string ⟨na.toArray⟩] 26))).alloc (Nat.le_refl _) (.cells #[.int .i64 kb, .string ⟨nb.toArray⟩] 26)
    have x1 := heap_alloc_new w (.cells #[.slice pa n pc] 24)
    have x2 := heap_alloc_new (w.alloc (.cells #[.slice pa n pc] 24)) (.cells #[.int .i64 ka, .string ⟨na.toArray⟩] 26)
    have x3 := heap_alloc_new ((w.alloc (.cells #[.slice pa n pc] 24)).alloc (.cells #[.int .i64 ka, .string ⟨na.toArray⟩] 26)) (.cells #[.int .i64 kb, .string ⟨nb.toArray⟩] 26)
    rw [e1] at x2
    rw [e2] at x3
    refine ⟨_, rfl, (b1.alloc b1.size _).alloc (b1.alloc b1.size _).size _, ?_, ?_, x3⟩
    · exact (b3.block _ (by rw [e2]; omega)).trans ((b2.block _ (by rw [e1]; omega)).trans x1)
    · exact (b3.block _ (by rw [e2]; omega)).trans x2
  obtain ⟨w3, hw3, hB3, hC3, hA3, hT3⟩ := hstart
  have HB3 := hide hB3
  have HC3 := hide hC3
  have HA3 := hide hA3
  have HT3 := hide hT3
  clear hB3 hC3 hA3 hT3
  by_cases hab : ka = kb ∧ na = nb
  · have HF : Hid (r = true) := hide (by rw [HR.out]; unfold Lx.fitsH; exact if_pos (.inl hab))
    obtain ⟨rfl, rfl⟩ := hab
    go_wp2_with fail
    rw [← hw3]
    clear hw3
    go_ret
    exact ⟨by rw [HF.out]; rfl, HB3.out⟩
  by_cases ek : ka = kb
  · subst ek
    have en : ¬ na = nb := fun h => hab ⟨rfl, h⟩
    have gn : (na == nb) = false := by simpa using en
    by_cases h7 : ka = 7
    · have HF : Hid (r = true) := hide (by rw [HR.out]; unfold Lx.fitsH; exact if_pos (.inr h7))
      have g7 : (ka == 7) = true := by simp [h7]
      clear h7 hab
      go_wp2_with fail
      rw [← hw3]
      clear hw3
      go_ret
      exact ⟨by rw [HF.out]; rfl, HB3.out⟩
    have g7 : (ka == 7) = false := by simpa using h7
    by_cases h6 : ka = 6
    · have HF : Hid (r = Lx.refB ka) := hide (by rw [HR.out]; unfold Lx.fitsH; rw [if_neg (fun h => h.elim hab h7), if_pos (.inl h6), h6]; simp [Lx.refB])
      have g6 : (ka == 6) = true := by simp [h6]
      have hk : (ka != 2 && ka != 7) = true := by rw [h6]; rfl
      clear h6 h7 hab
      have HK := hide hk
      clear hk
      go_wp2_with fail
      rw [← hw3]
      clear hw3
      refine (isRef_any ka _ _).mono ?_
      rintro e w5 ⟨rfl, hb5⟩
      rw [HK.out]
      have c0 := cell_box ((hb5.block _ (Ow.lt_of_blk HT3.out)).trans HT3.out) 0
      have c1 := cell_box ((hb5.block _ (Ow.lt_of_blk HT3.out)).trans HT3.out) 1
      have HB5 := hide (HB3.out.trans (hb5.mono HB3.out.size))
      clear hb5
      go_wp2_with fail
      refine (isRef_any ka _ _).mono ?_
      rintro e w6 ⟨rfl, hb6⟩
      have HB6 := hide (HB5.out.trans (hb6.mono HB5.out.size))
      go_wp2_with fail
      go_ret
      exact ⟨by rw [HF.out]; rfl, HB6.out⟩
    have g6 : (ka == 6) = false := by simpa using h6
    have HS := hide (fun wz (hb : Below w3.heap.size w3 wz) => show wz.cell? ⟨w.heap.size + 1 + 1, 0, none⟩ = some (.int .i64 ka) ∧ wz.cell? ⟨w.heap.size + 1 + 1, 1, none⟩ = some (.string ⟨nb.toArray⟩) from
      ⟨cell_box ((hb.block _ (Ow.lt_of_blk HT3.out)).trans HT3.out) 0, cell_box ((hb.block _ (Ow.lt_of_blk HT3.out)).trans HT3.out) 1⟩)
    have HBz : Hid (Below w3.heap.size w3 w3.drew) := hide (Below.drew (Below.refl _ _))
    by_cases hob : ka = 3 ∧ nb = Hr.objN
    · have HF : Hid (r = (Lx.refB ka)) := hide (by rw [HR.out]; unfold Lx.fitsH; rw [if_neg (fun h => h.elim hab h7), if_pos (.inr hob), hob.1]; simp [Lx.refB])
      have HO1 := hide hob.1
      have HO2 := hide hob.2
      clear hob h6 h7 hab
      go_wp2_with fail
      rw [← hw3]
      clear hw3
      rw [HO1.out, HO2.out] at HS
      have HS2 := hide (fun wz (hb : Below w3.heap.size w3 wz) => show wz.cell? ⟨w.heap.size + 1 + 1, 0, none⟩ = some (.int .i64 3) ∧ wz.cell? ⟨w.heap.size + 1 + 1, 1, none⟩ = some (.string ⟨#[79, 98, 106, 101, 99, 116]⟩) from HS.out wz hb)
      clear HS
      go_region_held3 (fun wz => wz.cell? ⟨w.heap.size + 1 + 1, 0, none⟩ = some (.int .i64 3) ∧ wz.cell? ⟨w.heap.size + 1 + 1, 1, none⟩ = some (.string ⟨#[79, 98, 106, 101, 99, 116]⟩)) (exact HS2.out _ HBz.out)
        (first
          | (go_at_call 44
             with_reducible refine (ref_any _ _).mono ?_
             rintro e w5 ⟨rfl, hb5⟩
             have HBz := hide (HBz.out.trans (hb5.mono HBz.out.size))
             clear hb5)
          | fail)
      all_goals
        have HB5 := hide (HB3.out.trans (HBz.out.mono HB3.out.size))
        have d0 := cell_box ((HBz.out.block _ (Ow.lt_of_blk HA3.out)).trans HA3.out) 0
        have d1 := cell_box ((HBz.out.block _ (Ow.lt_of_blk HA3.out)).trans HA3.out) 1
        go_wp2_with fail
        refine (isRef_any ka _ _).mono ?_
        rintro e w6 ⟨rfl, hb6⟩
        have HB6 := hide (HB5.out.trans (hb6.mono HB5.out.size))
        have HBy := hide (HBz.out.trans (hb6.mono HBz.out.size))
        clear d0 d1 hb6
        obtain ⟨rk, hrk⟩ : ∃ y, y = (ka != 2 && ka != 7) := ⟨_, rfl⟩
        rw [← hrk]
        have HF2 : Hid (r = rk) := hide (HF.out.trans hrk.symm)
        clear hrk
        cases rk with
        | false =>
          go_wp2_with fail
          go_ret
          exact ⟨by rw [HF2.out]; rfl, HB6.out⟩
        | true =>
          obtain ⟨c0, c1⟩ := HS2.out w6 HBy.out
          go_wp2_with fail
          refine (isRef_any 3 _ _).mono ?_
          rintro e w7 ⟨rfl, hb7⟩
          have HB7 := hide (HB6.out.trans (hb7.mono HB6.out.size))
          rw [show ((3 : Int) != 2 && (3 : Int) != 7) = true from rfl]
          clear hb7
          go_wp2_with fail
          go_ret
          exact ⟨by rw [HF2.out]; rfl, HB7.out⟩
    have HF : Hid (r = (ka == 3 && (ka == 3 && Hr.underB cs na nb))) := hide (by rw [HR.out]; unfold Lx.fitsH; rw [if_neg (fun h => h.elim hab h7), if_neg (fun h => h.elim h6 hob)])
    by_cases h3 : ka = 3
    · have ho : ¬ nb = Hr.objN := fun h => hob ⟨h3, h⟩
      have ho2 : ¬ nb = [79, 98, 106, 101, 99, 116] := ho
      have go : (nb == [79, 98, 106, 101, 99, 116]) = false := by simpa using ho2
      have H3 := hide h3
      have gk3 : (ka == 3) = true := by simp [h3]
      have HFu : Hid (r = Hr.underB cs na nb) := hide (by rw [HF.out, gk3]; rfl)
      clear HF h3 ho ho2 hob h6 h7 hab
      go_wp2_with fail
      rw [← hw3]
      clear hw3
      go_region_held3 (fun wz => wz.cell? ⟨w.heap.size + 1 + 1, 0, none⟩ = some (.int .i64 ka) ∧ wz.cell? ⟨w.heap.size + 1 + 1, 1, none⟩ = some (.string ⟨nb.toArray⟩)) (exact HS.out _ HBz.out)
        (first
          | (go_at_call 44
             with_reducible refine (ref_any _ _).mono ?_
             rintro e w5 ⟨rfl, hb5⟩
             have HBz := hide (HBz.out.trans (hb5.mono HBz.out.size))
             clear hb5)
          | fail)
      all_goals
        have HB5 := hide (HB3.out.trans (HBz.out.mono HB3.out.size))
        have d0 := cell_box ((HBz.out.block _ (Ow.lt_of_blk HA3.out)).trans HA3.out) 0
        have d1 := cell_box ((HBz.out.block _ (Ow.lt_of_blk HA3.out)).trans HA3.out) 1
        have p0 := cell_box ((HBz.out.block _ (Ow.lt_of_blk HC3.out)).trans HC3.out) 0
        obtain ⟨c0, c1⟩ := HS.out w5 HBz.out
        have HF2 : Hid (r = Hr.underB cs na nb) := hide (by rw [HFu.out])
        go_wp2_with fail
        refine (HUn.out w5 HB5.out).mono ?_
        rintro e w6 ⟨hy, hb6⟩
        have HB6 := hide (HB5.out.trans (hb6.mono HB5.out.size))
        clear hb6 d0 d1 p0 c0 c1
        by_cases hu : Hr.underQ cs na nb
        · have HF3 : Hid (r = true) := hide (by rw [HF2.out]; exact (Hr.underB_iff _ _ _).2 hu)
          have he := hy.t hu
          subst he
          clear hy hu
          go_wp2_with fail
          go_ret
          exact ⟨by rw [HF3.out]; rfl, HB6.out⟩
        · have HF3 : Hid (r = false) := hide (by
            rw [HF2.out]
            cases hz : Hr.underB cs na nb with
            | false => rfl
            | true => exact absurd ((Hr.underB_iff _ _ _).1 hz) hu)
          have he := hy.f hu
          subst he
          clear hy hu
          go_wp2_with fail
          go_ret
          exact ⟨by rw [HF3.out]; rfl, HB6.out⟩
    · have gk3 : (ka == 3) = false := by simpa using h3
      have HF2 : Hid (r = false) := hide (by rw [HF.out, gk3]; simp)
      clear HF h3 hob h6 h7 hab
      go_wp2_with fail
      rw [← hw3]
      clear hw3
      go_region_held3 (fun wz => wz.cell? ⟨w.heap.size + 1 + 1, 0, none⟩ = some (.int .i64 ka) ∧ wz.cell? ⟨w.heap.size + 1 + 1, 1, none⟩ = some (.string ⟨nb.toArray⟩)) (exact HS.out _ HBz.out)
        (first
          | (go_at_call 44
             with_reducible refine (ref_any _ _).mono ?_
             rintro e w5 ⟨rfl, hb5⟩
             have HBz := hide (HBz.out.trans (hb5.mono HBz.out.size))
             clear hb5)
          | fail)
      all_goals
        have HB5 := hide (HB3.out.trans (HBz.out.mono HB3.out.size))
        have d0 := cell_box ((HBz.out.block _ (Ow.lt_of_blk HA3.out)).trans HA3.out) 0
        have d1 := cell_box ((HBz.out.block _ (Ow.lt_of_blk HA3.out)).trans HA3.out) 1
        have p0 := cell_box ((HBz.out.block _ (Ow.lt_of_blk HC3.out)).trans HC3.out) 0
        obtain ⟨c0, c1⟩ := HS.out w5 HBz.out
        cases ha : (ka == 3) with
        | true =>
          go_wp2_with fail
          go_ret
          exact ⟨by rw [HF2.out]; rfl, HB5.out⟩
        | false =>
          go_wp2_with fail
          go_ret
          exact ⟨by rw [HF2.out]; rfl, HB5.out⟩
  · have gk : (ka == kb) = false := by simpa using ek
    by_cases h7 : kb = 7
    · have HF : Hid (r = true) := hide (by rw [HR.out]; unfold Lx.fitsH; exact if_pos (.inr h7))
      have g7 : (kb == 7) = true := by simp [h7]
      clear h7 hab
      go_wp2_with fail
      rw [← hw3]
      clear hw3
      go_ret
      exact ⟨by rw [HF.out]; rfl, HB3.out⟩
    have g7 : (kb == 7) = false := by simpa using h7
    by_cases h6 : ka = 6
    · have HF : Hid (r = Lx.refB kb) := hide (by rw [HR.out]; unfold Lx.fitsH; rw [if_neg (fun h => h.elim hab h7), if_pos (.inl h6), h6]; simp [Lx.refB])
      have g6 : (ka == 6) = true := by simp [h6]
      have hk : (ka != 2 && ka != 7) = true := by rw [h6]; rfl
      clear h6 h7 hab
      have HK := hide hk
      clear hk
      go_wp2_with fail
      rw [← hw3]
      clear hw3
      refine (isRef_any ka _ _).mono ?_
      rintro e w5 ⟨rfl, hb5⟩
      rw [HK.out]
      have c0 := cell_box ((hb5.block _ (Ow.lt_of_blk HT3.out)).trans HT3.out) 0
      have c1 := cell_box ((hb5.block _ (Ow.lt_of_blk HT3.out)).trans HT3.out) 1
      have HB5 := hide (HB3.out.trans (hb5.mono HB3.out.size))
      clear hb5
      go_wp2_with fail
      refine (isRef_any kb _ _).mono ?_
      rintro e w6 ⟨rfl, hb6⟩
      have HB6 := hide (HB5.out.trans (hb6.mono HB5.out.size))
      go_wp2_with fail
      go_ret
      exact ⟨by rw [HF.out]; rfl, HB6.out⟩
    have g6 : (ka == 6) = false := by simpa using h6
    have HS := hide (fun wz (hb : Below w3.heap.size w3 wz) => show wz.cell? ⟨w.heap.size + 1 + 1, 0, none⟩ = some (.int .i64 kb) ∧ wz.cell? ⟨w.heap.size + 1 + 1, 1, none⟩ = some (.string ⟨nb.toArray⟩) from
      ⟨cell_box ((hb.block _ (Ow.lt_of_blk HT3.out)).trans HT3.out) 0, cell_box ((hb.block _ (Ow.lt_of_blk HT3.out)).trans HT3.out) 1⟩)
    have HBz : Hid (Below w3.heap.size w3 w3.drew) := hide (Below.drew (Below.refl _ _))
    by_cases hob : kb = 3 ∧ nb = Hr.objN
    · have HF : Hid (r = (Lx.refB ka)) := hide (by rw [HR.out]; unfold Lx.fitsH; rw [if_neg (fun h => h.elim hab h7), if_pos (.inr hob), hob.1]; simp [Lx.refB])
      have HO1 := hide hob.1
      have HO2 := hide hob.2
      clear hob h6 h7 hab
      go_wp2_with fail
      rw [← hw3]
      clear hw3
      rw [HO1.out, HO2.out] at HS
      have HS2 := hide (fun wz (hb : Below w3.heap.size w3 wz) => show wz.cell? ⟨w.heap.size + 1 + 1, 0, none⟩ = some (.int .i64 3) ∧ wz.cell? ⟨w.heap.size + 1 + 1, 1, none⟩ = some (.string ⟨#[79, 98, 106, 101, 99, 116]⟩) from HS.out wz hb)
      clear HS
      go_region_held3 (fun wz => wz.cell? ⟨w.heap.size + 1 + 1, 0, none⟩ = some (.int .i64 3) ∧ wz.cell? ⟨w.heap.size + 1 + 1, 1, none⟩ = some (.string ⟨#[79, 98, 106, 101, 99, 116]⟩)) (exact HS2.out _ HBz.out)
        (first
          | (go_at_call 44
             with_reducible refine (ref_any _ _).mono ?_
             rintro e w5 ⟨rfl, hb5⟩
             have HBz := hide (HBz.out.trans (hb5.mono HBz.out.size))
             clear hb5)
          | fail)
      all_goals
        have HB5 := hide (HB3.out.trans (HBz.out.mono HB3.out.size))
        have d0 := cell_box ((HBz.out.block _ (Ow.lt_of_blk HA3.out)).trans HA3.out) 0
        have d1 := cell_box ((HBz.out.block _ (Ow.lt_of_blk HA3.out)).trans HA3.out) 1
        go_wp2_with fail
        refine (isRef_any ka _ _).mono ?_
        rintro e w6 ⟨rfl, hb6⟩
        have HB6 := hide (HB5.out.trans (hb6.mono HB5.out.size))
        have HBy := hide (HBz.out.trans (hb6.mono HBz.out.size))
        clear d0 d1 hb6
        obtain ⟨rk, hrk⟩ : ∃ y, y = (ka != 2 && ka != 7) := ⟨_, rfl⟩
        rw [← hrk]
        have HF2 : Hid (r = rk) := hide (HF.out.trans hrk.symm)
        clear hrk
        cases rk with
        | false =>
          go_wp2_with fail
          go_ret
          exact ⟨by rw [HF2.out]; rfl, HB6.out⟩
        | true =>
          obtain ⟨c0, c1⟩ := HS2.out w6 HBy.out
          go_wp2_with fail
          refine (isRef_any 3 _ _).mono ?_
          rintro e w7 ⟨rfl, hb7⟩
          have HB7 := hide (HB6.out.trans (hb7.mono HB6.out.size))
          rw [show ((3 : Int) != 2 && (3 : Int) != 7) = true from rfl]
          clear hb7
          go_wp2_with fail
          go_ret
          exact ⟨by rw [HF2.out]; rfl, HB7.out⟩
    have HF : Hid (r = (ka == 3 && (kb == 3 && Hr.underB cs na nb))) := hide (by rw [HR.out]; unfold Lx.fitsH; rw [if_neg (fun h => h.elim hab h7), if_neg (fun h => h.elim h6 hob)])
    by_cases h3 : kb = 3
    · have ho : ¬ nb = Hr.objN := fun h => hob ⟨h3, h⟩
      have ho2 : ¬ nb = [79, 98, 106, 101, 99, 116] := ho
      have go : (nb == [79, 98, 106, 101, 99, 116]) = false := by simpa using ho2
      have H3 := hide h3
      have gk3 : (kb == 3) = true := by simp [h3]
      have HFu : Hid (r = (ka == 3 && Hr.underB cs na nb)) := hide (by rw [HF.out, gk3]; rfl)
      clear HF h3 ho ho2 hob h6 h7 hab
      go_wp2_with fail
      rw [← hw3]
      clear hw3
      go_region_held3 (fun wz => wz.cell? ⟨w.heap.size + 1 + 1, 0, none⟩ = some (.int .i64 kb) ∧ wz.cell? ⟨w.heap.size + 1 + 1, 1, none⟩ = some (.string ⟨nb.toArray⟩)) (exact HS.out _ HBz.out)
        (first
          | (go_at_call 44
             with_reducible refine (ref_any _ _).mono ?_
             rintro e w5 ⟨rfl, hb5⟩
             have HBz := hide (HBz.out.trans (hb5.mono HBz.out.size))
             clear hb5)
          | fail)
      all_goals
        have HB5 := hide (HB3.out.trans (HBz.out.mono HB3.out.size))
        have d0 := cell_box ((HBz.out.block _ (Ow.lt_of_blk HA3.out)).trans HA3.out) 0
        have d1 := cell_box ((HBz.out.block _ (Ow.lt_of_blk HA3.out)).trans HA3.out) 1
        have p0 := cell_box ((HBz.out.block _ (Ow.lt_of_blk HC3.out)).trans HC3.out) 0
        obtain ⟨c0, c1⟩ := HS.out w5 HBz.out
        cases ha : (ka == 3) with
        | true =>
          have HF2 : Hid (r = Hr.underB cs na nb) := hide (by rw [HFu.out, ha]; rfl)
          go_wp2_with fail
          refine (HUn.out w5 HB5.out).mono ?_
          rintro e w6 ⟨hy, hb6⟩
          have HB6 := hide (HB5.out.trans (hb6.mono HB5.out.size))
          clear hb6 d0 d1 p0 c0 c1
          by_cases hu : Hr.underQ cs na nb
          · have HF3 : Hid (r = true) := hide (by rw [HF2.out]; exact (Hr.underB_iff _ _ _).2 hu)
            have he := hy.t hu
            subst he
            clear hy hu
            go_wp2_with fail
            go_ret
            exact ⟨by rw [HF3.out]; rfl, HB6.out⟩
          · have HF3 : Hid (r = false) := hide (by
              rw [HF2.out]
              cases hz : Hr.underB cs na nb with
              | false => rfl
              | true => exact absurd ((Hr.underB_iff _ _ _).1 hz) hu)
            have he := hy.f hu
            subst he
            clear hy hu
            go_wp2_with fail
            go_ret
            exact ⟨by rw [HF3.out]; rfl, HB6.out⟩
        | false =>
          have HF2 : Hid (r = false) := hide (by rw [HFu.out, ha]; rfl)
          go_wp2_with fail
          go_ret
          exact ⟨by rw [HF2.out]; rfl, HB5.out⟩
    · have gk3 : (kb == 3) = false := by simpa using h3
      have HF2 : Hid (r = false) := hide (by rw [HF.out, gk3]; simp)
      clear HF h3 hob h6 h7 hab
      go_wp2_with fail
      rw [← hw3]
      clear hw3
      go_region_held3 (fun wz => wz.cell? ⟨w.heap.size + 1 + 1, 0, none⟩ = some (.int .i64 kb) ∧ wz.cell? ⟨w.heap.size + 1 + 1, 1, none⟩ = some (.string ⟨nb.toArray⟩)) (exact HS.out _ HBz.out)
        (first
          | (go_at_call 44
             with_reducible refine (ref_any _ _).mono ?_
             rintro e w5 ⟨rfl, hb5⟩
             have HBz := hide (HBz.out.trans (hb5.mono HBz.out.size))
             clear hb5)
          | fail)
      all_goals
        have HB5 := hide (HB3.out.trans (HBz.out.mono HB3.out.size))
        have d0 := cell_box ((HBz.out.block _ (Ow.lt_of_blk HA3.out)).trans HA3.out) 0
        have d1 := cell_box ((HBz.out.block _ (Ow.lt_of_blk HA3.out)).trans HA3.out) 1
        have p0 := cell_box ((HBz.out.block _ (Ow.lt_of_blk HC3.out)).trans HC3.out) 0
        obtain ⟨c0, c1⟩ := HS.out w5 HBz.out
        cases ha : (ka == 3) with
        | true =>
          go_wp2_with fail
          go_ret
          exact ⟨by rw [HF2.out]; rfl, HB5.out⟩
        | false =>
          go_wp2_with fail
          go_ret
          exact ⟨by rw [HF2.out]; rfl, HB5.out⟩
end Go.Proofs.YtbbbnciejmdpfaaGreatDoor
namespace Go.Proofs.YtbbbnciejmdpfaaGreatDoor
open Go.RowKit
namespace Lx
open Pp Hr
end Lx
end Go.Proofs.YtbbbnciejmdpfaaGreatDoor
namespace Go.Proofs.YtbbbnciejmdpfaaGreatDoor
namespace Lx
open Pp Hr
theorem right_ref {l : List XCls} {k : Int} {n : Bs} (h : rightL l k n = true) (h3 : k = 3) : ∃ q, placeL l n = some q := by
  subst h3
  unfold rightL at h
  rw [if_neg (by decide), if_pos (by decide)] at h
  exact Option.isSome_iff_exists.1 h
end Lx
end Go.Proofs.YtbbbnciejmdpfaaGreatDoor
namespace Go.Proofs.YtbbbnciejmdpfaaGreatDoor
open Go.RowKit
namespace Lx
open Pp Hr
theorem place_hd (l : List XCls) (n : Bs) : placeL (l.map hd) n = placeL l n := by
  induction l with
  | nil => rfl
  | cons c l ih => rw [List.map_cons]; unfold placeL; rw [ih]; rfl
theorem at_hd (l : List XCls) (k : Nat) : (l.map hd)[k]? = (l[k]?).map hd := by rw [List.getElem?_map]
theorem up_hd (l : List XCls) (b : Bool) (n : Bs) : upL (l.map hd) b n = upL l b n := by
  unfold upL
  rw [place_hd]
  cases placeL l n with
  | none => rfl
  | some k =>
    simp only [at_hd]
    cases l[k]? with
    | none => rfl
    | some c => rfl
theorem super_hd (c : XCls) : superL (hd c) = superL c := rfl
theorem sup_hd (l : List XCls) (c : XCls) : supL (l.map hd) (hd c) = supL l c := by
  unfold supL
  rw [super_hd]
  cases superL c with
  | none => rfl
  | some n => simp only [up_hd]
theorem ifs_hd (l : List XCls) (ns : List Bs) : ifsL (l.map hd) ns = ifsL l ns := by
  induction ns with
  | nil => rfl
  | cons n ns ih => unfold ifsL; rw [up_hd, ih]
theorem ups_hd (l : List XCls) (c : XCls) : upsL (l.map hd) (hd c) = upsL l c := by
  unfold upsL
  rw [sup_hd]
  have : (hd c).ifaces = c.ifaces := rfl
  rw [this]
  cases supL l c with
  | none => rfl
  | some a => simp only [ifs_hd]
theorem grow_hd (l m : List XCls) : growL (l.map hd) (m.map hd) = growL l m := by
  induction m with
  | nil => rfl
  | cons c m ih => rw [List.map_cons]; unfold growL; rw [ups_hd, ih]
theorem all_hd (cs : List XCls) : allL (cs.map hd) = (allL cs).map hd := by
  unfold allL
  rw [List.map_append]
  rfl
theorem one_hd (l : List XCls) : oneB (l.map hd) = oneB l := by
  unfold oneB
  rw [List.length_map]
  apply congrArg (fun f => (List.range l.length).all f)
  funext j
  rw [at_hd]
  cases l[j]? with
  | none => rfl
  | some c => show (placeL (l.map hd) (hd c).name == some j) = _; rw [place_hd]; rfl
theorem cls_hd {c : XCls} (h : clsB c = true) : clsB (hd c) = true := by
  unfold clsB at h ⊢
  simp only [Bool.and_eq_true] at h ⊢
  exact ⟨h.1, h.2.1, h.2.2.1, rfl, rfl⟩
theorem prog_hd {cs : List XCls} (h : progB cs = true) : progB (cs.map hd) = true := by
  unfold progB at h ⊢
  rw [eachB_iff] at h ⊢
  rw [List.length_map]
  refine ⟨h.1, fun x hx => ?_⟩
  obtain ⟨c, hc, rfl⟩ := List.mem_map.1 hx
  exact cls_hd (h.2 c hc)
theorem err_hd {cs : List XCls} (h : errL cs = 0) : errL (cs.map hd) = 0 := by
  unfold errL at h ⊢
  rw [all_hd, grow_hd, one_hd]
  split at h
  · rename_i hp
    rw [if_pos (prog_hd hp)]
    exact h
  · cases h
theorem look_hd {cs : List XCls} (h : errL cs = 0) (n : Bs) : Hr.lookL (cs.map hd) n = Hr.lookL cs n := by
  rw [lookL_yes (err_hd h), lookL_yes h, all_hd, place_hd]
theorem superQ_hd {cs : List XCls} (h : errL cs = 0) (n : Bs) : superQ (cs.map hd) n = superQ cs n := by
  unfold superQ
  rw [look_hd h]
  cases Hr.lookL cs n with
  | none => rfl
  | some k =>
    simp only [all_hd, at_hd]
    cases (allL cs)[k]? with
    | none => rfl
    | some c => rfl
theorem underQ_hd {cs : List XCls} (h : errL cs = 0) (a b : Bs) : underQ (cs.map hd) a b ↔ underQ cs a b := by
  unfold underQ
  rw [all_hd, grow_hd, place_hd, place_hd]
  simp only [err_hd h, h]
theorem underB_hd {cs : List XCls} (h : errL cs = 0) (a b : Bs) : underB (cs.map hd) a b = underB cs a b := by
  rw [Bool.eq_iff_iff, underB_iff, underB_iff]
  exact underQ_hd h a b
theorem rightH_hd {cs : List XCls} (h : errL cs = 0) (k : Int) (n : Bs) : rightH (cs.map hd) k n = rightL (allL cs) k n := by
  rw [rightH_eq (err_hd h)]
  unfold rightL
  rw [all_hd, place_hd]
theorem fitsH_hd {cs : List XCls} (h : errL cs = 0) (ka kb : Int) (na nb : Bs) : fitsH (cs.map hd) ka kb na nb = fitsH cs ka kb na nb := by
  unfold fitsH
  simp only [underB_hd h]
theorem light_hd {cs : List XCls} (h : Light cs) : Light (cs.map hd) := by
  refine ⟨by rw [List.length_map]; exact h.1, fun x hx => ?_⟩
  obtain ⟨c, hc, rfl⟩ := List.mem_map.1 hx
  have := h.2 c hc
  exact ⟨⟨Nat.zero_le _, Nat.zero_le _, this.1.2.2⟩, (by intro f hf; cases hf), this.2.2.1, (by intro m hm; cases hm)⟩
end Lx
end Go.Proofs.YtbbbnciejmdpfaaGreatDoor
namespace Go.Proofs.YtbbbnciejmdpfaaGreatDoor
open Go.RowKit
namespace Lx
open Pp Hr
def climbN (cs : List XCls) (b : Bs) : Nat → Bs → Bs
  | 0, _ => objN
  | f + 1, a => if underB cs b a = true then a else match superQ cs a with
    | none => objN
    | some s => climbN cs b f s
def chainN (cs : List XCls) : Nat → Bs → Nat
  | 0, _ => 0
  | f + 1, a => match superQ cs a with
    | none => 0
    | some s => chainN cs f s + 1
def tallN (cs : List XCls) (a : Bs) : Nat := chainN cs (allL cs).length a
def meetN (cs : List XCls) (a b : Bs) : Bs := if underB cs a b = true then b else climbN cs b (allL cs).length a
def Known (cs : List XCls) (a : Bs) : Prop := ∃ (p : Nat) (c : XCls), (allL cs)[p]? = some c ∧ c.name = a
theorem known_place {cs : List XCls} {a : Bs} {k : Nat} (h : placeL (allL cs) a = some k) : Known cs a := by
  obtain ⟨c, h1, h2, _⟩ := placeL_lt h
  exact ⟨k, c, h1, h2⟩
theorem known_super {cs : List XCls} (he : errL cs = 0) {a s : Bs} (h : Known cs a) (hs : superQ cs a = some s) : Known cs s := by
  obtain ⟨p, c, hc, rfl⟩ := h
  obtain ⟨_, ho, up, hg, hr⟩ := err_zero he
  rw [superQ_at he hc] at hs
  obtain ⟨q, d, h1, _⟩ := super_step hg hc hs
  exact known_place h1
theorem stab_at {cs : List XCls} {up : List (List Nat)} (he : errL cs = 0) (hg : growL (allL cs) (allL cs) = some up) (hr : ¬ Ring up) (b : Bs) (p0 : Nat) :
    ∀ (f p : Nat) (vs : List Nat) (c : XCls), (allL cs)[p]? = some c → Climb cs up p0 p vs → (allL cs).length ≤ f + vs.length → climbN cs b (f + 1) c.name = climbN cs b f c.name ∧ chainN cs (f + 1) c.name = chainN cs f c.name
  | 0, p, vs, c, hc, hC, hl => by have := hC.few; omega
  | f + 1, p, vs, c, hc, hC, hl => by
    have hsq := superQ_at he hc
    cases hs : superL c with
    | none =>
      rw [hs] at hsq
      constructor
      · unfold climbN; rw [hsq]
      · unfold chainN; rw [hsq]
    | some s =>
      rw [hs] at hsq
      obtain ⟨q, d, h1, h2, rfl, h4, h5, h6⟩ := super_step hg hc hs
      obtain ⟨e1, e2⟩ := stab_at he hg hr b p0 f q (p :: vs) d h2 (hC.step hr h5 h6) (by rw [List.length_cons]; omega)
      constructor
      · rw [show climbN cs b (f + 1 + 1) c.name = if underB cs b c.name = true then c.name else match superQ cs c.name with | none => objN | some s => climbN cs b (f + 1) s from rfl,
          show climbN cs b (f + 1) c.name = if underB cs b c.name = true then c.name else match superQ cs c.name with | none => objN | some s => climbN cs b f s from rfl, hsq]
        simp only [e1]
      · rw [show chainN cs (f + 1 + 1) c.name = match superQ cs c.name with | none => 0 | some s => chainN cs (f + 1) s + 1 from rfl,
          show chainN cs (f + 1) c.name = match superQ cs c.name with | none => 0 | some s => chainN cs f s + 1 from rfl, hsq]
        simp only [e2]
theorem stab {cs : List XCls} (he : errL cs = 0) {a : Bs} (h : Known cs a) (b : Bs) : climbN cs b ((allL cs).length + 1) a = climbN cs b (allL cs).length a ∧ chainN cs ((allL cs).length + 1) a = chainN cs (allL cs).length a := by
  obtain ⟨p, c, hc, rfl⟩ := h
  obtain ⟨_, ho, up, hg, hr⟩ := err_zero he
  have hp : p < (allL cs).length := by
    rcases Nat.lt_or_ge p (allL cs).length with h | h
    · exact h
    · rw [List.getElem?_eq_none h] at hc; cases hc
  exact stab_at he hg hr b p _ p [] c hc (Climb.start hp) (by simp)
theorem tall_step {cs : List XCls} (he : errL cs = 0) {a s : Bs} (h : Known cs a) (hs : superQ cs a = some s) : tallN cs s < tallN cs a := by
  have h1 := (stab he h []).2
  rw [show chainN cs ((allL cs).length + 1) a = match superQ cs a with | none => 0 | some s => chainN cs (allL cs).length s + 1 from rfl, hs] at h1
  simp only at h1
  unfold tallN
  omega
theorem climb_step {cs : List XCls} (he : errL cs = 0) {a s : Bs} (h : Known cs a) (b : Bs) (hn : ¬ underB cs b a = true) (hs : superQ cs a = some s) : climbN cs b (allL cs).length a = climbN cs b (allL cs).length s := by
  rw [← (stab he h b).1, show climbN cs b ((allL cs).length + 1) a = if underB cs b a = true then a else match superQ cs a with | none => objN | some s => climbN cs b (allL cs).length s from rfl, if_neg hn, hs]
theorem climb_end {cs : List XCls} (he : errL cs = 0) {a : Bs} (h : Known cs a) (b : Bs) (hn : ¬ underB cs b a = true) (hs : superQ cs a = none) : climbN cs b (allL cs).length a = objN := by
  rw [← (stab he h b).1, show climbN cs b ((allL cs).length + 1) a = if underB cs b a = true then a else match superQ cs a with | none => objN | some s => climbN cs b (allL cs).length s from rfl, if_neg hn, hs]
theorem climb_here {cs : List XCls} (he : errL cs = 0) {a : Bs} (h : Known cs a) (b : Bs) (hy : underB cs b a = true) : climbN cs b (allL cs).length a = a := by
  rw [← (stab he h b).1, show climbN cs b ((allL cs).length + 1) a = if underB cs b a = true then a else match superQ cs a with | none => objN | some s => climbN cs b (allL cs).length s from rfl, if_pos hy]
end Lx
end Go.Proofs.YtbbbnciejmdpfaaGreatDoor
namespace Go.Proofs.YtbbbnciejmdpfaaGreatDoor
open Go.RowKit
namespace Lx
def bytesOf : Value → Pp.Bs
  | .string s => s.data.toList
  | _ => []
end Lx
theorem meetByName_any (cs : List Pp.XCls) (v : Value) (a b : Pp.Bs) (w : World) (ht : TabS w) (h : ProgX w v cs) (he : Hr.errL cs = 0) (hk : Lx.Known cs a) :
    Calls Tryz.prog 45 #[.agg #[v], .string ⟨a.toArray⟩, .string ⟨b.toArray⟩] w fun e w' => e = .returned (.string ⟨(Lx.meetN cs a b).toArray⟩) ∧ Below w.heap.size w w' := by
  have HUn := hide (fun x y wx (hb : Below w.heap.size w wx) => Under_any cs v x y wx (ht.below hb) (h.on hb))
  have HSu := hide (fun x wx (hb : Below w.heap.size w wx) => Super_any cs v x wx (ht.below hb) (h.on hb))
  have HE := hide he
  have HK := hide hk
  obtain ⟨pa, pc, rfl, _⟩ := h.1.len
  generalize cs.length = n at *
  obtain ⟨r, hr⟩ : ∃ r, r = Lx.meetN cs a b := ⟨_, rfl⟩
  have HR := hide hr
  rw [← hr]
  clear hr h ht he hk
  have hx0 := hide (heap_alloc_new w (.cells #[.slice pa n pc] 24))
  have HB0 := hide ((Below.refl w.heap.size w).alloc (Nat.le_refl _) (.cells #[.slice pa n pc] 24))
  go_enter Tryz.func45, Tryz.ntmps45
  go_wp2_with fail
  generalize w.alloc (.cells #[.slice pa n pc] 24) = w0 at *
  refine (HUn.out a b w0 HB0.out).mono ?_
  rintro e w1 ⟨hy, hb1⟩
  have HB1 := hide (HB0.out.trans (hb1.mono HB0.out.size))
  have HT1 := hide ((hb1.block _ (Ow.lt_of_blk hx0.out)).trans hx0.out)
  clear hb1 hx0 HB0
  by_cases hu : Hr.underQ cs a b
  · have HF : Hid (r = b) := hide (by rw [HR.out]; unfold Lx.meetN; exact if_pos ((Hr.underB_iff _ _ _).2 hu))
    have hq := hy.t hu
    subst hq
    clear hy hu
    go_wp2_with fail
    go_ret
    exact ⟨by rw [HF.out]; rfl, HB1.out⟩
  · have HF : Hid (Lx.climbN cs b (Hr.allL cs).length a = r) := hide (by rw [HR.out]; unfold Lx.meetN; exact (if_neg (fun h => hu ((Hr.underB_iff _ _ _).1 h))).symm)
    have hq := hy.f hu
    subst hq
    clear hy hu
    go_wp2_with fail
    go_loopw [1] (fun i wr => ∃ x : Pp.Bs, i = .string ⟨x.toArray⟩ ∧ Hid (Lx.Known cs x) ∧ Hid (Lx.climbN cs b (Hr.allL cs).length x = r) ∧ Hid (Below w.heap.size w wr) ∧ Hid (wr.heap[w.heap.size]? = some (.cells #[.slice pa n pc] 24 (0, 0)))) (fun i _ => Lx.tallN cs (Lx.bytesOf i))
    case atStart => exact ⟨a, rfl, HK, HF, HB1, HT1⟩
    case round =>
      obtain ⟨x, rfl, HKx, HFx, HBr, HTr⟩ := hrel
      clear HF HK HB1 HT1
      have c0 := cell_box HTr.out 0
      go_wp2_with fail
      refine (HUn.out b x wr HBr.out).mono ?_
      rintro e w2 ⟨hy, hb2⟩
      have HB2 := hide (HBr.out.trans (hb2.mono HBr.out.size))
      have HT2 := hide ((hb2.block _ (Ow.lt_of_blk HTr.out)).trans HTr.out)
      clear hb2 HBr HTr c0
      by_cases hu : Hr.underQ cs b x
      · have HG : Hid (x = r) := hide (by rw [← HFx.out]; exact (Lx.climb_here HE.out HKx.out b ((Hr.underB_iff _ _ _).2 hu)).symm)
        have hq := hy.t hu
        subst hq
        clear hy hu
        go_wp2_with fail
        go_ret
        exact ⟨by rw [← HG.out]; rfl, HB2.out⟩
      · have HN := hide (fun h => hu ((Hr.underB_iff _ _ _).1 h))
        have hq := hy.f hu
        subst hq
        clear hy hu
        have c0 := cell_box HT2.out 0
        go_wp2_with fail
        refine (HSu.out x w2 HB2.out).mono ?_
        rintro e w3 ⟨rfl, hb3⟩
        have HB3 := hide (HB2.out.trans (hb3.mono HB2.out.size))
        have HT3 := hide ((hb3.block _ (Ow.lt_of_blk HT2.out)).trans HT2.out)
        clear hb3 HB2 HT2 c0
        cases hs : Hr.superQ cs x with
        | none =>
          have HG : Hid (r = Hr.objN) := hide (by rw [← HFx.out]; exact Lx.climb_end HE.out HKx.out b HN.out hs)
          clear hs
          simp only [Hr.pairS]
          go_wp2_with fail
          go_ret
          exact ⟨by rw [HG.out]; rfl, HB3.out⟩
        | some s =>
          have HKs := hide (Lx.known_super HE.out HKx.out hs)
          have HG := hide ((Lx.climb_step HE.out HKx.out b HN.out hs).symm.trans HFx.out)
          have HM := hide (Lx.tall_step HE.out HKx.out hs)
          clear hs
          simp only [Hr.pairS]
          go_wp2_with fail
          go_roundw
          case rel => exact ⟨s, rfl, HKs, HG, HB3, HT3⟩
          case measure => exact HM.out
end Go.Proofs.YtbbbnciejmdpfaaGreatDoor
namespace Go.Proofs.YtbbbnciejmdpfaaGreatDoor
open Go.RowKit
namespace Lx
open Pp Hr
def meetL (cs : List XCls) (ka kb : Int) (na nb : Bs) : Int × Bs :=
  if ka = kb ∧ na = nb then (ka, na) else if (ka != 2 && ka != 7) = false ∨ (kb != 2 && kb != 7) = false then (7, [])
  else if ka = 6 then (kb, nb) else if kb = 6 then (ka, na) else if ka = 3 ∧ kb = 3 then (3, meetN cs na nb) else (3, objN)
end Lx
theorem meet_any (cs : List Pp.XCls) (v : Value) (ka kb : Int) (na nb : Pp.Bs) (w : World) (ht : TabS w) (h : ProgX w v cs) (he : Hr.errL cs = 0) (hk : ka = 3 → kb = 3 → Lx.Known cs na) :
    Calls Tryz.prog 23 #[.agg #[v], .agg #[.int .i64 ka, .string ⟨na.toArray⟩], .agg #[.int .i64 kb, .string ⟨nb.toArray⟩]] w fun e w' => e = .returned (.agg #[.int .i64 (Lx.meetL cs ka kb na nb).1, .string ⟨(Lx.meetL cs ka kb na nb).2.toArray⟩]) ∧ Below w.heap.size w w' := by
  have HMn := hide (fun hq wx (hb : Below w.heap.size w wx) => meetByName_any cs v na nb wx (ht.below hb) (h.on hb) he hq)
  obtain ⟨pa, pc, rfl, _⟩ := h.1.len
  generalize cs.length = n at *
  clear h ht he
  go_enter Tryz.func23, Tryz.ntmps23
  have hstart : ∃ w4, w4 = (((w.alloc (.cells #[.slice pa n pc] 24)).alloc (.cells #[.int .i64 ka, .string ⟨na.toArray⟩] 26)).alloc (.cells #[.int .i64 kb, .string ⟨nb.toArray⟩] 26)).alloc (.cells #[.int .i64 0, .string ⟨#[]⟩] 26) ∧ Below w.heap.size w w4 ∧ w4.heap[w.heap.size]? = some (.cells #[.slice pa n pc] 24) ∧ w4.heap[w.heap.size + 1]? = some (.cells #[.int .i64 ka, .string ⟨na.toArray⟩] 26) ∧ w4.heap[w.heap.size + 2]? = some (.cells #[.int .i64 kb, .string ⟨nb.toArray⟩] 26) ∧ w4.heap[w.heap.size + 3]? = some (.cells #[.int .i64 0, .string ⟨#[]⟩] 26) := by
    have e1 : (w.alloc (.cells #[.slice pa n pc] 24)).heap.size = w.heap.size + 1 := by show (w.heap.push _).size = _; simp
    have e2 : ((w.alloc (.cells #[.slice pa n pc] 24)).alloc (.cells #[.int .i64 ka, .string ⟨na.toArray⟩] 26)).heap.size = w.heap.size + 2 := by show ((w.alloc (.cells #[.slice pa n pc] 24)).heap.push _).size = _; rw [Array.size_push, e1]
    have e3 : (((w.alloc (.cells #[.slice pa n pc] 24)).alloc (.cells #[.int .i64 ka, .string ⟨na.toArray⟩] 26)).alloc (.cells #[.int .i64 kb, .string ⟨nb.toArray⟩] 26)).heap.size = w.heap.size + 3 := by show (((w.alloc (.cells #[.slice pa n pc] 24)).alloc (.cells #[.int .i64 ka, .string ⟨na.toArray⟩] 26)).heap.push _).size = _; rw [Array.size_push, e2]
    have b1 := (Below.refl w.heap.size w).alloc (Nat.le_refl _) (.cells #[.slice pa n pc] 24)
    have b2 := (Below.refl (w.alloc (.cells #[.slice pa n pc] 24)).heap.size (w.alloc (.cells #[.slice pa n pc] 24))).alloc (Nat.le_refl _) (.cells #[.int .i64 ka, .string ⟨na.toArray⟩] 26)
    have b3 := (Below.refl ((w.alloc (.cells #[.slice pa n pc] 24)).alloc (.cells #[.int .i64 ka, .string ⟨na.toArray⟩] 26)).heap.size ((w.alloc (.cells #[.slice pa n pc] 24)).alloc (.cells #[.int .i64 ka, .string ⟨na.toArray⟩] 26))).alloc (Nat.le_refl _) (.cells #[.int .i64 kb, .string ⟨nb.toArray⟩] 26)
    have b4 := (Below.refl (((w.alloc (.cells #[.slice pa n pc] 24)).alloc (.cells #[.int .i64 ka, .string ⟨na.toArray⟩] 26)).alloc (.cells #[.int .i64 kb, .string ⟨nb.toArray⟩] 26)).heap.size (((w.alloc (.cells #[.slice pa n pc] 24)).alloc (.cells #[.int .i64 ka, .string ⟨na.toArray⟩] 26)).alloc (.cells #[.int .i64 kb, .string ⟨nb.toArray⟩] 26))).alloc (Nat.le_refl _) (.cells #[.int .i64 0, .string ⟨#[]⟩] 26)
    have x1 := heap_alloc_new w (.cells #[.slice pa n pc] 24)
    have x2 := heap_alloc_new (w.alloc (.cells #[.slice pa n pc] 24)) (.cells #[.int .i64 ka, .string ⟨na.toArray⟩] 26)
    have x3 := heap_alloc_new ((w.alloc (.cells #[.slice pa n pc] 24)).alloc (.cells #[.int .i64 ka, .string ⟨na.toArray⟩] 26)) (.cells #[.int .i64 kb, .string ⟨nb.toArray⟩] 26)
    have x4 := heap_alloc_new (((w.alloc (.cells #[.slice pa n pc] 24)).alloc (.cells #[.int .i64 ka, .string ⟨na.toArray⟩] 26)).alloc (.cells #[.int .i64 kb, .string ⟨nb.toArray⟩] 26)) (.cells #[.int .i64 0, .string ⟨#[]⟩] 26)
    rw [e1] at x2
    rw [e2] at x3
    rw [e3] at x4
    refine ⟨_, rfl, ((b1.alloc b1.size _).alloc (b1.alloc b1.size _).size _).alloc ((b1.alloc b1.size _).alloc (b1.alloc b1.size _).size _).size _, ?_, ?_, ?_, x4⟩
    · exact (b4.block _ (by rw [e3]; omega)).trans ((b3.block _ (by rw [e2]; omega)).trans ((b2.block _ (by rw [e1]; omega)).trans x1))
    · exact (b4.block _ (by rw [e3]; omega)).trans ((b3.block _ (by rw [e2]; omega)).trans x2)
    · exact (b4.block _ (by rw [e3]; omega)).trans x3
  obtain ⟨w4, hw4, hB4, hC4, hA4, hT4, hR4⟩ := hstart
  have HB4 := hide hB4
  have HC4 := hide hC4
  have HA4 := hide hA4
  have HT4 := hide hT4
  have HR4 := hide hR4
  clear hB4 hC4 hA4 hT4 hR4
  by_cases hab : ka = kb ∧ na = nb
  · have HF : Hid (Lx.meetL cs ka kb na nb = (ka, na)) := hide (by unfold Lx.meetL; exact if_pos hab)
    obtain ⟨rfl, rfl⟩ := hab
    have q1 := (Below.refl w.heap.size w).alloc (Nat.le_refl _) (.cells #[.slice pa n pc] 24)
    have q2 := q1.alloc q1.size (.cells #[.int .i64 ka, .string ⟨na.toArray⟩] 26)
    have q3 := q2.alloc q2.size (.cells #[.int .i64 ka, .string ⟨na.toArray⟩] 26)
    have HBz := hide (q3.alloc q3.size (.cells #[.int .i64 ka, .string ⟨na.toArray⟩] 26))
    clear hw4 q1 q2 q3
    go_wp2_with fail
    refine bodyPost_ret (v := .agg #[.int .i64 ka, .string ⟨na.toArray⟩]) (by simp [results, Tryz.results23, go_sem, *]) rfl ?_
    exact ⟨by rw [HF.out] <;> rfl, HBz.out⟩
  by_cases ek : ka = kb
  · subst ek
    have en : ¬ na = nb := fun h => hab ⟨rfl, h⟩
    have gn : (na == nb) = false := by simpa using en
    have HEN := hide en
    clear en hab
    cases hra : (ka != 2 && ka != 7) with
    | false =>
      have HF : Hid (Lx.meetL cs ka ka na nb = (7, [])) := hide (by unfold Lx.meetL; rw [if_neg (fun h => HEN.out h.2), if_pos (.inl hra)])
      have HX := hide hra
      clear hra
      go_wp2_with fail
      rw [← hw4]
      clear hw4
      refine (isRef_any ka _ _).mono ?_
      rintro e w5 ⟨rfl, hb5⟩
      rw [HX.out]
      have HB5 := hide (HB4.out.trans (hb5.mono HB4.out.size))
      have HC5 := hide ((hb5.block _ (Ow.lt_of_blk HC4.out)).trans HC4.out)
      have HA5 := hide ((hb5.block _ (Ow.lt_of_blk HA4.out)).trans HA4.out)
      have HT5 := hide ((hb5.block _ (Ow.lt_of_blk HT4.out)).trans HT4.out)
      have HR5 := hide ((hb5.block _ (Ow.lt_of_blk HR4.out)).trans HR4.out)
      clear hb5
      have hP := Ow.blk_put (Ow.blk_put HR5.out 0 (.int .i64 7)) 1 (.string ⟨#[]⟩)
      have HBz := hide ((HB5.out.setCell (p := ⟨w.heap.size + 3, 0, none⟩) (by show w.heap.size ≤ w.heap.size + 3; omega) (.int .i64 7)).setCell (p := ⟨w.heap.size + 3, 1, none⟩) (by show w.heap.size ≤ w.heap.size + 3; omega) (.string ⟨#[]⟩))
      have s0 := cell_box HR5.out 0
      have s1 := cell_box HR5.out 1
      have f0 := Ow.fz_blk HR5.out 0
      have f1 := Ow.fz_blk HR5.out 1
      have z0 := cell_box hP 0
      have z1 := cell_box hP 1
      clear hP
      go_wp2_with fail
      refine bodyPost_ret (v := .agg #[.int .i64 7, .string ⟨#[]⟩]) (by simp [results, Tryz.results23, go_sem, *]) rfl ?_
      exact ⟨by rw [HF.out] <;> rfl, HBz.out⟩
    | true =>
      have HXa := hide hra
      cases hrb : (ka != 2 && ka != 7) with
      | false =>
        have HF : Hid (Lx.meetL cs ka ka na nb = (7, [])) := hide (by unfold Lx.meetL; rw [if_neg (fun h => HEN.out h.2), if_pos (.inr hrb)])
        have HXb := hide hrb
        clear hra hrb
        go_wp2_with fail
        rw [← hw4]
        clear hw4
        refine (isRef_any ka _ _).mono ?_
        rintro e w5 ⟨rfl, hb5⟩
        rw [HXa.out]
        have HB5 := hide (HB4.out.trans (hb5.mono HB4.out.size))
        have HC5 := hide ((hb5.block _ (Ow.lt_of_blk HC4.out)).trans HC4.out)
        have HA5 := hide ((hb5.block _ (Ow.lt_of_blk HA4.out)).trans HA4.out)
        have HT5 := hide ((hb5.block _ (Ow.lt_of_blk HT4.out)).trans HT4.out)
        have HR5 := hide ((hb5.block _ (Ow.lt_of_blk HR4.out)).trans HR4.out)
        clear hb5
        have b0 := cell_box HT5.out 0
        have b1 := cell_box HT5.out 1
        go_wp2_with fail
        refine (isRef_any ka _ _).mono ?_
        rintro e w6 ⟨rfl, hb6⟩
        rw [HXb.out]
        have HB6 := hide (HB5.out.trans (hb6.mono HB5.out.size))
        have HC6 := hide ((hb6.block _ (Ow.lt_of_blk HC5.out)).trans HC5.out)
        have HA6 := hide ((hb6.block _ (Ow.lt_of_blk HA5.out)).trans HA5.out)
        have HT6 := hide ((hb6.block _ (Ow.lt_of_blk HT5.out)).trans HT5.out)
        have HR6 := hide ((hb6.block _ (Ow.lt_of_blk HR5.out)).trans HR5.out)
        clear hb6
        clear b0 b1
        have hP := Ow.blk_put (Ow.blk_put HR6.out 0 (.int .i64 7)) 1 (.string ⟨#[]⟩)
        have HBz := hide ((HB6.out.setCell (p := ⟨w.heap.size + 3, 0, none⟩) (by show w.heap.size ≤ w.heap.size + 3; omega) (.int .i64 7)).setCell (p := ⟨w.heap.size + 3, 1, none⟩) (by show w.heap.size ≤ w.heap.size + 3; omega) (.string ⟨#[]⟩))
        have s0 := cell_box HR6.out 0
        have s1 := cell_box HR6.out 1
        have f0 := Ow.fz_blk HR6.out 0
        have f1 := Ow.fz_blk HR6.out 1
        have z0 := cell_box hP 0
        have z1 := cell_box hP 1
        clear hP
        go_wp2_with fail
        refine bodyPost_ret (v := .agg #[.int .i64 7, .string ⟨#[]⟩]) (by simp [results, Tryz.results23, go_sem, *]) rfl ?_
        exact ⟨by rw [HF.out] <;> rfl, HBz.out⟩
      | true =>
        have HXb := hide hrb
        clear hra hrb
        have HRE : Hid (¬ ((ka != 2 && ka != 7) = false ∨ (ka != 2 && ka != 7) = false)) := hide (by intro h; rcases h with h | h; exact absurd (HXa.out.symm.trans h) (by decide); exact absurd (HXb.out.symm.trans h) (by decide))
        go_wp2_with fail
        rw [← hw4]
        clear hw4
        refine (isRef_any ka _ _).mono ?_
        rintro e w5 ⟨rfl, hb5⟩
        rw [HXa.out]
        have HB5 := hide (HB4.out.trans (hb5.mono HB4.out.size))
        have HC5 := hide ((hb5.block _ (Ow.lt_of_blk HC4.out)).trans HC4.out)
        have HA5 := hide ((hb5.block _ (Ow.lt_of_blk HA4.out)).trans HA4.out)
        have HT5 := hide ((hb5.block _ (Ow.lt_of_blk HT4.out)).trans HT4.out)
        have HR5 := hide ((hb5.block _ (Ow.lt_of_blk HR4.out)).trans HR4.out)
        clear hb5
        have b0 := cell_box HT5.out 0
        have b1 := cell_box HT5.out 1
        go_wp2_with fail
        refine (isRef_any ka _ _).mono ?_
        rintro e w6 ⟨rfl, hb6⟩
        rw [HXb.out]
        have HB6 := hide (HB5.out.trans (hb6.mono HB5.out.size))
        have HC6 := hide ((hb6.block _ (Ow.lt_of_blk HC5.out)).trans HC5.out)
        have HA6 := hide ((hb6.block _ (Ow.lt_of_blk HA5.out)).trans HA5.out)
        have HT6 := hide ((hb6.block _ (Ow.lt_of_blk HT5.out)).trans HT5.out)
        have HR6 := hide ((hb6.block _ (Ow.lt_of_blk HR5.out)).trans HR5.out)
        clear hb6
        clear b0 b1
        have a0 := cell_box HA6.out 0
        have a1 := cell_box HA6.out 1
        have b0 := cell_box HT6.out 0
        have b1 := cell_box HT6.out 1
        by_cases h6 : ka = 6
        · have HF : Hid (Lx.meetL cs ka ka na nb = (ka, nb)) := hide (by unfold Lx.meetL; rw [if_neg (fun h => HEN.out h.2), if_neg HRE.out, if_pos h6])
          have g6 : (ka == 6) = true := by simp [h6]
          clear h6
          have hP := Ow.blk_put (Ow.blk_put HR6.out 0 (.int .i64 ka)) 1 (.string ⟨nb.toArray⟩)
          have HBz := hide ((HB6.out.setCell (p := ⟨w.heap.size + 3, 0, none⟩) (by show w.heap.size ≤ w.heap.size + 3; omega) (.int .i64 ka)).setCell (p := ⟨w.heap.size + 3, 1, none⟩) (by show w.heap.size ≤ w.heap.size + 3; omega) (.string ⟨nb.toArray⟩))
          have s0 := cell_box HR6.out 0
          have s1 := cell_box HR6.out 1
          have f0 := Ow.fz_blk HR6.out 0
          have f1 := Ow.fz_blk HR6.out 1
          have z0 := cell_box hP 0
          have z1 := cell_box hP 1
          clear hP
          go_wp2_with fail
          refine bodyPost_ret (v := .agg #[.int .i64 ka, .string ⟨nb.toArray⟩]) (by simp [results, Tryz.results23, go_sem, *]) rfl ?_
          exact ⟨by rw [HF.out] <;> rfl, HBz.out⟩
        have g6 : (ka == 6) = false := by simpa using h6
        by_cases h3 : ka = 3
        · have HF : Hid (Lx.meetL cs ka ka na nb = (3, Lx.meetN cs na nb)) := hide (by unfold Lx.meetL; rw [if_neg (fun h => HEN.out h.2), if_neg HRE.out, if_neg h6, if_neg h6, if_pos ⟨h3, h3⟩])
          have g3 : (ka == 3) = true := by simp [h3]
          have HK := hide (hk h3 h3)
          clear h3 h6
          have p0 := cell_box HC6.out 0
          go_wp2_with fail
          refine (HMn.out HK.out w6 HB6.out).mono ?_
          rintro e w7 ⟨rfl, hb7⟩
          have HB7 := hide (HB6.out.trans (hb7.mono HB6.out.size))
          have HR7 := hide ((hb7.block _ (Ow.lt_of_blk HR6.out)).trans HR6.out)
          clear hb7 p0 a0 a1 b0 b1
          go_wp2_with fail
          refine (ref_any _ _).mono ?_
          rintro e w8 ⟨rfl, hb8⟩
          have HB8 := hide (HB7.out.trans (hb8.mono HB7.out.size))
          have HR8 := hide ((hb8.block _ (Ow.lt_of_blk HR7.out)).trans HR7.out)
          clear hb8
          have hP := Ow.blk_put (Ow.blk_put HR8.out 0 (.int .i64 3)) 1 (.string ⟨(Lx.meetN cs na nb).toArray⟩)
          have HBz := hide ((HB8.out.setCell (p := ⟨w.heap.size + 3, 0, none⟩) (by show w.heap.size ≤ w.heap.size + 3; omega) (.int .i64 3)).setCell (p := ⟨w.heap.size + 3, 1, none⟩) (by show w.heap.size ≤ w.heap.size + 3; omega) (.string ⟨(Lx.meetN cs na nb).toArray⟩))
          have s0 := cell_box HR8.out 0
          have s1 := cell_box HR8.out 1
          have f0 := Ow.fz_blk HR8.out 0
          have f1 := Ow.fz_blk HR8.out 1
          have z0 := cell_box hP 0
          have z1 := cell_box hP 1
          clear hP
          go_wp2_with fail
          refine bodyPost_ret (v := .agg #[.int .i64 3, .string ⟨(Lx.meetN cs na nb).toArray⟩]) (by simp [results, Tryz.results23, go_sem, *]) rfl ?_
          exact ⟨by rw [HF.out] <;> rfl, HBz.out⟩
        have g3 : (ka == 3) = false := by simpa using h3
        have HF : Hid (Lx.meetL cs ka ka na nb = (3, Hr.objN)) := hide (by unfold Lx.meetL; rw [if_neg (fun h => HEN.out h.2), if_neg HRE.out, if_neg h6, if_neg h6, if_neg (fun h => h3 h.1)])
        clear h3 h6
        go_wp2_with fail
        refine (ref_any _ _).mono ?_
        rintro e w7 ⟨rfl, hb7⟩
        have HB7 := hide (HB6.out.trans (hb7.mono HB6.out.size))
        have HR7 := hide ((hb7.block _ (Ow.lt_of_blk HR6.out)).trans HR6.out)
        clear hb7
        have hP := Ow.blk_put (Ow.blk_put HR7.out 0 (.int .i64 3)) 1 (.string ⟨#[79, 98, 106, 101, 99, 116]⟩)
        have HBz := hide ((HB7.out.setCell (p := ⟨w.heap.size + 3, 0, none⟩) (by show w.heap.size ≤ w.heap.size + 3; omega) (.int .i64 3)).setCell (p := ⟨w.heap.size + 3, 1, none⟩) (by show w.heap.size ≤ w.heap.size + 3; omega) (.string ⟨#[79, 98, 106, 101, 99, 116]⟩))
        have s0 := cell_box HR7.out 0
        have s1 := cell_box HR7.out 1
        have f0 := Ow.fz_blk HR7.out 0
        have f1 := Ow.fz_blk HR7.out 1
        have z0 := cell_box hP 0
        have z1 := cell_box hP 1
        clear hP
        go_wp2_with fail
        refine bodyPost_ret (v := .agg #[.int .i64 3, .string ⟨#[79, 98, 106, 101, 99, 116]⟩]) (by simp [results, Tryz.results23, go_sem, *]) rfl ?_
        exact ⟨by rw [HF.out] <;> rfl, HBz.out⟩
  · have gk : (ka == kb) = false := by simpa using ek
    have HEK := hide ek
    clear hab ek
    cases hra : (ka != 2 && ka != 7) with
    | false =>
      have HF : Hid (Lx.meetL cs ka kb na nb = (7, [])) := hide (by unfold Lx.meetL; rw [if_neg (fun h => HEK.out h.1), if_pos (.inl hra)])
      have HX := hide hra
      clear hra
      go_wp2_with fail
      rw [← hw4]
      clear hw4
      refine (isRef_any ka _ _).mono ?_
      rintro e w5 ⟨rfl, hb5⟩
      rw [HX.out]
      have HB5 := hide (HB4.out.trans (hb5.mono HB4.out.size))
      have HC5 := hide ((hb5.block _ (Ow.lt_of_blk HC4.out)).trans HC4.out)
      have HA5 := hide ((hb5.block _ (Ow.lt_of_blk HA4.out)).trans HA4.out)
      have HT5 := hide ((hb5.block _ (Ow.lt_of_blk HT4.out)).trans HT4.out)
      have HR5 := hide ((hb5.block _ (Ow.lt_of_blk HR4.out)).trans HR4.out)
      clear hb5
      have hP := Ow.blk_put (Ow.blk_put HR5.out 0 (.int .i64 7)) 1 (.string ⟨#[]⟩)
      have HBz := hide ((HB5.out.setCell (p := ⟨w.heap.size + 3, 0, none⟩) (by show w.heap.size ≤ w.heap.size + 3; omega) (.int .i64 7)).setCell (p := ⟨w.heap.size + 3, 1, none⟩) (by show w.heap.size ≤ w.heap.size + 3; omega) (.string ⟨#[]⟩))
      have s0 := cell_box HR5.out 0
      have s1 := cell_box HR5.out 1
      have f0 := Ow.fz_blk HR5.out 0
      have f1 := Ow.fz_blk HR5.out 1
      have z0 := cell_box hP 0
      have z1 := cell_box hP 1
      clear hP
      go_wp2_with fail
      refine bodyPost_ret (v := .agg #[.int .i64 7, .string ⟨#[]⟩]) (by simp [results, Tryz.results23, go_sem, *]) rfl ?_
      exact ⟨by rw [HF.out] <;> rfl, HBz.out⟩
    | true =>
      have HXa := hide hra
      cases hrb : (kb != 2 && kb != 7) with
      | false =>
        have HF : Hid (Lx.meetL cs ka kb na nb = (7, [])) := hide (by unfold Lx.meetL; rw [if_neg (fun h => HEK.out h.1), if_pos (.inr hrb)])
        have HXb := hide hrb
        clear hra hrb
        go_wp2_with fail
        rw [← hw4]
        clear hw4
        refine (isRef_any ka _ _).mono ?_
        rintro e w5 ⟨rfl, hb5⟩
        rw [HXa.out]
        have HB5 := hide (HB4.out.trans (hb5.mono HB4.out.size))
        have HC5 := hide ((hb5.block _ (Ow.lt_of_blk HC4.out)).trans HC4.out)
        have HA5 := hide ((hb5.block _ (Ow.lt_of_blk HA4.out)).trans HA4.out)
        have HT5 := hide ((hb5.block _ (Ow.lt_of_blk HT4.out)).trans HT4.out)
        have HR5 := hide ((hb5.block _ (Ow.lt_of_blk HR4.out)).trans HR4.out)
        clear hb5
        have b0 := cell_box HT5.out 0
        have b1 := cell_box HT5.out 1
        go_wp2_with fail
        refine (isRef_any kb _ _).mono ?_
        rintro e w6 ⟨rfl, hb6⟩
        rw [HXb.out]
        have HB6 := hide (HB5.out.trans (hb6.mono HB5.out.size))
        have HC6 := hide ((hb6.block _ (Ow.lt_of_blk HC5.out)).trans HC5.out)
        have HA6 := hide ((hb6.block _ (Ow.lt_of_blk HA5.out)).trans HA5.out)
        have HT6 := hide ((hb6.block _ (Ow.lt_of_blk HT5.out)).trans HT5.out)
        have HR6 := hide ((hb6.block _ (Ow.lt_of_blk HR5.out)).trans HR5.out)
        clear hb6
        clear b0 b1
        have hP := Ow.blk_put (Ow.blk_put HR6.out 0 (.int .i64 7)) 1 (.string ⟨#[]⟩)
        have HBz := hide ((HB6.out.setCell (p := ⟨w.heap.size + 3, 0, none⟩) (by show w.heap.size ≤ w.heap.size + 3; omega) (.int .i64 7)).setCell (p := ⟨w.heap.size + 3, 1, none⟩) (by show w.heap.size ≤ w.heap.size + 3; omega) (.string ⟨#[]⟩))
        have s0 := cell_box HR6.out 0
        have s1 := cell_box HR6.out 1
        have f0 := Ow.fz_blk HR6.out 0
        have f1 := Ow.fz_blk HR6.out 1
        have z0 := cell_box hP 0
        have z1 := cell_box hP 1
        clear hP
        go_wp2_with fail
        refine bodyPost_ret (v := .agg #[.int .i64 7, .string ⟨#[]⟩]) (by simp [results, Tryz.results23, go_sem, *]) rfl ?_
        exact ⟨by rw [HF.out] <;> rfl, HBz.out⟩
      | true =>
        have HXb := hide hrb
        clear hra hrb
        have HRE : Hid (¬ ((ka != 2 && ka != 7) = false ∨ (kb != 2 && kb != 7) = false)) := hide (by intro h; rcases h with h | h; exact absurd (HXa.out.symm.trans h) (by decide); exact absurd (HXb.out.symm.trans h) (by decide))
        go_wp2_with fail
        rw [← hw4]
        clear hw4
        refine (isRef_any ka _ _).mono ?_
        rintro e w5 ⟨rfl, hb5⟩
        rw [HXa.out]
        have HB5 := hide (HB4.out.trans (hb5.mono HB4.out.size))
        have HC5 := hide ((hb5.block _ (Ow.lt_of_blk HC4.out)).trans HC4.out)
        have HA5 := hide ((hb5.block _ (Ow.lt_of_blk HA4.out)).trans HA4.out)
        have HT5 := hide ((hb5.block _ (Ow.lt_of_blk HT4.out)).trans HT4.out)
        have HR5 := hide ((hb5.block _ (Ow.lt_of_blk HR4.out)).trans HR4.out)
        clear hb5
        have b0 := cell_box HT5.out 0
        have b1 := cell_box HT5.out 1
        go_wp2_with fail
        refine (isRef_any kb _ _).mono ?_
        rintro e w6 ⟨rfl, hb6⟩
        rw [HXb.out]
        have HB6 := hide (HB5.out.trans (hb6.mono HB5.out.size))
        have HC6 := hide ((hb6.block _ (Ow.lt_of_blk HC5.out)).trans HC5.out)
        have HA6 := hide ((hb6.block _ (Ow.lt_of_blk HA5.out)).trans HA5.out)
        have HT6 := hide ((hb6.block _ (Ow.lt_of_blk HT5.out)).trans HT5.out)
        have HR6 := hide ((hb6.block _ (Ow.lt_of_blk HR5.out)).trans HR5.out)
        clear hb6
        clear b0 b1
        have a0 := cell_box HA6.out 0
        have a1 := cell_box HA6.out 1
        have b0 := cell_box HT6.out 0
        have b1 := cell_box HT6.out 1
        by_cases h6 : ka = 6
        · have HF : Hid (Lx.meetL cs ka kb na nb = (kb, nb)) := hide (by unfold Lx.meetL; rw [if_neg (fun h => HEK.out h.1), if_neg HRE.out, if_pos h6])
          have g6 : (ka == 6) = true := by simp [h6]
          clear h6
          have hP := Ow.blk_put (Ow.blk_put HR6.out 0 (.int .i64 kb)) 1 (.string ⟨nb.toArray⟩)
          have HBz := hide ((HB6.out.setCell (p := ⟨w.heap.size + 3, 0, none⟩) (by show w.heap.size ≤ w.heap.size + 3; omega) (.int .i64 kb)).setCell (p := ⟨w.heap.size + 3, 1, none⟩) (by show w.heap.size ≤ w.heap.size + 3; omega) (.string ⟨nb.toArray⟩))
          have s0 := cell_box HR6.out 0
          have s1 := cell_box HR6.out 1
          have f0 := Ow.fz_blk HR6.out 0
          have f1 := Ow.fz_blk HR6.out 1
          have z0 := cell_box hP 0
          have z1 := cell_box hP 1
          clear hP
          go_wp2_with fail
          refine bodyPost_ret (v := .agg #[.int .i64 kb, .string ⟨nb.toArray⟩]) (by simp [results, Tryz.results23, go_sem, *]) rfl ?_
          exact ⟨by rw [HF.out] <;> rfl, HBz.out⟩
        have g6 : (ka == 6) = false := by simpa using h6
        by_cases h6' : kb = 6
        · have HF : Hid (Lx.meetL cs ka kb na nb = (ka, na)) := hide (by unfold Lx.meetL; rw [if_neg (fun h => HEK.out h.1), if_neg HRE.out, if_neg h6, if_pos h6'])
          have g6' : (kb == 6) = true := by simp [h6']
          clear h6 h6'
          have hP := Ow.blk_put (Ow.blk_put HR6.out 0 (.int .i64 ka)) 1 (.string ⟨na.toArray⟩)
          have HBz := hide ((HB6.out.setCell (p := ⟨w.heap.size + 3, 0, none⟩) (by show w.heap.size ≤ w.heap.size + 3; omega) (.int .i64 ka)).setCell (p := ⟨w.heap.size + 3, 1, none⟩) (by show w.heap.size ≤ w.heap.size + 3; omega) (.string ⟨na.toArray⟩))
          have s0 := cell_box HR6.out 0
          have s1 := cell_box HR6.out 1
          have f0 := Ow.fz_blk HR6.out 0
          have f1 := Ow.fz_blk HR6.out 1
          have z0 := cell_box hP 0
          have z1 := cell_box hP 1
          clear hP
          go_wp2_with fail
          refine bodyPost_ret (v := .agg #[.int .i64 ka, .string ⟨na.toArray⟩]) (by simp [results, Tryz.results23, go_sem, *]) rfl ?_
          exact ⟨by rw [HF.out] <;> rfl, HBz.out⟩
        have g6' : (kb == 6) = false := by simpa using h6'
        have HF : Hid (Lx.meetL cs ka kb na nb = (3, Hr.objN)) := hide (by unfold Lx.meetL; rw [if_neg (fun h => HEK.out h.1), if_neg HRE.out, if_neg h6, if_neg h6', if_neg (fun h => HEK.out (h.1.trans h.2.symm))])
        have g33 : (ka == 3 && kb == 3) = false := by
          cases e : (ka == 3 && kb == 3) with
          | false => rfl
          | true =>
            simp only [Bool.and_eq_true, beq_iff_eq] at e
            exact absurd (e.1.trans e.2.symm) HEK.out
        cases g3 : (ka == 3) with
        | false =>
          clear h6 h6' g33
          go_wp2_with fail
          refine (ref_any _ _).mono ?_
          rintro e w7 ⟨rfl, hb7⟩
          have HB7 := hide (HB6.out.trans (hb7.mono HB6.out.size))
          have HR7 := hide ((hb7.block _ (Ow.lt_of_blk HR6.out)).trans HR6.out)
          clear hb7
          have hP := Ow.blk_put (Ow.blk_put HR7.out 0 (.int .i64 3)) 1 (.string ⟨#[79, 98, 106, 101, 99, 116]⟩)
          have HBz := hide ((HB7.out.setCell (p := ⟨w.heap.size + 3, 0, none⟩) (by show w.heap.size ≤ w.heap.size + 3; omega) (.int .i64 3)).setCell (p := ⟨w.heap.size + 3, 1, none⟩) (by show w.heap.size ≤ w.heap.size + 3; omega) (.string ⟨#[79, 98, 106, 101, 99, 116]⟩))
          have s0 := cell_box HR7.out 0
          have s1 := cell_box HR7.out 1
          have f0 := Ow.fz_blk HR7.out 0
          have f1 := Ow.fz_blk HR7.out 1
          have z0 := cell_box hP 0
          have z1 := cell_box hP 1
          clear hP
          go_wp2_with fail
          refine bodyPost_ret (v := .agg #[.int .i64 3, .string ⟨#[79, 98, 106, 101, 99, 116]⟩]) (by simp [results, Tryz.results23, go_sem, *]) rfl ?_
          exact ⟨by rw [HF.out] <;> rfl, HBz.out⟩
        | true =>
          have g4 : (kb == 3) = false := by rw [g3] at g33; simpa using g33
          clear h6 h6' g33
          go_wp2_with fail
          refine (ref_any _ _).mono ?_
          rintro e w7 ⟨rfl, hb7⟩
          have HB7 := hide (HB6.out.trans (hb7.mono HB6.out.size))
          have HR7 := hide ((hb7.block _ (Ow.lt_of_blk HR6.out)).trans HR6.out)
          clear hb7
          have hP := Ow.blk_put (Ow.blk_put HR7.out 0 (.int .i64 3)) 1 (.string ⟨#[79, 98, 106, 101, 99, 116]⟩)
          have HBz := hide ((HB7.out.setCell (p := ⟨w.heap.size + 3, 0, none⟩) (by show w.heap.size ≤ w.heap.size + 3; omega) (.int .i64 3)).setCell (p := ⟨w.heap.size + 3, 1, none⟩) (by show w.heap.size ≤ w.heap.size + 3; omega) (.string ⟨#[79, 98, 106, 101, 99, 116]⟩))
          have s0 := cell_box HR7.out 0
          have s1 := cell_box HR7.out 1
          have f0 := Ow.fz_blk HR7.out 0
          have f1 := Ow.fz_blk HR7.out 1
          have z0 := cell_box hP 0
          have z1 := cell_box hP 1
          clear hP
          go_wp2_with fail
          refine bodyPost_ret (v := .agg #[.int .i64 3, .string ⟨#[79, 98, 106, 101, 99, 116]⟩]) (by simp [results, Tryz.results23, go_sem, *]) rfl ?_
          exact ⟨by rw [HF.out] <;> rfl, HBz.out⟩
end Go.Proofs.YtbbbnciejmdpfaaGreatDoor
namespace Go.Proofs.YtbbbnciejmdpfaaGreatDoor
open Go.RowKit
namespace Lx
open Pp Hr
def allR (cs : List XCls) (ts : List Ty) : Bool := ts.all fun t => rightL (allL cs) t.kind t.name
def lookOk (cs : List XCls) (ts : List Ty) : Bool := Ly.layE cs == 0 && allR cs ts
theorem lay_err {cs : List XCls} (h : Ly.layE cs = 0) : errL cs = 0 := by
  unfold Ly.layE at h
  split at h
  · assumption
  · exact h
def Looked (cs : List XCls) (ok : Bool) (e : Ending) (w : World) : Prop := (ok = true ∧ ∃ hv, e = .returned (.tuple #[.agg #[hv], .bool true]) ∧ ProgX w hv (cs.map hd)) ∨ (ok = false ∧ e = .returned (.tuple #[.agg #[.slice none 0 0], .bool false]))
end Lx
theorem llook_any (cs : List Pp.XCls) (v : Value) (ts : List Pp.Ty) (tv : Value) (w : World) (ht : TabS w) (h : ProgX w v cs) (hl : Pp.Light cs) (hT : RowX w 2 TyX tv ts) (hn : ts.length ≤ 10) :
    Calls Tryz.prog 22 #[.agg #[v], tv] w fun e w' => Lx.Looked cs (Lx.lookOk cs ts) e w' ∧ Below w.heap.size w w' := by
  have HCk := hide (fun wx (hb : Below w.heap.size w wx) => lCheck_any cs v wx (ht.below hb) (h.on hb) hl)
  have HHd := hide (fun wx (hb : Below w.heap.size w wx) => headsOf_any cs v w wx h hb hl)
  have HTb := hide (fun wx (hb : Below w.heap.size w wx) => ht.below hb)
  have HL := hide (Lx.light_hd hl)
  have HTs := hide hT
  obtain ⟨pa, pc, rfl, _⟩ := h.1.len
  obtain ⟨ta, tc, rfl, _⟩ := hT.len
  obtain ⟨m, hm⟩ : ∃ m, m = ts.length := ⟨_, rfl⟩
  have HMx := hide hm
  rw [← hm] at HTs hn ⊢
  generalize cs.length = n at *
  obtain ⟨ok, hok⟩ : ∃ ok, ok = Lx.lookOk cs ts := ⟨_, rfl⟩
  have HOk := hide hok
  rw [← hok]
  clear hok hm h ht hl hT
  have HB0 := hide (Ow.bel_alloc2 w (.cells #[.slice pa n pc] 24) (.cells #[.slice none 0 0] 24))
  have HC0 := hide (Ow.blk_alloc2a w (.cells #[.slice pa n pc] 24) (.cells #[.slice none 0 0] 24))
  have HR0 := hide (Ow.blk_alloc2b w (.cells #[.slice pa n pc] 24) (.cells #[.slice none 0 0] 24))
  go_enter Tryz.func22, Tryz.ntmps22
  go_wp2_with fail
  generalize (w.alloc (.cells #[.slice pa n pc] 24)).alloc (.cells #[.slice none 0 0] 24) = w0 at *
  refine (HCk.out w0 HB0.out).mono ?_
  rintro e w1 ⟨rfl, hb1⟩
  have HB1 := hide (HB0.out.trans (hb1.mono HB0.out.size))
  have HC1 := hide ((hb1.block _ (Ow.lt_of_blk HC0.out)).trans HC0.out)
  have HR1 := hide ((hb1.block _ (Ow.lt_of_blk HR0.out)).trans HR0.out)
  clear hb1 HB0 HC0 HR0
  obtain ⟨le, hle⟩ : ∃ le, le = Ly.layE cs := ⟨_, rfl⟩
  rw [← hle]
  by_cases hz : le = 0
  case neg =>
    have HF : Hid (ok = false) := hide (by rw [HOk.out]; unfold Lx.lookOk; rw [← hle]; simp [hz])
    have g0 : (le != 0) = true := by simp [hz]
    clear hz hle
    have s0 := cell_box HR1.out 0
    have f0 := Ow.fz_blk HR1.out 0
    have hP := Ow.blk_put HR1.out 0 (.slice none 0 0)
    have HBz := hide (HB1.out.setCell (p := ⟨w.heap.size + 1, 0, none⟩) (by show w.heap.size ≤ w.heap.size + 1; omega) (.slice none 0 0))
    have z0 := cell_box hP 0
    clear hP
    go_wp2_with fail
    refine bodyPost_ret (v := .tuple #[.agg #[.slice none 0 0], .bool false]) (by simp [results, Tryz.results22, go_sem, *]) rfl ?_
    exact ⟨.inr ⟨HF.out, rfl⟩, HBz.out⟩
  case pos =>
    have HE := hide (hle.symm.trans hz)
    have g0 : (le != 0) = false := by simp [hz]
    clear hz hle
    have c0 := cell_box HC1.out 0
    go_wp2_with fail
    refine (HHd.out w1 HB1.out).mono ?_
    rintro e w2 ⟨hv, rfl, hpr, hb2⟩
    have HB2 := hide (HB1.out.trans (hb2.mono HB1.out.size))
    have HR2 := hide ((hb2.block _ (Ow.lt_of_blk HR1.out)).trans HR1.out)
    have HO2 := hide hpr
    have HP2 := hide (Lx.heads_prog hpr HB2.out HL.out)
    clear hb2 hpr HB1 HC1 HR1 c0 HCk HHd
    obtain ⟨qa, qc, hqe, _⟩ := HP2.out.1.len
    subst hqe
    have HO3 := hide (fun wx (hb : Below w2.heap.size w2 wx) => HO2.out.on hb fun _ _ h => h)
    clear HO2
    generalize (cs.map Lx.hd).length = n2 at *
    have HB3 := hide (HB2.out.alloc HB2.out.size (.cells #[.slice qa n2 qc] 24))
    have hA3 : Below w2.heap.size w2 (w2.alloc (.cells #[.slice qa n2 qc] 24)) := (Below.refl _ _).alloc (Nat.le_refl _) _
    have HR3 := hide ((hA3.block _ (Ow.lt_of_blk HR2.out)).trans HR2.out)
    have HH3 := hide (heap_alloc_new w2 (.cells #[.slice qa n2 qc] 24))
    have HP3 := hide (HP2.out.on hA3)
    have HO4 := hide (fun wx (hb : Below (w2.alloc (.cells #[.slice qa n2 qc] 24)).heap.size (w2.alloc (.cells #[.slice qa n2 qc] 24)) wx) => HO3.out wx (hA3.trans (hb.mono hA3.size)))
    clear hA3 HO3
    go_wp2_with fail
    have HT3 := hide (HTb.out _ HB3.out)
    generalize w2.alloc (.cells #[.slice qa n2 qc] 24) = w3 at *
    clear HP2 HR2
    go_loopw [17] (fun i wr => ∃ k : Nat, k ≤ m ∧ i = .int .i64 k ∧ Hid (Below w3.heap.size w3 wr) ∧ Hid (Lx.allR cs (ts.take k) = true)) (fun i _ => m - (intOf i).toNat)
    case atStart => exact ⟨0, Nat.zero_le _, rfl, hide (Below.refl _ _), hide rfl⟩
    case round =>
      obtain ⟨k, hk, rfl, HBr, HAl⟩ := hrel
      have HBw := hide (HB3.out.trans (HBr.out.mono HB3.out.size))
      have HRr := hide ((HBr.out.block _ (Ow.lt_of_blk HR3.out)).trans HR3.out)
      have HHr := hide ((HBr.out.block _ (Ow.lt_of_blk HH3.out)).trans HH3.out)
      by_cases hlt : k < m
      · obtain ⟨t, hx⟩ : ∃ t, ts[k]? = some t := ⟨ts[k]'(by rw [← HMx.out]; exact hlt), List.getElem?_eq_getElem _⟩
        obtain ⟨g1, o1, eg1, ys1, w1', hc1⟩ := Ow.row_at HTs.out hx
        subst eg1
        have HCx := hide (hc1 wr HBw.out)
        obtain ⟨rfl, hnm⟩ := w1'
        have r0 := HCx.out 0 _ rfl
        have r1 := HCx.out 1 _ rfl
        rw [Nat.add_zero] at r0
        have hlt' : (k : Int) < (m : Int) := by omega
        have hm10 : (m : Int) ≤ 10 := by omega
        have hA : Below wr.heap.size wr (wr.alloc (.cells #[.int .i64 t.kind, .string ⟨t.name.toArray⟩] 26)) := (Below.refl _ _).alloc (Nat.le_refl _) _
        have h0 := cell_box ((hA.block _ (Ow.lt_of_blk HHr.out)).trans HHr.out) 0
        have HBa := hide (HBr.out.trans (hA.mono HBr.out.size))
        have HRa := hide ((hA.block _ (Ow.lt_of_blk HRr.out)).trans HRr.out)
        have HRi := hide (isRight_any (cs.map Lx.hd) _ t _ (HTb.out _ (HBw.out.trans (hA.mono HBw.out.size))) (HP3.out.on HBa.out) HL.out)
        clear hc1 hA HCx
        go_wp2_with fail
        refine HRi.out.mono ?_
        rintro e w5 ⟨rfl, hb5⟩
        rw [Lx.rightH_hd (Lx.lay_err HE.out)]
        have HB5 := hide (HBa.out.trans (hb5.mono HBa.out.size))
        have HR5 := hide ((hb5.block _ (Ow.lt_of_blk HRa.out)).trans HRa.out)
        clear hb5 HRi r0 r1 h0 HRa HBa
        cases hq : Lx.rightL (Hr.allL cs) t.kind t.name with
        | false =>
          have HF : Hid (ok = false) := hide (by
            rw [HOk.out]
            unfold Lx.lookOk Lx.allR
            rw [Bool.and_eq_false_iff]
            right
            rw [List.all_eq_false]
            exact ⟨t, List.mem_of_getElem? hx, by rw [hq]; decide⟩)
          clear hq hx
          have s0 := cell_box HR5.out 0
          have f0 := Ow.fz_blk HR5.out 0
          have hP := Ow.blk_put HR5.out 0 (.slice none 0 0)
          have HBz := hide ((HB3.out.trans (HB5.out.mono HB3.out.size)).setCell (p := ⟨w.heap.size + 1, 0, none⟩) (by show w.heap.size ≤ w.heap.size + 1; omega) (.slice none 0 0))
          have z0 := cell_box hP 0
          clear hP
          go_wp2_with fail
          refine bodyPost_ret (v := .tuple #[.agg #[.slice none 0 0], .bool false]) (by simp [results, Tryz.results22, go_sem, *]) rfl ?_
          exact ⟨.inr ⟨HF.out, rfl⟩, HBz.out⟩
        | true =>
          have HG : Hid (Lx.allR cs (ts.take (k + 1)) = true) := hide (by
            have h1 := HAl.out
            unfold Lx.allR at h1 ⊢
            rw [List.take_add_one, hx, List.all_append, h1]
            simp [hq])
          clear hq hx
          go_wp2_with fail
          go_roundw
          case rel => exact ⟨k + 1, by omega, by go_num, HB5, HG⟩
          case measure => simp [intOf]; omega
      · have HF : Hid (ok = true) := hide (by
          rw [HOk.out]
          unfold Lx.lookOk
          rw [HE.out]
          have h1 := HAl.out
          rw [List.take_of_length_le (by rw [← HMx.out]; omega)] at h1
          rw [h1]; rfl)
        have hnl : ¬ ((k : Int) < (m : Int)) := by omega
        have h0 := cell_box HHr.out 0
        have s0 := cell_box HRr.out 0
        have f0 := Ow.fz_blk HRr.out 0
        have hP := Ow.blk_put HRr.out 0 (.slice qa n2 qc)
        have HBz := hide (HBw.out.setCell (p := ⟨w.heap.size + 1, 0, none⟩) (by show w.heap.size ≤ w.heap.size + 1; omega) (.slice qa n2 qc))
        have z0 := cell_box hP 0
        have hK : Ow.Kx 24 wr (wr.setCell ⟨w.heap.size + 1, 0, none⟩ (.slice qa n2 qc)) := Ow.Kx.set ⟨_, _, HRr.out⟩ 0 (.slice qa n2 qc)
        have HPz := hide (Lx.heads_prog ((HO4.out wr HBr.out).kx hK (by decide) fun _ _ h => h) HBz.out HL.out)
        clear hK
        clear hP
        go_wp2_with fail
        refine bodyPost_ret (v := .tuple #[.agg #[.slice qa n2 qc], .bool true]) (by simp [results, Tryz.results22, go_sem, *]) rfl ?_
        exact ⟨.inl ⟨HF.out, _, rfl, HPz.out⟩, HBz.out⟩
end Go.Proofs.YtbbbnciejmdpfaaGreatDoor
namespace Go.Proofs.YtbbbnciejmdpfaaGreatDoor
open Go.RowKit
namespace Lx
open Pp Hr
theorem top_under {cs : List XCls} (he : errL cs = 0) {a : Bs} (h : Known cs a) : underQ cs a objN := by
  obtain ⟨p, c, hc, rfl⟩ := h
  exact under_top he hc
end Lx
end Go.Proofs.YtbbbnciejmdpfaaGreatDoor
