/- ParseTypes: the walk: each type is read as it is written. -/
import Derived.Test.YtpngpkbnhepleabDoorTypesM
import Derived.Test.YtpngpkbnhepleabDoorRefN
import Derived.Test.YtpngpkbnhepleabDoorRefK
import Derived.Deep.RegionHeld
namespace Go.Proofs.YtpngpkbnhepleabDoor
open Go.RowKit
set_option linter.unusedVariables false
set_option linter.unusedSimpArgs false

set_option maxRecDepth 100000 in
set_option maxHeartbeats 4000000 in
theorem types_walk0 (x : Int) (name : List UInt8) (w : World) (ht : TabS w) (hnm : Lx.nameL name = true) (hkp : Pp.keptL name = false) (hkx : wrap64 ((IntKind.u64.wrap x).tmod 5) = 0) :
    Calls Tryd.prog 5 #[.int .i64 x, .string ⟨name.toArray⟩] w fun e w' => e = .returned (.bool true) ∧ Below w.heap.size w w' := by
  have hl20 := Lx.nameL_len name hnm
  have hN := hide (refName_is ⟨name.toArray⟩ true hnm (by simp [ByteArray.size]; unfold maxLen; omega) w)
  have hKp := hide (refKept_any name w)
  rw [hkp] at hKp
  have hok : Pp.okTy ⟨1, []⟩ := .inl ⟨by decide, rfl⟩
  have hpr := hide (Pp.program_ty hok)
  obtain ⟨nB, hnB⟩ : ∃ nB : ByteArray, nB = ⟨name.toArray⟩ := ⟨_, rfl⟩
  have HNB := hide hnB
  have hnsz : nB.size ≤ 20 := by rw [hnB]; simpa [ByteArray.size] using hl20
  rw [← hnB] at hN hKp ⊢
  have HT := hide ht
  clear ht hnm hkp hnB hok
  go_enter Tryd.func5, Tryd.ntmps5
  go_wp2_with fail
  refine hN.out.mono ?_
  rintro e wq ⟨rfl, hwq⟩
  have hwq := hwq.symm
  subst hwq
  clear hN
  go_wp2_with fail
  refine hKp.out.mono ?_
  clear hKp
  rintro e w1 ⟨rfl, hb1⟩
  have HB1 := hide hb1
  clear hb1
  go_upto_region 6 with fail
  obtain ⟨sB, hsB⟩ : ∃ sB : ByteArray, sB = ⟨#[118, 111, 105, 100]⟩ := ⟨_, rfl⟩
  have hsB2 : sB.data.toList = Pp.tyT ⟨1, []⟩ := by rw [hsB]; rfl
  have hsz : sB.size ≤ 10 := by rw [hsB]; decide
  rw [← hsB]
  clear hsB
  obtain ⟨S, hS⟩ : ∃ S : ByteArray, S = (⟨#[105, 110, 116, 101, 114, 102, 97, 99, 101, 32, 65, 32, 123, 32, 115, 116, 97, 116, 105, 99, 32, 102, 32, 58, 32]⟩ : ByteArray) ++ sB ++ ⟨#[32, 59, 32, 109, 101, 116, 104, 111, 100, 32, 109, 32, 40, 32]⟩ ++ sB ++ ⟨#[32, 44, 32]⟩ ++ sB ++ ⟨#[32, 41, 32]⟩ ++ sB ++ ⟨#[32, 59, 32, 125]⟩ := ⟨_, rfl⟩
  have hSl : S.data.toList = Pp.tyText (Pp.tyT ⟨1, []⟩) := by rw [hS, ← hsB2]; simp [Pp.tyText, Pp.l1, Pp.l2, Pp.l3, Pp.l4, Pp.l5]
  have hSs : S.size ≤ 300 := by rw [← Lx.toList_len, hSl]; decide
  have HSL := hide hSl
  have HE := hide hS.symm
  have hcv := fun w : World => Lib.run_convert_string_bytes (P := Tryd.prog) w 9 30 5 ((⟨#[105, 110, 116, 101, 114, 102, 97, 99, 101, 32, 65, 32, 123, 32, 115, 116, 97, 116, 105, 99, 32, 102, 32, 58, 32]⟩ : ByteArray) ++ sB ++ ⟨#[32, 59, 32, 109, 101, 116, 104, 111, 100, 32, 109, 32, 40, 32]⟩ ++ sB ++ ⟨#[32, 44, 32]⟩ ++ sB ++ ⟨#[32, 41, 32]⟩ ++ sB ++ ⟨#[32, 59, 32, 125]⟩) (by kernel_rfl : Tryd.prog.underlying 9 = some .string) (by kernel_rfl) (by kernel_rfl)
  clear hS hSl hsB2
  go_wp2_with fail
  have hbZ : Hid (∀ o1 o2 o3, Below w.heap.size w (((w1.alloc o1).alloc o2).alloc o3)) := hide fun o1 o2 o3 => ((HB1.out.alloc HB1.out.size o1).alloc (by have := HB1.out.size; simp; omega) o2).alloc (by have := HB1.out.size; simp; omega) o3
  refine (Program_txt _ _ _ _ S (Pp.tyProg ⟨1, []⟩) (by simp) (by simp only [ByteArray.size_append]; rfl) HE.out (by rw [HSL.out]; exact hpr.out) (HT.out.below (hbZ.out _ _ _)) (by omega)).mono ?_
  rintro e w3 ⟨v3, rfl, hp3, hb3⟩
  obtain ⟨g, o, c, g1, o1, c1, g2, o2, c2, pa, pc, ca, cc, ka, kc, rfl, ⟨hg, hg1, hg2⟩, k1, k4, k5, f1, f2, ⟨m0, m1, m2, m3, m4, m5, m6, m7, m8⟩, hpp⟩ := tyProg_mem hp3
  have HPP := hide hpp
  have hs3 := hb3.size
  simp at hs3
  have hwt0 : w3.cell? ⟨w1.heap.size + 1 + 1, 0, none⟩ = some (.int .i64 (Pp.Ty.kind ⟨1, []⟩)) := by
    rw [hb3.cell (by simp)]
    have := cell_box (heap_alloc_new ((w1.alloc (.cells #[.string sB, .string ⟨#[105, 110, 116]⟩, .string nB, .string ⟨#[105, 110, 116, 32, 91, 32, 93]⟩, .string (nB ++ ⟨#[32, 91, 32, 93]⟩)] 9)).alloc (.cells #[.int .i64 1, .string ⟨#[]⟩, .int .i64 2, .string ⟨#[]⟩, .int .i64 3, .string nB, .int .i64 4, .string ⟨#[]⟩, .int .i64 5, .string nB] 36)) (.cells #[.int .i64 (Pp.Ty.kind ⟨1, []⟩), .string ⟨#[]⟩] 36)) 0
    simpa using this
  have hwt1 : w3.cell? ⟨w1.heap.size + 1 + 1, 1, none⟩ = some (.string ⟨#[]⟩) := by
    rw [hb3.cell (by simp)]
    have := cell_box (heap_alloc_new ((w1.alloc (.cells #[.string sB, .string ⟨#[105, 110, 116]⟩, .string nB, .string ⟨#[105, 110, 116, 32, 91, 32, 93]⟩, .string (nB ++ ⟨#[32, 91, 32, 93]⟩)] 9)).alloc (.cells #[.int .i64 1, .string ⟨#[]⟩, .int .i64 2, .string ⟨#[]⟩, .int .i64 3, .string nB, .int .i64 4, .string ⟨#[]⟩, .int .i64 5, .string nB] 36)) (.cells #[.int .i64 (Pp.Ty.kind ⟨1, []⟩), .string ⟨#[]⟩] 36)) 1
    simpa using this
  have hnm : (⟨(Pp.Ty.name ⟨1, []⟩).toArray⟩ : ByteArray) = ⟨#[]⟩ := rfl
  rw [hnm] at f2 m5
  clear hnm
  have HBW3 := hide ((hbZ.out _ _ _).trans (hb3.mono (hbZ.out _ _ _).size))
  clear hp3 hb3 hpp hcv
  simp only at hwt0 f1 m4
  go_wp2_with fail
  have HC : Hid (∀ wd, Below w3.heap.size w3 wd → Calls Tryd.prog 11 #[.slice pa 2 pc, .slice (some ⟨wd.heap.size, 0, none⟩) 2 2] (wd.alloc (.cells #[.int .i64 (Pp.Ty.kind ⟨1, []⟩), .string ⟨#[]⟩, .int .i64 (Pp.Ty.kind ⟨1, []⟩), .string ⟨#[]⟩] 36)) fun e w'' => e = .returned (.bool true) ∧ Below wd.heap.size wd w'') := hide fun wd hd => by
    have ha := hd.alloc hd.size (.cells #[.int .i64 (Pp.Ty.kind ⟨1, []⟩), .string ⟨#[]⟩, .int .i64 (Pp.Ty.kind ⟨1, []⟩), .string ⟨#[]⟩] 36)
    refine (Types_same [⟨1, []⟩, ⟨1, []⟩] _ _ _ (by simp) (HPP.out.on ha fun _ _ h => h) (rowP_two wd ⟨1, []⟩ ⟨#[]⟩ rfl)).mono fun e w'' ⟨h1, h2⟩ => ⟨h1, ((Below.refl _ _).alloc (Nat.le_refl _) _).trans (h2.mono (by simp))⟩
  simp only at HC
  have hK : Hid (∀ wx, Below ((w3.alloc (.cells #[.slice (some ⟨g, o, none⟩) 1 c] 26)).alloc (.cells #[.string ⟨#[109]⟩, .bool false, .bool true, .slice pa 2 pc, .int .i64 (Pp.Ty.kind ⟨1, []⟩), .string ⟨#[]⟩, .int .i64 0, .slice ca 0 cc, .slice ka 0 kc] 45)).heap.size ((w3.alloc (.cells #[.slice (some ⟨g, o, none⟩) 1 c] 26)).alloc (.cells #[.string ⟨#[109]⟩, .bool false, .bool true, .slice pa 2 pc, .int .i64 (Pp.Ty.kind ⟨1, []⟩), .string ⟨#[]⟩, .int .i64 0, .slice ca 0 cc, .slice ka 0 kc] 45)) wx →
      (wx.cell? ⟨w3.heap.size, 0, none⟩ = some (.slice (some ⟨g, o, none⟩) 1 c) ∧ wx.cell? ⟨g, o + 4, none⟩ = some (.slice (some ⟨g1, o1, none⟩) 1 c1) ∧ wx.cell? ⟨g, o + 1, none⟩ = some (.bool true) ∧ wx.cell? ⟨g1, o1 + 1, none⟩ = some (.int .i64 (Pp.Ty.kind ⟨1, []⟩)) ∧ wx.cell? ⟨g1, o1 + 2, none⟩ = some (.string ⟨#[]⟩) ∧
        wx.cell? ⟨w1.heap.size + 1 + 1, 0, none⟩ = some (.int .i64 (Pp.Ty.kind ⟨1, []⟩)) ∧ wx.cell? ⟨w1.heap.size + 1 + 1, 1, none⟩ = some (.string ⟨#[]⟩) ∧ wx.cell? ⟨w3.heap.size + 1, 2, none⟩ = some (.bool true) ∧ wx.cell? ⟨w3.heap.size + 1, 3, none⟩ = some (.slice pa 2 pc) ∧ wx.cell? ⟨w3.heap.size + 1, 4, none⟩ = some (.int .i64 (Pp.Ty.kind ⟨1, []⟩)) ∧ wx.cell? ⟨w3.heap.size + 1, 5, none⟩ = some (.string ⟨#[]⟩)) ∧ Below w3.heap.size w3 wx) := hide fun wx hx => by
    obtain ⟨B1, B2, hB⟩ := box_two hx
    exact ⟨⟨B1 0, (hB.cell (by exact hg)).trans k4, (hB.cell (by exact hg)).trans k1, (hB.cell (by exact hg1)).trans f1, (hB.cell (by exact hg1)).trans f2, (hB.cell (by show w1.heap.size + 1 + 1 < _; omega)).trans hwt0, (hB.cell (by show w1.heap.size + 1 + 1 < _; omega)).trans hwt1, B2 2, B2 3, B2 4, B2 5⟩, hB⟩
  simp only at hK
  generalize hwy : ((w3.alloc (.cells #[.slice (some ⟨g, o, none⟩) 1 c] 26)).alloc _) = wy at hK ⊢
  have hD : Hid (Below wy.heap.size wy wy.drew) := hide ⟨rfl, rfl, rfl, Nat.le_refl _, fun _ _ => rfl⟩
  have hTY : Hid (∀ wx, Below wy.heap.size wy wx → TabS wx) := hide fun wx hx => HT.out.below (HBW3.out.trans ((hK.out wx hx).2.mono HBW3.out.size))
  clear hwy k1 k4 k5 f1 f2 m0 m1 m2 m3 m4 m5 m6 m7 m8 hwt0 hwt1 hg hg1 hg2
  go_region_held (fun wx => wx.cell? ⟨w3.heap.size, 0, none⟩ = some (.slice (some ⟨g, o, none⟩) 1 c) ∧ wx.cell? ⟨g, o + 4, none⟩ = some (.slice (some ⟨g1, o1, none⟩) 1 c1) ∧ wx.cell? ⟨g, o + 1, none⟩ = some (.bool true) ∧ wx.cell? ⟨g1, o1 + 1, none⟩ = some (.int .i64 1) ∧ wx.cell? ⟨g1, o1 + 2, none⟩ = some (.string ⟨#[]⟩) ∧
        wx.cell? ⟨w1.heap.size + 1 + 1, 0, none⟩ = some (.int .i64 1) ∧ wx.cell? ⟨w1.heap.size + 1 + 1, 1, none⟩ = some (.string ⟨#[]⟩) ∧ wx.cell? ⟨w3.heap.size + 1, 2, none⟩ = some (.bool true) ∧ wx.cell? ⟨w3.heap.size + 1, 3, none⟩ = some (.slice pa 2 pc) ∧ wx.cell? ⟨w3.heap.size + 1, 4, none⟩ = some (.int .i64 1) ∧ wx.cell? ⟨w3.heap.size + 1, 5, none⟩ = some (.string ⟨#[]⟩))
      (first | exact (hK.out _ HB7.out).1 | exact (hK.out _ HB6.out).1 | exact (hK.out _ (hD.out.alloc hD.out.size _)).1 | exact (hK.out _ hD.out).1)
      (first | (go_at_call 11; refine (HC.out _ (hK.out _ hD.out).2).mono ?_; rintro e w6 ⟨rfl, hb6⟩; have HB6 : Hid (Below wy.heap.size wy w6) := hide (hD.out.trans (hb6.mono hD.out.size)); clear hb6) | (go_at_call 7; refine (wakes_any _ (hTY.out _ HB6.out)).mono ?_; rintro e w7 ⟨rfl, hb7⟩; have HB7 : Hid (Below wy.heap.size wy w7) := hide (HB6.out.trans (hb7.mono HB6.out.size)); clear hb7))
  all_goals go_wp2_with fail
  all_goals go_ret
  all_goals exact ⟨rfl, HBW3.out.trans ((hK.out _ HB7.out).2.mono HBW3.out.size)⟩


set_option maxRecDepth 100000 in
set_option maxHeartbeats 4000000 in
theorem types_walk1 (x : Int) (name : List UInt8) (w : World) (ht : TabS w) (hnm : Lx.nameL name = true) (hkp : Pp.keptL name = false) (hkx : wrap64 ((IntKind.u64.wrap x).tmod 5) = 1) :
    Calls Tryd.prog 5 #[.int .i64 x, .string ⟨name.toArray⟩] w fun e w' => e = .returned (.bool true) ∧ Below w.heap.size w w' := by
  have hl20 := Lx.nameL_len name hnm
  have hN := hide (refName_is ⟨name.toArray⟩ true hnm (by simp [ByteArray.size]; unfold maxLen; omega) w)
  have hKp := hide (refKept_any name w)
  rw [hkp] at hKp
  have hok : Pp.okTy ⟨2, []⟩ := .inl ⟨by decide, rfl⟩
  have hpr := hide (Pp.program_ty hok)
  obtain ⟨nB, hnB⟩ : ∃ nB : ByteArray, nB = ⟨name.toArray⟩ := ⟨_, rfl⟩
  have HNB := hide hnB
  have hnsz : nB.size ≤ 20 := by rw [hnB]; simpa [ByteArray.size] using hl20
  rw [← hnB] at hN hKp ⊢
  have HT := hide ht
  clear ht hnm hkp hnB hok
  go_enter Tryd.func5, Tryd.ntmps5
  go_wp2_with fail
  refine hN.out.mono ?_
  rintro e wq ⟨rfl, hwq⟩
  have hwq := hwq.symm
  subst hwq
  clear hN
  go_wp2_with fail
  refine hKp.out.mono ?_
  clear hKp
  rintro e w1 ⟨rfl, hb1⟩
  have HB1 := hide hb1
  clear hb1
  go_upto_region 6 with fail
  obtain ⟨sB, hsB⟩ : ∃ sB : ByteArray, sB = ⟨#[105, 110, 116]⟩ := ⟨_, rfl⟩
  have hsB2 : sB.data.toList = Pp.tyT ⟨2, []⟩ := by rw [hsB]; rfl
  have hsz : sB.size ≤ 10 := by rw [hsB]; decide
  rw [← hsB]
  clear hsB
  obtain ⟨S, hS⟩ : ∃ S : ByteArray, S = (⟨#[105, 110, 116, 101, 114, 102, 97, 99, 101, 32, 65, 32, 123, 32, 115, 116, 97, 116, 105, 99, 32, 102, 32, 58, 32]⟩ : ByteArray) ++ sB ++ ⟨#[32, 59, 32, 109, 101, 116, 104, 111, 100, 32, 109, 32, 40, 32]⟩ ++ sB ++ ⟨#[32, 44, 32]⟩ ++ sB ++ ⟨#[32, 41, 32]⟩ ++ sB ++ ⟨#[32, 59, 32, 125]⟩ := ⟨_, rfl⟩
  have hSl : S.data.toList = Pp.tyText (Pp.tyT ⟨2, []⟩) := by rw [hS, ← hsB2]; simp [Pp.tyText, Pp.l1, Pp.l2, Pp.l3, Pp.l4, Pp.l5]
  have hSs : S.size ≤ 300 := by rw [← Lx.toList_len, hSl]; decide
  have HSL := hide hSl
  have HE := hide hS.symm
  have hcv := fun w : World => Lib.run_convert_string_bytes (P := Tryd.prog) w 9 30 5 ((⟨#[105, 110, 116, 101, 114, 102, 97, 99, 101, 32, 65, 32, 123, 32, 115, 116, 97, 116, 105, 99, 32, 102, 32, 58, 32]⟩ : ByteArray) ++ sB ++ ⟨#[32, 59, 32, 109, 101, 116, 104, 111, 100, 32, 109, 32, 40, 32]⟩ ++ sB ++ ⟨#[32, 44, 32]⟩ ++ sB ++ ⟨#[32, 41, 32]⟩ ++ sB ++ ⟨#[32, 59, 32, 125]⟩) (by kernel_rfl : Tryd.prog.underlying 9 = some .string) (by kernel_rfl) (by kernel_rfl)
  clear hS hSl hsB2
  go_wp2_with fail
  have hbZ : Hid (∀ o1 o2 o3, Below w.heap.size w (((w1.alloc o1).alloc o2).alloc o3)) := hide fun o1 o2 o3 => ((HB1.out.alloc HB1.out.size o1).alloc (by have := HB1.out.size; simp; omega) o2).alloc (by have := HB1.out.size; simp; omega) o3
  refine (Program_txt _ _ _ _ S (Pp.tyProg ⟨2, []⟩) (by simp) (by simp only [ByteArray.size_append]; rfl) HE.out (by rw [HSL.out]; exact hpr.out) (HT.out.below (hbZ.out _ _ _)) (by omega)).mono ?_
  rintro e w3 ⟨v3, rfl, hp3, hb3⟩
  obtain ⟨g, o, c, g1, o1, c1, g2, o2, c2, pa, pc, ca, cc, ka, kc, rfl, ⟨hg, hg1, hg2⟩, k1, k4, k5, f1, f2, ⟨m0, m1, m2, m3, m4, m5, m6, m7, m8⟩, hpp⟩ := tyProg_mem hp3
  have HPP := hide hpp
  have hs3 := hb3.size
  simp at hs3
  have hwt0 : w3.cell? ⟨w1.heap.size + 1 + 1, 0, none⟩ = some (.int .i64 (Pp.Ty.kind ⟨2, []⟩)) := by
    rw [hb3.cell (by simp)]
    have := cell_box (heap_alloc_new ((w1.alloc (.cells #[.string ⟨#[118, 111, 105, 100]⟩, .string sB, .string nB, .string ⟨#[105, 110, 116, 32, 91, 32, 93]⟩, .string (nB ++ ⟨#[32, 91, 32, 93]⟩)] 9)).alloc (.cells #[.int .i64 1, .string ⟨#[]⟩, .int .i64 2, .string ⟨#[]⟩, .int .i64 3, .string nB, .int .i64 4, .string ⟨#[]⟩, .int .i64 5, .string nB] 36)) (.cells #[.int .i64 (Pp.Ty.kind ⟨2, []⟩), .string ⟨#[]⟩] 36)) 0
    simpa using this
  have hwt1 : w3.cell? ⟨w1.heap.size + 1 + 1, 1, none⟩ = some (.string ⟨#[]⟩) := by
    rw [hb3.cell (by simp)]
    have := cell_box (heap_alloc_new ((w1.alloc (.cells #[.string ⟨#[118, 111, 105, 100]⟩, .string sB, .string nB, .string ⟨#[105, 110, 116, 32, 91, 32, 93]⟩, .string (nB ++ ⟨#[32, 91, 32, 93]⟩)] 9)).alloc (.cells #[.int .i64 1, .string ⟨#[]⟩, .int .i64 2, .string ⟨#[]⟩, .int .i64 3, .string nB, .int .i64 4, .string ⟨#[]⟩, .int .i64 5, .string nB] 36)) (.cells #[.int .i64 (Pp.Ty.kind ⟨2, []⟩), .string ⟨#[]⟩] 36)) 1
    simpa using this
  have hnm : (⟨(Pp.Ty.name ⟨2, []⟩).toArray⟩ : ByteArray) = ⟨#[]⟩ := rfl
  rw [hnm] at f2 m5
  clear hnm
  have HBW3 := hide ((hbZ.out _ _ _).trans (hb3.mono (hbZ.out _ _ _).size))
  clear hp3 hb3 hpp hcv
  simp only at hwt0 f1 m4
  go_wp2_with fail
  have HC : Hid (∀ wd, Below w3.heap.size w3 wd → Calls Tryd.prog 11 #[.slice pa 2 pc, .slice (some ⟨wd.heap.size, 0, none⟩) 2 2] (wd.alloc (.cells #[.int .i64 (Pp.Ty.kind ⟨2, []⟩), .string ⟨#[]⟩, .int .i64 (Pp.Ty.kind ⟨2, []⟩), .string ⟨#[]⟩] 36)) fun e w'' => e = .returned (.bool true) ∧ Below wd.heap.size wd w'') := hide fun wd hd => by
    have ha := hd.alloc hd.size (.cells #[.int .i64 (Pp.Ty.kind ⟨2, []⟩), .string ⟨#[]⟩, .int .i64 (Pp.Ty.kind ⟨2, []⟩), .string ⟨#[]⟩] 36)
    refine (Types_same [⟨2, []⟩, ⟨2, []⟩] _ _ _ (by simp) (HPP.out.on ha fun _ _ h => h) (rowP_two wd ⟨2, []⟩ ⟨#[]⟩ rfl)).mono fun e w'' ⟨h1, h2⟩ => ⟨h1, ((Below.refl _ _).alloc (Nat.le_refl _) _).trans (h2.mono (by simp))⟩
  simp only at HC
  have hK : Hid (∀ wx, Below ((w3.alloc (.cells #[.slice (some ⟨g, o, none⟩) 1 c] 26)).alloc (.cells #[.string ⟨#[109]⟩, .bool false, .bool true, .slice pa 2 pc, .int .i64 (Pp.Ty.kind ⟨2, []⟩), .string ⟨#[]⟩, .int .i64 0, .slice ca 0 cc, .slice ka 0 kc] 45)).heap.size ((w3.alloc (.cells #[.slice (some ⟨g, o, none⟩) 1 c] 26)).alloc (.cells #[.string ⟨#[109]⟩, .bool false, .bool true, .slice pa 2 pc, .int .i64 (Pp.Ty.kind ⟨2, []⟩), .string ⟨#[]⟩, .int .i64 0, .slice ca 0 cc, .slice ka 0 kc] 45)) wx →
      (wx.cell? ⟨w3.heap.size, 0, none⟩ = some (.slice (some ⟨g, o, none⟩) 1 c) ∧ wx.cell? ⟨g, o + 4, none⟩ = some (.slice (some ⟨g1, o1, none⟩) 1 c1) ∧ wx.cell? ⟨g, o + 1, none⟩ = some (.bool true) ∧ wx.cell? ⟨g1, o1 + 1, none⟩ = some (.int .i64 (Pp.Ty.kind ⟨2, []⟩)) ∧ wx.cell? ⟨g1, o1 + 2, none⟩ = some (.string ⟨#[]⟩) ∧
        wx.cell? ⟨w1.heap.size + 1 + 1, 0, none⟩ = some (.int .i64 (Pp.Ty.kind ⟨2, []⟩)) ∧ wx.cell? ⟨w1.heap.size + 1 + 1, 1, none⟩ = some (.string ⟨#[]⟩) ∧ wx.cell? ⟨w3.heap.size + 1, 2, none⟩ = some (.bool true) ∧ wx.cell? ⟨w3.heap.size + 1, 3, none⟩ = some (.slice pa 2 pc) ∧ wx.cell? ⟨w3.heap.size + 1, 4, none⟩ = some (.int .i64 (Pp.Ty.kind ⟨2, []⟩)) ∧ wx.cell? ⟨w3.heap.size + 1, 5, none⟩ = some (.string ⟨#[]⟩)) ∧ Below w3.heap.size w3 wx) := hide fun wx hx => by
    obtain ⟨B1, B2, hB⟩ := box_two hx
    exact ⟨⟨B1 0, (hB.cell (by exact hg)).trans k4, (hB.cell (by exact hg)).trans k1, (hB.cell (by exact hg1)).trans f1, (hB.cell (by exact hg1)).trans f2, (hB.cell (by show w1.heap.size + 1 + 1 < _; omega)).trans hwt0, (hB.cell (by show w1.heap.size + 1 + 1 < _; omega)).trans hwt1, B2 2, B2 3, B2 4, B2 5⟩, hB⟩
  simp only at hK
  generalize hwy : ((w3.alloc (.cells #[.slice (some ⟨g, o, none⟩) 1 c] 26)).alloc _) = wy at hK ⊢
  have hD : Hid (Below wy.heap.size wy wy.drew) := hide ⟨rfl, rfl, rfl, Nat.le_refl _, fun _ _ => rfl⟩
  have hTY : Hid (∀ wx, Below wy.heap.size wy wx → TabS wx) := hide fun wx hx => HT.out.below (HBW3.out.trans ((hK.out wx hx).2.mono HBW3.out.size))
  clear hwy k1 k4 k5 f1 f2 m0 m1 m2 m3 m4 m5 m6 m7 m8 hwt0 hwt1 hg hg1 hg2
  go_region_held (fun wx => wx.cell? ⟨w3.heap.size, 0, none⟩ = some (.slice (some ⟨g, o, none⟩) 1 c) ∧ wx.cell? ⟨g, o + 4, none⟩ = some (.slice (some ⟨g1, o1, none⟩) 1 c1) ∧ wx.cell? ⟨g, o + 1, none⟩ = some (.bool true) ∧ wx.cell? ⟨g1, o1 + 1, none⟩ = some (.int .i64 2) ∧ wx.cell? ⟨g1, o1 + 2, none⟩ = some (.string ⟨#[]⟩) ∧
        wx.cell? ⟨w1.heap.size + 1 + 1, 0, none⟩ = some (.int .i64 2) ∧ wx.cell? ⟨w1.heap.size + 1 + 1, 1, none⟩ = some (.string ⟨#[]⟩) ∧ wx.cell? ⟨w3.heap.size + 1, 2, none⟩ = some (.bool true) ∧ wx.cell? ⟨w3.heap.size + 1, 3, none⟩ = some (.slice pa 2 pc) ∧ wx.cell? ⟨w3.heap.size + 1, 4, none⟩ = some (.int .i64 2) ∧ wx.cell? ⟨w3.heap.size + 1, 5, none⟩ = some (.string ⟨#[]⟩))
      (first | exact (hK.out _ HB7.out).1 | exact (hK.out _ HB6.out).1 | exact (hK.out _ (hD.out.alloc hD.out.size _)).1 | exact (hK.out _ hD.out).1)
      (first | (go_at_call 11; refine (HC.out _ (hK.out _ hD.out).2).mono ?_; rintro e w6 ⟨rfl, hb6⟩; have HB6 : Hid (Below wy.heap.size wy w6) := hide (hD.out.trans (hb6.mono hD.out.size)); clear hb6) | (go_at_call 7; refine (wakes_any _ (hTY.out _ HB6.out)).mono ?_; rintro e w7 ⟨rfl, hb7⟩; have HB7 : Hid (Below wy.heap.size wy w7) := hide (HB6.out.trans (hb7.mono HB6.out.size)); clear hb7))
  all_goals go_wp2_with fail
  all_goals go_ret
  all_goals exact ⟨rfl, HBW3.out.trans ((hK.out _ HB7.out).2.mono HBW3.out.size)⟩


set_option maxRecDepth 100000 in
set_option maxHeartbeats 4000000 in
theorem types_walk3 (x : Int) (name : List UInt8) (w : World) (ht : TabS w) (hnm : Lx.nameL name = true) (hkp : Pp.keptL name = false) (hkx : wrap64 ((IntKind.u64.wrap x).tmod 5) = 3) :
    Calls Tryd.prog 5 #[.int .i64 x, .string ⟨name.toArray⟩] w fun e w' => e = .returned (.bool true) ∧ Below w.heap.size w w' := by
  have hl20 := Lx.nameL_len name hnm
  have hN := hide (refName_is ⟨name.toArray⟩ true hnm (by simp [ByteArray.size]; unfold maxLen; omega) w)
  have hKp := hide (refKept_any name w)
  rw [hkp] at hKp
  have hok : Pp.okTy ⟨4, []⟩ := .inl ⟨by decide, rfl⟩
  have hpr := hide (Pp.program_ty hok)
  obtain ⟨nB, hnB⟩ : ∃ nB : ByteArray, nB = ⟨name.toArray⟩ := ⟨_, rfl⟩
  have HNB := hide hnB
  have hnsz : nB.size ≤ 20 := by rw [hnB]; simpa [ByteArray.size] using hl20
  rw [← hnB] at hN hKp ⊢
  have HT := hide ht
  clear ht hnm hkp hnB hok
  go_enter Tryd.func5, Tryd.ntmps5
  go_wp2_with fail
  refine hN.out.mono ?_
  rintro e wq ⟨rfl, hwq⟩
  have hwq := hwq.symm
  subst hwq
  clear hN
  go_wp2_with fail
  refine hKp.out.mono ?_
  clear hKp
  rintro e w1 ⟨rfl, hb1⟩
  have HB1 := hide hb1
  clear hb1
  go_upto_region 6 with fail
  obtain ⟨sB, hsB⟩ : ∃ sB : ByteArray, sB = ⟨#[105, 110, 116, 32, 91, 32, 93]⟩ := ⟨_, rfl⟩
  have hsB2 : sB.data.toList = Pp.tyT ⟨4, []⟩ := by rw [hsB]; rfl
  have hsz : sB.size ≤ 10 := by rw [hsB]; decide
  rw [← hsB]
  clear hsB
  obtain ⟨S, hS⟩ : ∃ S : ByteArray, S = (⟨#[105, 110, 116, 101, 114, 102, 97, 99, 101, 32, 65, 32, 123, 32, 115, 116, 97, 116, 105, 99, 32, 102, 32, 58, 32]⟩ : ByteArray) ++ sB ++ ⟨#[32, 59, 32, 109, 101, 116, 104, 111, 100, 32, 109, 32, 40, 32]⟩ ++ sB ++ ⟨#[32, 44, 32]⟩ ++ sB ++ ⟨#[32, 41, 32]⟩ ++ sB ++ ⟨#[32, 59, 32, 125]⟩ := ⟨_, rfl⟩
  have hSl : S.data.toList = Pp.tyText (Pp.tyT ⟨4, []⟩) := by rw [hS, ← hsB2]; simp [Pp.tyText, Pp.l1, Pp.l2, Pp.l3, Pp.l4, Pp.l5]
  have hSs : S.size ≤ 300 := by rw [← Lx.toList_len, hSl]; decide
  have HSL := hide hSl
  have HE := hide hS.symm
  have hcv := fun w : World => Lib.run_convert_string_bytes (P := Tryd.prog) w 9 30 5 ((⟨#[105, 110, 116, 101, 114, 102, 97, 99, 101, 32, 65, 32, 123, 32, 115, 116, 97, 116, 105, 99, 32, 102, 32, 58, 32]⟩ : ByteArray) ++ sB ++ ⟨#[32, 59, 32, 109, 101, 116, 104, 111, 100, 32, 109, 32, 40, 32]⟩ ++ sB ++ ⟨#[32, 44, 32]⟩ ++ sB ++ ⟨#[32, 41, 32]⟩ ++ sB ++ ⟨#[32, 59, 32, 125]⟩) (by kernel_rfl : Tryd.prog.underlying 9 = some .string) (by kernel_rfl) (by kernel_rfl)
  clear hS hSl hsB2
  go_wp2_with fail
  have hbZ : Hid (∀ o1 o2 o3, Below w.heap.size w (((w1.alloc o1).alloc o2).alloc o3)) := hide fun o1 o2 o3 => ((HB1.out.alloc HB1.out.size o1).alloc (by have := HB1.out.size; simp; omega) o2).alloc (by have := HB1.out.size; simp; omega) o3
  refine (Program_txt _ _ _ _ S (Pp.tyProg ⟨4, []⟩) (by simp) (by simp only [ByteArray.size_append]; rfl) HE.out (by rw [HSL.out]; exact hpr.out) (HT.out.below (hbZ.out _ _ _)) (by omega)).mono ?_
  rintro e w3 ⟨v3, rfl, hp3, hb3⟩
  obtain ⟨g, o, c, g1, o1, c1, g2, o2, c2, pa, pc, ca, cc, ka, kc, rfl, ⟨hg, hg1, hg2⟩, k1, k4, k5, f1, f2, ⟨m0, m1, m2, m3, m4, m5, m6, m7, m8⟩, hpp⟩ := tyProg_mem hp3
  have HPP := hide hpp
  have hs3 := hb3.size
  simp at hs3
  have hwt0 : w3.cell? ⟨w1.heap.size + 1 + 1, 0, none⟩ = some (.int .i64 (Pp.Ty.kind ⟨4, []⟩)) := by
    rw [hb3.cell (by simp)]
    have := cell_box (heap_alloc_new ((w1.alloc (.cells #[.string ⟨#[118, 111, 105, 100]⟩, .string ⟨#[105, 110, 116]⟩, .string nB, .string sB, .string (nB ++ ⟨#[32, 91, 32, 93]⟩)] 9)).alloc (.cells #[.int .i64 1, .string ⟨#[]⟩, .int .i64 2, .string ⟨#[]⟩, .int .i64 3, .string nB, .int .i64 4, .string ⟨#[]⟩, .int .i64 5, .string nB] 36)) (.cells #[.int .i64 (Pp.Ty.kind ⟨4, []⟩), .string ⟨#[]⟩] 36)) 0
    simpa using this
  have hwt1 : w3.cell? ⟨w1.heap.size + 1 + 1, 1, none⟩ = some (.string ⟨#[]⟩) := by
    rw [hb3.cell (by simp)]
    have := cell_box (heap_alloc_new ((w1.alloc (.cells #[.string ⟨#[118, 111, 105, 100]⟩, .string ⟨#[105, 110, 116]⟩, .string nB, .string sB, .string (nB ++ ⟨#[32, 91, 32, 93]⟩)] 9)).alloc (.cells #[.int .i64 1, .string ⟨#[]⟩, .int .i64 2, .string ⟨#[]⟩, .int .i64 3, .string nB, .int .i64 4, .string ⟨#[]⟩, .int .i64 5, .string nB] 36)) (.cells #[.int .i64 (Pp.Ty.kind ⟨4, []⟩), .string ⟨#[]⟩] 36)) 1
    simpa using this
  have hnm : (⟨(Pp.Ty.name ⟨4, []⟩).toArray⟩ : ByteArray) = ⟨#[]⟩ := rfl
  rw [hnm] at f2 m5
  clear hnm
  have HBW3 := hide ((hbZ.out _ _ _).trans (hb3.mono (hbZ.out _ _ _).size))
  clear hp3 hb3 hpp hcv
  simp only at hwt0 f1 m4
  go_wp2_with fail
  have HC : Hid (∀ wd, Below w3.heap.size w3 wd → Calls Tryd.prog 11 #[.slice pa 2 pc, .slice (some ⟨wd.heap.size, 0, none⟩) 2 2] (wd.alloc (.cells #[.int .i64 (Pp.Ty.kind ⟨4, []⟩), .string ⟨#[]⟩, .int .i64 (Pp.Ty.kind ⟨4, []⟩), .string ⟨#[]⟩] 36)) fun e w'' => e = .returned (.bool true) ∧ Below wd.heap.size wd w'') := hide fun wd hd => by
    have ha := hd.alloc hd.size (.cells #[.int .i64 (Pp.Ty.kind ⟨4, []⟩), .string ⟨#[]⟩, .int .i64 (Pp.Ty.kind ⟨4, []⟩), .string ⟨#[]⟩] 36)
    refine (Types_same [⟨4, []⟩, ⟨4, []⟩] _ _ _ (by simp) (HPP.out.on ha fun _ _ h => h) (rowP_two wd ⟨4, []⟩ ⟨#[]⟩ rfl)).mono fun e w'' ⟨h1, h2⟩ => ⟨h1, ((Below.refl _ _).alloc (Nat.le_refl _) _).trans (h2.mono (by simp))⟩
  simp only at HC
  have hK : Hid (∀ wx, Below ((w3.alloc (.cells #[.slice (some ⟨g, o, none⟩) 1 c] 26)).alloc (.cells #[.string ⟨#[109]⟩, .bool false, .bool true, .slice pa 2 pc, .int .i64 (Pp.Ty.kind ⟨4, []⟩), .string ⟨#[]⟩, .int .i64 0, .slice ca 0 cc, .slice ka 0 kc] 45)).heap.size ((w3.alloc (.cells #[.slice (some ⟨g, o, none⟩) 1 c] 26)).alloc (.cells #[.string ⟨#[109]⟩, .bool false, .bool true, .slice pa 2 pc, .int .i64 (Pp.Ty.kind ⟨4, []⟩), .string ⟨#[]⟩, .int .i64 0, .slice ca 0 cc, .slice ka 0 kc] 45)) wx →
      (wx.cell? ⟨w3.heap.size, 0, none⟩ = some (.slice (some ⟨g, o, none⟩) 1 c) ∧ wx.cell? ⟨g, o + 4, none⟩ = some (.slice (some ⟨g1, o1, none⟩) 1 c1) ∧ wx.cell? ⟨g, o + 1, none⟩ = some (.bool true) ∧ wx.cell? ⟨g1, o1 + 1, none⟩ = some (.int .i64 (Pp.Ty.kind ⟨4, []⟩)) ∧ wx.cell? ⟨g1, o1 + 2, none⟩ = some (.string ⟨#[]⟩) ∧
        wx.cell? ⟨w1.heap.size + 1 + 1, 0, none⟩ = some (.int .i64 (Pp.Ty.kind ⟨4, []⟩)) ∧ wx.cell? ⟨w1.heap.size + 1 + 1, 1, none⟩ = some (.string ⟨#[]⟩) ∧ wx.cell? ⟨w3.heap.size + 1, 2, none⟩ = some (.bool true) ∧ wx.cell? ⟨w3.heap.size + 1, 3, none⟩ = some (.slice pa 2 pc) ∧ wx.cell? ⟨w3.heap.size + 1, 4, none⟩ = some (.int .i64 (Pp.Ty.kind ⟨4, []⟩)) ∧ wx.cell? ⟨w3.heap.size + 1, 5, none⟩ = some (.string ⟨#[]⟩)) ∧ Below w3.heap.size w3 wx) := hide fun wx hx => by
    obtain ⟨B1, B2, hB⟩ := box_two hx
    exact ⟨⟨B1 0, (hB.cell (by exact hg)).trans k4, (hB.cell (by exact hg)).trans k1, (hB.cell (by exact hg1)).trans f1, (hB.cell (by exact hg1)).trans f2, (hB.cell (by show w1.heap.size + 1 + 1 < _; omega)).trans hwt0, (hB.cell (by show w1.heap.size + 1 + 1 < _; omega)).trans hwt1, B2 2, B2 3, B2 4, B2 5⟩, hB⟩
  simp only at hK
  generalize hwy : ((w3.alloc (.cells #[.slice (some ⟨g, o, none⟩) 1 c] 26)).alloc _) = wy at hK ⊢
  have hD : Hid (Below wy.heap.size wy wy.drew) := hide ⟨rfl, rfl, rfl, Nat.le_refl _, fun _ _ => rfl⟩
  have hTY : Hid (∀ wx, Below wy.heap.size wy wx → TabS wx) := hide fun wx hx => HT.out.below (HBW3.out.trans ((hK.out wx hx).2.mono HBW3.out.size))
  clear hwy k1 k4 k5 f1 f2 m0 m1 m2 m3 m4 m5 m6 m7 m8 hwt0 hwt1 hg hg1 hg2
  go_region_held (fun wx => wx.cell? ⟨w3.heap.size, 0, none⟩ = some (.slice (some ⟨g, o, none⟩) 1 c) ∧ wx.cell? ⟨g, o + 4, none⟩ = some (.slice (some ⟨g1, o1, none⟩) 1 c1) ∧ wx.cell? ⟨g, o + 1, none⟩ = some (.bool true) ∧ wx.cell? ⟨g1, o1 + 1, none⟩ = some (.int .i64 4) ∧ wx.cell? ⟨g1, o1 + 2, none⟩ = some (.string ⟨#[]⟩) ∧
        wx.cell? ⟨w1.heap.size + 1 + 1, 0, none⟩ = some (.int .i64 4) ∧ wx.cell? ⟨w1.heap.size + 1 + 1, 1, none⟩ = some (.string ⟨#[]⟩) ∧ wx.cell? ⟨w3.heap.size + 1, 2, none⟩ = some (.bool true) ∧ wx.cell? ⟨w3.heap.size + 1, 3, none⟩ = some (.slice pa 2 pc) ∧ wx.cell? ⟨w3.heap.size + 1, 4, none⟩ = some (.int .i64 4) ∧ wx.cell? ⟨w3.heap.size + 1, 5, none⟩ = some (.string ⟨#[]⟩))
      (first | exact (hK.out _ HB7.out).1 | exact (hK.out _ HB6.out).1 | exact (hK.out _ (hD.out.alloc hD.out.size _)).1 | exact (hK.out _ hD.out).1)
      (first | (go_at_call 11; refine (HC.out _ (hK.out _ hD.out).2).mono ?_; rintro e w6 ⟨rfl, hb6⟩; have HB6 : Hid (Below wy.heap.size wy w6) := hide (hD.out.trans (hb6.mono hD.out.size)); clear hb6) | (go_at_call 7; refine (wakes_any _ (hTY.out _ HB6.out)).mono ?_; rintro e w7 ⟨rfl, hb7⟩; have HB7 : Hid (Below wy.heap.size wy w7) := hide (HB6.out.trans (hb7.mono HB6.out.size)); clear hb7))
  all_goals go_wp2_with fail
  all_goals go_ret
  all_goals exact ⟨rfl, HBW3.out.trans ((hK.out _ HB7.out).2.mono HBW3.out.size)⟩


end Go.Proofs.YtpngpkbnhepleabDoor
