/- ParseInstr: the walks, one for each kind of arguments. -/
import Derived.Test.YtpngpkbnhepleaaDoorInstrM
import Derived.Deep.RegionHeld
namespace Go.Proofs.YtpngpkbnhepleaaDoor
open Go.RowKit
set_option linter.unusedVariables false
set_option linter.unusedSimpArgs false

set_option maxRecDepth 100000 in
set_option maxHeartbeats 4000000 in
theorem instr_w2 (x y n : Int) (hn1 : 0 ≤ n ∧ n ≤ 7) (hn' : wrap64 ((IntKind.u64.wrap y).tmod 8) = n) (op : Nat) (hop : op < 44) (hsh : Pp.shape op = 2) (hox : wrap64 ((IntKind.u64.wrap x).tmod 44) = (op : Int)) (w : World) (ht : TabS w) :
    Calls Tryd.prog 8 #[.int .i64 x, .int .i64 y] w fun e w' => e = .returned (.bool true) ∧ Below w.heap.size w w' := by
  have hwd := (Pp.op_names op hop).2
  obtain ⟨wB, hwB⟩ : ∃ b : ByteArray, b = ⟨(Pp.opWords.getD op []).toArray⟩ := ⟨_, rfl⟩
  have hws : wB.size ≤ 10 := by rw [hwB]; simpa [ByteArray.size] using hwd
  obtain ⟨dB, hdB⟩ : ∃ b : ByteArray, b = ⟨(Lx.intL n).toArray⟩ := ⟨_, rfl⟩
  have hds : dB.size ≤ 21 := by rw [hdB]; have := (Lx.intL_len n).2; simpa [ByteArray.size] using this
  have hW : Hid (∀ w', Below w.heap.size w w' → Calls Tryd.prog 19 #[.int .i64 (op : Int)] w' fun e w'' => e = .returned (.string wB) ∧ w'' = w') := hide fun w' hb => by rw [hwB]; exact Word_in op hop w' (ht.below hb)
  have hSh : Hid (∀ w', Calls Tryd.prog 26 #[.int .i64 (op : Int)] w' fun e w'' => e = .returned (.int .i64 2) ∧ w'' = w') := hide fun w' => by have := Shape_any op hop w'; rw [hsh] at this; exact this
  have hDg : Hid (∀ w', Calls Tryd.prog 27 #[.int .i64 n] w' fun e w'' => e = .returned (.string dB) ∧ Below w'.heap.size w' w'') := hide fun w' => by rw [hdB]; exact Digits_any n (by omega) (by omega) w'
  have HT := hide ht
  have HWB := hide hwB
  have HDB := hide hdB
  obtain ⟨i, hi⟩ : ∃ i : Pp.Ins, i = ⟨op, n, [], []⟩ := ⟨_, rfl⟩
  have hok : Pp.okIns i := by rw [hi]; exact ⟨hop, .inr (.inl ⟨hsh, hn1.1, hn1.2, rfl, rfl⟩)⟩
  have hE : ((wB ++ ⟨#[32]⟩ ++ dB) : ByteArray).data.toList = Pp.insT i := by
    rw [hi, hwB, hdB]
    simp [Pp.insT, Pp.argT, hsh]
  obtain ⟨S1, hS1⟩ : ∃ S : ByteArray, S = (⟨#[99, 108, 97, 115, 115, 32, 65, 32, 123, 32, 109, 101, 116, 104, 111, 100, 32, 109, 32, 40, 32, 41, 32, 118, 111, 105, 100, 32, 108, 111, 99, 97, 108, 115, 32, 49, 32, 123, 32]⟩ : ByteArray) ++ (wB ++ ⟨#[32]⟩ ++ dB) ++ ⟨#[32, 59, 32, 125, 32, 125]⟩ := ⟨_, rfl⟩
  have hL1 : S1.data.toList = Pp.i1 ++ Pp.insT i ++ [32, 59, 32, 125, 32, 125] := by rw [hS1, ← hE]; simp [Pp.i1]
  have hz1 : S1.size ≤ 300 := by rw [← Lx.toList_len, hL1]; have := Pp.insT_len hok; simp [Pp.i1]; omega
  have HL1 := hide hL1
  have HE1 := hide hS1.symm
  clear hS1 hL1
  obtain ⟨S2, hS2⟩ : ∃ S : ByteArray, S = (⟨#[99, 108, 97, 115, 115, 32, 65, 32, 123, 32, 109, 101, 116, 104, 111, 100, 32, 109, 32, 40, 32, 41, 32, 118, 111, 105, 100, 32, 108, 111, 99, 97, 108, 115, 32, 49, 32, 123, 32]⟩ : ByteArray) ++ (wB ++ ⟨#[32]⟩ ++ dB) ++ ⟨#[32, 125, 32, 125]⟩ := ⟨_, rfl⟩
  have hL2 : S2.data.toList = Pp.i1 ++ Pp.insT i ++ [32, 125, 32, 125] := by rw [hS2, ← hE]; simp [Pp.i1]
  have hz2 : S2.size ≤ 300 := by rw [← Lx.toList_len, hL2]; have := Pp.insT_len hok; simp [Pp.i1]; omega
  have HL2 := hide hL2
  have HE2 := hide hS2.symm
  clear hS2 hL2
  obtain ⟨S3, hS3⟩ : ∃ S : ByteArray, S = (⟨#[99, 108, 97, 115, 115, 32, 65, 32, 123, 32, 109, 101, 116, 104, 111, 100, 32, 109, 32, 40, 32, 41, 32, 118, 111, 105, 100, 32, 108, 111, 99, 97, 108, 115, 32, 49, 32, 123, 32]⟩ : ByteArray) ++ (wB ++ ⟨#[32]⟩ ++ dB) ++ ⟨#[32, 55, 32, 120, 32, 59, 32, 125, 32, 125]⟩ := ⟨_, rfl⟩
  have hL3 : S3.data.toList = Pp.i1 ++ Pp.insT i ++ [32, 55, 32, 120, 32, 59, 32, 125, 32, 125] := by rw [hS3, ← hE]; simp [Pp.i1]
  have hz3 : S3.size ≤ 300 := by rw [← Lx.toList_len, hL3]; have := Pp.insT_len hok; simp [Pp.i1]; omega
  have HL3 := hide hL3
  have HE3 := hide hS3.symm
  clear hS3 hL3
  have hp1 := hide (Pp.program_ins hok)
  have hp2 := hide (Pp.program_insF hok)
  have hp3 := hide (Pp.program_insG hok)
  have HI := hide hi
  clear ht hwB hdB hwd hE hok hi
  go_enter Tryd.func8, Tryd.ntmps8
  go_wp2_with fail
  refine (hW.out _ ((Below.refl _ _).alloc (Nat.le_refl _) _)).mono ?_
  rintro e wq ⟨rfl, hwq⟩
  subst hwq
  go_wp2_with fail
  refine (hSh.out _).mono ?_
  rintro e wq ⟨rfl, hwq⟩
  subst hwq
  go_wp2_with fail
  refine (hDg.out _).mono ?_
  rintro e w1 ⟨rfl, hb1⟩
  have hbw1 : Below w.heap.size w w1 := ((Below.refl _ _).alloc (Nat.le_refl _) _).trans (hb1.mono (by simp))
  have hsz1 : w.heap.size < w1.heap.size := by have := hb1.size; simp at this; omega
  have q0 : w1.cell? ⟨w.heap.size, 0, none⟩ = some (.int .i64 (op : Int)) := (hb1.cell (by simp)).trans (cell_box (heap_alloc_new w _) 0)
  have q1 : w1.cell? ⟨w.heap.size, 1, none⟩ = some (.int .i64 n) := (hb1.cell (by simp)).trans (cell_box (heap_alloc_new w _) 1)
  have q2 : w1.cell? ⟨w.heap.size, 2, none⟩ = some (.string ⟨#[]⟩) := (hb1.cell (by simp)).trans (cell_box (heap_alloc_new w _) 2)
  have q3 : w1.cell? ⟨w.heap.size, 3, none⟩ = some (.string ⟨#[]⟩) := (hb1.cell (by simp)).trans (cell_box (heap_alloc_new w _) 3)
  have Q0 := hide q0
  have Q1 := hide q1
  have Q2 := hide q2
  have Q3 := hide q3
  have HB1 := hide hbw1
  clear hb1 hbw1 q0 q1 q2 q3 hW hSh hDg
  have hcv := fun w : World => Lib.run_convert_string_bytes (P := Tryd.prog) w 9 22 5 ((⟨#[99, 108, 97, 115, 115, 32, 65, 32, 123, 32, 109, 101, 116, 104, 111, 100, 32, 109, 32, 40, 32, 41, 32, 118, 111, 105, 100, 32, 108, 111, 99, 97, 108, 115, 32, 49, 32, 123, 32]⟩ : ByteArray) ++ (wB ++ ⟨#[32]⟩ ++ dB) ++ ⟨#[32, 59, 32, 125, 32, 125]⟩) (by kernel_rfl : Tryd.prog.underlying 9 = some .string) (by kernel_rfl) (by kernel_rfl)
  go_wp2_with fail
  refine (Program_txt _ _ _ _ S1 (Pp.insProg i) (by simp) (by simp only [ByteArray.size_append]; rfl) HE1.out (by rw [HL1.out]; exact hp1.out) (HT.out.below HB1.out) (by omega)).mono ?_
  rintro e w2 ⟨v2, rfl, hpp, hb2⟩
  obtain ⟨g, o, c, g2, o2, c2, g3, o3, c3, rfl, ⟨hg, hg2, hg3⟩, k5, k7, j0, j1, j2, j3⟩ := insProg_mem hpp
  rw [HI.out] at j0 j1 j2 j3
  simp only at j0 j1 j2 j3
  have HK := hide (And.intro k5 (And.intro k7 (And.intro j0 (And.intro j1 (And.intro j2 j3)))))
  have HB2 := hide (HB1.out.trans (hb2.mono HB1.out.size))
  have HB12 := hide hb2
  clear hpp hcv k5 k7 j0 j1 j2 j3 hb2 HE1 HL1
  have hcv := fun w : World => Lib.run_convert_string_bytes (P := Tryd.prog) w 9 22 5 ((⟨#[99, 108, 97, 115, 115, 32, 65, 32, 123, 32, 109, 101, 116, 104, 111, 100, 32, 109, 32, 40, 32, 41, 32, 118, 111, 105, 100, 32, 108, 111, 99, 97, 108, 115, 32, 49, 32, 123, 32]⟩ : ByteArray) ++ (wB ++ ⟨#[32]⟩ ++ dB) ++ ⟨#[32, 125, 32, 125]⟩) (by kernel_rfl : Tryd.prog.underlying 9 = some .string) (by kernel_rfl) (by kernel_rfl)
  go_wp2_with fail
  refine (Program_txtF _ _ _ _ S2 (by simp) (by simp only [ByteArray.size_append]; rfl) HE2.out (by rw [HL2.out]; exact hp2.out) (HT.out.below (HB2.out.alloc HB2.out.size _)) (by omega)).mono ?_
  rintro e w3 ⟨a3, n3, c3', p3, rfl, hb3⟩
  have hA3 := HB2.out.alloc HB2.out.size (.cells #[.slice (some ⟨g, o, none⟩) 1 c] 26)
  have HB3 := hide (hA3.trans (hb3.mono hA3.size))
  have H23 := hide hb3
  clear hcv hb3 hA3 HE2 HL2
  have hcv := fun w : World => Lib.run_convert_string_bytes (P := Tryd.prog) w 9 22 5 ((⟨#[99, 108, 97, 115, 115, 32, 65, 32, 123, 32, 109, 101, 116, 104, 111, 100, 32, 109, 32, 40, 32, 41, 32, 118, 111, 105, 100, 32, 108, 111, 99, 97, 108, 115, 32, 49, 32, 123, 32]⟩ : ByteArray) ++ (wB ++ ⟨#[32]⟩ ++ dB) ++ ⟨#[32, 55, 32, 120, 32, 59, 32, 125, 32, 125]⟩) (by kernel_rfl : Tryd.prog.underlying 9 = some .string) (by kernel_rfl) (by kernel_rfl)
  go_wp2_with fail
  refine (Program_txtF _ _ _ _ S3 (by simp) (by simp only [ByteArray.size_append]; rfl) HE3.out (by rw [HL3.out]; exact hp3.out) (HT.out.below (HB3.out.alloc HB3.out.size _)) (by omega)).mono ?_
  rintro e w4 ⟨a4, n4, c4, p4, rfl, hb4⟩
  have hA4 := HB3.out.alloc HB3.out.size (.cells #[.slice a3 n3 c3'] 26)
  have HB4 := hide (hA4.trans (hb4.mono hA4.size))
  have H34 := hide (((Below.refl w3.heap.size w3).alloc (Nat.le_refl _) (.cells #[.slice a3 n3 c3'] 26)).trans (hb4.mono (by simp)))
  clear hcv hb4 hA4 HE3 HL3
  go_wp2_with fail
  have hK : Hid (∀ wx, Below (w4.alloc (.cells #[.slice a4 n4 c4] 26)).heap.size (w4.alloc (.cells #[.slice a4 n4 c4] 26)) wx → (wx.cell? ⟨w2.heap.size, 0, none⟩ = some (.slice (some ⟨g, o, none⟩) 1 c) ∧ wx.cell? ⟨g, o + 5, none⟩ = some (.slice (some ⟨g2, o2, none⟩) 1 c2) ∧ wx.cell? ⟨g2, o2 + 7, none⟩ = some (.slice (some ⟨g3, o3, none⟩) 1 c3) ∧ wx.cell? ⟨g3, o3, none⟩ = some (.int .i64 (op : Int)) ∧ wx.cell? ⟨g3, o3 + 1, none⟩ = some (.int .i64 n) ∧ wx.cell? ⟨g3, o3 + 2, none⟩ = some (.string ⟨#[]⟩) ∧ wx.cell? ⟨g3, o3 + 3, none⟩ = some (.string ⟨#[]⟩) ∧ wx.cell? ⟨w.heap.size, 0, none⟩ = some (.int .i64 (op : Int)) ∧ wx.cell? ⟨w.heap.size, 1, none⟩ = some (.int .i64 n) ∧ wx.cell? ⟨w.heap.size, 2, none⟩ = some (.string ⟨#[]⟩) ∧ wx.cell? ⟨w.heap.size, 3, none⟩ = some (.string ⟨#[]⟩)) ∧ Below w.heap.size w wx) := hide fun wx hx => by
    have h4x : Below w4.heap.size w4 wx := ((Below.refl _ _).alloc (Nat.le_refl _) _).trans (hx.mono (by simp))
    have h3x : Below w3.heap.size w3 wx := H34.out.trans (h4x.mono H34.out.size)
    have hAx : Below (w2.alloc (.cells #[.slice (some ⟨g, o, none⟩) 1 c] 26)).heap.size (w2.alloc (.cells #[.slice (some ⟨g, o, none⟩) 1 c] 26)) wx := H23.out.trans (h3x.mono H23.out.size)
    have h2x : Below w2.heap.size w2 wx := ((Below.refl _ _).alloc (Nat.le_refl _) _).trans (hAx.mono (by simp))
    have h1x : Below w1.heap.size w1 wx := HB12.out.trans (h2x.mono HB12.out.size)
    obtain ⟨k5, k7, j0, j1, j2, j3⟩ := HK.out
    exact ⟨⟨(hAx.cell (by simp)).trans (cell_box (heap_alloc_new w2 _) 0), (h2x.cell (by exact hg)).trans k5, (h2x.cell (by exact hg2)).trans k7, (h2x.cell (by exact hg3)).trans j0, (h2x.cell (by exact hg3)).trans j1, (h2x.cell (by exact hg3)).trans j2, (h2x.cell (by exact hg3)).trans j3, (h1x.cell (by exact hsz1)).trans Q0.out, (h1x.cell (by exact hsz1)).trans Q1.out, (h1x.cell (by exact hsz1)).trans Q2.out, (h1x.cell (by exact hsz1)).trans Q3.out⟩, HB1.out.trans (h1x.mono HB1.out.size)⟩
  generalize hwy : w4.alloc (.cells #[.slice a4 n4 c4] 26) = wy at hK ⊢
  have hD : Hid (Below wy.heap.size wy wy.drew) := hide ⟨rfl, rfl, rfl, Nat.le_refl _, fun _ _ => rfl⟩
  have hTY : Hid (∀ wx, Below wy.heap.size wy wx → TabS wx) := hide fun wx hx => HT.out.below (hK.out wx hx).2
  clear hwy hg hg2 hg3 hsz1 hz1 hz2 hz3
  generalize ((⟨#[99, 108, 97, 115, 115, 32, 65, 32, 123, 32, 109, 101, 116, 104, 111, 100, 32, 109, 32, 40, 32, 41, 32, 118, 111, 105, 100, 32, 108, 111, 99, 97, 108, 115, 32, 49, 32, 123, 32]⟩ : ByteArray) ++ (wB ++ ⟨#[32]⟩ ++ dB)) = Y0
  generalize (wB ++ ⟨#[32]⟩ ++ dB) = Y1
  generalize wB ++ (⟨#[32]⟩ : ByteArray) = Y2
  clear HWB HDB HI hp1 hp2 hp3 HB12 HB2 HB3 HB4 H23 H34 Q0 Q1 Q2 Q3 HK HB1 hws hds hn1 hox hsh hop hn'
  go_region_held (fun wx => wx.cell? ⟨w2.heap.size, 0, none⟩ = some (.slice (some ⟨g, o, none⟩) 1 c) ∧ wx.cell? ⟨g, o + 5, none⟩ = some (.slice (some ⟨g2, o2, none⟩) 1 c2) ∧ wx.cell? ⟨g2, o2 + 7, none⟩ = some (.slice (some ⟨g3, o3, none⟩) 1 c3) ∧ wx.cell? ⟨g3, o3, none⟩ = some (.int .i64 (op : Int)) ∧ wx.cell? ⟨g3, o3 + 1, none⟩ = some (.int .i64 n) ∧ wx.cell? ⟨g3, o3 + 2, none⟩ = some (.string ⟨#[]⟩) ∧ wx.cell? ⟨g3, o3 + 3, none⟩ = some (.string ⟨#[]⟩) ∧ wx.cell? ⟨w.heap.size, 0, none⟩ = some (.int .i64 (op : Int)) ∧ wx.cell? ⟨w.heap.size, 1, none⟩ = some (.int .i64 n) ∧ wx.cell? ⟨w.heap.size, 2, none⟩ = some (.string ⟨#[]⟩) ∧ wx.cell? ⟨w.heap.size, 3, none⟩ = some (.string ⟨#[]⟩))
      (first | exact (hK.out _ HB7.out).1 | exact (hK.out _ hD.out).1)
      (first | (go_at_call 20; refine (wakes_any _ (hTY.out _ hD.out)).mono ?_; rintro e w7 ⟨rfl, hb7⟩; have HB7 : Hid (Below wy.heap.size wy w7) := hide (hD.out.trans (hb7.mono hD.out.size)); clear hb7))
  all_goals go_wp2_with fail
  all_goals go_ret
  all_goals exact ⟨rfl, (hK.out _ HB7.out).2⟩

set_option maxRecDepth 100000 in
set_option maxHeartbeats 4000000 in
theorem instr_w4 (x y : Int) (op : Nat) (hop : op < 44) (hsh : Pp.shape op = 4) (hox : wrap64 ((IntKind.u64.wrap x).tmod 44) = (op : Int)) (w : World) (ht : TabS w) :
    Calls Tryd.prog 8 #[.int .i64 x, .int .i64 y] w fun e w' => e = .returned (.bool true) ∧ Below w.heap.size w w' := by
  have hwd := (Pp.op_names op hop).2
  obtain ⟨wB, hwB⟩ : ∃ b : ByteArray, b = ⟨(Pp.opWords.getD op []).toArray⟩ := ⟨_, rfl⟩
  have hws : wB.size ≤ 10 := by rw [hwB]; simpa [ByteArray.size] using hwd
  have hW : Hid (∀ w', Below w.heap.size w w' → Calls Tryd.prog 19 #[.int .i64 (op : Int)] w' fun e w'' => e = .returned (.string wB) ∧ w'' = w') := hide fun w' hb => by rw [hwB]; exact Word_in op hop w' (ht.below hb)
  have hSh : Hid (∀ w', Calls Tryd.prog 26 #[.int .i64 (op : Int)] w' fun e w'' => e = .returned (.int .i64 4) ∧ w'' = w') := hide fun w' => by have := Shape_any op hop w'; rw [hsh] at this; exact this
  have HT := hide ht
  have HWB := hide hwB
  obtain ⟨i, hi⟩ : ∃ i : Pp.Ins, i = ⟨op, 0, [65, 98, 99], []⟩ := ⟨_, rfl⟩
  have hok : Pp.okIns i := by rw [hi]; exact ⟨hop, .inr (.inr (.inr (.inl ⟨hsh, rfl, (⟨by decide, by decide⟩ : Pp.okN [65, 98, 99]), rfl⟩)))⟩
  have hE : ((wB ++ ⟨#[32, 65, 98, 99]⟩) : ByteArray).data.toList = Pp.insT i := by
    rw [hi, hwB]
    simp [Pp.insT, Pp.argT, hsh]
  obtain ⟨S1, hS1⟩ : ∃ S : ByteArray, S = (⟨#[99, 108, 97, 115, 115, 32, 65, 32, 123, 32, 109, 101, 116, 104, 111, 100, 32, 109, 32, 40, 32, 41, 32, 118, 111, 105, 100, 32, 108, 111, 99, 97, 108, 115, 32, 49, 32, 123, 32]⟩ : ByteArray) ++ (wB ++ ⟨#[32, 65, 98, 99]⟩) ++ ⟨#[32, 59, 32, 125, 32, 125]⟩ := ⟨_, rfl⟩
  have hL1 : S1.data.toList = Pp.i1 ++ Pp.insT i ++ [32, 59, 32, 125, 32, 125] := by rw [hS1, ← hE]; simp [Pp.i1]
  have hz1 : S1.size ≤ 300 := by rw [← Lx.toList_len, hL1]; have := Pp.insT_len hok; simp [Pp.i1]; omega
  have HL1 := hide hL1
  have HE1 := hide hS1.symm
  clear hS1 hL1
  obtain ⟨S2, hS2⟩ : ∃ S : ByteArray, S = (⟨#[99, 108, 97, 115, 115, 32, 65, 32, 123, 32, 109, 101, 116, 104, 111, 100, 32, 109, 32, 40, 32, 41, 32, 118, 111, 105, 100, 32, 108, 111, 99, 97, 108, 115, 32, 49, 32, 123, 32]⟩ : ByteArray) ++ (wB ++ ⟨#[32, 65, 98, 99]⟩) ++ ⟨#[32, 125, 32, 125]⟩ := ⟨_, rfl⟩
  have hL2 : S2.data.toList = Pp.i1 ++ Pp.insT i ++ [32, 125, 32, 125] := by rw [hS2, ← hE]; simp [Pp.i1]
  have hz2 : S2.size ≤ 300 := by rw [← Lx.toList_len, hL2]; have := Pp.insT_len hok; simp [Pp.i1]; omega
  have HL2 := hide hL2
  have HE2 := hide hS2.symm
  clear hS2 hL2
  obtain ⟨S3, hS3⟩ : ∃ S : ByteArray, S = (⟨#[99, 108, 97, 115, 115, 32, 65, 32, 123, 32, 109, 101, 116, 104, 111, 100, 32, 109, 32, 40, 32, 41, 32, 118, 111, 105, 100, 32, 108, 111, 99, 97, 108, 115, 32, 49, 32, 123, 32]⟩ : ByteArray) ++ (wB ++ ⟨#[32, 65, 98, 99]⟩) ++ ⟨#[32, 55, 32, 120, 32, 59, 32, 125, 32, 125]⟩ := ⟨_, rfl⟩
  have hL3 : S3.data.toList = Pp.i1 ++ Pp.insT i ++ [32, 55, 32, 120, 32, 59, 32, 125, 32, 125] := by rw [hS3, ← hE]; simp [Pp.i1]
  have hz3 : S3.size ≤ 300 := by rw [← Lx.toList_len, hL3]; have := Pp.insT_len hok; simp [Pp.i1]; omega
  have HL3 := hide hL3
  have HE3 := hide hS3.symm
  clear hS3 hL3
  have hp1 := hide (Pp.program_ins hok)
  have hp2 := hide (Pp.program_insF hok)
  have hp3 := hide (Pp.program_insG hok)
  have HI := hide hi
  clear ht hwB hwd hE hok hi
  go_enter Tryd.func8, Tryd.ntmps8
  go_wp2_with fail
  refine (hW.out _ ((Below.refl _ _).alloc (Nat.le_refl _) _)).mono ?_
  rintro e wq ⟨rfl, hwq⟩
  subst hwq
  go_wp2_with fail
  refine (hSh.out _).mono ?_
  rintro e wq ⟨rfl, hwq⟩
  subst hwq
  have hcv := fun w : World => Lib.run_convert_string_bytes (P := Tryd.prog) w 9 22 5 ((⟨#[99, 108, 97, 115, 115, 32, 65, 32, 123, 32, 109, 101, 116, 104, 111, 100, 32, 109, 32, 40, 32, 41, 32, 118, 111, 105, 100, 32, 108, 111, 99, 97, 108, 115, 32, 49, 32, 123, 32]⟩ : ByteArray) ++ (wB ++ ⟨#[32, 65, 98, 99]⟩) ++ ⟨#[32, 59, 32, 125, 32, 125]⟩) (by kernel_rfl : Tryd.prog.underlying 9 = some .string) (by kernel_rfl) (by kernel_rfl)
  go_wp2_with fail
  generalize hw1 : w.alloc (.cells #[.int .i64 (op : Int), .int .i64 0, .string ⟨#[65, 98, 99]⟩, .string ⟨#[]⟩] 53) = w1
  have hbw1 : Below w.heap.size w w1 := by rw [← hw1]; exact (Below.refl _ _).alloc (Nat.le_refl _) _
  have hsz1 : w.heap.size < w1.heap.size := by rw [← hw1]; simp
  have hsz1' : w1.heap.size = w.heap.size + 1 := by rw [← hw1]; simp
  have q0 : w1.cell? ⟨w.heap.size, 0, none⟩ = some (.int .i64 (op : Int)) := by rw [← hw1]; exact cell_box (heap_alloc_new w _) 0
  have q1 : w1.cell? ⟨w.heap.size, 1, none⟩ = some (.int .i64 0) := by rw [← hw1]; exact cell_box (heap_alloc_new w _) 1
  have q2 : w1.cell? ⟨w.heap.size, 2, none⟩ = some (.string ⟨#[65, 98, 99]⟩) := by rw [← hw1]; exact cell_box (heap_alloc_new w _) 2
  have q3 : w1.cell? ⟨w.heap.size, 3, none⟩ = some (.string ⟨#[]⟩) := by rw [← hw1]; exact cell_box (heap_alloc_new w _) 3
  have Q0 := hide q0
  have Q1 := hide q1
  have Q2 := hide q2
  have Q3 := hide q3
  have HB1 := hide hbw1
  clear hbw1 q0 q1 q2 q3 hW hSh hw1
  refine (Program_txt _ _ _ _ S1 (Pp.insProg i) (by omega) (by simp only [ByteArray.size_append]; rfl) HE1.out (by rw [HL1.out]; exact hp1.out) (HT.out.below HB1.out) (by omega)).mono ?_
  rintro e w2 ⟨v2, rfl, hpp, hb2⟩
  obtain ⟨g, o, c, g2, o2, c2, g3, o3, c3, rfl, ⟨hg, hg2, hg3⟩, k5, k7, j0, j1, j2, j3⟩ := insProg_mem hpp
  rw [HI.out] at j0 j1 j2 j3
  simp only at j0 j1 j2 j3
  have HK := hide (And.intro k5 (And.intro k7 (And.intro j0 (And.intro j1 (And.intro j2 j3)))))
  have HB2 := hide (HB1.out.trans (hb2.mono HB1.out.size))
  have HB12 := hide hb2
  clear hpp hcv k5 k7 j0 j1 j2 j3 hb2 HE1 HL1
  have hcv := fun w : World => Lib.run_convert_string_bytes (P := Tryd.prog) w 9 22 5 ((⟨#[99, 108, 97, 115, 115, 32, 65, 32, 123, 32, 109, 101, 116, 104, 111, 100, 32, 109, 32, 40, 32, 41, 32, 118, 111, 105, 100, 32, 108, 111, 99, 97, 108, 115, 32, 49, 32, 123, 32]⟩ : ByteArray) ++ (wB ++ ⟨#[32, 65, 98, 99]⟩) ++ ⟨#[32, 125, 32, 125]⟩) (by kernel_rfl : Tryd.prog.underlying 9 = some .string) (by kernel_rfl) (by kernel_rfl)
  go_wp2_with fail
  refine (Program_txtF _ _ _ _ S2 (by simp) (by simp only [ByteArray.size_append]; rfl) HE2.out (by rw [HL2.out]; exact hp2.out) (HT.out.below (HB2.out.alloc HB2.out.size _)) (by omega)).mono ?_
  rintro e w3 ⟨a3, n3, c3', p3, rfl, hb3⟩
  have hA3 := HB2.out.alloc HB2.out.size (.cells #[.slice (some ⟨g, o, none⟩) 1 c] 26)
  have HB3 := hide (hA3.trans (hb3.mono hA3.size))
  have H23 := hide hb3
  clear hcv hb3 hA3 HE2 HL2
  have hcv := fun w : World => Lib.run_convert_string_bytes (P := Tryd.prog) w 9 22 5 ((⟨#[99, 108, 97, 115, 115, 32, 65, 32, 123, 32, 109, 101, 116, 104, 111, 100, 32, 109, 32, 40, 32, 41, 32, 118, 111, 105, 100, 32, 108, 111, 99, 97, 108, 115, 32, 49, 32, 123, 32]⟩ : ByteArray) ++ (wB ++ ⟨#[32, 65, 98, 99]⟩) ++ ⟨#[32, 55, 32, 120, 32, 59, 32, 125, 32, 125]⟩) (by kernel_rfl : Tryd.prog.underlying 9 = some .string) (by kernel_rfl) (by kernel_rfl)
  go_wp2_with fail
  refine (Program_txtF _ _ _ _ S3 (by simp) (by simp only [ByteArray.size_append]; rfl) HE3.out (by rw [HL3.out]; exact hp3.out) (HT.out.below (HB3.out.alloc HB3.out.size _)) (by omega)).mono ?_
  rintro e w4 ⟨a4, n4, c4, p4, rfl, hb4⟩
  have hA4 := HB3.out.alloc HB3.out.size (.cells #[.slice a3 n3 c3'] 26)
  have HB4 := hide (hA4.trans (hb4.mono hA4.size))
  have H34 := hide (((Below.refl w3.heap.size w3).alloc (Nat.le_refl _) (.cells #[.slice a3 n3 c3'] 26)).trans (hb4.mono (by simp)))
  clear hcv hb4 hA4 HE3 HL3
  go_wp2_with fail
  have hK : Hid (∀ wx, Below (w4.alloc (.cells #[.slice a4 n4 c4] 26)).heap.size (w4.alloc (.cells #[.slice a4 n4 c4] 26)) wx → (wx.cell? ⟨w2.heap.size, 0, none⟩ = some (.slice (some ⟨g, o, none⟩) 1 c) ∧ wx.cell? ⟨g, o + 5, none⟩ = some (.slice (some ⟨g2, o2, none⟩) 1 c2) ∧ wx.cell? ⟨g2, o2 + 7, none⟩ = some (.slice (some ⟨g3, o3, none⟩) 1 c3) ∧ wx.cell? ⟨g3, o3, none⟩ = some (.int .i64 (op : Int)) ∧ wx.cell? ⟨g3, o3 + 1, none⟩ = some (.int .i64 0) ∧ wx.cell? ⟨g3, o3 + 2, none⟩ = some (.string ⟨#[65, 98, 99]⟩) ∧ wx.cell? ⟨g3, o3 + 3, none⟩ = some (.string ⟨#[]⟩) ∧ wx.cell? ⟨w.heap.size, 0, none⟩ = some (.int .i64 (op : Int)) ∧ wx.cell? ⟨w.heap.size, 1, none⟩ = some (.int .i64 0) ∧ wx.cell? ⟨w.heap.size, 2, none⟩ = some (.string ⟨#[65, 98, 99]⟩) ∧ wx.cell? ⟨w.heap.size, 3, none⟩ = some (.string ⟨#[]⟩)) ∧ Below w.heap.size w wx) := hide fun wx hx => by
    have h4x : Below w4.heap.size w4 wx := ((Below.refl _ _).alloc (Nat.le_refl _) _).trans (hx.mono (by simp))
    have h3x : Below w3.heap.size w3 wx := H34.out.trans (h4x.mono H34.out.size)
    have hAx : Below (w2.alloc (.cells #[.slice (some ⟨g, o, none⟩) 1 c] 26)).heap.size (w2.alloc (.cells #[.slice (some ⟨g, o, none⟩) 1 c] 26)) wx := H23.out.trans (h3x.mono H23.out.size)
    have h2x : Below w2.heap.size w2 wx := ((Below.refl _ _).alloc (Nat.le_refl _) _).trans (hAx.mono (by simp))
    have h1x : Below w1.heap.size w1 wx := HB12.out.trans (h2x.mono HB12.out.size)
    obtain ⟨k5, k7, j0, j1, j2, j3⟩ := HK.out
    exact ⟨⟨(hAx.cell (by simp)).trans (cell_box (heap_alloc_new w2 _) 0), (h2x.cell (by exact hg)).trans k5, (h2x.cell (by exact hg2)).trans k7, (h2x.cell (by exact hg3)).trans j0, (h2x.cell (by exact hg3)).trans j1, (h2x.cell (by exact hg3)).trans j2, (h2x.cell (by exact hg3)).trans j3, (h1x.cell (by exact hsz1)).trans Q0.out, (h1x.cell (by exact hsz1)).trans Q1.out, (h1x.cell (by exact hsz1)).trans Q2.out, (h1x.cell (by exact hsz1)).trans Q3.out⟩, HB1.out.trans (h1x.mono HB1.out.size)⟩
  generalize hwy : w4.alloc (.cells #[.slice a4 n4 c4] 26) = wy at hK ⊢
  have hD : Hid (Below wy.heap.size wy wy.drew) := hide ⟨rfl, rfl, rfl, Nat.le_refl _, fun _ _ => rfl⟩
  have hTY : Hid (∀ wx, Below wy.heap.size wy wx → TabS wx) := hide fun wx hx => HT.out.below (hK.out wx hx).2
  clear hwy hg hg2 hg3 hsz1 hz1 hz2 hz3
  generalize ((⟨#[99, 108, 97, 115, 115, 32, 65, 32, 123, 32, 109, 101, 116, 104, 111, 100, 32, 109, 32, 40, 32, 41, 32, 118, 111, 105, 100, 32, 108, 111, 99, 97, 108, 115, 32, 49, 32, 123, 32]⟩ : ByteArray) ++ (wB ++ ⟨#[32, 65, 98, 99]⟩)) = Y0
  generalize (wB ++ ⟨#[32, 65, 98, 99]⟩) = Y1
  clear HWB HI hp1 hp2 hp3 HB12 HB2 HB3 HB4 H23 H34 Q0 Q1 Q2 Q3 HK HB1 hws hox hsh hop
  go_region_held (fun wx => wx.cell? ⟨w2.heap.size, 0, none⟩ = some (.slice (some ⟨g, o, none⟩) 1 c) ∧ wx.cell? ⟨g, o + 5, none⟩ = some (.slice (some ⟨g2, o2, none⟩) 1 c2) ∧ wx.cell? ⟨g2, o2 + 7, none⟩ = some (.slice (some ⟨g3, o3, none⟩) 1 c3) ∧ wx.cell? ⟨g3, o3, none⟩ = some (.int .i64 (op : Int)) ∧ wx.cell? ⟨g3, o3 + 1, none⟩ = some (.int .i64 0) ∧ wx.cell? ⟨g3, o3 + 2, none⟩ = some (.string ⟨#[65, 98, 99]⟩) ∧ wx.cell? ⟨g3, o3 + 3, none⟩ = some (.string ⟨#[]⟩) ∧ wx.cell? ⟨w.heap.size, 0, none⟩ = some (.int .i64 (op : Int)) ∧ wx.cell? ⟨w.heap.size, 1, none⟩ = some (.int .i64 0) ∧ wx.cell? ⟨w.heap.size, 2, none⟩ = some (.string ⟨#[65, 98, 99]⟩) ∧ wx.cell? ⟨w.heap.size, 3, none⟩ = some (.string ⟨#[]⟩))
      (first | exact (hK.out _ HB7.out).1 | exact (hK.out _ hD.out).1)
      (first | (go_at_call 20; refine (wakes_any _ (hTY.out _ hD.out)).mono ?_; rintro e w7 ⟨rfl, hb7⟩; have HB7 : Hid (Below wy.heap.size wy w7) := hide (hD.out.trans (hb7.mono hD.out.size)); clear hb7))
  all_goals go_wp2_with fail
  all_goals go_ret
  all_goals exact ⟨rfl, (hK.out _ HB7.out).2⟩

end Go.Proofs.YtpngpkbnhepleaaDoor
