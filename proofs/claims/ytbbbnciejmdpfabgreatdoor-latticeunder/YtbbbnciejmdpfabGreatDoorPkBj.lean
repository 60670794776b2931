/- What the laws of this seat lean on: 2 texts. -/
import Derived.Test.YtbbbnciejmdpfabGreatDoorPkBi
set_option maxRecDepth 100000
set_option maxHeartbeats 64000000
set_option linter.unusedVariables false
set_option linter.unusedSimpArgs false
namespace Go.Proofs.YtbbbnciejmdpfabGreatDoor
open Go.RowKit
theorem refFresh_any (s : List UInt8) (hs : s.length <= maxLen) (w : World) :
 Calls Tryz.prog 52 #[.string ⟨s.toArray⟩] w fun e w' => e = .returned (.bool (Pp.freshB s)) /\ Below w.heap.size w w' := by
 have hN : Hid (∀ w', Calls Tryz.prog 66 #[.string ⟨s.toArray⟩] w' fun e w'' => e = .returned (.bool (Lx.nameL s)) /\ w'' = w') := hide fun w' => refName_any ⟨s.toArray⟩ (by rw [Sh.str_sz]; exact hs) w'
 have hK := hide (fun w' => refKept_any s w'); have hF : Hid (Pp.freshB s = (Lx.nameL s && !Pp.keptL s)) := rfl; generalize Lx.nameL s = b at *
 generalize Pp.keptL s = b2 at *
 generalize Pp.freshB s = R at *
 generalize (⟨s.toArray⟩ : ByteArray) = S at *
 cases b with
 | false =>
   go_enter Tryz.func52, Tryz.ntmps52; go_wp2_with fail; refine (hN.out _).mono ?_; rintro e wq ⟨rfl, hwq⟩; have hwq := hwq.symm; subst hwq; go_wp2_with fail; go_ret; exact ⟨by rw [hF.out]; rfl, Below.refl _ _⟩
 | true =>
   go_enter Tryz.func52, Tryz.ntmps52; go_wp2_with fail; refine (hN.out _).mono ?_; rintro e wq ⟨rfl, hwq⟩; have hwq := hwq.symm; subst hwq; go_wp2_with fail; refine (hK.out _).mono ?_; rintro e w2 ⟨rfl, hb⟩; go_wp2_with fail; go_ret; exact ⟨by rw [hF.out]; rfl, hb⟩
theorem ref_in_any (n lo hi : Int) (w : World) :
 Calls Tryz.prog 68 #[.int .i64 n, .int .i64 lo, .int .i64 hi] w fun e w' => e = .returned (.bool (Pp.withinB n lo hi)) /\ w' = w := by
 go_enter Tryz.func68, Tryz.ntmps68; by_cases h1 : lo <= n
 · go_wp2_with fail
   go_ret; exact ⟨ret_bool (by simp [Pp.withinB, h1]), rfl⟩
 · go_wp2_with fail
   go_ret; exact ⟨ret_bool (by simp [Pp.withinB]; omega), rfl⟩
namespace Sh
theorem typeT_no {t : Pp.Ty} (h : Pp.typeB t = false) : Pp.typeT t = [] := by unfold Pp.typeT; rw [h]; rfl
theorem typeT_of {t : Pp.Ty} (h : Pp.typeB t = true) : Pp.typeT t = ((Pp.tyW t).map Pp.wtx).flatten := by unfold Pp.typeT; rw [h]; rfl
theorem typeT_ne {t : Pp.Ty} (h : Pp.typeB t = true) : Pp.typeT t ≠ [] := by
 rw [typeT_of h]; have h1 := Pp.gw_ty ((Pp.typeB_iff t).1 h); obtain ⟨k, n⟩ := t; have h2 := (Pp.typeB_iff _).1 h
 rcases h2 with ⟨h2, _⟩ | ⟨h2, h3⟩
 · simp only at h2
   rcases h2 with rfl | rfl | rfl <;> simp [Pp.tyW, wtx_nm, Pp.wVoid, Pp.wInt]
 · simp only at h2 h3
   have hn : n ≠ [] := fun e => by rw [e] at h3; have := h3.1; simp [Lx.nameL] at this
   rcases h2 with rfl | rfl
   · simp [Pp.tyW, wtx_nm, hn]
   · simp [Pp.tyW, wtx_nm, hn]
end Sh
theorem TypeText_any (t : Pp.Ty) (hs : t.name.length <= maxLen) (w : World) :
 Calls Tryz.prog 53 #[.agg #[.int .i64 t.kind, .string ⟨t.name.toArray⟩]] w fun e w' => e = .returned (.string ⟨(Pp.typeT t).toArray⟩) /\ Below w.heap.size w w' := by
 obtain ⟨k, n⟩ := t; simp only at hs ⊢; have hF := hide (fun w' => refFresh_any n hs w'); have HB1 : Hid (∀ o, Below w.heap.size w (w.alloc o)) := hide fun o => (Below.refl _ _).alloc (Nat.le_refl _) o
 rcases (show k = 1 \/ k = 2 \/ k = 4 \/ k = 3 \/ k = 5 \/ (¬ k = 1 /\ ¬ k = 2 /\ ¬ k = 4 /\ ¬ k = 3 /\ ¬ k = 5) by omega) with hk | hk | hk | hk | hk | ⟨k1, k2, k4, k3, k5⟩
 · subst hk
   by_cases hn : n = []
   · subst hn
     have hR : Hid (Pp.typeT ⟨1, []⟩ = [118, 111, 105, 100]) := hide (by decide +kernel)
     rw [hR.out]; go_enter Tryz.func53, Tryz.ntmps53; go_wp2_with fail; go_ret; exact ⟨rfl, HB1.out _⟩
   · have hR : Hid (Pp.typeT ⟨1, n⟩ = []) := hide (Sh.typeT_no (by unfold Pp.typeB; rw [if_pos (by simp)]; simpa using hn))
     have hne := sh_nonempty n hn; rw [hR.out]; generalize (⟨n.toArray⟩ : ByteArray) = S at *
     go_enter Tryz.func53, Tryz.ntmps53; go_wp2_with fail; go_ret; exact ⟨rfl, HB1.out _⟩
 · subst hk
   by_cases hn : n = []
   · subst hn
     have hR : Hid (Pp.typeT ⟨2, []⟩ = [105, 110, 116]) := hide (by decide +kernel)
     rw [hR.out]; go_enter Tryz.func53, Tryz.ntmps53; go_wp2_with fail; go_ret; exact ⟨rfl, HB1.out _⟩
   · have hR : Hid (Pp.typeT ⟨2, n⟩ = []) := hide (Sh.typeT_no (by unfold Pp.typeB; rw [if_pos (by simp)]; simpa using hn))
     have hne := sh_nonempty n hn; rw [hR.out]; generalize (⟨n.toArray⟩ : ByteArray) = S at *
     go_enter Tryz.func53, Tryz.ntmps53; go_wp2_with fail; go_ret; exact ⟨rfl, HB1.out _⟩
 · subst hk
   by_cases hn : n = []
   · subst hn
     have hR : Hid (Pp.typeT ⟨4, []⟩ = [105, 110, 116, 91, 93]) := hide (by decide +kernel)
     rw [hR.out]; go_enter Tryz.func53, Tryz.ntmps53; go_wp2_with fail; go_ret; exact ⟨rfl, HB1.out _⟩
   · have hR : Hid (Pp.typeT ⟨4, n⟩ = []) := hide (Sh.typeT_no (by unfold Pp.typeB; rw [if_pos (by simp)]; simpa using hn))
     have hne := sh_nonempty n hn; rw [hR.out]; generalize (⟨n.toArray⟩ : ByteArray) = S at *
     go_enter Tryz.func53, Tryz.ntmps53; go_wp2_with fail; go_ret; exact ⟨rfl, HB1.out _⟩
 · subst hk
   have HRR : Hid (Pp.typeT ⟨3, n⟩ = if Pp.freshB n = true then n else []) := hide (by unfold Pp.typeT; rw [show Pp.typeB ⟨3, n⟩ = Pp.freshB n from rfl]; cases Pp.freshB n <;> simp [Pp.tyW, Sh.wtx_nm])
   rw [HRR.out]; cases hb : Pp.freshB n with
   | false =>
     rw [hb] at hF; clear hb HRR; rw [if_neg Bool.false_ne_true]; generalize (⟨n.toArray⟩ : ByteArray) = S at *
     go_enter Tryz.func53, Tryz.ntmps53; go_wp2_with fail; refine (hF.out _).mono ?_; rintro e w2 ⟨rfl, hb2⟩; have HB2 := hide (((Below.refl _ _).alloc (Nat.le_refl _) _).trans (hb2.mono (by simp)))
     obtain ⟨B1, _, hsz⟩ := box_one hb2; have p0 : w2.cell? ⟨w.heap.size, 0, none⟩ = some (.int .i64 3) := B1 0; have p1 : w2.cell? ⟨w.heap.size, 1, none⟩ = some (.string S) := B1 1; clear hb2 B1 hF; go_wp2_with fail; go_ret; exact ⟨rfl, HB2.out⟩
   | true =>
     rw [hb] at hF; have hnl : n.length <= 20 := ((Lx.nameL_iff n).1 ((Pp.freshB_iff n).1 hb).1).2.1; clear hb HRR; rw [if_pos rfl]; have hap : Hid ((⟨n.toArray⟩ : ByteArray) ++ ⟨#[91, 93]⟩ = ⟨(n ++ [91, 93]).toArray⟩) := hide (by apply ByteArray.ext; simp)
     go_enter Tryz.func53, Tryz.ntmps53; go_wp2_with fail; refine (hF.out _).mono ?_; rintro e w2 ⟨rfl, hb2⟩; have HB2 := hide (((Below.refl _ _).alloc (Nat.le_refl _) _).trans (hb2.mono (by simp)))
     obtain ⟨B1, _, hsz⟩ := box_one hb2; have p0 : w2.cell? ⟨w.heap.size, 0, none⟩ = some (.int .i64 3) := B1 0; have p1 : w2.cell? ⟨w.heap.size, 1, none⟩ = some (.string ⟨n.toArray⟩) := B1 1; clear hb2 B1 hF; go_wp2_with fail; go_ret; exact ⟨by first | rfl | (rw [<- hap.out]; rfl), HB2.out⟩
 · subst hk
   have HRR : Hid (Pp.typeT ⟨5, n⟩ = if Pp.freshB n = true then n ++ [91, 93] else []) := hide (by unfold Pp.typeT; rw [show Pp.typeB ⟨5, n⟩ = Pp.freshB n from rfl]; cases Pp.freshB n <;> simp [Pp.tyW, Sh.wtx_nm, Sh.wtx_sg, Pp.wLK, Pp.wRK])
   rw [HRR.out]; cases hb : Pp.freshB n with
   | false =>
     rw [hb] at hF; clear hb HRR; rw [if_neg Bool.false_ne_true]; generalize (⟨n.toArray⟩ : ByteArray) = S at *
     go_enter Tryz.func53, Tryz.ntmps53; go_wp2_with fail; refine (hF.out _).mono ?_; rintro e w2 ⟨rfl, hb2⟩; have HB2 := hide (((Below.refl _ _).alloc (Nat.le_refl _) _).trans (hb2.mono (by simp)))
     obtain ⟨B1, _, hsz⟩ := box_one hb2; have p0 : w2.cell? ⟨w.heap.size, 0, none⟩ = some (.int .i64 5) := B1 0; have p1 : w2.cell? ⟨w.heap.size, 1, none⟩ = some (.string S) := B1 1; clear hb2 B1 hF; go_wp2_with fail; go_ret; exact ⟨rfl, HB2.out⟩
   | true =>
     rw [hb] at hF; have hnl : n.length <= 20 := ((Lx.nameL_iff n).1 ((Pp.freshB_iff n).1 hb).1).2.1; clear hb HRR; rw [if_pos rfl]; have hap : Hid ((⟨n.toArray⟩ : ByteArray) ++ ⟨#[91, 93]⟩ = ⟨(n ++ [91, 93]).toArray⟩) := hide (by apply ByteArray.ext; simp)
     go_enter Tryz.func53, Tryz.ntmps53; go_wp2_with fail; refine (hF.out _).mono ?_; rintro e w2 ⟨rfl, hb2⟩; have HB2 := hide (((Below.refl _ _).alloc (Nat.le_refl _) _).trans (hb2.mono (by simp)))
     obtain ⟨B1, _, hsz⟩ := box_one hb2; have p0 : w2.cell? ⟨w.heap.size, 0, none⟩ = some (.int .i64 5) := B1 0; have p1 : w2.cell? ⟨w.heap.size, 1, none⟩ = some (.string ⟨n.toArray⟩) := B1 1; clear hb2 B1 hF; go_wp2_with fail; go_ret; exact ⟨by first | rfl | (rw [<- hap.out]; rfl), HB2.out⟩
 · have hR : Hid (Pp.typeT ⟨k, n⟩ = []) := hide (Sh.typeT_no (by unfold Pp.typeB; rw [if_neg (by simp only; omega), if_neg (by simp only; omega)]))
   have e1 : (k == 1) = false := by simpa using k1
   have e2 : (k == 2) = false := by simpa using k2
   have e3 : (k == 3) = false := by simpa using k3
   have e4 : (k == 4) = false := by simpa using k4
   have e5 : (k == 5) = false := by simpa using k5
   rw [hR.out]; generalize (⟨n.toArray⟩ : ByteArray) = S at *
   clear k1 k2 k3 k4 k5; go_enter Tryz.func53, Tryz.ntmps53; go_wp2_with fail; go_ret; exact ⟨rfl, HB1.out _⟩
theorem Shape_any (op : Nat) (h : op < 44) (w : World) :
 Calls Tryz.prog 80 #[.int .i64 (op : Int)] w fun e w' => e = .returned (.int .i64 (Pp.shape op : Int)) /\ w' = w := by
 rcases (show op = 0 \/ op = 1 \/ op = 2 \/ op = 3 \/ op = 4 \/ op = 5 \/ op = 6 \/ op = 7 \/ op = 8 \/ op = 9 \/ op = 10 \/ op = 11 \/ op = 12 \/ op = 13 \/ op = 14 \/ op = 15 \/ op = 16 \/ op = 17 \/ op = 18 \/ op = 19 \/ op = 20 \/ op = 21 \/ op = 22 \/ op = 23 \/ op = 24 \/ op = 25 \/ op = 26 \/ op = 27 \/ op = 28 \/ op = 29 \/ op = 30 \/ op = 31 \/ op = 32 \/ op = 33 \/ op = 34 \/ op = 35 \/ op = 36 \/ op = 37 \/ op = 38 \/ op = 39 \/ op = 40 \/ op = 41 \/ op = 42 \/ op = 43 by omega) with rfl | rfl | rfl | rfl | rfl | rfl | rfl | rfl | rfl | rfl | rfl | rfl | rfl | rfl | rfl | rfl | rfl | rfl | rfl | rfl | rfl | rfl | rfl | rfl | rfl | rfl | rfl | rfl | rfl | rfl | rfl | rfl | rfl | rfl | rfl | rfl | rfl | rfl | rfl | rfl | rfl | rfl | rfl | rfl
 all_goals (go_enter Tryz.func80, Tryz.ntmps80; go_wp2; go_ret; exact ⟨rfl, rfl⟩)
theorem showInstr_0 (k : Int) (n : Int) (a b : Pp.Bs) (h1 : a.length <= maxLen) (h2 : b.length <= maxLen) (hI : ∀ w, Calls Tryz.prog 68 #[.int .i64 k, .int .i64 0, .int .i64 43] w fun e w' => e = .returned (.bool true) /\ w' = w) (hS : ∀ w, Calls Tryz.prog 80 #[.int .i64 k] w fun e w' => e = .returned (.int .i64 0) /\ w' = w) (w : World) :
 Calls Tryz.prog 69 #[.agg #[.int .i64 k, .int .i64 n, .string ⟨a.toArray⟩, .string ⟨b.toArray⟩]] w fun e w' => e = .returned (.bool ((n == 0) && ((a == []) && (b == [])))) /\ Below w.heap.size w w' := by
 have HI := hide hI; have HSh := hide hS; have HB1 : Hid (∀ o, Below w.heap.size w (w.alloc o)) := hide fun o => (Below.refl _ _).alloc (Nat.le_refl _) o; have hFa := hide (fun w => refFresh_any a h1 w); have hFb := hide (fun w => refFresh_any b h2 w); have hea : Hid ((a == []) = (⟨a.toArray⟩ : ByteArray).toList.isEmpty) := hide (by rw [ByteArray.toList_eq]; cases a <;> rfl)
 have heb : Hid ((b == []) = (⟨b.toArray⟩ : ByteArray).toList.isEmpty) := hide (by rw [ByteArray.toList_eq]; cases b <;> rfl)
 obtain ⟨R, hR⟩ : ∃ R, R = ((n == 0) && ((a == []) && (b == []))) := ⟨_, rfl⟩; rw [<- hR]; have HR := hide hR; clear hR hI hS h1 h2; rw [hea.out] at HR; rw [heb.out] at HR; clear hea heb; generalize (⟨a.toArray⟩ : ByteArray) = S1 at *
 generalize (⟨b.toArray⟩ : ByteArray) = S2 at *
 by_cases hn : n = 0
 · subst hn
   go_enter Tryz.func69, Tryz.ntmps69; go_wp2_with fail; refine (HI.out _).mono ?_; rintro e wq ⟨rfl, hwq⟩; subst hwq; go_wp2_with fail; refine (HSh.out _).mono ?_; rintro e wq ⟨rfl, hwq⟩; subst hwq; cases hE1 : S1.toList.isEmpty with
   | false =>
     go_wp2_with fail; go_ret; exact ⟨by rw [HR.out]; simp [*], HB1.out _⟩
   | true =>
     cases hE2 : S2.toList.isEmpty with
     | false =>
       go_wp2_with fail; go_ret; exact ⟨by rw [HR.out]; simp [*], HB1.out _⟩
     | true =>
       go_wp2_with fail; go_ret; exact ⟨by rw [HR.out]; simp [*], HB1.out _⟩
 · have hn' : (n == 0) = false := by simpa using hn
   clear hn; go_enter Tryz.func69, Tryz.ntmps69; go_wp2_with fail; refine (HI.out _).mono ?_; rintro e wq ⟨rfl, hwq⟩; subst hwq; go_wp2_with fail; refine (HSh.out _).mono ?_; rintro e wq ⟨rfl, hwq⟩; subst hwq; go_wp2_with fail; go_ret; exact ⟨by rw [HR.out]; simp [*], HB1.out _⟩
theorem showInstr_1 (k : Int) (n : Int) (a b : Pp.Bs) (h1 : a.length <= maxLen) (h2 : b.length <= maxLen) (hI : ∀ w, Calls Tryz.prog 68 #[.int .i64 k, .int .i64 0, .int .i64 43] w fun e w' => e = .returned (.bool true) /\ w' = w) (hS : ∀ w, Calls Tryz.prog 80 #[.int .i64 k] w fun e w' => e = .returned (.int .i64 1) /\ w' = w) (w : World) :
 Calls Tryz.prog 69 #[.agg #[.int .i64 k, .int .i64 n, .string ⟨a.toArray⟩, .string ⟨b.toArray⟩]] w fun e w' => e = .returned (.bool (Pp.withinB n (-2147483648) 2147483647 && ((a == []) && (b == [])))) /\ Below w.heap.size w w' := by
 have HI := hide hI; have HSh := hide hS; have HB1 : Hid (∀ o, Below w.heap.size w (w.alloc o)) := hide fun o => (Below.refl _ _).alloc (Nat.le_refl _) o; have hFa := hide (fun w => refFresh_any a h1 w); have hFb := hide (fun w => refFresh_any b h2 w); have hea : Hid ((a == []) = (⟨a.toArray⟩ : ByteArray).toList.isEmpty) := hide (by rw [ByteArray.toList_eq]; cases a <;> rfl)
 have heb : Hid ((b == []) = (⟨b.toArray⟩ : ByteArray).toList.isEmpty) := hide (by rw [ByteArray.toList_eq]; cases b <;> rfl)
 obtain ⟨R, hR⟩ : ∃ R, R = (Pp.withinB n (-2147483648) 2147483647 && ((a == []) && (b == []))) := ⟨_, rfl⟩; rw [<- hR]; have HR := hide hR; clear hR hI hS h1 h2; have HW := hide (fun w => ref_in_any n (-2147483648) 2147483647 w); generalize Pp.withinB n (-2147483648) 2147483647 = b0 at *
 rw [hea.out] at HR; rw [heb.out] at HR; clear hea heb; generalize (⟨a.toArray⟩ : ByteArray) = S1 at *
 generalize (⟨b.toArray⟩ : ByteArray) = S2 at *
 go_enter Tryz.func69, Tryz.ntmps69; go_wp2_with fail; refine (HI.out _).mono ?_; rintro e wq ⟨rfl, hwq⟩; subst hwq; go_wp2_with fail; refine (HSh.out _).mono ?_; rintro e wq ⟨rfl, hwq⟩; subst hwq; go_wp2_with fail; refine (HW.out _).mono ?_; rintro e wq ⟨rfl, hwq⟩; subst hwq; cases b0 with
 | false =>
   go_wp2_with fail; go_ret; exact ⟨by rw [HR.out]; simp [*], HB1.out _⟩
 | true =>
   cases hE1 : S1.toList.isEmpty with
   | false =>
     go_wp2_with fail; go_ret; exact ⟨by rw [HR.out]; simp [*], HB1.out _⟩
   | true =>
     cases hE2 : S2.toList.isEmpty with
     | false =>
       go_wp2_with fail; go_ret; exact ⟨by rw [HR.out]; simp [*], HB1.out _⟩
     | true =>
       go_wp2_with fail; go_ret; exact ⟨by rw [HR.out]; simp [*], HB1.out _⟩
theorem showInstr_2 (k : Int) (n : Int) (a b : Pp.Bs) (h1 : a.length <= maxLen) (h2 : b.length <= maxLen) (hI : ∀ w, Calls Tryz.prog 68 #[.int .i64 k, .int .i64 0, .int .i64 43] w fun e w' => e = .returned (.bool true) /\ w' = w) (hS : ∀ w, Calls Tryz.prog 80 #[.int .i64 k] w fun e w' => e = .returned (.int .i64 2) /\ w' = w) (w : World) :
 Calls Tryz.prog 69 #[.agg #[.int .i64 k, .int .i64 n, .string ⟨a.toArray⟩, .string ⟨b.toArray⟩]] w fun e w' => e = .returned (.bool (Pp.withinB n 0 7 && ((a == []) && (b == [])))) /\ Below w.heap.size w w' := by
 have HI := hide hI; have HSh := hide hS; have HB1 : Hid (∀ o, Below w.heap.size w (w.alloc o)) := hide fun o => (Below.refl _ _).alloc (Nat.le_refl _) o; have hFa := hide (fun w => refFresh_any a h1 w); have hFb := hide (fun w => refFresh_any b h2 w); have hea : Hid ((a == []) = (⟨a.toArray⟩ : ByteArray).toList.isEmpty) := hide (by rw [ByteArray.toList_eq]; cases a <;> rfl)
 have heb : Hid ((b == []) = (⟨b.toArray⟩ : ByteArray).toList.isEmpty) := hide (by rw [ByteArray.toList_eq]; cases b <;> rfl)
 obtain ⟨R, hR⟩ : ∃ R, R = (Pp.withinB n 0 7 && ((a == []) && (b == []))) := ⟨_, rfl⟩; rw [<- hR]; have HR := hide hR; clear hR hI hS h1 h2; have HW := hide (fun w => ref_in_any n 0 7 w); generalize Pp.withinB n 0 7 = b0 at *
 rw [hea.out] at HR; rw [heb.out] at HR; clear hea heb; generalize (⟨a.toArray⟩ : ByteArray) = S1 at *
 generalize (⟨b.toArray⟩ : ByteArray) = S2 at *
 go_enter Tryz.func69, Tryz.ntmps69; go_wp2_with fail; refine (HI.out _).mono ?_; rintro e wq ⟨rfl, hwq⟩; subst hwq; go_wp2_with fail; refine (HSh.out _).mono ?_; rintro e wq ⟨rfl, hwq⟩; subst hwq; go_wp2_with fail; refine (HW.out _).mono ?_; rintro e wq ⟨rfl, hwq⟩; subst hwq; cases b0 with
 | false =>
   go_wp2_with fail; go_ret; exact ⟨by rw [HR.out]; simp [*], HB1.out _⟩
 | true =>
   cases hE1 : S1.toList.isEmpty with
   | false =>
     go_wp2_with fail; go_ret; exact ⟨by rw [HR.out]; simp [*], HB1.out _⟩
   | true =>
     cases hE2 : S2.toList.isEmpty with
     | false =>
       go_wp2_with fail; go_ret; exact ⟨by rw [HR.out]; simp [*], HB1.out _⟩
     | true =>
       go_wp2_with fail; go_ret; exact ⟨by rw [HR.out]; simp [*], HB1.out _⟩
theorem showInstr_3 (k : Int) (n : Int) (a b : Pp.Bs) (h1 : a.length <= maxLen) (h2 : b.length <= maxLen) (hI : ∀ w, Calls Tryz.prog 68 #[.int .i64 k, .int .i64 0, .int .i64 43] w fun e w' => e = .returned (.bool true) /\ w' = w) (hS : ∀ w, Calls Tryz.prog 80 #[.int .i64 k] w fun e w' => e = .returned (.int .i64 3) /\ w' = w) (w : World) :
 Calls Tryz.prog 69 #[.agg #[.int .i64 k, .int .i64 n, .string ⟨a.toArray⟩, .string ⟨b.toArray⟩]] w fun e w' => e = .returned (.bool (Pp.withinB n 0 47 && ((a == []) && (b == [])))) /\ Below w.heap.size w w' := by
 have HI := hide hI; have HSh := hide hS; have HB1 : Hid (∀ o, Below w.heap.size w (w.alloc o)) := hide fun o => (Below.refl _ _).alloc (Nat.le_refl _) o; have hFa := hide (fun w => refFresh_any a h1 w); have hFb := hide (fun w => refFresh_any b h2 w); have hea : Hid ((a == []) = (⟨a.toArray⟩ : ByteArray).toList.isEmpty) := hide (by rw [ByteArray.toList_eq]; cases a <;> rfl)
 have heb : Hid ((b == []) = (⟨b.toArray⟩ : ByteArray).toList.isEmpty) := hide (by rw [ByteArray.toList_eq]; cases b <;> rfl)
 obtain ⟨R, hR⟩ : ∃ R, R = (Pp.withinB n 0 47 && ((a == []) && (b == []))) := ⟨_, rfl⟩; rw [<- hR]; have HR := hide hR; clear hR hI hS h1 h2; have HW := hide (fun w => ref_in_any n 0 47 w); generalize Pp.withinB n 0 47 = b0 at *
 rw [hea.out] at HR; rw [heb.out] at HR; clear hea heb; generalize (⟨a.toArray⟩ : ByteArray) = S1 at *
 generalize (⟨b.toArray⟩ : ByteArray) = S2 at *
 go_enter Tryz.func69, Tryz.ntmps69; go_wp2_with fail; refine (HI.out _).mono ?_; rintro e wq ⟨rfl, hwq⟩; subst hwq; go_wp2_with fail; refine (HSh.out _).mono ?_; rintro e wq ⟨rfl, hwq⟩; subst hwq; go_wp2_with fail; refine (HW.out _).mono ?_; rintro e wq ⟨rfl, hwq⟩; subst hwq; cases b0 with
 | false =>
   go_wp2_with fail; go_ret; exact ⟨by rw [HR.out]; simp [*], HB1.out _⟩
 | true =>
   cases hE1 : S1.toList.isEmpty with
   | false =>
     go_wp2_with fail; go_ret; exact ⟨by rw [HR.out]; simp [*], HB1.out _⟩
   | true =>
     cases hE2 : S2.toList.isEmpty with
     | false =>
       go_wp2_with fail; go_ret; exact ⟨by rw [HR.out]; simp [*], HB1.out _⟩
     | true =>
       go_wp2_with fail; go_ret; exact ⟨by rw [HR.out]; simp [*], HB1.out _⟩
theorem showInstr_4 (k : Int) (n : Int) (a b : Pp.Bs) (h1 : a.length <= maxLen) (h2 : b.length <= maxLen) (hI : ∀ w, Calls Tryz.prog 68 #[.int .i64 k, .int .i64 0, .int .i64 43] w fun e w' => e = .returned (.bool true) /\ w' = w) (hS : ∀ w, Calls Tryz.prog 80 #[.int .i64 k] w fun e w' => e = .returned (.int .i64 4) /\ w' = w) (w : World) :
 Calls Tryz.prog 69 #[.agg #[.int .i64 k, .int .i64 n, .string ⟨a.toArray⟩, .string ⟨b.toArray⟩]] w fun e w' => e = .returned (.bool ((n == 0) && (Pp.freshB a && (b == [])))) /\ Below w.heap.size w w' := by
 have HI := hide hI; have HSh := hide hS; have HB1 : Hid (∀ o, Below w.heap.size w (w.alloc o)) := hide fun o => (Below.refl _ _).alloc (Nat.le_refl _) o; have hFa := hide (fun w => refFresh_any a h1 w); have hFb := hide (fun w => refFresh_any b h2 w); have hea : Hid ((a == []) = (⟨a.toArray⟩ : ByteArray).toList.isEmpty) := hide (by rw [ByteArray.toList_eq]; cases a <;> rfl)
 have heb : Hid ((b == []) = (⟨b.toArray⟩ : ByteArray).toList.isEmpty) := hide (by rw [ByteArray.toList_eq]; cases b <;> rfl)
 obtain ⟨R, hR⟩ : ∃ R, R = ((n == 0) && (Pp.freshB a && (b == []))) := ⟨_, rfl⟩; rw [<- hR]; have HR := hide hR; clear hR hI hS h1 h2; rw [heb.out] at HR; clear hea heb; generalize (⟨a.toArray⟩ : ByteArray) = S1 at *
 generalize (⟨b.toArray⟩ : ByteArray) = S2 at *
 generalize Pp.freshB a = f1 at *
 by_cases hn : n = 0
 · subst hn
   go_enter Tryz.func69, Tryz.ntmps69; go_wp2_with fail; refine (HI.out _).mono ?_; rintro e wq ⟨rfl, hwq⟩; subst hwq; go_wp2_with fail; refine (HSh.out _).mono ?_; rintro e wq ⟨rfl, hwq⟩; subst hwq; go_wp2_with fail; refine (hFa.out _).mono ?_; rintro e w3 ⟨rfl, hb3⟩; obtain ⟨B1, HBx, hsz⟩ := box_one hb3; have p2 : w3.cell? ⟨w.heap.size, 2, none⟩ = some (.string S1) := B1 2; have p3 : w3.cell? ⟨w.heap.size, 3, none⟩ = some (.string S2) := B1 3; have HB3 := hide HBx; clear B1 hb3 HBx; cases f1 with
   | false =>
     go_wp2_with fail; go_ret; exact ⟨by rw [HR.out]; simp [*], HB3.out⟩
   | true =>
     cases hE2 : S2.toList.isEmpty with
     | false =>
       go_wp2_with fail; go_ret; exact ⟨by rw [HR.out]; simp [*], HB3.out⟩
     | true =>
       go_wp2_with fail; go_ret; exact ⟨by rw [HR.out]; simp [*], HB3.out⟩
 · have hn' : (n == 0) = false := by simpa using hn
   clear hn; go_enter Tryz.func69, Tryz.ntmps69; go_wp2_with fail; refine (HI.out _).mono ?_; rintro e wq ⟨rfl, hwq⟩; subst hwq; go_wp2_with fail; refine (HSh.out _).mono ?_; rintro e wq ⟨rfl, hwq⟩; subst hwq; go_wp2_with fail; go_ret; exact ⟨by rw [HR.out]; simp [*], HB1.out _⟩
theorem showInstr_5 (k : Int) (n : Int) (a b : Pp.Bs) (h1 : a.length <= maxLen) (h2 : b.length <= maxLen) (hI : ∀ w, Calls Tryz.prog 68 #[.int .i64 k, .int .i64 0, .int .i64 43] w fun e w' => e = .returned (.bool true) /\ w' = w) (hS : ∀ w, Calls Tryz.prog 80 #[.int .i64 k] w fun e w' => e = .returned (.int .i64 5) /\ w' = w) (w : World) :
 Calls Tryz.prog 69 #[.agg #[.int .i64 k, .int .i64 n, .string ⟨a.toArray⟩, .string ⟨b.toArray⟩]] w fun e w' => e = .returned (.bool ((n == 0) && (Pp.freshB a && Pp.freshB b))) /\ Below w.heap.size w w' := by
 have HI := hide hI; have HSh := hide hS; have HB1 : Hid (∀ o, Below w.heap.size w (w.alloc o)) := hide fun o => (Below.refl _ _).alloc (Nat.le_refl _) o; have hFa := hide (fun w => refFresh_any a h1 w); have hFb := hide (fun w => refFresh_any b h2 w); have hea : Hid ((a == []) = (⟨a.toArray⟩ : ByteArray).toList.isEmpty) := hide (by rw [ByteArray.toList_eq]; cases a <;> rfl)
 have heb : Hid ((b == []) = (⟨b.toArray⟩ : ByteArray).toList.isEmpty) := hide (by rw [ByteArray.toList_eq]; cases b <;> rfl)
 obtain ⟨R, hR⟩ : ∃ R, R = ((n == 0) && (Pp.freshB a && Pp.freshB b)) := ⟨_, rfl⟩; rw [<- hR]; have HR := hide hR; clear hR hI hS h1 h2; clear hea heb; generalize (⟨a.toArray⟩ : ByteArray) = S1 at *
 generalize (⟨b.toArray⟩ : ByteArray) = S2 at *
 generalize Pp.freshB a = f1 at *
 generalize Pp.freshB b = f2 at *
 by_cases hn : n = 0
 · subst hn
   go_enter Tryz.func69, Tryz.ntmps69; go_wp2_with fail; refine (HI.out _).mono ?_; rintro e wq ⟨rfl, hwq⟩; subst hwq; go_wp2_with fail; refine (HSh.out _).mono ?_; rintro e wq ⟨rfl, hwq⟩; subst hwq; go_wp2_with fail; refine (hFa.out _).mono ?_; rintro e w3 ⟨rfl, hb3⟩; obtain ⟨B1, HBx, hsz⟩ := box_one hb3; have p2 : w3.cell? ⟨w.heap.size, 2, none⟩ = some (.string S1) := B1 2; have p3 : w3.cell? ⟨w.heap.size, 3, none⟩ = some (.string S2) := B1 3; have HB3 := hide HBx; clear B1 hb3 HBx; cases f1 with
   | false =>
     go_wp2_with fail; go_ret; exact ⟨by rw [HR.out]; simp [*], HB3.out⟩
   | true =>
     go_wp2_with fail; refine (hFb.out _).mono ?_; rintro e w4 ⟨rfl, hb4⟩; have HB4 := hide (HB3.out.trans (hb4.mono HB3.out.size)); clear hb4; go_wp2_with fail; go_ret; exact ⟨by rw [HR.out]; simp, HB4.out⟩
 · have hn' : (n == 0) = false := by simpa using hn
   clear hn; go_enter Tryz.func69, Tryz.ntmps69; go_wp2_with fail; refine (HI.out _).mono ?_; rintro e wq ⟨rfl, hwq⟩; subst hwq; go_wp2_with fail; refine (HSh.out _).mono ?_; rintro e wq ⟨rfl, hwq⟩; subst hwq; go_wp2_with fail; go_ret; exact ⟨by rw [HR.out]; simp [*], HB1.out _⟩
theorem showInstr_any (x : Pp.XIns) (h1 : x.a.length <= maxLen) (h2 : x.b.length <= maxLen) (w : World) :
 Calls Tryz.prog 69 #[.agg #[.int .i64 x.op, .int .i64 x.n, .string ⟨x.a.toArray⟩, .string ⟨x.b.toArray⟩]] w fun e w' => e = .returned (.bool (Pp.insB x)) /\ Below w.heap.size w w' := by
 obtain ⟨op, n, a, b⟩ := x; simp only at h1 h2 ⊢; have hI := hide (fun w => ref_in_any op 0 43 w); have HB1 : Hid (∀ o, Below w.heap.size w (w.alloc o)) := hide fun o => (Below.refl _ _).alloc (Nat.le_refl _) o; by_cases hop : 0 <= op /\ op < 44
 · obtain ⟨k, rfl⟩ := Int.eq_ofNat_of_zero_le hop.1
   have hk : k < 44 := by omega
   have hw : Pp.withinB (k : Int) 0 43 = true := by simp [Pp.withinB]; omega
   rw [hw] at hI; have hSh := fun w => Shape_any k hk w
   have hR : Pp.insB ⟨(k : Int), n, a, b⟩ = (Pp.withinB n (Pp.argsX (k : Int)).2.1 (Pp.argsX (k : Int)).2.2.1 && (Pp.argB a (decide (1 <= (Pp.argsX (k : Int)).2.2.2)) && Pp.argB b (decide (2 <= (Pp.argsX (k : Int)).2.2.2)))) := by
    unfold Pp.insB; have : (decide (0 <= (k : Int)) && decide ((k : Int) < 44)) = true := by simp; omega
    simp only [this, Bool.true_and]
   rw [Pp.argsX_shape k hk] at hR; have hsl := Pp.shape_le k
   have hz : Pp.withinB n 0 0 = (n == 0) := by
    unfold Pp.withinB; by_cases h : n = 0
    · subst h; rfl
    · have e : (n == 0) = false := by simpa using h
      rw [e]; simp; omega
   rcases (show Pp.shape k = 0 \/ Pp.shape k = 1 \/ Pp.shape k = 2 \/ Pp.shape k = 3 \/ Pp.shape k = 4 \/ Pp.shape k = 5 by omega) with hs | hs | hs | hs | hs | hs
   · rw [hs] at hR hSh
     have e : Pp.insB ⟨(k : Int), n, a, b⟩ = (Pp.withinB n 0 0 && ((a == []) && (b == []))) := hR; rw [e, hz]; exact showInstr_0 k n a b h1 h2 hI.out hSh w
   · rw [hs] at hR hSh
     have e : Pp.insB ⟨(k : Int), n, a, b⟩ = (Pp.withinB n (-2147483648) 2147483647 && ((a == []) && (b == []))) := hR; rw [e]; exact showInstr_1 k n a b h1 h2 hI.out hSh w
   · rw [hs] at hR hSh
     have e : Pp.insB ⟨(k : Int), n, a, b⟩ = (Pp.withinB n 0 7 && ((a == []) && (b == []))) := hR; rw [e]; exact showInstr_2 k n a b h1 h2 hI.out hSh w
   · rw [hs] at hR hSh
     have e : Pp.insB ⟨(k : Int), n, a, b⟩ = (Pp.withinB n 0 47 && ((a == []) && (b == []))) := hR; rw [e]; exact showInstr_3 k n a b h1 h2 hI.out hSh w
   · rw [hs] at hR hSh
     have e : Pp.insB ⟨(k : Int), n, a, b⟩ = (Pp.withinB n 0 0 && (Pp.freshB a && (b == []))) := hR; rw [e, hz]; exact showInstr_4 k n a b h1 h2 hI.out hSh w
   · rw [hs] at hR hSh
     have e : Pp.insB ⟨(k : Int), n, a, b⟩ = (Pp.withinB n 0 0 && (Pp.freshB a && Pp.freshB b)) := hR; rw [e, hz]; exact showInstr_5 k n a b h1 h2 hI.out hSh w
 · have hR : Hid (Pp.insB ⟨op, n, a, b⟩ = false) := hide (by
    unfold Pp.insB; have : (decide (0 <= op) && decide (op < 44)) = false := by simp; omega
    rw [this]; rfl)
   have hw : Hid (Pp.withinB op 0 43 = false) := hide (by simp [Pp.withinB]; omega)
   rw [hw.out] at hI; rw [hR.out]; generalize (⟨a.toArray⟩ : ByteArray) = S1 at *
   generalize (⟨b.toArray⟩ : ByteArray) = S2 at *
   clear hop; go_enter Tryz.func69, Tryz.ntmps69; go_wp2_with fail; refine (hI.out _).mono ?_; rintro e wq ⟨rfl, hwq⟩; subst hwq; go_wp2_with fail; go_ret; exact ⟨rfl, HB1.out _⟩
end Go.Proofs.YtbbbnciejmdpfabGreatDoor
