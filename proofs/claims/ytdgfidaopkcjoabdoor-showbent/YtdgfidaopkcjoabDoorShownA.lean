/- What the page's freshName, TypeText, in, Shape, showInstr answer. -/
import Derived.Test.YtdgfidaopkcjoabDoorShowT
import Derived.Test.YtdgfidaopkcjoabDoorRefNS
import Derived.Test.YtdgfidaopkcjoabDoorRefKS
namespace Go.Proofs.YtdgfidaopkcjoabDoor
open Go.RowKit
set_option linter.unusedVariables false
set_option linter.unusedSimpArgs false

set_option maxRecDepth 100000 in
set_option maxHeartbeats 1000000 in
theorem refFresh_any (s : List UInt8) (hs : s.length ≤ maxLen) (w : World) :
    Calls Tryd.prog 11 #[.string ⟨s.toArray⟩] w fun e w' => e = .returned (.bool (Pp.freshB s)) ∧ Below w.heap.size w w' := by
  have hN : Hid (∀ w', Calls Tryd.prog 19 #[.string ⟨s.toArray⟩] w' fun e w'' => e = .returned (.bool (Lx.nameL s)) ∧ w'' = w') := hide fun w' => refName_any ⟨s.toArray⟩ (by rw [Sh.str_sz]; exact hs) w'
  have hK := hide (fun w' => refKept_any s w')
  have hF : Hid (Pp.freshB s = (Lx.nameL s && !Pp.keptL s)) := rfl
  generalize Lx.nameL s = b at *
  generalize Pp.keptL s = b2 at *
  generalize Pp.freshB s = R at *
  generalize (⟨s.toArray⟩ : ByteArray) = S at *
  cases b with
  | false =>
    go_enter Tryd.func11, Tryd.ntmps11
    go_wp2_with fail
    refine (hN.out _).mono ?_
    rintro e wq ⟨rfl, hwq⟩
    have hwq := hwq.symm
    subst hwq
    go_wp2_with fail
    go_ret
    exact ⟨by rw [hF.out]; rfl, Below.refl _ _⟩
  | true =>
    go_enter Tryd.func11, Tryd.ntmps11
    go_wp2_with fail
    refine (hN.out _).mono ?_
    rintro e wq ⟨rfl, hwq⟩
    have hwq := hwq.symm
    subst hwq
    go_wp2_with fail
    refine (hK.out _).mono ?_
    rintro e w2 ⟨rfl, hb⟩
    go_wp2_with fail
    go_ret
    exact ⟨by rw [hF.out]; rfl, hb⟩
theorem ref_in_any (n lo hi : Int) (w : World) :
    Calls Tryd.prog 21 #[.int .i64 n, .int .i64 lo, .int .i64 hi] w fun e w' => e = .returned (.bool (Pp.withinB n lo hi)) ∧ w' = w := by
  go_enter Tryd.func21, Tryd.ntmps21
  by_cases h1 : lo ≤ n
  · go_wp2_with fail
    go_ret
    exact ⟨ret_bool (by simp [Pp.withinB, h1]), rfl⟩
  · go_wp2_with fail
    go_ret
    exact ⟨ret_bool (by simp [Pp.withinB]; omega), rfl⟩
namespace Sh
theorem typeT_no {t : Pp.Ty} (h : Pp.typeB t = false) : Pp.typeT t = [] := by unfold Pp.typeT; rw [h]; rfl
theorem typeT_of {t : Pp.Ty} (h : Pp.typeB t = true) : Pp.typeT t = ((Pp.tyW t).map Pp.wtx).flatten := by unfold Pp.typeT; rw [h]; rfl
theorem typeT_ne {t : Pp.Ty} (h : Pp.typeB t = true) : Pp.typeT t ≠ [] := by
  rw [typeT_of h]
  have h1 := Pp.gw_ty ((Pp.typeB_iff t).1 h)
  obtain ⟨k, n⟩ := t
  have h2 := (Pp.typeB_iff _).1 h
  rcases h2 with ⟨h2, _⟩ | ⟨h2, h3⟩
  · simp only at h2
    rcases h2 with rfl | rfl | rfl <;> simp [Pp.tyW, wtx_nm, Pp.wVoid, Pp.wInt]
  · simp only at h2 h3
    have hn : n ≠ [] := fun e => by rw [e] at h3; have := h3.1; simp [Lx.nameL] at this
    rcases h2 with rfl | rfl
    · simp [Pp.tyW, wtx_nm, hn]
    · simp [Pp.tyW, wtx_nm, hn]
end Sh
set_option maxRecDepth 100000 in
set_option maxHeartbeats 4000000 in
theorem TypeText_any (t : Pp.Ty) (hs : t.name.length ≤ maxLen) (w : World) :
    Calls Tryd.prog 12 #[.agg #[.int .i64 t.kind, .string ⟨t.name.toArray⟩]] w fun e w' => e = .returned (.string ⟨(Pp.typeT t).toArray⟩) ∧ Below w.heap.size w w' := by
  obtain ⟨k, n⟩ := t
  simp only at hs ⊢
  have hF := hide (fun w' => refFresh_any n hs w')
  have HB1 : Hid (∀ o, Below w.heap.size w (w.alloc o)) := hide fun o => (Below.refl _ _).alloc (Nat.le_refl _) o
  rcases (show k = 1 ∨ k = 2 ∨ k = 4 ∨ k = 3 ∨ k = 5 ∨ (¬ k = 1 ∧ ¬ k = 2 ∧ ¬ k = 4 ∧ ¬ k = 3 ∧ ¬ k = 5) by omega) with hk | hk | hk | hk | hk | ⟨k1, k2, k4, k3, k5⟩
  · subst hk
    by_cases hn : n = []
    · subst hn
      have hR : Hid (Pp.typeT ⟨1, []⟩ = [118, 111, 105, 100]) := hide (by decide +kernel)
      rw [hR.out]
      go_enter Tryd.func12, Tryd.ntmps12
      go_wp2_with fail
      go_ret
      exact ⟨rfl, HB1.out _⟩
    · have hR : Hid (Pp.typeT ⟨1, n⟩ = []) := hide (Sh.typeT_no (by unfold Pp.typeB; rw [if_pos (by simp)]; simpa using hn))
      have hne := sh_nonempty n hn
      rw [hR.out]
      generalize (⟨n.toArray⟩ : ByteArray) = S at *
      go_enter Tryd.func12, Tryd.ntmps12
      go_wp2_with fail
      go_ret
      exact ⟨rfl, HB1.out _⟩
  · subst hk
    by_cases hn : n = []
    · subst hn
      have hR : Hid (Pp.typeT ⟨2, []⟩ = [105, 110, 116]) := hide (by decide +kernel)
      rw [hR.out]
      go_enter Tryd.func12, Tryd.ntmps12
      go_wp2_with fail
      go_ret
      exact ⟨rfl, HB1.out _⟩
    · have hR : Hid (Pp.typeT ⟨2, n⟩ = []) := hide (Sh.typeT_no (by unfold Pp.typeB; rw [if_pos (by simp)]; simpa using hn))
      have hne := sh_nonempty n hn
      rw [hR.out]
      generalize (⟨n.toArray⟩ : ByteArray) = S at *
      go_enter Tryd.func12, Tryd.ntmps12
      go_wp2_with fail
      go_ret
      exact ⟨rfl, HB1.out _⟩
  · subst hk
    by_cases hn : n = []
    · subst hn
      have hR : Hid (Pp.typeT ⟨4, []⟩ = [105, 110, 116, 91, 93]) := hide (by decide +kernel)
      rw [hR.out]
      go_enter Tryd.func12, Tryd.ntmps12
      go_wp2_with fail
      go_ret
      exact ⟨rfl, HB1.out _⟩
    · have hR : Hid (Pp.typeT ⟨4, n⟩ = []) := hide (Sh.typeT_no (by unfold Pp.typeB; rw [if_pos (by simp)]; simpa using hn))
      have hne := sh_nonempty n hn
      rw [hR.out]
      generalize (⟨n.toArray⟩ : ByteArray) = S at *
      go_enter Tryd.func12, Tryd.ntmps12
      go_wp2_with fail
      go_ret
      exact ⟨rfl, HB1.out _⟩
  · subst hk
    have HRR : Hid (Pp.typeT ⟨3, n⟩ = if Pp.freshB n = true then n else []) := hide (by unfold Pp.typeT; rw [show Pp.typeB ⟨3, n⟩ = Pp.freshB n from rfl]; cases Pp.freshB n <;> simp [Pp.tyW, Sh.wtx_nm])
    rw [HRR.out]
    cases hb : Pp.freshB n with
    | false =>
      rw [hb] at hF
      clear hb HRR
      rw [if_neg Bool.false_ne_true]
      generalize (⟨n.toArray⟩ : ByteArray) = S at *
      go_enter Tryd.func12, Tryd.ntmps12
      go_wp2_with fail
      refine (hF.out _).mono ?_
      rintro e w2 ⟨rfl, hb2⟩
      have HB2 := hide (((Below.refl _ _).alloc (Nat.le_refl _) _).trans (hb2.mono (by simp)))
      obtain ⟨B1, _, hsz⟩ := box_one hb2
      have p0 : w2.cell? ⟨w.heap.size, 0, none⟩ = some (.int .i64 3) := B1 0
      have p1 : w2.cell? ⟨w.heap.size, 1, none⟩ = some (.string S) := B1 1
      clear hb2 B1 hF
      go_wp2_with fail
      go_ret
      exact ⟨rfl, HB2.out⟩
    | true =>
      rw [hb] at hF
      have hnl : n.length ≤ 20 := ((Lx.nameL_iff n).1 ((Pp.freshB_iff n).1 hb).1).2.1
      clear hb HRR
      rw [if_pos rfl]
      have hap : Hid ((⟨n.toArray⟩ : ByteArray) ++ ⟨#[91, 93]⟩ = ⟨(n ++ [91, 93]).toArray⟩) := hide (by apply ByteArray.ext; simp)
      go_enter Tryd.func12, Tryd.ntmps12
      go_wp2_with fail
      refine (hF.out _).mono ?_
      rintro e w2 ⟨rfl, hb2⟩
      have HB2 := hide (((Below.refl _ _).alloc (Nat.le_refl _) _).trans (hb2.mono (by simp)))
      obtain ⟨B1, _, hsz⟩ := box_one hb2
      have p0 : w2.cell? ⟨w.heap.size, 0, none⟩ = some (.int .i64 3) := B1 0
      have p1 : w2.cell? ⟨w.heap.size, 1, none⟩ = some (.string ⟨n.toArray⟩) := B1 1
      clear hb2 B1 hF
      go_wp2_with fail
      go_ret
      exact ⟨by first | rfl | (rw [← hap.out]; rfl), HB2.out⟩
  · subst hk
    have HRR : Hid (Pp.typeT ⟨5, n⟩ = if Pp.freshB n = true then n ++ [91, 93] else []) := hide (by unfold Pp.typeT; rw [show Pp.typeB ⟨5, n⟩ = Pp.freshB n from rfl]; cases Pp.freshB n <;> simp [Pp.tyW, Sh.wtx_nm, Sh.wtx_sg, Pp.wLK, Pp.wRK])
    rw [HRR.out]
    cases hb : Pp.freshB n with
    | false =>
      rw [hb] at hF
      clear hb HRR
      rw [if_neg Bool.false_ne_true]
      generalize (⟨n.toArray⟩ : ByteArray) = S at *
      go_enter Tryd.func12, Tryd.ntmps12
      go_wp2_with fail
      refine (hF.out _).mono ?_
      rintro e w2 ⟨rfl, hb2⟩
      have HB2 := hide (((Below.refl _ _).alloc (Nat.le_refl _) _).trans (hb2.mono (by simp)))
      obtain ⟨B1, _, hsz⟩ := box_one hb2
      have p0 : w2.cell? ⟨w.heap.size, 0, none⟩ = some (.int .i64 5) := B1 0
      have p1 : w2.cell? ⟨w.heap.size, 1, none⟩ = some (.string S) := B1 1
      clear hb2 B1 hF
      go_wp2_with fail
      go_ret
      exact ⟨rfl, HB2.out⟩
    | true =>
      rw [hb] at hF
      have hnl : n.length ≤ 20 := ((Lx.nameL_iff n).1 ((Pp.freshB_iff n).1 hb).1).2.1
      clear hb HRR
      rw [if_pos rfl]
      have hap : Hid ((⟨n.toArray⟩ : ByteArray) ++ ⟨#[91, 93]⟩ = ⟨(n ++ [91, 93]).toArray⟩) := hide (by apply ByteArray.ext; simp)
      go_enter Tryd.func12, Tryd.ntmps12
      go_wp2_with fail
      refine (hF.out _).mono ?_
      rintro e w2 ⟨rfl, hb2⟩
      have HB2 := hide (((Below.refl _ _).alloc (Nat.le_refl _) _).trans (hb2.mono (by simp)))
      obtain ⟨B1, _, hsz⟩ := box_one hb2
      have p0 : w2.cell? ⟨w.heap.size, 0, none⟩ = some (.int .i64 5) := B1 0
      have p1 : w2.cell? ⟨w.heap.size, 1, none⟩ = some (.string ⟨n.toArray⟩) := B1 1
      clear hb2 B1 hF
      go_wp2_with fail
      go_ret
      exact ⟨by first | rfl | (rw [← hap.out]; rfl), HB2.out⟩
  · have hR : Hid (Pp.typeT ⟨k, n⟩ = []) := hide (Sh.typeT_no (by unfold Pp.typeB; rw [if_neg (by simp only; omega), if_neg (by simp only; omega)]))
    have e1 : (k == 1) = false := by simpa using k1
    have e2 : (k == 2) = false := by simpa using k2
    have e3 : (k == 3) = false := by simpa using k3
    have e4 : (k == 4) = false := by simpa using k4
    have e5 : (k == 5) = false := by simpa using k5
    rw [hR.out]
    generalize (⟨n.toArray⟩ : ByteArray) = S at *
    clear k1 k2 k3 k4 k5
    go_enter Tryd.func12, Tryd.ntmps12
    go_wp2_with fail
    go_ret
    exact ⟨rfl, HB1.out _⟩

set_option maxHeartbeats 2000000 in
theorem Shape_any (op : Nat) (h : op < 44) (w : World) :
    Calls Tryd.prog 41 #[.int .i64 (op : Int)] w fun e w' => e = .returned (.int .i64 (Pp.shape op : Int)) ∧ w' = w := by
  rcases (show op = 0 ∨ op = 1 ∨ op = 2 ∨ op = 3 ∨ op = 4 ∨ op = 5 ∨ op = 6 ∨ op = 7 ∨ op = 8 ∨ op = 9 ∨ op = 10 ∨ op = 11 ∨ op = 12 ∨ op = 13 ∨ op = 14 ∨ op = 15 ∨ op = 16 ∨ op = 17 ∨ op = 18 ∨ op = 19 ∨ op = 20 ∨ op = 21 ∨ op = 22 ∨ op = 23 ∨ op = 24 ∨ op = 25 ∨ op = 26 ∨ op = 27 ∨ op = 28 ∨ op = 29 ∨ op = 30 ∨ op = 31 ∨ op = 32 ∨ op = 33 ∨ op = 34 ∨ op = 35 ∨ op = 36 ∨ op = 37 ∨ op = 38 ∨ op = 39 ∨ op = 40 ∨ op = 41 ∨ op = 42 ∨ op = 43 by omega) with rfl | rfl | rfl | rfl | rfl | rfl | rfl | rfl | rfl | rfl | rfl | rfl | rfl | rfl | rfl | rfl | rfl | rfl | rfl | rfl | rfl | rfl | rfl | rfl | rfl | rfl | rfl | rfl | rfl | rfl | rfl | rfl | rfl | rfl | rfl | rfl | rfl | rfl | rfl | rfl | rfl | rfl | rfl | rfl
  all_goals (go_enter Tryd.func41, Tryd.ntmps41; go_wp2; go_ret; exact ⟨rfl, rfl⟩)

end Go.Proofs.YtdgfidaopkcjoabDoor
