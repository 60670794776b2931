/- What the page's Name answers. What the page's Kept answers. What the page's freshName, TypeText, in, Shape, showInstr answer. -/
import Derived.Test.YtdgfidaopkcjoaaDoorShowA
import Derived.Test.YtdgfidaopkcjoaaDoorMgA
import Derived.Test.YtdgfidaopkcjoaaDoorMemX
import Derived.Test.YtdgfidaopkcjoaaDoorMgE
namespace Go.Proofs.YtdgfidaopkcjoaaDoor
open Go.RowKit
set_option linter.unusedVariables false
set_option linter.unusedSimpArgs false

set_option maxHeartbeats 400000 in
theorem refDigit_any (c : Int) (w : World) :
    Calls Tryd.prog 33 #[.int .u8 c] w fun e w' => e = .returned (.bool (Lx.digI c)) ∧ w' = w := by
  go_enter Tryd.func33, Tryd.ntmps33
  go_wp2
  all_goals (go_ret; exact ⟨ret_bool (by simp [Lx.digI]; omega), rfl⟩)

set_option maxHeartbeats 400000 in
theorem refLetter_any (c : Int) (w : World) :
    Calls Tryd.prog 32 #[.int .u8 c] w fun e w' => e = .returned (.bool (Lx.ltrI c)) ∧ w' = w := by
  go_enter Tryd.func32, Tryd.ntmps32
  go_wp2
  all_goals (go_ret; exact ⟨ret_bool (by simp [Lx.ltrI]; try omega), rfl⟩)
set_option maxHeartbeats 1000000 in
theorem refName_any (s : ByteArray) (hs : s.size ≤ maxLen) (w : World) :
    Calls Tryd.prog 18 #[.string s] w fun e w' => e = .returned (.bool (Lx.nameL s.data.toList)) ∧ w' = w := by
  unfold maxLen at hs
  by_cases h1 : s.size < 1
  · have Hf := Lx.nameL_short s h1
    rw [Hf]; clear Hf
    go_enter Tryd.func18, Tryd.ntmps18
    go_wp2
    go_ret
    exact ⟨rfl, rfl⟩
  by_cases h20 : 20 < s.size
  · have Hf := Lx.nameL_long s h20
    rw [Hf]; clear Hf
    go_enter Tryd.func18, Tryd.ntmps18
    go_wp2
    go_ret
    exact ⟨rfl, rfl⟩
  have Hf := Lx.nameL_mid s (by omega) (by omega)
  rw [Hf]; clear Hf
  have h1' : 0 < s.size := by omega
  obtain ⟨R, hR⟩ : ∃ R : Bool, R = (!Lx.dig s[0] && s.data.toList.all Lx.inw) := ⟨_, rfl⟩
  rw [← hR]
  have HR : Hid (R = (!Lx.dig s[0] && s.data.toList.all Lx.inw)) := hR
  clear hR
  have hmem : ∀ k, ∀ h : k < s.size, s[k] ∈ s.data.toList := fun k h => by simp [ByteArray.getElem_eq_getElem_data]
  have HM : Hid (∀ k, ∀ h : k < s.size, s[k] ∈ s.data.toList) := hmem
  clear hmem
  cases hd : Lx.ltr s[0] with
  | false =>
    have hd' : Lx.ltrI (s[0].toNat : Int) = false := hd
    have HF : Hid (R = false) := by
      show _ = _
      rw [HR.out, Bool.eq_false_iff]
      intro h
      rw [Bool.and_eq_true] at h
      have hi := List.all_eq_true.1 h.2 s[0] (HM.out 0 h1')
      rw [Lx.let_inw, h.1, hi] at hd; cases hd
    clear hd
    go_enter Tryd.func18, Tryd.ntmps18
    go_wp2_with (go_at_call 32; refine (refLetter_any _ _).mono ?_; rintro e w' ⟨rfl, rfl⟩)
    go_ret
    exact ⟨ret_bool (by rw [HF.out]), rfl⟩
  | true =>
    have hd' : Lx.ltrI (s[0].toNat : Int) = true := hd
    rw [Lx.let_inw, Bool.and_eq_true] at hd
    have HF : Hid (R = s.data.toList.all Lx.inw) := by show _ = _; rw [HR.out, hd.1]; rfl
    have H1 : Hid ((s.data.toList.take 1).all Lx.inw = true) := by
      show _ = _
      have := Lx.take_snoc s 0 h1'
      rw [show 0 + 1 = 1 from rfl] at this
      rw [this]; simp [hd.2]
    clear hd HR
    go_enter Tryd.func18, Tryd.ntmps18
    go_wp2_with (go_at_call 32; refine (refLetter_any _ _).mono ?_; rintro e w' ⟨rfl, rfl⟩)
    clear hd'
    go_loop [3] (fun i => ∃ k : Nat, 1 ≤ k ∧ k ≤ s.size ∧ i = .int .i64 k ∧ Hid ((s.data.toList.take k).all Lx.inw = true)) (fun i => s.size - (intOf i).toNat)
    case atStart => exact ⟨1, by omega, by omega, rfl, H1⟩
    case round =>
      obtain ⟨k, hk1, hk, rfl, HA⟩ := hrel
      clear H1
      by_cases hlt : k < s.size
      · have hts := Lx.take_snoc s k hlt
        have HT : Hid ((s.data.toList.take (k + 1)).all Lx.inw = ((s.data.toList.take k).all Lx.inw && Lx.inw s[k])) := by rw [hts]; exact Lx.all_snoc _ _ _
        clear hts
        cases hl : Lx.ltr s[k] with
        | true =>
          have hl' : Lx.ltrI (s[k].toNat : Int) = true := hl
          have HW : Hid (Lx.inw s[k] = true) := by show _ = _; rw [Lx.inw_let, hl]; rfl
          clear hl
          go_wp2_with (go_at_call 32; refine (refLetter_any _ _).mono ?_; rintro e w' ⟨rfl, rfl⟩)
          go_round
          case rel => exact ⟨k + 1, by omega, by omega, by go_num, by show _ = _; rw [HT.out, HA.out, HW.out]; rfl⟩
          case measure => simp [intOf]; omega
        | false =>
          have hl' : Lx.ltrI (s[k].toNat : Int) = false := hl
          cases hg : Lx.dig s[k] with
          | true =>
            have hg' : Lx.digI (s[k].toNat : Int) = true := hg
            have HW : Hid (Lx.inw s[k] = true) := by show _ = _; rw [Lx.inw_let, hl, hg]; rfl
            clear hl hg
            go_wp2_with (first | (go_at_call 32; refine (refLetter_any _ _).mono ?_; rintro e w' ⟨rfl, rfl⟩) | (go_at_call 33; refine (refDigit_any _ _).mono ?_; rintro e w' ⟨rfl, rfl⟩))
            go_round
            case rel => exact ⟨k + 1, by omega, by omega, by go_num, by show _ = _; rw [HT.out, HA.out, HW.out]; rfl⟩
            case measure => simp [intOf]; omega
          | false =>
            have hg' : Lx.digI (s[k].toNat : Int) = false := hg
            have HN : Hid (s.data.toList.all Lx.inw = false) := by
              show _ = _
              rw [Bool.eq_false_iff]; intro h
              have := List.all_eq_true.1 h s[k] (HM.out k hlt)
              rw [Lx.inw_let, hl, hg] at this; cases this
            clear hl hg
            go_wp2_with (first | (go_at_call 32; refine (refLetter_any _ _).mono ?_; rintro e w' ⟨rfl, rfl⟩) | (go_at_call 33; refine (refDigit_any _ _).mono ?_; rintro e w' ⟨rfl, rfl⟩))
            go_ret
            exact ⟨ret_bool (by rw [HF.out, HN.out]), rfl⟩
      · have HN : Hid (s.data.toList.all Lx.inw = true) := by
          show _ = _
          rw [← HA.out, List.take_of_length_le (by simp; omega)]
        go_wp2
        go_ret
        exact ⟨ret_bool (by rw [HF.out, HN.out]), rfl⟩

theorem refName_is (s : ByteArray) (r : Bool) (h : Lx.nameL s.data.toList = r) (hs : s.size ≤ maxLen) (w : World) :
    Calls Tryd.prog 18 #[.string s] w fun e w' => e = .returned (.bool r) ∧ w' = w := by
  have := refName_any s hs w
  rw [h] at this
  exact this


end Go.Proofs.YtdgfidaopkcjoaaDoor

namespace Go.Proofs.YtdgfidaopkcjoaaDoor
open Go.RowKit
set_option linter.unusedVariables false
set_option linter.unusedSimpArgs false

set_option maxRecDepth 100000 in
set_option maxHeartbeats 4000000 in
theorem refKept_any (s : List UInt8) (w : World) :
    Calls Tryd.prog 19 #[.string ⟨s.toArray⟩] w fun e w' => e = .returned (.bool (Pp.keptL s)) ∧ Below w.heap.size w w' := by
  obtain ⟨K, hK⟩ : ∃ K, K = Pp.keptWords := ⟨_, rfl⟩
  have hL : Hid (K.length = 12) := by rw [hK]; exact hide rfl
  have hg : Hid (Pp.keptL s = K.any (· == s)) := by rw [hK]; rfl
  go_enter Tryd.func19, Tryd.ntmps19
  go_wp2
  generalize hA : (#[_, _, _, _, _, _, _, _, _, _, _, _] : Array Value) = A
  have hAK : A = (K.map fun t => Value.string ⟨t.toArray⟩).toArray := by rw [← hA, hK]; rfl
  clear hA hK
  have hAt : ∀ k, k < 12 → A[k]? = some (.string ⟨(K.getD k []).toArray⟩) := by
    intro k hk; rw [hAK]; simp [List.getD, show k < K.length by have := hL.out; omega]
  clear hAK
  go_loop [4] (fun i => ∃ k : Nat, k ≤ 12 ∧ i = .int .i64 k ∧ Hid ((K.take k).any (· == s) = false)) (fun i => 12 - (intOf i).toNat)
  case atStart => exact ⟨0, by omega, rfl, rfl⟩
  case round =>
    obtain ⟨k, hk, rfl, hp⟩ := hrel
    by_cases hlt : k < 12
    · have hix : (w.alloc (.cells A 9)).cell? ⟨w.heap.size, k, none⟩ = some (.string ⟨(K.getD k []).toArray⟩) := (cell_box (heap_alloc_new w _) k).trans (hAt k hlt)
      clear hAt
      obtain ⟨t, htt⟩ : ∃ t, t = K.getD k [] := ⟨_, rfl⟩
      rw [← htt] at hix
      have HT := hide htt
      clear htt
      have hlt' : (k : Int) < 12 := by omega
      by_cases hts : t = s
      · have hr := hide (hg.out.trans (Pp.any_at K s t k (by rw [hL.out]; exact hlt) HT.out hts))
        subst hts
        go_wp2
        go_ret
        rw [hr.out]
        exact ⟨rfl, (Below.refl _ _).alloc (Nat.le_refl _) _⟩
      · have hr := hide (Pp.any_step K s t k (by rw [hL.out]; exact hlt) HT.out hts hp.out)
        have hne : (t == s) = false := by simp [hts]
        go_wp2
        go_round
        case rel => exact ⟨k + 1, by omega, by go_num, hr⟩
        case measure => simp [intOf]; omega
    · have hr := hide (hg.out.trans (Pp.any_end K s k (by rw [hL.out]; exact hlt) hp.out))
      clear hAt
      go_wp2
      go_ret
      rw [hr.out]
      exact ⟨rfl, (Below.refl _ _).alloc (Nat.le_refl _) _⟩

end Go.Proofs.YtdgfidaopkcjoaaDoor

namespace Go.Proofs.YtdgfidaopkcjoaaDoor
open Go.RowKit
set_option linter.unusedVariables false
set_option linter.unusedSimpArgs false

set_option maxRecDepth 100000 in
set_option maxHeartbeats 1000000 in
theorem refFresh_any (s : List UInt8) (hs : s.length ≤ maxLen) (w : World) :
    Calls Tryd.prog 25 #[.string ⟨s.toArray⟩] w fun e w' => e = .returned (.bool (Pp.freshB s)) ∧ Below w.heap.size w w' := by
  have hN : Hid (∀ w', Calls Tryd.prog 18 #[.string ⟨s.toArray⟩] w' fun e w'' => e = .returned (.bool (Lx.nameL s)) ∧ w'' = w') := hide fun w' => refName_any ⟨s.toArray⟩ (by rw [Sh.str_sz]; exact hs) w'
  have hK := hide (fun w' => refKept_any s w')
  have hF : Hid (Pp.freshB s = (Lx.nameL s && !Pp.keptL s)) := rfl
  generalize Lx.nameL s = b at *
  generalize Pp.keptL s = b2 at *
  generalize Pp.freshB s = R at *
  generalize (⟨s.toArray⟩ : ByteArray) = S at *
  cases b with
  | false =>
    go_enter Tryd.func25, Tryd.ntmps25
    go_wp2_with fail
    refine (hN.out _).mono ?_
    rintro e wq ⟨rfl, hwq⟩
    have hwq := hwq.symm
    subst hwq
    go_wp2_with fail
    go_ret
    exact ⟨by rw [hF.out]; rfl, Below.refl _ _⟩
  | true =>
    go_enter Tryd.func25, Tryd.ntmps25
    go_wp2_with fail
    refine (hN.out _).mono ?_
    rintro e wq ⟨rfl, hwq⟩
    have hwq := hwq.symm
    subst hwq
    go_wp2_with fail
    refine (hK.out _).mono ?_
    rintro e w2 ⟨rfl, hb⟩
    go_wp2_with fail
    go_ret
    exact ⟨by rw [hF.out]; rfl, hb⟩
theorem ref_in_any (n lo hi : Int) (w : World) :
    Calls Tryd.prog 44 #[.int .i64 n, .int .i64 lo, .int .i64 hi] w fun e w' => e = .returned (.bool (Pp.withinB n lo hi)) ∧ w' = w := by
  go_enter Tryd.func44, Tryd.ntmps44
  by_cases h1 : lo ≤ n
  · go_wp2_with fail
    go_ret
    exact ⟨ret_bool (by simp [Pp.withinB, h1]), rfl⟩
  · go_wp2_with fail
    go_ret
    exact ⟨ret_bool (by simp [Pp.withinB]; omega), rfl⟩
namespace Sh
theorem typeT_no {t : Pp.Ty} (h : Pp.typeB t = false) : Pp.typeT t = [] := by unfold Pp.typeT; rw [h]; rfl
theorem typeT_of {t : Pp.Ty} (h : Pp.typeB t = true) : Pp.typeT t = ((Pp.tyW t).map Pp.wtx).flatten := by unfold Pp.typeT; rw [h]; rfl
theorem typeT_ne {t : Pp.Ty} (h : Pp.typeB t = true) : Pp.typeT t ≠ [] := by
  rw [typeT_of h]
  have h1 := Pp.gw_ty ((Pp.typeB_iff t).1 h)
  obtain ⟨k, n⟩ := t
  have h2 := (Pp.typeB_iff _).1 h
  rcases h2 with ⟨h2, _⟩ | ⟨h2, h3⟩
  · simp only at h2
    rcases h2 with rfl | rfl | rfl <;> simp [Pp.tyW, wtx_nm, Pp.wVoid, Pp.wInt]
  · simp only at h2 h3
    have hn : n ≠ [] := fun e => by rw [e] at h3; have := h3.1; simp [Lx.nameL] at this
    rcases h2 with rfl | rfl
    · simp [Pp.tyW, wtx_nm, hn]
    · simp [Pp.tyW, wtx_nm, hn]
end Sh
set_option maxRecDepth 100000 in
set_option maxHeartbeats 4000000 in
theorem TypeText_any (t : Pp.Ty) (hs : t.name.length ≤ maxLen) (w : World) :
    Calls Tryd.prog 11 #[.agg #[.int .i64 t.kind, .string ⟨t.name.toArray⟩]] w fun e w' => e = .returned (.string ⟨(Pp.typeT t).toArray⟩) ∧ Below w.heap.size w w' := by
  obtain ⟨k, n⟩ := t
  simp only at hs ⊢
  have hF := hide (fun w' => refFresh_any n hs w')
  have HB1 : Hid (∀ o, Below w.heap.size w (w.alloc o)) := hide fun o => (Below.refl _ _).alloc (Nat.le_refl _) o
  rcases (show k = 1 ∨ k = 2 ∨ k = 4 ∨ k = 3 ∨ k = 5 ∨ (¬ k = 1 ∧ ¬ k = 2 ∧ ¬ k = 4 ∧ ¬ k = 3 ∧ ¬ k = 5) by omega) with hk | hk | hk | hk | hk | ⟨k1, k2, k4, k3, k5⟩
  · subst hk
    by_cases hn : n = []
    · subst hn
      have hR : Hid (Pp.typeT ⟨1, []⟩ = [118, 111, 105, 100]) := hide (by decide +kernel)
      rw [hR.out]
      go_enter Tryd.func11, Tryd.ntmps11
      go_wp2_with fail
      go_ret
      exact ⟨rfl, HB1.out _⟩
    · have hR : Hid (Pp.typeT ⟨1, n⟩ = []) := hide (Sh.typeT_no (by unfold Pp.typeB; rw [if_pos (by simp)]; simpa using hn))
      have hne := sh_nonempty n hn
      rw [hR.out]
      generalize (⟨n.toArray⟩ : ByteArray) = S at *
      go_enter Tryd.func11, Tryd.ntmps11
      go_wp2_with fail
      go_ret
      exact ⟨rfl, HB1.out _⟩
  · subst hk
    by_cases hn : n = []
    · subst hn
      have hR : Hid (Pp.typeT ⟨2, []⟩ = [105, 110, 116]) := hide (by decide +kernel)
      rw [hR.out]
      go_enter Tryd.func11, Tryd.ntmps11
      go_wp2_with fail
      go_ret
      exact ⟨rfl, HB1.out _⟩
    · have hR : Hid (Pp.typeT ⟨2, n⟩ = []) := hide (Sh.typeT_no (by unfold Pp.typeB; rw [if_pos (by simp)]; simpa using hn))
      have hne := sh_nonempty n hn
      rw [hR.out]
      generalize (⟨n.toArray⟩ : ByteArray) = S at *
      go_enter Tryd.func11, Tryd.ntmps11
      go_wp2_with fail
      go_ret
      exact ⟨rfl, HB1.out _⟩
  · subst hk
    by_cases hn : n = []
    · subst hn
      have hR : Hid (Pp.typeT ⟨4, []⟩ = [105, 110, 116, 91, 93]) := hide (by decide +kernel)
      rw [hR.out]
      go_enter Tryd.func11, Tryd.ntmps11
      go_wp2_with fail
      go_ret
      exact ⟨rfl, HB1.out _⟩
    · have hR : Hid (Pp.typeT ⟨4, n⟩ = []) := hide (Sh.typeT_no (by unfold Pp.typeB; rw [if_pos (by simp)]; simpa using hn))
      have hne := sh_nonempty n hn
      rw [hR.out]
      generalize (⟨n.toArray⟩ : ByteArray) = S at *
      go_enter Tryd.func11, Tryd.ntmps11
      go_wp2_with fail
      go_ret
      exact ⟨rfl, HB1.out _⟩
  · subst hk
    have HRR : Hid (Pp.typeT ⟨3, n⟩ = if Pp.freshB n = true then n else []) := hide (by unfold Pp.typeT; rw [show Pp.typeB ⟨3, n⟩ = Pp.freshB n from rfl]; cases Pp.freshB n <;> simp [Pp.tyW, Sh.wtx_nm])
    rw [HRR.out]
    cases hb : Pp.freshB n with
    | false =>
      rw [hb] at hF
      clear hb HRR
      rw [if_neg Bool.false_ne_true]
      generalize (⟨n.toArray⟩ : ByteArray) = S at *
      go_enter Tryd.func11, Tryd.ntmps11
      go_wp2_with fail
      refine (hF.out _).mono ?_
      rintro e w2 ⟨rfl, hb2⟩
      have HB2 := hide (((Below.refl _ _).alloc (Nat.le_refl _) _).trans (hb2.mono (by simp)))
      obtain ⟨B1, _, hsz⟩ := box_one hb2
      have p0 : w2.cell? ⟨w.heap.size, 0, none⟩ = some (.int .i64 3) := B1 0
      have p1 : w2.cell? ⟨w.heap.size, 1, none⟩ = some (.string S) := B1 1
      clear hb2 B1 hF
      go_wp2_with fail
      go_ret
      exact ⟨rfl, HB2.out⟩
    | true =>
      rw [hb] at hF
      have hnl : n.length ≤ 20 := ((Lx.nameL_iff n).1 ((Pp.freshB_iff n).1 hb).1).2.1
      clear hb HRR
      rw [if_pos rfl]
      have hap : Hid ((⟨n.toArray⟩ : ByteArray) ++ ⟨#[91, 93]⟩ = ⟨(n ++ [91, 93]).toArray⟩) := hide (by apply ByteArray.ext; simp)
      go_enter Tryd.func11, Tryd.ntmps11
      go_wp2_with fail
      refine (hF.out _).mono ?_
      rintro e w2 ⟨rfl, hb2⟩
      have HB2 := hide (((Below.refl _ _).alloc (Nat.le_refl _) _).trans (hb2.mono (by simp)))
      obtain ⟨B1, _, hsz⟩ := box_one hb2
      have p0 : w2.cell? ⟨w.heap.size, 0, none⟩ = some (.int .i64 3) := B1 0
      have p1 : w2.cell? ⟨w.heap.size, 1, none⟩ = some (.string ⟨n.toArray⟩) := B1 1
      clear hb2 B1 hF
      go_wp2_with fail
      go_ret
      exact ⟨by first | rfl | (rw [← hap.out]; rfl), HB2.out⟩
  · subst hk
    have HRR : Hid (Pp.typeT ⟨5, n⟩ = if Pp.freshB n = true then n ++ [91, 93] else []) := hide (by unfold Pp.typeT; rw [show Pp.typeB ⟨5, n⟩ = Pp.freshB n from rfl]; cases Pp.freshB n <;> simp [Pp.tyW, Sh.wtx_nm, Sh.wtx_sg, Pp.wLK, Pp.wRK])
    rw [HRR.out]
    cases hb : Pp.freshB n with
    | false =>
      rw [hb] at hF
      clear hb HRR
      rw [if_neg Bool.false_ne_true]
      generalize (⟨n.toArray⟩ : ByteArray) = S at *
      go_enter Tryd.func11, Tryd.ntmps11
      go_wp2_with fail
      refine (hF.out _).mono ?_
      rintro e w2 ⟨rfl, hb2⟩
      have HB2 := hide (((Below.refl _ _).alloc (Nat.le_refl _) _).trans (hb2.mono (by simp)))
      obtain ⟨B1, _, hsz⟩ := box_one hb2
      have p0 : w2.cell? ⟨w.heap.size, 0, none⟩ = some (.int .i64 5) := B1 0
      have p1 : w2.cell? ⟨w.heap.size, 1, none⟩ = some (.string S) := B1 1
      clear hb2 B1 hF
      go_wp2_with fail
      go_ret
      exact ⟨rfl, HB2.out⟩
    | true =>
      rw [hb] at hF
      have hnl : n.length ≤ 20 := ((Lx.nameL_iff n).1 ((Pp.freshB_iff n).1 hb).1).2.1
      clear hb HRR
      rw [if_pos rfl]
      have hap : Hid ((⟨n.toArray⟩ : ByteArray) ++ ⟨#[91, 93]⟩ = ⟨(n ++ [91, 93]).toArray⟩) := hide (by apply ByteArray.ext; simp)
      go_enter Tryd.func11, Tryd.ntmps11
      go_wp2_with fail
      refine (hF.out _).mono ?_
      rintro e w2 ⟨rfl, hb2⟩
      have HB2 := hide (((Below.refl _ _).alloc (Nat.le_refl _) _).trans (hb2.mono (by simp)))
      obtain ⟨B1, _, hsz⟩ := box_one hb2
      have p0 : w2.cell? ⟨w.heap.size, 0, none⟩ = some (.int .i64 5) := B1 0
      have p1 : w2.cell? ⟨w.heap.size, 1, none⟩ = some (.string ⟨n.toArray⟩) := B1 1
      clear hb2 B1 hF
      go_wp2_with fail
      go_ret
      exact ⟨by first | rfl | (rw [← hap.out]; rfl), HB2.out⟩
  · have hR : Hid (Pp.typeT ⟨k, n⟩ = []) := hide (Sh.typeT_no (by unfold Pp.typeB; rw [if_neg (by simp only; omega), if_neg (by simp only; omega)]))
    have e1 : (k == 1) = false := by simpa using k1
    have e2 : (k == 2) = false := by simpa using k2
    have e3 : (k == 3) = false := by simpa using k3
    have e4 : (k == 4) = false := by simpa using k4
    have e5 : (k == 5) = false := by simpa using k5
    rw [hR.out]
    generalize (⟨n.toArray⟩ : ByteArray) = S at *
    clear k1 k2 k3 k4 k5
    go_enter Tryd.func11, Tryd.ntmps11
    go_wp2_with fail
    go_ret
    exact ⟨rfl, HB1.out _⟩

set_option maxHeartbeats 2000000 in
theorem Shape_any (op : Nat) (h : op < 44) (w : World) :
    Calls Tryd.prog 55 #[.int .i64 (op : Int)] w fun e w' => e = .returned (.int .i64 (Pp.shape op : Int)) ∧ w' = w := by
  rcases (show op = 0 ∨ op = 1 ∨ op = 2 ∨ op = 3 ∨ op = 4 ∨ op = 5 ∨ op = 6 ∨ op = 7 ∨ op = 8 ∨ op = 9 ∨ op = 10 ∨ op = 11 ∨ op = 12 ∨ op = 13 ∨ op = 14 ∨ op = 15 ∨ op = 16 ∨ op = 17 ∨ op = 18 ∨ op = 19 ∨ op = 20 ∨ op = 21 ∨ op = 22 ∨ op = 23 ∨ op = 24 ∨ op = 25 ∨ op = 26 ∨ op = 27 ∨ op = 28 ∨ op = 29 ∨ op = 30 ∨ op = 31 ∨ op = 32 ∨ op = 33 ∨ op = 34 ∨ op = 35 ∨ op = 36 ∨ op = 37 ∨ op = 38 ∨ op = 39 ∨ op = 40 ∨ op = 41 ∨ op = 42 ∨ op = 43 by omega) with rfl | rfl | rfl | rfl | rfl | rfl | rfl | rfl | rfl | rfl | rfl | rfl | rfl | rfl | rfl | rfl | rfl | rfl | rfl | rfl | rfl | rfl | rfl | rfl | rfl | rfl | rfl | rfl | rfl | rfl | rfl | rfl | rfl | rfl | rfl | rfl | rfl | rfl | rfl | rfl | rfl | rfl | rfl | rfl
  all_goals (go_enter Tryd.func55, Tryd.ntmps55; go_wp2; go_ret; exact ⟨rfl, rfl⟩)

end Go.Proofs.YtdgfidaopkcjoaaDoor
