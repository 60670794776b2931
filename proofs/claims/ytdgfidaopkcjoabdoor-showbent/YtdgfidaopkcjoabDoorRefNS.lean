/- What the page's Name answers. -/
import Derived.Test.YtdgfidaopkcjoabDoorShowA
import Derived.Test.YtdgfidaopkcjoabDoorMgA
namespace Go.Proofs.YtdgfidaopkcjoabDoor
open Go.RowKit
set_option linter.unusedVariables false
set_option linter.unusedSimpArgs false

set_option maxHeartbeats 400000 in
theorem refDigit_any (c : Int) (w : World) :
    Calls Tryd.prog 40 #[.int .u8 c] w fun e w' => e = .returned (.bool (Lx.digI c)) ∧ w' = w := by
  go_enter Tryd.func40, Tryd.ntmps40
  go_wp2
  all_goals (go_ret; exact ⟨ret_bool (by simp [Lx.digI]; omega), rfl⟩)

set_option maxHeartbeats 400000 in
theorem refLetter_any (c : Int) (w : World) :
    Calls Tryd.prog 39 #[.int .u8 c] w fun e w' => e = .returned (.bool (Lx.ltrI c)) ∧ w' = w := by
  go_enter Tryd.func39, Tryd.ntmps39
  go_wp2
  all_goals (go_ret; exact ⟨ret_bool (by simp [Lx.ltrI]; try omega), rfl⟩)
set_option maxHeartbeats 1000000 in
theorem refName_any (s : ByteArray) (hs : s.size ≤ maxLen) (w : World) :
    Calls Tryd.prog 19 #[.string s] w fun e w' => e = .returned (.bool (Lx.nameL s.data.toList)) ∧ w' = w := by
  unfold maxLen at hs
  by_cases h1 : s.size < 1
  · have Hf := Lx.nameL_short s h1
    rw [Hf]; clear Hf
    go_enter Tryd.func19, Tryd.ntmps19
    go_wp2
    go_ret
    exact ⟨rfl, rfl⟩
  by_cases h20 : 20 < s.size
  · have Hf := Lx.nameL_long s h20
    rw [Hf]; clear Hf
    go_enter Tryd.func19, Tryd.ntmps19
    go_wp2
    go_ret
    exact ⟨rfl, rfl⟩
  have Hf := Lx.nameL_mid s (by omega) (by omega)
  rw [Hf]; clear Hf
  have h1' : 0 < s.size := by omega
  obtain ⟨R, hR⟩ : ∃ R : Bool, R = (!Lx.dig s[0] && s.data.toList.all Lx.inw) := ⟨_, rfl⟩
  rw [← hR]
  have HR : Hid (R = (!Lx.dig s[0] && s.data.toList.all Lx.inw)) := hR
  clear hR
  have hmem : ∀ k, ∀ h : k < s.size, s[k] ∈ s.data.toList := fun k h => by simp [ByteArray.getElem_eq_getElem_data]
  have HM : Hid (∀ k, ∀ h : k < s.size, s[k] ∈ s.data.toList) := hmem
  clear hmem
  cases hd : Lx.ltr s[0] with
  | false =>
    have hd' : Lx.ltrI (s[0].toNat : Int) = false := hd
    have HF : Hid (R = false) := by
      show _ = _
      rw [HR.out, Bool.eq_false_iff]
      intro h
      rw [Bool.and_eq_true] at h
      have hi := List.all_eq_true.1 h.2 s[0] (HM.out 0 h1')
      rw [Lx.let_inw, h.1, hi] at hd; cases hd
    clear hd
    go_enter Tryd.func19, Tryd.ntmps19
    go_wp2_with (go_at_call 39; refine (refLetter_any _ _).mono ?_; rintro e w' ⟨rfl, rfl⟩)
    go_ret
    exact ⟨ret_bool (by rw [HF.out]), rfl⟩
  | true =>
    have hd' : Lx.ltrI (s[0].toNat : Int) = true := hd
    rw [Lx.let_inw, Bool.and_eq_true] at hd
    have HF : Hid (R = s.data.toList.all Lx.inw) := by show _ = _; rw [HR.out, hd.1]; rfl
    have H1 : Hid ((s.data.toList.take 1).all Lx.inw = true) := by
      show _ = _
      have := Lx.take_snoc s 0 h1'
      rw [show 0 + 1 = 1 from rfl] at this
      rw [this]; simp [hd.2]
    clear hd HR
    go_enter Tryd.func19, Tryd.ntmps19
    go_wp2_with (go_at_call 39; refine (refLetter_any _ _).mono ?_; rintro e w' ⟨rfl, rfl⟩)
    clear hd'
    go_loop [3] (fun i => ∃ k : Nat, 1 ≤ k ∧ k ≤ s.size ∧ i = .int .i64 k ∧ Hid ((s.data.toList.take k).all Lx.inw = true)) (fun i => s.size - (intOf i).toNat)
    case atStart => exact ⟨1, by omega, by omega, rfl, H1⟩
    case round =>
      obtain ⟨k, hk1, hk, rfl, HA⟩ := hrel
      clear H1
      by_cases hlt : k < s.size
      · have hts := Lx.take_snoc s k hlt
        have HT : Hid ((s.data.toList.take (k + 1)).all Lx.inw = ((s.data.toList.take k).all Lx.inw && Lx.inw s[k])) := by rw [hts]; exact Lx.all_snoc _ _ _
        clear hts
        cases hl : Lx.ltr s[k] with
        | true =>
          have hl' : Lx.ltrI (s[k].toNat : Int) = true := hl
          have HW : Hid (Lx.inw s[k] = true) := by show _ = _; rw [Lx.inw_let, hl]; rfl
          clear hl
          go_wp2_with (go_at_call 39; refine (refLetter_any _ _).mono ?_; rintro e w' ⟨rfl, rfl⟩)
          go_round
          case rel => exact ⟨k + 1, by omega, by omega, by go_num, by show _ = _; rw [HT.out, HA.out, HW.out]; rfl⟩
          case measure => simp [intOf]; omega
        | false =>
          have hl' : Lx.ltrI (s[k].toNat : Int) = false := hl
          cases hg : Lx.dig s[k] with
          | true =>
            have hg' : Lx.digI (s[k].toNat : Int) = true := hg
            have HW : Hid (Lx.inw s[k] = true) := by show _ = _; rw [Lx.inw_let, hl, hg]; rfl
            clear hl hg
            go_wp2_with (first | (go_at_call 39; refine (refLetter_any _ _).mono ?_; rintro e w' ⟨rfl, rfl⟩) | (go_at_call 40; refine (refDigit_any _ _).mono ?_; rintro e w' ⟨rfl, rfl⟩))
            go_round
            case rel => exact ⟨k + 1, by omega, by omega, by go_num, by show _ = _; rw [HT.out, HA.out, HW.out]; rfl⟩
            case measure => simp [intOf]; omega
          | false =>
            have hg' : Lx.digI (s[k].toNat : Int) = false := hg
            have HN : Hid (s.data.toList.all Lx.inw = false) := by
              show _ = _
              rw [Bool.eq_false_iff]; intro h
              have := List.all_eq_true.1 h s[k] (HM.out k hlt)
              rw [Lx.inw_let, hl, hg] at this; cases this
            clear hl hg
            go_wp2_with (first | (go_at_call 39; refine (refLetter_any _ _).mono ?_; rintro e w' ⟨rfl, rfl⟩) | (go_at_call 40; refine (refDigit_any _ _).mono ?_; rintro e w' ⟨rfl, rfl⟩))
            go_ret
            exact ⟨ret_bool (by rw [HF.out, HN.out]), rfl⟩
      · have HN : Hid (s.data.toList.all Lx.inw = true) := by
          show _ = _
          rw [← HA.out, List.take_of_length_le (by simp; omega)]
        go_wp2
        go_ret
        exact ⟨ret_bool (by rw [HF.out, HN.out]), rfl⟩

theorem refName_is (s : ByteArray) (r : Bool) (h : Lx.nameL s.data.toList = r) (hs : s.size ≤ maxLen) (w : World) :
    Calls Tryd.prog 19 #[.string s] w fun e w' => e = .returned (.bool r) ∧ w' = w := by
  have := refName_any s hs w
  rw [h] at this
  exact this


end Go.Proofs.YtdgfidaopkcjoabDoor
