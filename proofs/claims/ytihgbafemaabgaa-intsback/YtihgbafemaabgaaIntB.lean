/- IntsBack's walk. -/
import Derived.Test.YtihgbafemaabgaaIntW
namespace Go.Proofs.Ytihgbafemaabgaa
open Go.RowKit
set_option linter.unusedVariables false
set_option linter.unusedSimpArgs false

namespace Iz
theorem div_rem (a b : Int) : a.tdiv b * b + a.tmod b = a := Int.tdiv_mul_add_tmod a b
theorem rem_le {a b : Int} (hb : b ≠ 0) : (a.tmod b).natAbs < b.natAbs := by
  rw [Int.natAbs_tmod]; exact Nat.mod_lt _ (by omega)
theorem rem_le' (a b : Int) : (a.tmod b).natAbs ≤ a.natAbs := by
  rw [Int.natAbs_tmod]; exact Nat.mod_le _ _
theorem rem_pos {a : Int} (b : Int) (h : 0 ≤ a) : 0 ≤ a.tmod b := Int.tmod_nonneg b h
theorem rem_neg {a : Int} (b : Int) (h : a < 0) : a.tmod b ≤ 0 := by
  have h1 := Int.tmod_nonneg b (show (0 : Int) ≤ -a by omega)
  rw [Int.neg_tmod] at h1
  omega
theorem div_fit {a b : Int} (ha : fit a = true) (hb : b ≠ 0) (hn : ¬ fit (a.tdiv b) = true) : a = -2147483648 ∧ b = -1 := by
  have h0 := div_small (b := b) ha
  rw [fit_iff] at ha hn
  have h1 : (a.tdiv b).natAbs = a.natAbs / b.natAbs := Int.natAbs_tdiv a b
  have h3 : a.tdiv b = 2147483648 := by omega
  have h4 : a.natAbs / b.natAbs = 2147483648 := by omega
  have h5 : 2147483648 * b.natAbs ≤ a.natAbs := by rw [← h4]; exact Nat.div_mul_le_self _ _
  have h6 : b.natAbs = 1 := by omega
  have h7 : b = 1 ∨ b = -1 := by omega
  rcases h7 with rfl | rfl
  · rw [Int.tdiv_one] at h3; omega
  · exact ⟨by omega, rfl⟩
end Iz

set_option maxRecDepth 100000 in
set_option maxHeartbeats 2000000 in
theorem back_no (a b : Int) (h : ¬ (Iz.fit a = true ∧ Iz.fit b = true)) (w : World) :
    Calls Try.prog 4 #[.int .i64 a, .int .i64 b] w fun e w' => e = .returned (.bool true) ∧ w' = w := by
  cases ha : Iz.fit a <;> cases hb : Iz.fit b
  case true.true => exact absurd ⟨ha, hb⟩ h
  all_goals
    clear h
    go_enter Try.func4, Try.ntmps4
    go_wp2_with (first
    | (go_at_call 16; refine (Fits_any _ _).mono ?_; rintro e w1 ⟨rfl, rfl⟩; first | rw [ha] | rw [hb])
    | (go_at_call 17; refine (Fit_any _ _).mono ?_; rintro e w1 ⟨rfl, rfl⟩; first | rw [ha] | rw [hb])
    | (go_at_call 18; refine (wakes_any _).mono ?_; rintro e w1 ⟨rfl, rfl⟩))
    go_ret
    exact ⟨rfl, rfl⟩

set_option maxRecDepth 100000 in
set_option maxHeartbeats 2000000 in
theorem back_yes (a b : Int) (ha : Iz.fit a = true) (hb : Iz.fit b = true) (w : World) :
    Calls Try.prog 4 #[.int .i64 a, .int .i64 b] w fun e w' => e = .returned (.bool true) ∧ w' = w := by
  have hA := (Iz.fit_iff a).1 ha
  have hB := (Iz.fit_iff b).1 hb
  have HA : Hid (Iz.fit a = true) := ha
  have HB : Hid (Iz.fit b = true) := hb
  go_enter Try.func4, Try.ntmps4
  go_wp2_with (first
    | (go_at_call 16; refine (Fits_any _ _).mono ?_; rintro e w1 ⟨rfl, rfl⟩; first | rw [ha] | rw [hb])
    | (go_at_call 17; refine (Fit_any _ _).mono ?_; rintro e w1 ⟨rfl, rfl⟩; first | rw [ha] | rw [hb])
    | (go_at_call 18; refine (wakes_any _).mono ?_; rintro e w1 ⟨rfl, rfl⟩))
  refine (Add_any _ _ _).mono ?_
  rintro e w1 ⟨rfl, rfl⟩
  clear ha hb
  rw [show Iz.addL a b = Iz.okL (a + b) from by simp [Iz.addL, Iz.okL, HA.out, HB.out]]
  cases hs : Iz.fit (a + b)
  · rw [show Iz.okL (a + b) = (0, false) from by simp [Iz.okL, hs]]
    clear hs
    go_wp2_with fail
    refine (Div_any _ _ _).mono ?_
    rintro e w1 ⟨rfl, rfl⟩
    by_cases hb0 : b = 0
    · subst hb0
      rw [show Iz.divL a 0 = (0, false) from by simp [Iz.divL]]
      have hr : Hid (Iz.remL a 0 = (0, false)) := by show _ = _; simp [Iz.remL]
      go_wp2_with fail
      refine (Rem_any _ _ _).mono ?_
      rintro e w1 ⟨rfl, rfl⟩
      rw [hr.out]
      go_wp2_with (go_at_call 18; refine (wakes_any _).mono ?_; rintro e w1 ⟨rfl, rfl⟩)
      go_ret
      exact ⟨rfl, rfl⟩
    · have hr : Hid (Iz.remL a b = (a.tmod b, true)) := by show _ = _; simp [Iz.remL, HA.out, HB.out, hb0]
      have h1 := Iz.rem_le' a b
      have h2 := Iz.rem_le (a := a) hb0
      have h3 := fun h => Iz.rem_pos (a := a) b h
      have h4 := fun h => Iz.rem_neg (a := a) b h
      have h5 := Iz.div_rem a b
      by_cases hd : Iz.fit (a.tdiv b) = true
      · rw [show Iz.divL a b = (a.tdiv b, true) from by simp [Iz.divL, HA.out, HB.out, hb0, hd]]
        have hq := (Iz.fit_iff _).1 hd
        clear hd
        generalize a.tdiv b = q at *
        generalize a.tmod b = r at *
        go_wp2_with fail
        refine (Rem_any _ _ _).mono ?_
        rintro e w1 ⟨rfl, rfl⟩
        rw [hr.out]
        have h6 : q * b = a - r := by omega
        clear h5 hr
        have ha' : 0 ≤ a ∨ a < 0 := by omega
        have hb' : 0 < b ∨ b < 0 := by omega
        rcases ha' with ha' | ha' <;> rcases hb' with hb' | hb'
        all_goals
          first | have h7 := h3 ha' | have h7 := h4 ha'
          have h8 : a.natAbs = a ∨ (a.natAbs : Int) = -a := by omega
          have h9 : b.natAbs = b ∨ (b.natAbs : Int) = -b := by omega
          have h10 : -b < r ∨ b < r := by omega
          have h11 : r < b ∨ r < -b := by omega
          first | have k1 : r ≤ a := by omega | have k1 : a ≤ r := by omega
          first | have k2 : -b < r := by omega | have k2 : b < r := by omega
          first | have k3 : r < b := by omega | have k3 : r < -b := by omega
          clear h1 h2 h3 h4 h8 h9 h10 h11
          go_wp2_with (go_at_call 18; refine (wakes_any _).mono ?_; rintro e w1 ⟨rfl, rfl⟩)
          all_goals (go_ret; first | exact ⟨rfl, rfl⟩ | exact ⟨ret_bool (by simp; try omega), rfl⟩ | (exfalso; omega))
      · obtain ⟨rfl, rfl⟩ := Iz.div_fit HA.out hb0 hd
        rw [show Iz.divL (-2147483648) (-1) = (0, false) from by decide]
        clear h1 h2 h3 h4 h5 hd
        go_wp2_with fail
        refine (Rem_any _ _ _).mono ?_
        rintro e w1 ⟨rfl, rfl⟩
        rw [show Iz.remL (-2147483648) (-1) = (0, true) from by decide]
        go_wp2_with (go_at_call 18; refine (wakes_any _).mono ?_; rintro e w1 ⟨rfl, rfl⟩)
        go_ret
        exact ⟨rfl, rfl⟩
  · rw [show Iz.okL (a + b) = (a + b, true) from by simp [Iz.okL, hs]]
    have HS : Hid (Iz.fit (a + b) = true) := hs
    clear hs
    go_wp2_with fail
    refine (Sub_any _ _ _).mono ?_
    rintro e w1 ⟨rfl, rfl⟩
    rw [show Iz.subL (a + b) b = (a, true) from by simp [Iz.subL, HS.out, HB.out, show a + b - b = a by omega, HA.out]]
    go_wp2_with fail
    refine (Div_any _ _ _).mono ?_
    rintro e w1 ⟨rfl, rfl⟩
    by_cases hb0 : b = 0
    · subst hb0
      rw [show Iz.divL a 0 = (0, false) from by simp [Iz.divL]]
      have hr : Hid (Iz.remL a 0 = (0, false)) := by show _ = _; simp [Iz.remL]
      go_wp2_with fail
      refine (Rem_any _ _ _).mono ?_
      rintro e w1 ⟨rfl, rfl⟩
      rw [hr.out]
      go_wp2_with (go_at_call 18; refine (wakes_any _).mono ?_; rintro e w1 ⟨rfl, rfl⟩)
      go_ret
      exact ⟨rfl, rfl⟩
    · have hr : Hid (Iz.remL a b = (a.tmod b, true)) := by show _ = _; simp [Iz.remL, HA.out, HB.out, hb0]
      have h1 := Iz.rem_le' a b
      have h2 := Iz.rem_le (a := a) hb0
      have h3 := fun h => Iz.rem_pos (a := a) b h
      have h4 := fun h => Iz.rem_neg (a := a) b h
      have h5 := Iz.div_rem a b
      by_cases hd : Iz.fit (a.tdiv b) = true
      · rw [show Iz.divL a b = (a.tdiv b, true) from by simp [Iz.divL, HA.out, HB.out, hb0, hd]]
        have hq := (Iz.fit_iff _).1 hd
        clear hd
        generalize a.tdiv b = q at *
        generalize a.tmod b = r at *
        go_wp2_with fail
        refine (Rem_any _ _ _).mono ?_
        rintro e w1 ⟨rfl, rfl⟩
        rw [hr.out]
        have h6 : q * b = a - r := by omega
        clear h5 hr
        have ha' : 0 ≤ a ∨ a < 0 := by omega
        have hb' : 0 < b ∨ b < 0 := by omega
        rcases ha' with ha' | ha' <;> rcases hb' with hb' | hb'
        all_goals
          first | have h7 := h3 ha' | have h7 := h4 ha'
          have h8 : a.natAbs = a ∨ (a.natAbs : Int) = -a := by omega
          have h9 : b.natAbs = b ∨ (b.natAbs : Int) = -b := by omega
          have h10 : -b < r ∨ b < r := by omega
          have h11 : r < b ∨ r < -b := by omega
          first | have k1 : r ≤ a := by omega | have k1 : a ≤ r := by omega
          first | have k2 : -b < r := by omega | have k2 : b < r := by omega
          first | have k3 : r < b := by omega | have k3 : r < -b := by omega
          clear h1 h2 h3 h4 h8 h9 h10 h11
          go_wp2_with (go_at_call 18; refine (wakes_any _).mono ?_; rintro e w1 ⟨rfl, rfl⟩)
          all_goals (go_ret; first | exact ⟨rfl, rfl⟩ | exact ⟨ret_bool (by simp; try omega), rfl⟩ | (exfalso; omega))
      · obtain ⟨rfl, rfl⟩ := Iz.div_fit HA.out hb0 hd
        rw [show Iz.divL (-2147483648) (-1) = (0, false) from by decide]
        clear h1 h2 h3 h4 h5 hd
        go_wp2_with fail
        refine (Rem_any _ _ _).mono ?_
        rintro e w1 ⟨rfl, rfl⟩
        rw [show Iz.remL (-2147483648) (-1) = (0, true) from by decide]
        go_wp2_with (go_at_call 18; refine (wakes_any _).mono ?_; rintro e w1 ⟨rfl, rfl⟩)
        go_ret
        exact ⟨rfl, rfl⟩
end Go.Proofs.Ytihgbafemaabgaa
