/- What the page's Num answers of each operation. -/
import Derived.Test.YtihgbafemaabgaaIntB
import Derived.Test.YtihgbafemaabgaaIntC
namespace Go.Proofs.Ytihgbafemaabgaa
open Go.RowKit
set_option linter.unusedVariables false
set_option linter.unusedSimpArgs false

theorem hide {p : Prop} (h : p) : Hid p := h
namespace Iz
theorem rem_fit {a b : Int} (ha : fit a = true) : fit (a.tmod b) = true := by
  have h := (fit_iff a).1 ha
  have h1 := rem_le' a b
  by_cases hp : 0 ≤ a
  · have h2 := rem_pos b hp
    exact yes (by omega)
  · have h2 := rem_neg b (show a < 0 by omega)
    exact yes (by omega)
theorem okL_yes {n : Int} (h : fit n = true) : okL n = (n, true) := by simp [okL, h]
end Iz

set_option maxRecDepth 100000 in
set_option maxHeartbeats 2000000 in
theorem num_add (a b : Int) (w : World) :
    Calls Try.prog 15 #[.int .i64 8, .int .i64 a, .int .i64 b] w fun e w' => e = .returned (.tuple #[.int .i64 (Iz.addL a b).1, .bool (Iz.addL a b).2]) ∧ w' = w := by
  by_cases hf : (Iz.fit a && Iz.fit b) = true
  · have hab : Iz.fit a = true ∧ Iz.fit b = true := by simpa using hf
    obtain ⟨hfa, hfb⟩ := hab
    have h1 := (Iz.fit_iff a).1 hfa
    have h2 := (Iz.fit_iff b).1 hfb
    have HA : Hid (Iz.fit a = true) := hfa
    have HB : Hid (Iz.fit b = true) := hfb
    clear hf hfa hfb
    have HO : Hid (Iz.addL a b = Iz.okL (a + b)) := by show _ = _; simp [Iz.addL, Iz.okL, HA.out, HB.out]
    cases hc : Iz.fit (a + b)
    all_goals
      have hn := hide hc
      clear hc
      go_enter Try.func15, Try.ntmps15
      go_wp2_with (first
      | (go_at_call 17; refine (Fit_any _ _).mono ?_; rintro e w1 ⟨rfl, rfl⟩; first | rw [HA.out] | rw [HB.out] | rw [hn.out])
      | fail)
      go_ret2
      exact ⟨ret_pair (by rw [HO.out]; simp [Iz.okL, hn.out]) (by rw [HO.out]; simp [Iz.okL, hn.out]), rfl⟩
  · have HO : Hid (Iz.addL a b = (0, false)) := by
      show _ = _
      unfold Iz.addL
      rw [if_neg]
      intro h
      apply hf
      simp [h.1, h.2.1]
    cases hfa : Iz.fit a
    · have HA := hide hfa
      clear hfa hf
      go_enter Try.func15, Try.ntmps15
      go_wp2_with (go_at_call 17; refine (Fit_any _ _).mono ?_; rintro e w1 ⟨rfl, rfl⟩; rw [HA.out])
      go_ret2
      exact ⟨ret_pair (by rw [HO.out]) (by rw [HO.out]), rfl⟩
    · have hfb : Iz.fit b = false := by revert hf; rw [hfa]; simp
      have HA := hide hfa
      have HB := hide hfb
      clear hfa hf hfb
      go_enter Try.func15, Try.ntmps15
      go_wp2_with (go_at_call 17; refine (Fit_any _ _).mono ?_; rintro e w1 ⟨rfl, rfl⟩; first | rw [HA.out] | rw [HB.out])
      go_ret2
      exact ⟨ret_pair (by rw [HO.out]) (by rw [HO.out]), rfl⟩

set_option maxRecDepth 100000 in
set_option maxHeartbeats 2000000 in
theorem num_sub (a b : Int) (w : World) :
    Calls Try.prog 15 #[.int .i64 9, .int .i64 a, .int .i64 b] w fun e w' => e = .returned (.tuple #[.int .i64 (Iz.subL a b).1, .bool (Iz.subL a b).2]) ∧ w' = w := by
  by_cases hf : (Iz.fit a && Iz.fit b) = true
  · have hab : Iz.fit a = true ∧ Iz.fit b = true := by simpa using hf
    obtain ⟨hfa, hfb⟩ := hab
    have h1 := (Iz.fit_iff a).1 hfa
    have h2 := (Iz.fit_iff b).1 hfb
    have HA : Hid (Iz.fit a = true) := hfa
    have HB : Hid (Iz.fit b = true) := hfb
    clear hf hfa hfb
    have HO : Hid (Iz.subL a b = Iz.okL (a - b)) := by show _ = _; simp [Iz.subL, Iz.okL, HA.out, HB.out]
    cases hc : Iz.fit (a - b)
    all_goals
      have hn := hide hc
      clear hc
      go_enter Try.func15, Try.ntmps15
      go_wp2_with (first
      | (go_at_call 17; refine (Fit_any _ _).mono ?_; rintro e w1 ⟨rfl, rfl⟩; first | rw [HA.out] | rw [HB.out] | rw [hn.out])
      | fail)
      go_ret2
      exact ⟨ret_pair (by rw [HO.out]; simp [Iz.okL, hn.out]) (by rw [HO.out]; simp [Iz.okL, hn.out]), rfl⟩
  · have HO : Hid (Iz.subL a b = (0, false)) := by
      show _ = _
      unfold Iz.subL
      rw [if_neg]
      intro h
      apply hf
      simp [h.1, h.2.1]
    cases hfa : Iz.fit a
    · have HA := hide hfa
      clear hfa hf
      go_enter Try.func15, Try.ntmps15
      go_wp2_with (go_at_call 17; refine (Fit_any _ _).mono ?_; rintro e w1 ⟨rfl, rfl⟩; rw [HA.out])
      go_ret2
      exact ⟨ret_pair (by rw [HO.out]) (by rw [HO.out]), rfl⟩
    · have hfb : Iz.fit b = false := by revert hf; rw [hfa]; simp
      have HA := hide hfa
      have HB := hide hfb
      clear hfa hf hfb
      go_enter Try.func15, Try.ntmps15
      go_wp2_with (go_at_call 17; refine (Fit_any _ _).mono ?_; rintro e w1 ⟨rfl, rfl⟩; first | rw [HA.out] | rw [HB.out])
      go_ret2
      exact ⟨ret_pair (by rw [HO.out]) (by rw [HO.out]), rfl⟩

set_option maxRecDepth 100000 in
set_option maxHeartbeats 2000000 in
theorem num_mul (a b : Int) (w : World) :
    Calls Try.prog 15 #[.int .i64 10, .int .i64 a, .int .i64 b] w fun e w' => e = .returned (.tuple #[.int .i64 (Iz.mulL a b).1, .bool (Iz.mulL a b).2]) ∧ w' = w := by
  by_cases hf : (Iz.fit a && Iz.fit b) = true
  · have hab : Iz.fit a = true ∧ Iz.fit b = true := by simpa using hf
    obtain ⟨hfa, hfb⟩ := hab
    have h1 := (Iz.fit_iff a).1 hfa
    have h2 := (Iz.fit_iff b).1 hfb
    have hm := Iz.mul_small hfa hfb
    have HA : Hid (Iz.fit a = true) := hfa
    have HB : Hid (Iz.fit b = true) := hfb
    clear hf hfa hfb
    have HO : Hid (Iz.mulL a b = Iz.okL (a * b)) := by show _ = _; simp [Iz.mulL, Iz.okL, HA.out, HB.out]
    cases hc : Iz.fit (a * b)
    all_goals
      have hn := hide hc
      clear hc
      go_enter Try.func15, Try.ntmps15
      go_wp2_with (first
      | (go_at_call 17; refine (Fit_any _ _).mono ?_; rintro e w1 ⟨rfl, rfl⟩; first | rw [HA.out] | rw [HB.out] | rw [hn.out])
      | fail)
      go_ret2
      exact ⟨ret_pair (by rw [HO.out]; simp [Iz.okL, hn.out]) (by rw [HO.out]; simp [Iz.okL, hn.out]), rfl⟩
  · have HO : Hid (Iz.mulL a b = (0, false)) := by
      show _ = _
      unfold Iz.mulL
      rw [if_neg]
      intro h
      apply hf
      simp [h.1, h.2.1]
    cases hfa : Iz.fit a
    · have HA := hide hfa
      clear hfa hf
      go_enter Try.func15, Try.ntmps15
      go_wp2_with (go_at_call 17; refine (Fit_any _ _).mono ?_; rintro e w1 ⟨rfl, rfl⟩; rw [HA.out])
      go_ret2
      exact ⟨ret_pair (by rw [HO.out]) (by rw [HO.out]), rfl⟩
    · have hfb : Iz.fit b = false := by revert hf; rw [hfa]; simp
      have HA := hide hfa
      have HB := hide hfb
      clear hfa hf hfb
      go_enter Try.func15, Try.ntmps15
      go_wp2_with (go_at_call 17; refine (Fit_any _ _).mono ?_; rintro e w1 ⟨rfl, rfl⟩; first | rw [HA.out] | rw [HB.out])
      go_ret2
      exact ⟨ret_pair (by rw [HO.out]) (by rw [HO.out]), rfl⟩

set_option maxRecDepth 100000 in
set_option maxHeartbeats 2000000 in
theorem num_div (a b : Int) (w : World) :
    Calls Try.prog 15 #[.int .i64 11, .int .i64 a, .int .i64 b] w fun e w' => e = .returned (.tuple #[.int .i64 (Iz.divL a b).1, .bool (Iz.divL a b).2]) ∧ w' = w := by
  by_cases hf : (Iz.fit a && Iz.fit b) = true
  · have hab : Iz.fit a = true ∧ Iz.fit b = true := by simpa using hf
    obtain ⟨hfa, hfb⟩ := hab
    have h1 := (Iz.fit_iff a).1 hfa
    have h2 := (Iz.fit_iff b).1 hfb
    have hd := Iz.div_small (b := b) hfa
    have HA : Hid (Iz.fit a = true) := hfa
    have HB : Hid (Iz.fit b = true) := hfb
    clear hf hfa hfb
    by_cases hb : b = 0
    · subst hb
      have HO : Hid (Iz.divL a 0 = (0, false)) := by show _ = _; simp [Iz.divL]
      clear hd
      go_enter Try.func15, Try.ntmps15
      go_wp2_with (first
      | (go_at_call 17; refine (Fit_any _ _).mono ?_; rintro e w1 ⟨rfl, rfl⟩; first | rw [HA.out] | rw [HB.out] | rw [hn.out])
      | fail)
      all_goals (go_ret2; exact ⟨ret_pair (by rw [HO.out]) (by rw [HO.out]), rfl⟩)
    · have hb' : (b == 0) = false := by simp [hb]
      have HO : Hid (Iz.divL a b = Iz.okL (a.tdiv b)) := by show _ = _; simp [Iz.divL, Iz.okL, HA.out, HB.out, hb]
      cases hc : Iz.fit (a.tdiv b)
      all_goals
        have hn := hide hc
        clear hc
        go_enter Try.func15, Try.ntmps15
        go_wp2_with (first
      | (go_at_call 17; refine (Fit_any _ _).mono ?_; rintro e w1 ⟨rfl, rfl⟩; first | rw [HA.out] | rw [HB.out] | rw [hn.out])
      | fail)
        go_ret2
        exact ⟨ret_pair (by rw [HO.out]; simp [Iz.okL, hn.out]) (by rw [HO.out]; simp [Iz.okL, hn.out]), rfl⟩
  · have HO : Hid (Iz.divL a b = (0, false)) := by
      show _ = _
      unfold Iz.divL
      rw [if_neg]
      intro h
      apply hf
      simp [h.1, h.2.1]
    cases hfa : Iz.fit a
    · have HA := hide hfa
      clear hfa hf
      go_enter Try.func15, Try.ntmps15
      go_wp2_with (go_at_call 17; refine (Fit_any _ _).mono ?_; rintro e w1 ⟨rfl, rfl⟩; rw [HA.out])
      go_ret2
      exact ⟨ret_pair (by rw [HO.out]) (by rw [HO.out]), rfl⟩
    · have hfb : Iz.fit b = false := by revert hf; rw [hfa]; simp
      have HA := hide hfa
      have HB := hide hfb
      clear hfa hf hfb
      go_enter Try.func15, Try.ntmps15
      go_wp2_with (go_at_call 17; refine (Fit_any _ _).mono ?_; rintro e w1 ⟨rfl, rfl⟩; first | rw [HA.out] | rw [HB.out])
      go_ret2
      exact ⟨ret_pair (by rw [HO.out]) (by rw [HO.out]), rfl⟩

set_option maxRecDepth 100000 in
set_option maxHeartbeats 2000000 in
theorem num_rem (a b : Int) (w : World) :
    Calls Try.prog 15 #[.int .i64 12, .int .i64 a, .int .i64 b] w fun e w' => e = .returned (.tuple #[.int .i64 (Iz.remL a b).1, .bool (Iz.remL a b).2]) ∧ w' = w := by
  by_cases hf : (Iz.fit a && Iz.fit b) = true
  · have hab : Iz.fit a = true ∧ Iz.fit b = true := by simpa using hf
    obtain ⟨hfa, hfb⟩ := hab
    have h1 := (Iz.fit_iff a).1 hfa
    have h2 := (Iz.fit_iff b).1 hfb
    have hd := Iz.div_small (b := b) hfa
    have HA : Hid (Iz.fit a = true) := hfa
    have HB : Hid (Iz.fit b = true) := hfb
    clear hf hfa hfb
    by_cases hb : b = 0
    · subst hb
      have HO : Hid (Iz.remL a 0 = (0, false)) := by show _ = _; simp [Iz.remL]
      clear hd
      go_enter Try.func15, Try.ntmps15
      go_wp2_with (first
      | (go_at_call 17; refine (Fit_any _ _).mono ?_; rintro e w1 ⟨rfl, rfl⟩; first | rw [HA.out] | rw [HB.out] | rw [hn.out])
      | fail)
      all_goals (go_ret2; exact ⟨ret_pair (by rw [HO.out]) (by rw [HO.out]), rfl⟩)
    · have hb' : (b == 0) = false := by simp [hb]
      have HO : Hid (Iz.remL a b = (a.tmod b, true)) := by show _ = _; simp [Iz.remL, HA.out, HB.out, hb]
      have hr := Iz.rem_small (b := b) HA.out
      have hn := hide (Iz.rem_fit (b := b) HA.out)
      have h5 := Iz.div_rem a b
      have h6 : a.tdiv b * b = a - a.tmod b := by omega
      have h7 : a - (a - a.tmod b) = a.tmod b := by omega
      clear h5
      go_enter Try.func15, Try.ntmps15
      go_wp2_with (first
      | (go_at_call 17; refine (Fit_any _ _).mono ?_; rintro e w1 ⟨rfl, rfl⟩; first | rw [HA.out] | rw [HB.out] | rw [hn.out])
      | fail)
      go_ret2
      exact ⟨ret_pair (by rw [HO.out]) (by rw [HO.out]), rfl⟩
  · have HO : Hid (Iz.remL a b = (0, false)) := by
      show _ = _
      unfold Iz.remL
      rw [if_neg]
      intro h
      apply hf
      simp [h.1, h.2.1]
    cases hfa : Iz.fit a
    · have HA := hide hfa
      clear hfa hf
      go_enter Try.func15, Try.ntmps15
      go_wp2_with (go_at_call 17; refine (Fit_any _ _).mono ?_; rintro e w1 ⟨rfl, rfl⟩; rw [HA.out])
      go_ret2
      exact ⟨ret_pair (by rw [HO.out]) (by rw [HO.out]), rfl⟩
    · have hfb : Iz.fit b = false := by revert hf; rw [hfa]; simp
      have HA := hide hfa
      have HB := hide hfb
      clear hfa hf hfb
      go_enter Try.func15, Try.ntmps15
      go_wp2_with (go_at_call 17; refine (Fit_any _ _).mono ?_; rintro e w1 ⟨rfl, rfl⟩; first | rw [HA.out] | rw [HB.out])
      go_ret2
      exact ⟨ret_pair (by rw [HO.out]) (by rw [HO.out]), rfl⟩

set_option maxRecDepth 100000 in
set_option maxHeartbeats 2000000 in
theorem num_neg (a : Int) (w : World) :
    Calls Try.prog 15 #[.int .i64 13, .int .i64 a, .int .i64 0] w fun e w' => e = .returned (.tuple #[.int .i64 (Iz.subL 0 a).1, .bool (Iz.subL 0 a).2]) ∧ w' = w := by
  have HB : Hid (Iz.fit 0 = true) := by show _ = _; decide
  cases hfa : Iz.fit a
  · have HO : Hid (Iz.subL 0 a = (0, false)) := by show _ = _; simp [Iz.subL, hfa]
    have HA := hide hfa
    clear hfa
    go_enter Try.func15, Try.ntmps15
    go_wp2_with (go_at_call 17; refine (Fit_any _ _).mono ?_; rintro e w1 ⟨rfl, rfl⟩; rw [HA.out])
    go_ret2
    exact ⟨ret_pair (by rw [HO.out]) (by rw [HO.out]), rfl⟩
  · have h1 := (Iz.fit_iff a).1 hfa
    have HA := hide hfa
    clear hfa
    have HO : Hid (Iz.subL 0 a = Iz.okL (0 - a)) := by show _ = _; simp [Iz.subL, Iz.okL, HA.out, HB.out]
    rw [Int.zero_sub] at HO
    cases hc : Iz.fit (-a)
    all_goals
      have hn := hide hc
      clear hc
      go_enter Try.func15, Try.ntmps15
      go_wp2_with (first
      | (go_at_call 17; refine (Fit_any _ _).mono ?_; rintro e w1 ⟨rfl, rfl⟩; first | rw [HA.out] | rw [HB.out] | rw [hn.out])
      | fail)
      go_ret2
      exact ⟨ret_pair (by rw [HO.out]; simp [Iz.okL, hn.out]) (by rw [HO.out]; simp [Iz.okL, hn.out]), rfl⟩
end Go.Proofs.Ytihgbafemaabgaa
