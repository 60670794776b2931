/- Numbers of 32 bits: what the calls answer, the page's answers, what every statement begins with. -/
import Derived.Test.YtihgbafemaabgaaRows
import Derived.WalkKit
import Derived.WalkSpells
import Derived.WalkLawsBesides
namespace Go.Proofs.Ytihgbafemaabgaa
open Go.RowKit
set_option linter.unusedVariables false
set_option linter.unusedSimpArgs false

namespace Iz
def fit (n : Int) : Bool := decide (-2147483648 ≤ n ∧ n ≤ 2147483647)
def okL (n : Int) : Int × Bool := if fit n then (n, true) else (0, false)
def addL (a b : Int) : Int × Bool := if fit a ∧ fit b ∧ fit (a + b) then (a + b, true) else (0, false)
def subL (a b : Int) : Int × Bool := if fit a ∧ fit b ∧ fit (a - b) then (a - b, true) else (0, false)
def mulL (a b : Int) : Int × Bool := if fit a ∧ fit b ∧ fit (a * b) then (a * b, true) else (0, false)
def divL (a b : Int) : Int × Bool := if fit a ∧ fit b ∧ b ≠ 0 ∧ fit (a.tdiv b) then (a.tdiv b, true) else (0, false)
def remL (a b : Int) : Int × Bool := if fit a ∧ fit b ∧ b ≠ 0 then (a.tmod b, true) else (0, false)
theorem fit_iff (n : Int) : fit n = true ↔ -2147483648 ≤ n ∧ n ≤ 2147483647 := by simp [fit]
theorem mul_small {a b : Int} (ha : fit a = true) (hb : fit b = true) : -4611686018427387904 ≤ a * b ∧ a * b ≤ 4611686018427387904 := by
  rw [fit_iff] at ha hb
  have h1 : (a * b).natAbs = a.natAbs * b.natAbs := Int.natAbs_mul a b
  have h2 : a.natAbs * b.natAbs ≤ 2147483648 * 2147483648 := Nat.mul_le_mul (by omega) (by omega)
  omega
theorem div_small {a b : Int} (ha : fit a = true) : -2147483648 ≤ a.tdiv b ∧ a.tdiv b ≤ 2147483648 := by
  rw [fit_iff] at ha
  have h1 : (a.tdiv b).natAbs = a.natAbs / b.natAbs := Int.natAbs_tdiv a b
  have h2 : a.natAbs / b.natAbs ≤ a.natAbs := Nat.div_le_self _ _
  omega
theorem rem_small {a b : Int} (ha : fit a = true) : -2147483648 ≤ a.tmod b ∧ a.tmod b ≤ 2147483648 := by
  rw [fit_iff] at ha
  have h1 : (a.tmod b).natAbs = a.natAbs % b.natAbs := Int.natAbs_tmod a b
  have h2 : a.natAbs % b.natAbs ≤ a.natAbs := Nat.mod_le _ _
  omega
end Iz

theorem ret_pair {a b : Int} {c d : Bool} (h : a = b) (h' : c = d) : Ending.returned (.tuple #[.int .i64 a, .bool c]) = .returned (.tuple #[.int .i64 b, .bool d]) := by rw [h, h']
theorem ret_bool {a b : Bool} (h : a = true ↔ b = true) : Ending.returned (.bool a) = .returned (.bool b) := by rw [Bool.eq_iff_iff.2 h]

set_option maxRecDepth 100000 in
set_option maxHeartbeats 400000 in
theorem Fits_any (n : Int) (w : World) :
    Calls Try.prog 16 #[.int .i64 n] w fun e w' => e = .returned (.bool (Iz.fit n)) ∧ w' = w := by
  go_enter Try.func16, Try.ntmps16
  go_wp2
  all_goals (go_ret; exact ⟨ret_bool (by simp [Iz.fit]; try omega), rfl⟩)

set_option maxRecDepth 100000 in
set_option maxHeartbeats 400000 in
theorem in_any (n lo hi : Int) (w : World) :
    Calls Try.prog 21 #[.int .i64 n, .int .i64 lo, .int .i64 hi] w fun e w' => e = .returned (.bool (decide (lo ≤ n ∧ n ≤ hi))) ∧ w' = w := by
  go_enter Try.func21, Try.ntmps21
  go_wp2
  all_goals (go_ret; exact ⟨ret_bool (by simp; try omega), rfl⟩)

set_option maxRecDepth 100000 in
set_option maxHeartbeats 400000 in
theorem Fit_any (n : Int) (w : World) :
    Calls Try.prog 17 #[.int .i64 n] w fun e w' => e = .returned (.bool (Iz.fit n)) ∧ w' = w := by
  go_enter Try.func17, Try.ntmps17
  go_wp2_with fail
  refine (in_any _ _ _ _).mono ?_
  rintro e w1 ⟨rfl, rfl⟩
  go_wp2_with fail
  go_ret
  exact ⟨ret_bool (by simp [Iz.fit]), rfl⟩

set_option maxRecDepth 100000 in
set_option maxHeartbeats 400000 in
theorem both_any (a b : Int) (w : World) :
    Calls Try.prog 19 #[.int .i64 a, .int .i64 b] w fun e w' => e = .returned (.bool (Iz.fit a && Iz.fit b)) ∧ w' = w := by
  go_enter Try.func19, Try.ntmps19
  go_wp2_with fail
  refine (Fits_any _ _).mono ?_
  rintro e w1 ⟨rfl, rfl⟩
  cases hfa : Iz.fit a
  · go_wp2_with fail
    go_ret
    exact ⟨ret_bool (by simp [hfa]), rfl⟩
  · go_wp2_with fail
    refine (Fits_any _ _).mono ?_
    rintro e w1 ⟨rfl, rfl⟩
    go_wp2_with fail
    go_ret
    exact ⟨ret_bool (by simp [hfa]), rfl⟩

set_option maxRecDepth 100000 in
set_option maxHeartbeats 400000 in
theorem ifFits_any (n : Int) (w : World) :
    Calls Try.prog 20 #[.int .i64 n] w fun e w' => e = .returned (.tuple #[.int .i64 (Iz.okL n).1, .bool (Iz.okL n).2]) ∧ w' = w := by
  go_enter Try.func20, Try.ntmps20
  go_wp2_with fail
  refine (Fits_any _ _).mono ?_
  rintro e w1 ⟨rfl, rfl⟩
  cases hfa : Iz.fit n
  all_goals
    go_wp2_with fail
    go_ret2
    exact ⟨ret_pair (by simp [Iz.okL, hfa]) (by simp [Iz.okL, hfa]), rfl⟩

set_option maxRecDepth 100000 in
set_option maxHeartbeats 400000 in
theorem Add_any (a b : Int) (w : World) :
    Calls Try.prog 9 #[.int .i64 a, .int .i64 b] w fun e w' => e = .returned (.tuple #[.int .i64 (Iz.addL a b).1, .bool (Iz.addL a b).2]) ∧ w' = w := by
  go_enter Try.func9, Try.ntmps9
  go_wp2_with fail
  refine (both_any _ _ _).mono ?_
  rintro e w1 ⟨rfl, rfl⟩
  by_cases hf : (Iz.fit a && Iz.fit b) = true
  · have hab : Iz.fit a = true ∧ Iz.fit b = true := by simpa using hf
    obtain ⟨hfa, hfb⟩ := hab
    have h1 := (Iz.fit_iff a).1 hfa
    have h2 := (Iz.fit_iff b).1 hfb
    have HA : Hid (Iz.fit a = true) := hfa
    have HB : Hid (Iz.fit b = true) := hfb
    rw [hf]
    clear hf hfa hfb
    go_wp2_with fail
    refine (ifFits_any _ _).mono ?_
    rintro e w1 ⟨rfl, rfl⟩
    have HO : Hid (Iz.addL a b = Iz.okL (a + b)) := by show _ = _; simp [Iz.addL, Iz.okL, HA.out, HB.out]
    generalize Iz.okL (a + b) = r at HO
    obtain ⟨r1, r2⟩ := r
    go_wp2_with fail
    go_ret2
    exact ⟨ret_pair (by rw [HO.out]) (by rw [HO.out]), rfl⟩
  · have hf0 : (Iz.fit a && Iz.fit b) = false := by simpa using hf
    have HO : Hid (Iz.addL a b = (0, false)) := by
      show _ = _
      unfold Iz.addL
      rw [if_neg]
      intro h
      apply hf
      simp [h.1, h.2.1]
    rw [hf0]
    clear hf hf0
    go_wp2_with fail
    go_ret2
    exact ⟨ret_pair (by rw [HO.out]) (by rw [HO.out]), rfl⟩

set_option maxRecDepth 100000 in
set_option maxHeartbeats 400000 in
theorem Sub_any (a b : Int) (w : World) :
    Calls Try.prog 10 #[.int .i64 a, .int .i64 b] w fun e w' => e = .returned (.tuple #[.int .i64 (Iz.subL a b).1, .bool (Iz.subL a b).2]) ∧ w' = w := by
  go_enter Try.func10, Try.ntmps10
  go_wp2_with fail
  refine (both_any _ _ _).mono ?_
  rintro e w1 ⟨rfl, rfl⟩
  by_cases hf : (Iz.fit a && Iz.fit b) = true
  · have hab : Iz.fit a = true ∧ Iz.fit b = true := by simpa using hf
    obtain ⟨hfa, hfb⟩ := hab
    have h1 := (Iz.fit_iff a).1 hfa
    have h2 := (Iz.fit_iff b).1 hfb
    have HA : Hid (Iz.fit a = true) := hfa
    have HB : Hid (Iz.fit b = true) := hfb
    rw [hf]
    clear hf hfa hfb
    go_wp2_with fail
    refine (ifFits_any _ _).mono ?_
    rintro e w1 ⟨rfl, rfl⟩
    have HO : Hid (Iz.subL a b = Iz.okL (a - b)) := by show _ = _; simp [Iz.subL, Iz.okL, HA.out, HB.out]
    generalize Iz.okL (a - b) = r at HO
    obtain ⟨r1, r2⟩ := r
    go_wp2_with fail
    go_ret2
    exact ⟨ret_pair (by rw [HO.out]) (by rw [HO.out]), rfl⟩
  · have hf0 : (Iz.fit a && Iz.fit b) = false := by simpa using hf
    have HO : Hid (Iz.subL a b = (0, false)) := by
      show _ = _
      unfold Iz.subL
      rw [if_neg]
      intro h
      apply hf
      simp [h.1, h.2.1]
    rw [hf0]
    clear hf hf0
    go_wp2_with fail
    go_ret2
    exact ⟨ret_pair (by rw [HO.out]) (by rw [HO.out]), rfl⟩

set_option maxRecDepth 100000 in
set_option maxHeartbeats 400000 in
theorem Mul_any (a b : Int) (w : World) :
    Calls Try.prog 11 #[.int .i64 a, .int .i64 b] w fun e w' => e = .returned (.tuple #[.int .i64 (Iz.mulL a b).1, .bool (Iz.mulL a b).2]) ∧ w' = w := by
  go_enter Try.func11, Try.ntmps11
  go_wp2_with fail
  refine (both_any _ _ _).mono ?_
  rintro e w1 ⟨rfl, rfl⟩
  by_cases hf : (Iz.fit a && Iz.fit b) = true
  · have hab : Iz.fit a = true ∧ Iz.fit b = true := by simpa using hf
    obtain ⟨hfa, hfb⟩ := hab
    have hm := Iz.mul_small hfa hfb
    have h1 := (Iz.fit_iff a).1 hfa
    have h2 := (Iz.fit_iff b).1 hfb
    have HA : Hid (Iz.fit a = true) := hfa
    have HB : Hid (Iz.fit b = true) := hfb
    rw [hf]
    clear hf hfa hfb
    go_wp2_with fail
    refine (ifFits_any _ _).mono ?_
    rintro e w1 ⟨rfl, rfl⟩
    have HO : Hid (Iz.mulL a b = Iz.okL (a * b)) := by show _ = _; simp [Iz.mulL, Iz.okL, HA.out, HB.out]
    generalize Iz.okL (a * b) = r at HO
    obtain ⟨r1, r2⟩ := r
    go_wp2_with fail
    go_ret2
    exact ⟨ret_pair (by rw [HO.out]) (by rw [HO.out]), rfl⟩
  · have hf0 : (Iz.fit a && Iz.fit b) = false := by simpa using hf
    have HO : Hid (Iz.mulL a b = (0, false)) := by
      show _ = _
      unfold Iz.mulL
      rw [if_neg]
      intro h
      apply hf
      simp [h.1, h.2.1]
    rw [hf0]
    clear hf hf0
    go_wp2_with fail
    go_ret2
    exact ⟨ret_pair (by rw [HO.out]) (by rw [HO.out]), rfl⟩

set_option maxRecDepth 100000 in
set_option maxHeartbeats 400000 in
theorem Div_any (a b : Int) (w : World) :
    Calls Try.prog 12 #[.int .i64 a, .int .i64 b] w fun e w' => e = .returned (.tuple #[.int .i64 (Iz.divL a b).1, .bool (Iz.divL a b).2]) ∧ w' = w := by
  go_enter Try.func12, Try.ntmps12
  go_wp2_with fail
  refine (both_any _ _ _).mono ?_
  rintro e w1 ⟨rfl, rfl⟩
  by_cases hf : (Iz.fit a && Iz.fit b) = true
  · have hab : Iz.fit a = true ∧ Iz.fit b = true := by simpa using hf
    obtain ⟨hfa, hfb⟩ := hab
    have h1 := (Iz.fit_iff a).1 hfa
    have h2 := (Iz.fit_iff b).1 hfb
    have HA : Hid (Iz.fit a = true) := hfa
    have HB : Hid (Iz.fit b = true) := hfb
    rw [hf]
    clear hf hfa hfb
    by_cases hb : b = 0
    · have HO : Hid (Iz.divL a b = (0, false)) := by
        show _ = _
        unfold Iz.divL
        rw [if_neg]
        intro h
        exact absurd hb (by first | exact h.2.2.1 | exact h.2.2)
      have hb' : (b == 0) = true := by simp [hb]
      go_wp2_with fail
      all_goals (go_ret2; exact ⟨ret_pair (by rw [HO.out]) (by rw [HO.out]), rfl⟩)
    · have hb' : (b == 0) = false := by simp [hb]
      have hd := Iz.div_small (b := b) HA.out
      go_wp2_with fail
      refine (ifFits_any _ _).mono ?_
      rintro e w1 ⟨rfl, rfl⟩
      have HO : Hid (Iz.divL a b = Iz.okL (a.tdiv b)) := by show _ = _; simp [Iz.divL, Iz.okL, HA.out, HB.out, hb]
      generalize Iz.okL (a.tdiv b) = r at HO
      obtain ⟨r1, r2⟩ := r
      go_wp2_with fail
      go_ret2
      exact ⟨ret_pair (by rw [HO.out]) (by rw [HO.out]), rfl⟩
  · have hf0 : (Iz.fit a && Iz.fit b) = false := by simpa using hf
    have HO : Hid (Iz.divL a b = (0, false)) := by
      show _ = _
      unfold Iz.divL
      rw [if_neg]
      intro h
      apply hf
      simp [h.1, h.2.1]
    rw [hf0]
    clear hf hf0
    go_wp2_with fail
    go_ret2
    exact ⟨ret_pair (by rw [HO.out]) (by rw [HO.out]), rfl⟩

set_option maxRecDepth 100000 in
set_option maxHeartbeats 400000 in
theorem Rem_any (a b : Int) (w : World) :
    Calls Try.prog 13 #[.int .i64 a, .int .i64 b] w fun e w' => e = .returned (.tuple #[.int .i64 (Iz.remL a b).1, .bool (Iz.remL a b).2]) ∧ w' = w := by
  go_enter Try.func13, Try.ntmps13
  go_wp2_with fail
  refine (both_any _ _ _).mono ?_
  rintro e w1 ⟨rfl, rfl⟩
  by_cases hf : (Iz.fit a && Iz.fit b) = true
  · have hab : Iz.fit a = true ∧ Iz.fit b = true := by simpa using hf
    obtain ⟨hfa, hfb⟩ := hab
    have h1 := (Iz.fit_iff a).1 hfa
    have h2 := (Iz.fit_iff b).1 hfb
    have HA : Hid (Iz.fit a = true) := hfa
    have HB : Hid (Iz.fit b = true) := hfb
    rw [hf]
    clear hf hfa hfb
    by_cases hb : b = 0
    · have HO : Hid (Iz.remL a b = (0, false)) := by
        show _ = _
        unfold Iz.remL
        rw [if_neg]
        intro h
        exact absurd hb (by first | exact h.2.2.1 | exact h.2.2)
      have hb' : (b == 0) = true := by simp [hb]
      go_wp2_with fail
      all_goals (go_ret2; exact ⟨ret_pair (by rw [HO.out]) (by rw [HO.out]), rfl⟩)
    · have hb' : (b == 0) = false := by simp [hb]
      have HO : Hid (Iz.remL a b = (a.tmod b, true)) := by show _ = _; simp [Iz.remL, HA.out, HB.out, hb]
      have hd := Iz.rem_small (b := b) HA.out
      go_wp2_with fail
      go_ret2
      exact ⟨ret_pair (by rw [HO.out]) (by rw [HO.out]), rfl⟩
  · have hf0 : (Iz.fit a && Iz.fit b) = false := by simpa using hf
    have HO : Hid (Iz.remL a b = (0, false)) := by
      show _ = _
      unfold Iz.remL
      rw [if_neg]
      intro h
      apply hf
      simp [h.1, h.2.1]
    rw [hf0]
    clear hf hf0
    go_wp2_with fail
    go_ret2
    exact ⟨ret_pair (by rw [HO.out]) (by rw [HO.out]), rfl⟩

set_option maxRecDepth 100000 in
set_option maxHeartbeats 400000 in
theorem Neg_any (a : Int) (w : World) :
    Calls Try.prog 14 #[.int .i64 a] w fun e w' => e = .returned (.tuple #[.int .i64 (Iz.subL 0 a).1, .bool (Iz.subL 0 a).2]) ∧ w' = w := by
  go_enter Try.func14, Try.ntmps14
  go_wp2_with fail
  refine (Sub_any _ _ _).mono ?_
  rintro e w1 ⟨rfl, rfl⟩
  obtain ⟨r, hr⟩ : ∃ r, Iz.subL 0 a = r := ⟨_, rfl⟩
  have HO : Hid (Iz.subL 0 a = r) := hr
  rw [hr]
  clear hr
  obtain ⟨r1, r2⟩ := r
  go_wp2_with fail
  go_ret2
  exact ⟨ret_pair (by rw [HO.out]) (by rw [HO.out]), rfl⟩
end Go.Proofs.Ytihgbafemaabgaa
