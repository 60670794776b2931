/- The walks of IntsSigns, IntsEdges, IntsRing, IntsOrder. -/
import Derived.Test.YtihgbafemaabgaaIntW
namespace Go.Proofs.Ytihgbafemaabgaa
open Go.RowKit
set_option linter.unusedVariables false
set_option linter.unusedSimpArgs false

namespace Iz
theorem add_yes {a b : Int} (ha : fit a = true) (hb : fit b = true) (h : fit (a + b) = true) : addL a b = (a + b, true) := by simp [addL, ha, hb, h]
theorem add_no {a b : Int} (h : fit (a + b) = false ∨ fit a = false) : addL a b = (0, false) := by
  unfold addL; rw [if_neg]; rintro ⟨h1, h2, h3⟩; rcases h with h | h <;> simp_all
theorem sub_yes {a b : Int} (ha : fit a = true) (hb : fit b = true) (h : fit (a - b) = true) : subL a b = (a - b, true) := by simp [subL, ha, hb, h]
theorem sub_no {a b : Int} (h : fit (a - b) = false) : subL a b = (0, false) := by
  unfold subL; rw [if_neg]; rintro ⟨h1, h2, h3⟩; simp_all
theorem mul_yes {a b : Int} (ha : fit a = true) (hb : fit b = true) (h : fit (a * b) = true) : mulL a b = (a * b, true) := by simp [mulL, ha, hb, h]
theorem mul_no {a b : Int} (h : fit (a * b) = false) : mulL a b = (0, false) := by
  unfold mulL; rw [if_neg]; rintro ⟨h1, h2, h3⟩; simp_all
theorem w64 (n : Int) (h : -9223372036854775808 ≤ n ∧ n ≤ 9223372036854775807) : wrap64 n = n := by unfold wrap64; omega
theorem yes {n : Int} (h : -2147483648 ≤ n ∧ n ≤ 2147483647) : fit n = true := (fit_iff n).2 h
theorem no {n : Int} (h : n < -2147483648 ∨ 2147483647 < n) : fit n = false := by
  cases e : fit n
  · rfl
  · have := (fit_iff n).1 e; omega
theorem mul_comm (a b : Int) : mulL b a = mulL a b := by
  unfold mulL; rw [Int.mul_comm b a]; simp only [and_left_comm]
theorem add_comm (a b : Int) : addL b a = addL a b := by
  unfold addL; rw [Int.add_comm b a]; simp only [and_left_comm]
theorem neg_yes {a : Int} (ha : fit a = true) (h : a ≠ -2147483648) : subL 0 a = (-a, true) := by
  have h1 := (fit_iff a).1 ha
  have h2 : fit (0 - a) = true := (fit_iff _).2 (by omega)
  have h3 : fit 0 = true := by decide
  rw [Int.zero_sub] at h2
  simp [subL, ha, h2, h3]
theorem neg_no {a : Int} (h : fit a = true → a = -2147483648) : subL 0 a = (0, false) := by
  unfold subL; rw [if_neg]
  rintro ⟨_, h2, h3⟩
  rw [h h2] at h3
  exact absurd h3 (by decide)
end Iz

set_option maxRecDepth 100000 in
set_option maxHeartbeats 2000000 in
theorem signs_walk (a b : Int) (w : World) :
    Calls Try.prog 5 #[.int .i64 a, .int .i64 b] w fun e w' => e = .returned (.bool true) ∧ w' = w := by
  go_enter Try.func5, Try.ntmps5
  go_wp2_with fail
  refine (Mul_any _ _ _).mono ?_
  rintro e w1 ⟨rfl, rfl⟩
  have hm : Hid (Iz.mulL b a = Iz.mulL a b) := Iz.mul_comm a b
  have hs : Hid (Iz.addL b a = Iz.addL a b) := Iz.add_comm a b
  generalize Iz.mulL a b = m at *
  obtain ⟨x, e⟩ := m
  go_wp2_with fail
  refine (Mul_any _ _ _).mono ?_
  rintro e w1 ⟨rfl, rfl⟩
  rw [hm.out]
  go_wp2_with fail
  refine (Add_any _ _ _).mono ?_
  rintro e w1 ⟨rfl, rfl⟩
  generalize Iz.addL a b = m at *
  obtain ⟨u, g⟩ := m
  go_wp2_with fail
  refine (Add_any _ _ _).mono ?_
  rintro e w1 ⟨rfl, rfl⟩
  rw [hs.out]
  clear hm hs
  go_wp2_with fail
  refine (Neg_any _ _).mono ?_
  rintro e w1 ⟨rfl, rfl⟩
  by_cases hf : Iz.fit a = true ∧ a ≠ -2147483648
  · obtain ⟨hf, hl⟩ := hf
    have HN : Hid (Iz.subL 0 a = (-a, true)) := Iz.neg_yes hf hl
    have h1 := (Iz.fit_iff a).1 hf
    have HF : Hid (Iz.fit a = true) := hf
    have hl' : (a == -2147483648) = false := by simp [hl]
    clear hf
    rw [HN.out]
    go_wp2_with (first
      | (go_at_call 17; refine (Fit_any _ _).mono ?_; rintro e w1 ⟨rfl, rfl⟩; rw [HF.out])
      | (go_at_call 10; refine (Sub_any _ _ _).mono ?_; rintro e w1 ⟨rfl, rfl⟩; rw [HN.out])
      | (go_at_call 18; refine (wakes_any _).mono ?_; rintro e w1 ⟨rfl, rfl⟩))
    all_goals (go_ret; first | exact ⟨rfl, rfl⟩ | (exfalso; omega) | (exfalso; rename_i hq; revert hq; simp [hl]; done) | exact ⟨ret_bool (by simp; try omega), rfl⟩)
  · have hl : Iz.fit a = true → a = -2147483648 := fun h => Classical.byContradiction fun k => hf ⟨h, k⟩
    have HN : Hid (Iz.subL 0 a = (0, false)) := Iz.neg_no hl
    clear hf
    rw [HN.out]
    cases hc : Iz.fit a
    · clear hl
      go_wp2_with (first
      | (go_at_call 17; refine (Fit_any _ _).mono ?_; rintro e w1 ⟨rfl, rfl⟩; rw [hc])
      | (go_at_call 10; refine (Sub_any _ _ _).mono ?_; rintro e w1 ⟨rfl, rfl⟩; rw [HN.out])
      | (go_at_call 18; refine (wakes_any _).mono ?_; rintro e w1 ⟨rfl, rfl⟩))
      all_goals (go_ret; first | exact ⟨rfl, rfl⟩ | (exfalso; omega) | (exfalso; rename_i hq; revert hq; simp [hl]; done) | exact ⟨ret_bool (by simp; try omega), rfl⟩)
    · obtain rfl := hl hc
      clear hl
      go_wp2_with (first
      | (go_at_call 17; refine (Fit_any _ _).mono ?_; rintro e w1 ⟨rfl, rfl⟩; rw [hc])
      | (go_at_call 10; refine (Sub_any _ _ _).mono ?_; rintro e w1 ⟨rfl, rfl⟩; rw [HN.out])
      | (go_at_call 18; refine (wakes_any _).mono ?_; rintro e w1 ⟨rfl, rfl⟩))
      all_goals (go_ret; first | exact ⟨rfl, rfl⟩ | (exfalso; omega) | (exfalso; rename_i hq; revert hq; simp [hl]; done) | exact ⟨ret_bool (by simp; try omega), rfl⟩)

set_option maxRecDepth 100000 in
set_option maxHeartbeats 2000000 in
theorem edges_walk (n : Int) (w : World) :
    Calls Try.prog 6 #[.int .i64 n] w fun e w' => e = .returned (.bool true) ∧ w' = w := by
  go_enter Try.func6, Try.ntmps6
  go_wp2_with fail
  have h0 : 0 ≤ (IntKind.u64.wrap n).tmod 1000 := Int.tmod_nonneg _ (by rw [IntKind.wrap_u64]; omega)
  have h1 : (IntKind.u64.wrap n).tmod 1000 < 1000 := Int.tmod_lt_of_pos _ (by decide)
  rw [Iz.w64 _ (show -9223372036854775808 ≤ (IntKind.u64.wrap n).tmod 1000 ∧ (IntKind.u64.wrap n).tmod 1000 ≤ 9223372036854775807 by omega)]
  generalize IntKind.u64.wrap n = u at *
  generalize u.tmod 1000 = m at *
  rw [Iz.w64 _ (show -9223372036854775808 ≤ 2147483647 - m ∧ 2147483647 - m ≤ 9223372036854775807 by omega)]
  refine (Add_any _ _ _).mono ?_
  rintro e w1 ⟨rfl, rfl⟩
  rw [Iz.add_yes (Iz.yes (by omega)) (Iz.yes (by omega)) (Iz.yes (by omega))]
  go_wp2_with fail
  refine (Add_any _ _ _).mono ?_
  rintro e w1 ⟨rfl, rfl⟩
  rw [Iz.add_no (.inl (Iz.no (by omega)))]
  go_wp2_with fail
  refine (Sub_any _ _ _).mono ?_
  rintro e w1 ⟨rfl, rfl⟩
  rw [Iz.sub_yes (Iz.yes (by omega)) (Iz.yes (by omega)) (Iz.yes (by omega))]
  go_wp2_with fail
  refine (Sub_any _ _ _).mono ?_
  rintro e w1 ⟨rfl, rfl⟩
  rw [Iz.sub_no (Iz.no (by omega))]
  go_wp2_with fail
  refine (Mul_any _ _ _).mono ?_
  rintro e w1 ⟨rfl, rfl⟩
  rw [Iz.mul_no (Iz.no (by omega))]
  go_wp2_with fail
  refine (Mul_any _ _ _).mono ?_
  rintro e w1 ⟨rfl, rfl⟩
  rw [Iz.mul_yes (Iz.yes (by omega)) (Iz.yes (by omega)) (Iz.yes (by omega))]
  go_wp2_with fail
  refine (Add_any _ _ _).mono ?_
  rintro e w1 ⟨rfl, rfl⟩
  rw [Iz.add_no (.inr (Iz.no (by omega)))]
  go_wp2_with (go_at_call 18; refine (wakes_any _).mono ?_; rintro e w1 ⟨rfl, rfl⟩)
  all_goals (go_ret; exact ⟨rfl, rfl⟩)
end Go.Proofs.Ytihgbafemaabgaa
