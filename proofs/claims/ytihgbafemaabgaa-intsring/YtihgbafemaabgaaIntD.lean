/- The walks of IntsRing, IntsOrder. -/
import Derived.Test.YtihgbafemaabgaaIntC
namespace Go.Proofs.Ytihgbafemaabgaa
open Go.RowKit
set_option linter.unusedVariables false
set_option linter.unusedSimpArgs false

namespace Iz
theorem add_t {a b x : Int} (h : addL a b = (x, true)) : x = a + b := by
  unfold addL at h; split at h <;> simp_all
theorem sub_t {a b x : Int} (h : subL a b = (x, true)) : x = a - b := by
  unfold subL at h; split at h <;> simp_all
theorem mul_t {a b x : Int} (h : mulL a b = (x, true)) : x = a * b := by
  unfold mulL at h; split at h <;> simp_all
theorem div_t {a b x : Int} (h : divL a b = (x, true)) : x = a.tdiv b := by
  unfold divL at h; split at h <;> simp_all
theorem ring {a b c s p x y z : Int} (h1 : addL b c = (s, true)) (h2 : mulL a s = (p, true)) (h3 : mulL a b = (x, true)) (h4 : mulL a c = (y, true)) (h5 : addL x y = (z, true)) : p = z := by
  have e1 := add_t h1
  have e2 := mul_t h2
  have e3 := mul_t h3
  have e4 := mul_t h4
  have e5 := add_t h5
  rw [e2, e1, e5, e3, e4, Int.mul_add]
theorem tdiv_mono {a b c : Int} (hc : 0 < c) (h : a ≤ b) : a.tdiv c ≤ b.tdiv c := Int.tdiv_le_tdiv hc h
theorem pair_eta (p : Int × Bool) : ∃ x e, p = (x, e) := ⟨p.1, p.2, rfl⟩
theorem mul_nought {a : Int} (ha : fit a = true) : mulL a 0 = (0, true) := by rw [mul_yes ha (by decide) (by rw [Int.mul_zero]; decide), Int.mul_zero]
theorem mul_one {a : Int} (ha : fit a = true) : mulL a 1 = (a, true) := by rw [mul_yes ha (by decide) (by rw [Int.mul_one]; exact ha), Int.mul_one]
theorem div_one {a : Int} (ha : fit a = true) : divL a 1 = (a, true) := by simp [divL, ha, show fit 1 = true by decide, Int.tdiv_one]
theorem rem_one {a : Int} (ha : fit a = true) : remL a 1 = (0, true) := by simp [remL, ha, show fit 1 = true by decide, Int.tmod_one]
end Iz

set_option maxRecDepth 100000 in
set_option maxHeartbeats 2000000 in
theorem ring_walk (a b c : Int) (w : World) :
    Calls Try.prog 7 #[.int .i64 a, .int .i64 b, .int .i64 c] w fun e w' => e = .returned (.bool true) ∧ w' = w := by
  go_enter Try.func7, Try.ntmps7
  go_wp2_with fail
  refine (Add_any _ _ _).mono ?_
  rintro e w1 ⟨rfl, rfl⟩
  obtain ⟨s, e1, h⟩ := Iz.pair_eta (Iz.addL b c)
  have H1 : Hid (Iz.addL b c = (s, e1)) := h
  rw [h]
  clear h
  go_wp2_with fail
  refine (Mul_any _ _ _).mono ?_
  rintro e w1 ⟨rfl, rfl⟩
  obtain ⟨p, e2, h⟩ := Iz.pair_eta (Iz.mulL a s)
  have H2 : Hid (Iz.mulL a s = (p, e2)) := h
  rw [h]
  clear h
  go_wp2_with fail
  refine (Mul_any _ _ _).mono ?_
  rintro e w1 ⟨rfl, rfl⟩
  obtain ⟨x, e3, h⟩ := Iz.pair_eta (Iz.mulL a b)
  have H3 : Hid (Iz.mulL a b = (x, e3)) := h
  rw [h]
  clear h
  go_wp2_with fail
  refine (Mul_any _ _ _).mono ?_
  rintro e w1 ⟨rfl, rfl⟩
  obtain ⟨y, e4, h⟩ := Iz.pair_eta (Iz.mulL a c)
  have H4 : Hid (Iz.mulL a c = (y, e4)) := h
  rw [h]
  clear h
  go_wp2_with fail
  refine (Add_any _ _ _).mono ?_
  rintro e w1 ⟨rfl, rfl⟩
  obtain ⟨z, e5, h⟩ := Iz.pair_eta (Iz.addL x y)
  have H5 : Hid (Iz.addL x y = (z, e5)) := h
  rw [h]
  clear h
  have hk : (e1 && (e2 && (e3 && (e4 && e5)))) = true → p = z := by
    intro h
    simp only [Bool.and_eq_true] at h
    obtain ⟨rfl, rfl, rfl, rfl, rfl⟩ := h
    exact Iz.ring H1.out H2.out H3.out H4.out H5.out
  clear H1 H2 H3 H4 H5
  by_cases hall : (e1 && (e2 && (e3 && (e4 && e5)))) = true
  · obtain rfl := hk hall
    simp only [Bool.and_eq_true] at hall
    obtain ⟨rfl, rfl, rfl, rfl, rfl⟩ := hall
    clear hk
    cases hf : Iz.fit a
    · go_wp2_with (first
        | (go_at_call 16; refine (Fits_any _ _).mono ?_; rintro e w1 ⟨rfl, rfl⟩; rw [hf])
        | (go_at_call 18; refine (wakes_any _).mono ?_; rintro e w1 ⟨rfl, rfl⟩))
      all_goals (go_ret; exact ⟨rfl, rfl⟩)
    · have h1 := (Iz.fit_iff a).1 hf
      have HF : Hid (Iz.fit a = true) := hf
      clear hf
      go_wp2_with (first
        | (go_at_call 16; refine (Fits_any _ _).mono ?_; rintro e w1 ⟨rfl, rfl⟩; rw [HF.out])
        | (go_at_call 11; refine (Mul_any _ _ _).mono ?_; rintro e w1 ⟨rfl, rfl⟩; first | rw [Iz.mul_nought HF.out] | rw [Iz.mul_one HF.out])
        | (go_at_call 12; refine (Div_any _ _ _).mono ?_; rintro e w1 ⟨rfl, rfl⟩; rw [Iz.div_one HF.out])
        | (go_at_call 13; refine (Rem_any _ _ _).mono ?_; rintro e w1 ⟨rfl, rfl⟩; rw [Iz.rem_one HF.out])
        | (go_at_call 18; refine (wakes_any _).mono ?_; rintro e w1 ⟨rfl, rfl⟩))
      all_goals (go_ret; first | exact ⟨rfl, rfl⟩ | (exfalso; omega))
  · clear hk
    have hall : e1 = false ∨ (e1 = true ∧ (e2 = false ∨ (e2 = true ∧ (e3 = false ∨ (e3 = true ∧ (e4 = false ∨ (e4 = true ∧ e5 = false))))))) := by
      revert hall; cases e1 <;> cases e2 <;> cases e3 <;> cases e4 <;> cases e5 <;> decide
    rcases hall with rfl | ⟨rfl, rfl | ⟨rfl, rfl | ⟨rfl, rfl | ⟨rfl, rfl⟩⟩⟩⟩
    all_goals
      cases hf : Iz.fit a
      · go_wp2_with (first
          | (go_at_call 16; refine (Fits_any _ _).mono ?_; rintro e w1 ⟨rfl, rfl⟩; rw [hf])
          | (go_at_call 18; refine (wakes_any _).mono ?_; rintro e w1 ⟨rfl, rfl⟩))
        all_goals (go_ret; exact ⟨rfl, rfl⟩)
      · have h1 := (Iz.fit_iff a).1 hf
        have HF : Hid (Iz.fit a = true) := hf
        clear hf
        go_wp2_with (first
          | (go_at_call 16; refine (Fits_any _ _).mono ?_; rintro e w1 ⟨rfl, rfl⟩; rw [HF.out])
          | (go_at_call 11; refine (Mul_any _ _ _).mono ?_; rintro e w1 ⟨rfl, rfl⟩; first | rw [Iz.mul_nought HF.out] | rw [Iz.mul_one HF.out])
          | (go_at_call 12; refine (Div_any _ _ _).mono ?_; rintro e w1 ⟨rfl, rfl⟩; rw [Iz.div_one HF.out])
          | (go_at_call 13; refine (Rem_any _ _ _).mono ?_; rintro e w1 ⟨rfl, rfl⟩; rw [Iz.rem_one HF.out])
          | (go_at_call 18; refine (wakes_any _).mono ?_; rintro e w1 ⟨rfl, rfl⟩))
        all_goals (go_ret; first | exact ⟨rfl, rfl⟩ | (exfalso; omega))
end Go.Proofs.Ytihgbafemaabgaa
