/- The walk of IntsOrder. -/
import Derived.Test.YtihgbafemaabgaaIntD
namespace Go.Proofs.Ytihgbafemaabgaa
open Go.RowKit
set_option linter.unusedVariables false
set_option linter.unusedSimpArgs false

set_option maxRecDepth 100000 in
set_option maxHeartbeats 2000000 in
theorem order_le (a b c : Int) (hab : a ≤ b) (w : World) :
    Calls Try.prog 8 #[.int .i64 a, .int .i64 b, .int .i64 c] w fun e w' => e = .returned (.bool true) ∧ w' = w := by
  have hle : Hid (a ≤ b) := by show _ ≤ _; omega
  go_enter Try.func8, Try.ntmps8
  go_wp2_with fail
  refine (Add_any _ _ _).mono ?_
  rintro e w1 ⟨rfl, rfl⟩
  obtain ⟨x, e1, h⟩ := Iz.pair_eta (Iz.addL a c)
  have H1 : Hid (Iz.addL a c = (x, e1)) := h
  rw [h]
  clear h
  go_wp2_with fail
  refine (Add_any _ _ _).mono ?_
  rintro e w1 ⟨rfl, rfl⟩
  obtain ⟨y, e2, h⟩ := Iz.pair_eta (Iz.addL b c)
  have H2 : Hid (Iz.addL b c = (y, e2)) := h
  rw [h]
  clear h
  have K1 : (e1 && (e2 && decide (y < x))) = false := by
    cases e1
    · rfl
    · cases e2
      · rfl
      · have h1 := Iz.add_t H1.out
        have h2 := Iz.add_t H2.out
        have h3 := hle.out
        simp; omega
  clear H1 H2 hab
  have K1' : e1 = false ∨ (e1 = true ∧ (e2 = false ∨ (e2 = true ∧ x ≤ y))) := by
    revert K1; cases e1 <;> cases e2 <;> simp
  clear K1
  rcases K1' with rfl | ⟨rfl, rfl | ⟨rfl, hxy⟩⟩
  all_goals
    go_wp2_with fail
    refine (Sub_any _ _ _).mono ?_
    rintro e w1 ⟨rfl, rfl⟩
    obtain ⟨u, e3, h⟩ := Iz.pair_eta (Iz.subL c a)
    have H1 : Hid (Iz.subL c a = (u, e3)) := h
    rw [h]
    clear h
    go_wp2_with fail
    refine (Sub_any _ _ _).mono ?_
    rintro e w1 ⟨rfl, rfl⟩
    obtain ⟨v, e4, h⟩ := Iz.pair_eta (Iz.subL c b)
    have H2 : Hid (Iz.subL c b = (v, e4)) := h
    rw [h]
    clear h
    have K1 : e3 = false ∨ (e3 = true ∧ (e4 = false ∨ (e4 = true ∧ v ≤ u))) := by
      cases e3
      · exact .inl rfl
      · cases e4
        · exact .inr ⟨rfl, .inl rfl⟩
        · refine .inr ⟨rfl, .inr ⟨rfl, ?_⟩⟩
          have h1 := Iz.sub_t H1.out
          have h2 := Iz.sub_t H2.out
          have h3 := hle.out
          omega
    clear H1 H2
    rcases K1 with rfl | ⟨rfl, rfl | ⟨rfl, huv⟩⟩
    all_goals
      by_cases hc : c ≤ 0
      · go_wp2_with (go_at_call 18; refine (wakes_any _).mono ?_; rintro e w1 ⟨rfl, rfl⟩)
        all_goals (go_ret; exact ⟨rfl, rfl⟩)
      · have hc0 : 0 < c := by omega
        clear hc
        go_wp2_with fail
        refine (Div_any _ _ _).mono ?_
        rintro e w1 ⟨rfl, rfl⟩
        obtain ⟨m, e5, h⟩ := Iz.pair_eta (Iz.divL a c)
        have H1 : Hid (Iz.divL a c = (m, e5)) := h
        rw [h]
        clear h
        go_wp2_with fail
        refine (Div_any _ _ _).mono ?_
        rintro e w1 ⟨rfl, rfl⟩
        obtain ⟨n, e6, h⟩ := Iz.pair_eta (Iz.divL b c)
        have H2 : Hid (Iz.divL b c = (n, e6)) := h
        rw [h]
        clear h
        have K1 : e5 = false ∨ (e5 = true ∧ (e6 = false ∨ (e6 = true ∧ m ≤ n))) := by
          cases e5
          · exact .inl rfl
          · cases e6
            · exact .inr ⟨rfl, .inl rfl⟩
            · refine .inr ⟨rfl, .inr ⟨rfl, ?_⟩⟩
              rw [Iz.div_t H1.out, Iz.div_t H2.out]
              exact Iz.tdiv_mono hc0 hle.out
        clear H1 H2
        rcases K1 with rfl | ⟨rfl, rfl | ⟨rfl, hmn⟩⟩
        all_goals
          go_wp2_with (go_at_call 18; refine (wakes_any _).mono ?_; rintro e w1 ⟨rfl, rfl⟩)
          all_goals (go_ret; first | exact ⟨rfl, rfl⟩ | (exfalso; omega) | exact ⟨ret_bool (by simp; try omega), rfl⟩)

set_option maxRecDepth 100000 in
set_option maxHeartbeats 2000000 in
theorem order_gt (a b c : Int) (hab : b < a) (w : World) :
    Calls Try.prog 8 #[.int .i64 a, .int .i64 b, .int .i64 c] w fun e w' => e = .returned (.bool true) ∧ w' = w := by
  have hle : Hid (b ≤ a) := by show _ ≤ _; omega
  go_enter Try.func8, Try.ntmps8
  go_wp2_with fail
  refine (Add_any _ _ _).mono ?_
  rintro e w1 ⟨rfl, rfl⟩
  obtain ⟨x, e1, h⟩ := Iz.pair_eta (Iz.addL b c)
  have H1 : Hid (Iz.addL b c = (x, e1)) := h
  rw [h]
  clear h
  go_wp2_with fail
  refine (Add_any _ _ _).mono ?_
  rintro e w1 ⟨rfl, rfl⟩
  obtain ⟨y, e2, h⟩ := Iz.pair_eta (Iz.addL a c)
  have H2 : Hid (Iz.addL a c = (y, e2)) := h
  rw [h]
  clear h
  have K1 : (e1 && (e2 && decide (y < x))) = false := by
    cases e1
    · rfl
    · cases e2
      · rfl
      · have h1 := Iz.add_t H1.out
        have h2 := Iz.add_t H2.out
        have h3 := hle.out
        simp; omega
  clear H1 H2 hab
  have K1' : e1 = false ∨ (e1 = true ∧ (e2 = false ∨ (e2 = true ∧ x ≤ y))) := by
    revert K1; cases e1 <;> cases e2 <;> simp
  clear K1
  rcases K1' with rfl | ⟨rfl, rfl | ⟨rfl, hxy⟩⟩
  all_goals
    go_wp2_with fail
    refine (Sub_any _ _ _).mono ?_
    rintro e w1 ⟨rfl, rfl⟩
    obtain ⟨u, e3, h⟩ := Iz.pair_eta (Iz.subL c b)
    have H1 : Hid (Iz.subL c b = (u, e3)) := h
    rw [h]
    clear h
    go_wp2_with fail
    refine (Sub_any _ _ _).mono ?_
    rintro e w1 ⟨rfl, rfl⟩
    obtain ⟨v, e4, h⟩ := Iz.pair_eta (Iz.subL c a)
    have H2 : Hid (Iz.subL c a = (v, e4)) := h
    rw [h]
    clear h
    have K1 : e3 = false ∨ (e3 = true ∧ (e4 = false ∨ (e4 = true ∧ v ≤ u))) := by
      cases e3
      · exact .inl rfl
      · cases e4
        · exact .inr ⟨rfl, .inl rfl⟩
        · refine .inr ⟨rfl, .inr ⟨rfl, ?_⟩⟩
          have h1 := Iz.sub_t H1.out
          have h2 := Iz.sub_t H2.out
          have h3 := hle.out
          omega
    clear H1 H2
    rcases K1 with rfl | ⟨rfl, rfl | ⟨rfl, huv⟩⟩
    all_goals
      by_cases hc : c ≤ 0
      · go_wp2_with (go_at_call 18; refine (wakes_any _).mono ?_; rintro e w1 ⟨rfl, rfl⟩)
        all_goals (go_ret; exact ⟨rfl, rfl⟩)
      · have hc0 : 0 < c := by omega
        clear hc
        go_wp2_with fail
        refine (Div_any _ _ _).mono ?_
        rintro e w1 ⟨rfl, rfl⟩
        obtain ⟨m, e5, h⟩ := Iz.pair_eta (Iz.divL b c)
        have H1 : Hid (Iz.divL b c = (m, e5)) := h
        rw [h]
        clear h
        go_wp2_with fail
        refine (Div_any _ _ _).mono ?_
        rintro e w1 ⟨rfl, rfl⟩
        obtain ⟨n, e6, h⟩ := Iz.pair_eta (Iz.divL a c)
        have H2 : Hid (Iz.divL a c = (n, e6)) := h
        rw [h]
        clear h
        have K1 : e5 = false ∨ (e5 = true ∧ (e6 = false ∨ (e6 = true ∧ m ≤ n))) := by
          cases e5
          · exact .inl rfl
          · cases e6
            · exact .inr ⟨rfl, .inl rfl⟩
            · refine .inr ⟨rfl, .inr ⟨rfl, ?_⟩⟩
              rw [Iz.div_t H1.out, Iz.div_t H2.out]
              exact Iz.tdiv_mono hc0 hle.out
        clear H1 H2
        rcases K1 with rfl | ⟨rfl, rfl | ⟨rfl, hmn⟩⟩
        all_goals
          go_wp2_with (go_at_call 18; refine (wakes_any _).mono ?_; rintro e w1 ⟨rfl, rfl⟩)
          all_goals (go_ret; first | exact ⟨rfl, rfl⟩ | (exfalso; omega) | exact ⟨ret_bool (by simp; try omega), rfl⟩)
end Go.Proofs.Ytihgbafemaabgaa
