/- LexNums: the walk: a number's digits are that number, as far as 32 bits go. -/
import Derived.Test.YtiglcjcellhggaaDigits
namespace Go.Proofs.Ytiglcjcellhggaa
open Go.RowKit
set_option linter.unusedVariables false
set_option linter.unusedSimpArgs false

theorem num_45_48 : Lx.numL [45, 48] = none := by kernel_rfl
theorem num_empty : Lx.numL [] = none := rfl

theorem Num_str (s : ByteArray) (r : Option Int) (h : Lx.numL s.data.toList = r) (hs : s.size ≤ maxLen) (w : World) :
    Calls Try.prog 6 #[.string s] w fun e w' => e = .returned (.tuple #[.int .i64 (r.getD 0), .bool r.isSome]) ∧ w' = w := by
  have := Num_any s hs w
  rw [h] at this
  exact this

set_option maxHeartbeats 2000000 in
theorem nums_walk (n : Int) (w : World) :
    Calls Try.prog 3 #[.int .i64 n] w fun e w' => e = .returned (.bool true) ∧ Below w.heap.size w w' := by
  go_enter Try.func3, Try.ntmps3
  go_wp2_with fail
  have hr1 : -17179869184 < n.tmod 17179869184 := Int.lt_tmod_of_pos n (by decide)
  have hr2 : n.tmod 17179869184 < 17179869184 := Int.tmod_lt_of_pos n (by decide)
  generalize n.tmod 17179869184 = r at *
  refine (Digits_any r (by omega) (by omega) _).mono ?_
  rintro e w1 ⟨rfl, hB⟩
  have hlen := (Lx.intL_len r).2
  have hsz := str_size (Lx.intL r)
  have hn0 := Lx.numL_int r (by omega)
  have hnA : Lx.numL ((⟨#[48]⟩ : ByteArray) ++ ⟨(Lx.intL r).toArray⟩).data.toList = none := by
    rw [show ((⟨#[48]⟩ : ByteArray) ++ ⟨(Lx.intL r).toArray⟩).data.toList = 48 :: Lx.intL r from by rw [ByteArray.data_append]; simp]
    exact Lx.numL_nought _ (Lx.intL_ne r)
  have hnC : Lx.numL ((⟨#[43]⟩ : ByteArray) ++ ⟨(Lx.intL r).toArray⟩).data.toList = none := by
    rw [show ((⟨#[43]⟩ : ByteArray) ++ ⟨(Lx.intL r).toArray⟩).data.toList = 43 :: Lx.intL r from by rw [ByteArray.data_append]; simp]
    exact Lx.numL_plus _
  have hnD : Lx.numL ((⟨(Lx.intL r).toArray⟩ : ByteArray) ++ ⟨#[32]⟩).data.toList = none := by
    rw [show ((⟨(Lx.intL r).toArray⟩ : ByteArray) ++ ⟨#[32]⟩).data.toList = Lx.intL r ++ [32] from by rw [ByteArray.data_append]; simp]
    exact Lx.numL_snoc _ _ (by decide)
  have hn0' : Lx.numL (⟨(Lx.intL r).toArray⟩ : ByteArray).data.toList = if -2147483648 ≤ r ∧ r ≤ 2147483647 then some r else none := hn0
  clear hn0
  generalize (⟨(Lx.intL r).toArray⟩ : ByteArray) = S at *
  have H0 : Hid (Lx.numL S.data.toList = if -2147483648 ≤ r ∧ r ≤ 2147483647 then some r else none) := hn0'
  have HA : Hid (Lx.numL ((⟨#[48]⟩ : ByteArray) ++ S).data.toList = none) := hnA
  have HC : Hid (Lx.numL ((⟨#[43]⟩ : ByteArray) ++ S).data.toList = none) := hnC
  have HD : Hid (Lx.numL (S ++ ⟨#[32]⟩).data.toList = none) := hnD
  have hs1 : S.size ≤ 30 := by omega
  clear hnA hnC hnD hn0' hlen hsz
  by_cases hfit : -2147483648 ≤ r ∧ r ≤ 2147483647
  · have H1 : Hid (Lx.numL S.data.toList = some r) := by show _ = _; rw [H0.out, if_pos hfit]
    obtain ⟨hf1, hf2⟩ := hfit
    clear H0
    go_wp2_with fail
    refine (Num_str _ _ H1.out (by unfold maxLen; omega) _).mono ?_
    rintro e w2 ⟨rfl, rfl⟩
    go_wp2_with fail
    refine (Num_str _ _ HA.out (app_size _ _ (by decide) (by omega)) _).mono ?_
    rintro e w2 ⟨rfl, rfl⟩
    go_wp2_with fail
    refine (Num_str _ _ num_45_48 (by decide) _).mono ?_
    rintro e w2 ⟨rfl, rfl⟩
    go_wp2_with fail
    refine (Num_str _ _ HC.out (app_size _ _ (by decide) (by omega)) _).mono ?_
    rintro e w2 ⟨rfl, rfl⟩
    go_wp2_with fail
    refine (Num_str _ _ HD.out (app_size _ _ (by omega) (by decide)) _).mono ?_
    rintro e w2 ⟨rfl, rfl⟩
    go_wp2_with fail
    refine (Num_str _ _ num_empty (by decide) _).mono ?_
    rintro e w2 ⟨rfl, rfl⟩
    go_wp2_with fail
    refine (wakes_any _).mono ?_
    rintro e w3 ⟨rfl, hb3⟩
    go_wp2_with fail
    go_ret
    exact ⟨rfl, hB.trans (hb3.mono hB.size)⟩
  · have H1 : Hid (Lx.numL S.data.toList = none) := by show _ = _; rw [H0.out, if_neg hfit]
    have hcase : r < -2147483648 ∨ (-2147483648 ≤ r ∧ 2147483647 < r) := by omega
    clear H0 hfit
    rcases hcase with hc | ⟨hc0, hc⟩
    all_goals
      go_wp2_with fail
      refine (Num_str _ _ H1.out (by unfold maxLen; omega) _).mono ?_
      rintro e w2 ⟨rfl, rfl⟩
      go_wp2_with fail
      refine (Num_str _ _ HA.out (app_size _ _ (by decide) (by omega)) _).mono ?_
      rintro e w2 ⟨rfl, rfl⟩
      go_wp2_with fail
      refine (Num_str _ _ num_45_48 (by decide) _).mono ?_
      rintro e w2 ⟨rfl, rfl⟩
      go_wp2_with fail
      refine (Num_str _ _ HC.out (app_size _ _ (by decide) (by omega)) _).mono ?_
      rintro e w2 ⟨rfl, rfl⟩
      go_wp2_with fail
      refine (Num_str _ _ HD.out (app_size _ _ (by omega) (by decide)) _).mono ?_
      rintro e w2 ⟨rfl, rfl⟩
      go_wp2_with fail
      refine (Num_str _ _ num_empty (by decide) _).mono ?_
      rintro e w2 ⟨rfl, rfl⟩
      go_wp2_with fail
      refine (wakes_any _).mono ?_
      rintro e w3 ⟨rfl, hb3⟩
      go_wp2_with fail
      go_ret
      first | exact ⟨rfl, hB.trans (hb3.mono hB.size)⟩ | exact ⟨ret_bool (by simp; omega), hB.trans (hb3.mono hB.size)⟩

end Go.Proofs.Ytiglcjcellhggaa
