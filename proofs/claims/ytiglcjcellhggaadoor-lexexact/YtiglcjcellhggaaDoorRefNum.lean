/- What the page's blank and Num answer. -/
import Derived.Test.YtiglcjcellhggaaDoorRefWord
import Derived.Test.YtiglcjcellhggaaDoorPlainE
namespace Go.Proofs.YtiglcjcellhggaaDoor
open Go.RowKit
set_option linter.unusedVariables false
set_option linter.unusedSimpArgs false

set_option maxHeartbeats 400000 in
theorem refBlank_any (c : Int) (w : World) :
    Calls Tryd.prog 22 #[.int .u8 c] w fun e w' => e = .returned (.bool (Lx.blkI c)) ∧ w' = w := by
  go_enter Tryd.func22, Tryd.ntmps22
  go_wp2
  all_goals (go_ret; exact ⟨ret_bool (by simp [Lx.blkI]; try omega), rfl⟩)

set_option maxHeartbeats 2000000 in
theorem refNum_pos (s : ByteArray) (hs : s.size ≤ maxLen) (hm : ∀ h0 : 0 < s.size, ¬ s[0].toNat = 45) (w : World) :
    Calls Tryd.prog 13 #[.string s] w fun e w' => e = .returned (.tuple #[.int .i64 ((Lx.numL s.data.toList).getD 0), .bool (Lx.numL s.data.toList).isSome]) ∧ w' = w := by
  unfold maxLen at hs
  obtain ⟨R, hR⟩ : ∃ R : Option Int, R = Lx.numL s.data.toList := ⟨_, rfl⟩
  rw [← hR]
  have HR : Hid (R = Lx.numL s.data.toList) := hR
  clear hR
  obtain ⟨x, hx⟩ : ∃ x : Int, x = R.getD 0 := ⟨_, rfl⟩
  obtain ⟨y, hy⟩ : ∃ y : Bool, y = R.isSome := ⟨_, rfl⟩
  rw [← hx, ← hy]
  have HX : Hid (x = R.getD 0) := hx
  have HY : Hid (y = R.isSome) := hy
  clear hx hy
  by_cases h0 : 0 < s.size
  · have h45 := hm h0
    have hb45 : ((s[0].toNat : Int) == 45) = false := by simp; omega
    have HN : Hid (R = Lx.posOf (Lx.sizeL s.data.toList)) := by show _ = _; rw [HR.out, Lx.numL_pos s h0 h45]
    clear HR hm h45
    by_cases h10 : 10 < s.size
    · have HB : Hid (R = none) := by show _ = _; rw [HN.out, Lx.sizeL_long _ (by rw [Lx.toList_len]; exact h10)]; rfl
      clear HN
      go_enter Tryd.func13, Tryd.ntmps13
      go_wp2
      go_ret2
      exact ⟨ret_pair (by rw [HX.out, HB.out]; rfl) (by rw [HY.out, HB.out]; rfl), rfl⟩
    by_cases hz : s[0].toNat = 48 ∧ 1 < s.size
    · have HB : Hid (R = none) := by show _ = _; rw [HN.out, Lx.sizeL_cons s h0, if_pos hz]; rfl
      have hz1 : ((s[0].toNat : Int) == 48) = true := by simp; omega
      have hz2 : (1 : Int) < (s.size : Int) := by omega
      clear HN hz
      go_enter Tryd.func13, Tryd.ntmps13
      go_wp2
      go_ret2
      exact ⟨ret_pair (by rw [HX.out, HB.out]; rfl) (by rw [HY.out, HB.out]; rfl), rfl⟩
    · obtain ⟨V, hV⟩ : ∃ V, V = Lx.valGo s.data.toList 0 := ⟨_, rfl⟩
      have HP : Hid (R = Lx.posOf (V.bind Lx.capB)) := by show _ = _; rw [HN.out, Lx.sizeL_val s h0 hz, hV]
      have HV : Hid (V = Lx.valGo (s.data.toList.drop 0) 0) := hV
      clear HN hV
      have hz' : (((s[0].toNat : Int) == 48) = true ∧ ¬ ((1 : Int) < (s.size : Int))) ∨ ((s[0].toNat : Int) == 48) = false := by
        by_cases h48 : s[0].toNat = 48
        · exact .inl ⟨by simp; omega, by omega⟩
        · exact .inr (by simp; omega)
      clear hz
      rcases hz' with hz' | hz'
      all_goals
        go_enter Tryd.func13, Tryd.ntmps13
        go_wp2
        clear hz' hb45
        go_loop [5, 6] (fun n i => ∃ k m : Nat, k ≤ s.size ∧ i = .int .i64 k ∧ n = .int .i64 m ∧ Hid (m < 10 ^ k) ∧ Hid (V = Lx.valGo (s.data.toList.drop k) m)) (fun _ i => s.size - (intOf i).toNat)
        case atStart => exact ⟨0, 0, Nat.zero_le _, rfl, rfl, by show _ < _; decide, HV⟩
        case round =>
          obtain ⟨k, m, hk, rfl, rfl, HM, HK⟩ := hrel
          clear HV
          by_cases hlt : k < s.size
          · have hm9 : m < 1000000000 := by
              have h1 := HM.out
              have h2 : 10 ^ k ≤ 10 ^ 9 := Nat.pow_le_pow_right (by decide) (by omega)
              omega
            cases hd : Lx.dig s[k] with
            | true =>
              have hd' : Lx.digI (s[k].toNat : Int) = true := hd
              have hb := Lx.dig_bounds hd
              have HB : Hid (V = Lx.valGo (s.data.toList.drop (k + 1)) (m * 10 + (s[k].toNat - 48))) := by show _ = _; rw [HK.out, Lx.valGo_step s k hlt m hd]
              have HM2 : Hid (m * 10 + (s[k].toNat - 48) < 10 ^ (k + 1)) := by have := HM.out; show _ < _; rw [Nat.pow_succ]; omega
              clear hd HK HM
              go_wp2_with (go_at_call 25; refine (refDigit_any _ _).mono ?_; rintro e w' ⟨rfl, rfl⟩)
              go_round
              case rel => exact ⟨k + 1, m * 10 + (s[k].toNat - 48), by omega, by go_num, by go_num, HM2, HB⟩
              case measure => simp [intOf]; omega
            | false =>
              have hd' : Lx.digI (s[k].toNat : Int) = false := hd
              have HB : Hid (R = none) := by show _ = _; rw [HP.out, HK.out, Lx.valGo_bad s k hlt m hd]; rfl
              clear hd HK HM
              go_wp2_with (go_at_call 25; refine (refDigit_any _ _).mono ?_; rintro e w' ⟨rfl, rfl⟩)
              go_ret2
              exact ⟨ret_pair (by rw [HX.out, HB.out]; rfl) (by rw [HY.out, HB.out]; rfl), rfl⟩
          · have HE : Hid (V = some m) := by show _ = _; rw [HK.out, Lx.valGo_end s k hlt m]
            have hm9 : m < 10000000000 := by
              have h1 := HM.out
              have h2 : 10 ^ k ≤ 10 ^ 10 := Nat.pow_le_pow_right (by decide) (by omega)
              omega
            clear HK HM
            by_cases hz : 2147483647 < m
            · have HB : Hid (R = none) := by
                show _ = _
                rw [HP.out, HE.out, Option.bind_some, Lx.capB]
                split
                · rfl
                · simp [Lx.posOf, hz]
              clear HP HE
              go_wp2
              go_ret2
              exact ⟨ret_pair (by rw [HX.out, HB.out]; rfl) (by rw [HY.out, HB.out]; rfl), rfl⟩
            · have HB : Hid (R = some (m : Int)) := by
                show _ = _
                rw [HP.out, HE.out, Option.bind_some, Lx.capB, if_neg (by omega)]
                simp [Lx.posOf, hz]
              clear HP HE
              go_wp2
              go_ret2
              exact ⟨ret_pair (by rw [HX.out, HB.out]; rfl) (by rw [HY.out, HB.out]; rfl), rfl⟩
  · have HB : Hid (R = none) := by show _ = _; rw [HR.out, Lx.numL_nil s h0]
    clear HR hm
    go_enter Tryd.func13, Tryd.ntmps13
    go_wp2
    go_ret2
    exact ⟨ret_pair (by rw [HX.out, HB.out]; rfl) (by rw [HY.out, HB.out]; rfl), rfl⟩

set_option maxHeartbeats 2000000 in
theorem refNum_neg (s : ByteArray) (hs : s.size ≤ maxLen) (h0 : 0 < s.size) (h45 : s[0].toNat = 45) (w : World) :
    Calls Tryd.prog 13 #[.string s] w fun e w' => e = .returned (.tuple #[.int .i64 ((Lx.numL s.data.toList).getD 0), .bool (Lx.numL s.data.toList).isSome]) ∧ w' = w := by
  unfold maxLen at hs
  obtain ⟨R, hR⟩ : ∃ R : Option Int, R = Lx.numL s.data.toList := ⟨_, rfl⟩
  rw [← hR]
  have HR : Hid (R = Lx.numL s.data.toList) := hR
  clear hR
  obtain ⟨x, hx⟩ : ∃ x : Int, x = R.getD 0 := ⟨_, rfl⟩
  obtain ⟨y, hy⟩ : ∃ y : Bool, y = R.isSome := ⟨_, rfl⟩
  rw [← hx, ← hy]
  have HX : Hid (x = R.getD 0) := hx
  have HY : Hid (y = R.isSome) := hy
  clear hx hy
  have hb45 : ((s[0].toNat : Int) == 45) = true := by simp; omega
  have HN : Hid (R = Lx.negOf (Lx.sizeL (s.extract 1 s.size).data.toList)) := by show _ = _; rw [HR.out, Lx.numL_neg s h0 h45]
  have hsz : (s.extract 1 s.size).size = s.size - 1 := by rw [ByteArray.size_extract]; omega
  by_cases h1 : 1 < s.size
  · have h1' : 0 < (s.extract 1 s.size).size := by omega
    by_cases h10 : 11 < s.size
    · have HB : Hid (R = none) := by show _ = _; rw [HN.out, Lx.sizeL_long _ (by rw [Lx.toList_len]; omega)]; rfl
      clear HN HR h45
      go_enter Tryd.func13, Tryd.ntmps13
      go_wp2
      go_ret2
      exact ⟨ret_pair (by rw [HX.out, HB.out]; rfl) (by rw [HY.out, HB.out]; rfl), rfl⟩
    by_cases hz : ((s.extract 1 s.size)[0]'h1').toNat = 48
    · have HB : Hid (R = none) := by show _ = _; rw [HR.out]; exact Lx.numL_zero s h0 h45 _ rfl h1' hz
      have hz1 : ((((s.extract 1 s.size)[0]'h1').toNat : Int) == 48) = true := by simp only [beq_iff_eq]; omega
      clear HN HR hz h45
      go_enter Tryd.func13, Tryd.ntmps13
      go_wp2
      go_ret2
      exact ⟨ret_pair (by rw [HX.out, HB.out]; rfl) (by rw [HY.out, HB.out]; rfl), rfl⟩
    · obtain ⟨V, hV⟩ : ∃ V, V = Lx.valGo (s.extract 1 s.size).data.toList 0 := ⟨_, rfl⟩
      have HP : Hid (R = Lx.negOf (V.bind Lx.capB)) := by show _ = _; rw [HN.out, Lx.sizeL_val _ h1' (fun x => hz x.1), hV]
      have HQ : Hid (∀ m, V = some m → 1 ≤ m) := fun m hm => Lx.valGo_one _ h1' hz m (by rw [← hV]; exact hm)
      have HV : Hid (V = Lx.valGo ((s.extract 1 s.size).data.toList.drop 0) 0) := hV
      have hz1 : ((((s.extract 1 s.size)[0]'h1').toNat : Int) == 48) = false := by simp only [beq_eq_false_iff_ne]; omega
      clear HN HR hV hz h45
      go_enter Tryd.func13, Tryd.ntmps13
      go_wp2
      clear hb45 hz1
      generalize s.extract 1 s.size = T at *
      go_loop [5, 6] (fun n i => ∃ k m : Nat, k ≤ T.size ∧ i = .int .i64 k ∧ n = .int .i64 m ∧ Hid (m < 10 ^ k) ∧ Hid (V = Lx.valGo (T.data.toList.drop k) m)) (fun _ i => T.size - (intOf i).toNat)
      case atStart => exact ⟨0, 0, Nat.zero_le _, rfl, rfl, by show _ < _; decide, HV⟩
      case round =>
        obtain ⟨k, m, hk, rfl, rfl, HM, HK⟩ := hrel
        clear HV
        by_cases hlt : k < T.size
        · have hm9 : m < 1000000000 := by
            have h1 := HM.out
            have h2 : 10 ^ k ≤ 10 ^ 9 := Nat.pow_le_pow_right (by decide) (by omega)
            omega
          cases hd : Lx.dig T[k] with
          | true =>
            have hd' : Lx.digI (T[k].toNat : Int) = true := hd
            have hb := Lx.dig_bounds hd
            have HB : Hid (V = Lx.valGo (T.data.toList.drop (k + 1)) (m * 10 + (T[k].toNat - 48))) := by show _ = _; rw [HK.out, Lx.valGo_step T k hlt m hd]
            have HM2 : Hid (m * 10 + (T[k].toNat - 48) < 10 ^ (k + 1)) := by have := HM.out; show _ < _; rw [Nat.pow_succ]; omega
            clear hd HK HM
            go_wp2_with (go_at_call 25; refine (refDigit_any _ _).mono ?_; rintro e w' ⟨rfl, rfl⟩)
            go_round
            case rel => exact ⟨k + 1, m * 10 + (T[k].toNat - 48), by omega, by go_num, by go_num, HM2, HB⟩
            case measure => simp [intOf]; omega
          | false =>
            have hd' : Lx.digI (T[k].toNat : Int) = false := hd
            have HB : Hid (R = none) := by show _ = _; rw [HP.out, HK.out, Lx.valGo_bad T k hlt m hd]; rfl
            clear hd HK HM
            go_wp2_with (go_at_call 25; refine (refDigit_any _ _).mono ?_; rintro e w' ⟨rfl, rfl⟩)
            go_ret2
            exact ⟨ret_pair (by rw [HX.out, HB.out]; rfl) (by rw [HY.out, HB.out]; rfl), rfl⟩
        · have HE : Hid (V = some m) := by show _ = _; rw [HK.out, Lx.valGo_end T k hlt m]
          have hm1 := HQ.out m HE.out
          have hm9 : m < 10000000000 := by
            have h1 := HM.out
            have h2 : 10 ^ k ≤ 10 ^ 10 := Nat.pow_le_pow_right (by decide) (by omega)
            omega
          clear HK HM HQ
          by_cases hz : 2147483648 < m
          · have HB : Hid (R = none) := by
              show _ = _
              rw [HP.out, HE.out, Option.bind_some, Lx.capB, if_pos hz]; rfl
            clear HP HE
            go_wp2
            go_ret2
            exact ⟨ret_pair (by rw [HX.out, HB.out]; rfl) (by rw [HY.out, HB.out]; rfl), rfl⟩
          · have HB : Hid (R = some (-(m : Int))) := by
              show _ = _
              rw [HP.out, HE.out, Option.bind_some, Lx.capB, if_neg hz]
              simp [Lx.negOf]; omega
            clear HP HE
            go_wp2
            go_ret2
            exact ⟨ret_pair (by rw [HX.out, HB.out]; simp) (by rw [HY.out, HB.out]; rfl), rfl⟩
  · have HB : Hid (R = none) := by show _ = _; rw [HN.out, Lx.sizeL_nil _ (by omega)]; rfl
    clear HN HR h45
    go_enter Tryd.func13, Tryd.ntmps13
    go_wp2
    go_ret2
    exact ⟨ret_pair (by rw [HX.out, HB.out]; rfl) (by rw [HY.out, HB.out]; rfl), rfl⟩

theorem refNum_is (s : ByteArray) (r : Option Int) (h : Lx.numL s.data.toList = r) (hs : s.size ≤ maxLen) (w : World) :
    Calls Tryd.prog 13 #[.string s] w fun e w' => e = .returned (.tuple #[.int .i64 (r.getD 0), .bool r.isSome]) ∧ w' = w := by
  subst h
  by_cases hm : ∃ h0 : 0 < s.size, s[0].toNat = 45
  · obtain ⟨h0, h45⟩ := hm
    exact refNum_neg s hs h0 h45 w
  · exact refNum_pos s hs (fun h0 e => hm ⟨h0, e⟩) w

end Go.Proofs.YtiglcjcellhggaaDoor
