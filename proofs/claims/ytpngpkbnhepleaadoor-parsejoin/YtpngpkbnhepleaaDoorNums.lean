/- What size, CutPrefix at a minus, Num answer. -/
import Derived.Test.YtpngpkbnhepleaaDoorNames
namespace Go.Proofs.YtpngpkbnhepleaaDoor
open Go.RowKit
set_option linter.unusedVariables false
set_option linter.unusedSimpArgs false

theorem ret_pair {a b : Int} {p q : Bool} (h : a = b) (g : p = q) : Ending.returned (.tuple #[.int .i64 a, .bool p]) = .returned (.tuple #[.int .i64 b, .bool q]) := by rw [h, g]
theorem isEmpty_pos (s : ByteArray) (h : 0 < s.size) : s.toList.isEmpty = false := by
  rw [ByteArray.toList_eq]; simp; intro e; rw [← ByteArray.size_data, e] at h; simp at h
theorem isEmpty_not (s : ByteArray) (h : ¬ 0 < s.size) : s.toList.isEmpty = true := by
  rw [ByteArray.toList_eq]; simp; exact Array.eq_empty_of_size_eq_zero (by rw [ByteArray.size_data]; omega)

set_option maxRecDepth 100000 in
set_option maxHeartbeats 1000000 in
theorem size_any (s : ByteArray) (hs : s.size ≤ maxLen) (w : World) :
    Calls Tryd.prog 81 #[.string s] w fun e w' => e = .returned (.tuple #[.int .i64 (((Lx.sizeL s.data.toList).getD 0 : Nat) : Int), .bool (Lx.sizeL s.data.toList).isSome]) ∧ w' = w := by
  unfold maxLen at hs
  obtain ⟨R, hR⟩ : ∃ R : Option Nat, R = Lx.sizeL s.data.toList := ⟨_, rfl⟩
  rw [← hR]
  have HR : Hid (R = Lx.sizeL s.data.toList) := hR
  clear hR
  obtain ⟨x, hx⟩ : ∃ x : Int, x = ((R.getD 0 : Nat) : Int) := ⟨_, rfl⟩
  obtain ⟨y, hy⟩ : ∃ y : Bool, y = R.isSome := ⟨_, rfl⟩
  rw [← hx, ← hy]
  have HX : Hid (x = ((R.getD 0 : Nat) : Int)) := hx
  have HY : Hid (y = R.isSome) := hy
  clear hx hy
  by_cases h0 : 0 < s.size
  · have he := isEmpty_pos s h0
    by_cases hz : s[0].toNat = 48 ∧ 1 < s.size
    · have HN : Hid (R = none) := by show _ = _; rw [HR.out, Lx.sizeL_cons s h0, if_pos hz]
      have hz1 : ((s[0].toNat : Int) == 48) = true := by simp; omega
      have hz2 : (1 : Int) < (s.size : Int) := by omega
      clear hz
      go_enter Tryd.func81, Tryd.ntmps81
      go_wp2
      go_ret2
      exact ⟨ret_pair (by rw [HX.out, HN.out]; rfl) (by rw [HY.out, HN.out]; rfl), rfl⟩
    · have HN : Hid (R = Lx.sizeGo s.data.toList 0) := by show _ = _; rw [HR.out, Lx.sizeL_cons s h0, if_neg hz]
      have hz' : ¬ ((1 : Int) < (s.size : Int)) ∨ (((1 : Int) < (s.size : Int)) ∧ ((s[0].toNat : Int) == 48) = false) := by
        by_cases h48 : s.size ≤ 1
        · exact .inl (by omega)
        · exact .inr ⟨by omega, by simp; omega⟩
      clear hz HR
      rcases hz' with hz' | hz'
      all_goals
        go_enter Tryd.func81, Tryd.ntmps81
        go_wp2
        clear hz' he
        go_loop [4, 20] (fun n i => ∃ k m : Nat, k ≤ s.size ∧ i = .int .i64 k ∧ n = .int .i64 m ∧ m ≤ 2147483648 ∧ Hid (R = Lx.sizeGo (s.data.toList.drop k) m)) (fun _ i => s.size - (intOf i).toNat)
        case atStart => exact ⟨0, 0, Nat.zero_le _, rfl, rfl, by omega, HN⟩
        case round =>
          obtain ⟨k, m, hk, rfl, rfl, hm, HK⟩ := hrel
          clear HN
          by_cases hlt : k < s.size
          · cases hd : Lx.dig s[k] with
            | true =>
              have hd' : Lx.digI (s[k].toNat : Int) = true := hd
              have hb := Lx.dig_bounds hd
              by_cases hbig : 2147483648 < m * 10 + (s[k].toNat - 48)
              · have HB : Hid (R = none) := by show _ = _; rw [HK.out, Lx.sizeGo_big s k hlt m hbig]
                clear hd HK
                go_wp2_with (go_at_call 41; refine (isDigit_any _ _).mono ?_; rintro e w' ⟨rfl, rfl⟩)
                go_ret2
                exact ⟨ret_pair (by rw [HX.out, HB.out]; rfl) (by rw [HY.out, HB.out]; rfl), rfl⟩
              · have HB : Hid (R = Lx.sizeGo (s.data.toList.drop (k + 1)) (m * 10 + (s[k].toNat - 48))) := by show _ = _; rw [HK.out, Lx.sizeGo_step s k hlt m hd hbig]
                clear hd HK
                go_wp2_with (go_at_call 41; refine (isDigit_any _ _).mono ?_; rintro e w' ⟨rfl, rfl⟩)
                go_round
                case rel => exact ⟨k + 1, m * 10 + (s[k].toNat - 48), by omega, by go_num, by go_num, by omega, HB⟩
                case measure => simp [intOf]; omega
            | false =>
              have hd' : Lx.digI (s[k].toNat : Int) = false := hd
              have HB : Hid (R = none) := by show _ = _; rw [HK.out, Lx.sizeGo_bad s k hlt m hd]
              clear hd HK
              go_wp2_with (go_at_call 41; refine (isDigit_any _ _).mono ?_; rintro e w' ⟨rfl, rfl⟩)
              go_ret2
              exact ⟨ret_pair (by rw [HX.out, HB.out]; rfl) (by rw [HY.out, HB.out]; rfl), rfl⟩
          · have HB : Hid (R = some m) := by show _ = _; rw [HK.out, Lx.sizeGo_end s k hlt m]
            clear HK
            go_wp2
            go_ret2
            exact ⟨ret_pair (by rw [HX.out, HB.out]; rfl) (by rw [HY.out, HB.out]; rfl), rfl⟩
  · have HN : Hid (R = none) := by show _ = _; rw [HR.out, Lx.sizeL_nil s h0]
    have he := isEmpty_not s h0
    go_enter Tryd.func81, Tryd.ntmps81
    go_wp2
    go_ret2
    exact ⟨ret_pair (by rw [HX.out, HN.out]; rfl) (by rw [HY.out, HN.out]; rfl), rfl⟩

theorem pre_list (s : ByteArray) (h0 : 0 < s.size) : (s.extract 0 1).toList = [s[0]] := by
  rw [ByteArray.toList_eq, ByteArray.data_extract, Array.toList_extract]
  have hc := Lx.drop_cons s 0 h0
  simp only [List.drop_zero] at hc
  generalize s.data.toList.drop (0 + 1) = r at hc
  rw [hc]; rfl
theorem pre_yes (s : ByteArray) (h0 : 0 < s.size) (h : s[0].toNat = 45) : ((s.extract 0 1).toList == [45]) = true := by
  rw [pre_list s h0]
  have : s[0] = 45 := UInt8.toNat_inj.1 h
  rw [this]; rfl
theorem pre_no (s : ByteArray) (h0 : 0 < s.size) (h : ¬ s[0].toNat = 45) : ((s.extract 0 1).toList == [45]) = false := by
  rw [pre_list s h0]
  have : ¬ s[0] = 45 := fun e => h (by rw [e]; rfl)
  simp [this]

set_option maxRecDepth 100000 in
set_option maxHeartbeats 1000000 in
theorem cut_yes (s : ByteArray) (hs : s.size ≤ maxLen) (h0 : 0 < s.size) (h45 : s[0].toNat = 45) (w : World) :
    Calls Tryd.prog 80 #[.string s, .string ⟨#[45]⟩] w fun e w' => e = .returned (.tuple #[.string (s.extract 1 s.size), .bool true]) ∧ w' = w := by
  unfold maxLen at hs
  have hp := pre_yes s h0 h45
  clear h45
  go_enter Tryd.func80, Tryd.ntmps80
  go_wp2
  go_ret2
  exact ⟨rfl, rfl⟩

set_option maxRecDepth 100000 in
set_option maxHeartbeats 1000000 in
theorem cut_no (s : ByteArray) (hs : s.size ≤ maxLen) (h45 : ∀ h0 : 0 < s.size, ¬ s[0].toNat = 45) (w : World) :
    Calls Tryd.prog 80 #[.string s, .string ⟨#[45]⟩] w fun e w' => e = .returned (.tuple #[.string s, .bool false]) ∧ w' = w := by
  unfold maxLen at hs
  by_cases h0 : 0 < s.size
  · have hp := pre_no s h0 (h45 h0)
    clear h45
    go_enter Tryd.func80, Tryd.ntmps80
    go_wp2
    go_ret2
    exact ⟨rfl, rfl⟩
  · clear h45
    go_enter Tryd.func80, Tryd.ntmps80
    go_wp2
    go_ret2
    exact ⟨rfl, rfl⟩

set_option maxRecDepth 100000 in
set_option maxHeartbeats 1000000 in
theorem Num_any (s : ByteArray) (hs : s.size ≤ maxLen) (w : World) :
    Calls Tryd.prog 67 #[.string s] w fun e w' => e = .returned (.tuple #[.int .i64 ((Lx.numL s.data.toList).getD 0), .bool (Lx.numL s.data.toList).isSome]) ∧ w' = w := by
  obtain ⟨R, hR⟩ : ∃ R : Option Int, R = Lx.numL s.data.toList := ⟨_, rfl⟩
  rw [← hR]
  have HR : Hid (R = Lx.numL s.data.toList) := hR
  clear hR
  obtain ⟨x, hx⟩ : ∃ x : Int, x = R.getD 0 := ⟨_, rfl⟩
  obtain ⟨y, hy⟩ : ∃ y : Bool, y = R.isSome := ⟨_, rfl⟩
  rw [← hx, ← hy]
  have HX : Hid (x = R.getD 0) := hx
  have HY : Hid (y = R.isSome) := hy
  clear hx hy
  by_cases hm : ∃ h0 : 0 < s.size, s[0].toNat = 45
  · obtain ⟨h0, h45⟩ := hm
    have HN : Hid (R = Lx.negOf (Lx.sizeL (s.extract 1 s.size).data.toList)) := by show _ = _; rw [HR.out, Lx.numL_neg s h0 h45]
    clear HR
    have hsz : (s.extract 1 s.size).size ≤ maxLen := by rw [ByteArray.size_extract]; omega
    have hle := Lx.sizeL_le (s.extract 1 s.size).data.toList
    go_enter Tryd.func67, Tryd.ntmps67
    go_wp2_with fail
    refine (cut_yes s hs h0 h45 _).mono ?_
    rintro e w' ⟨rfl, rfl⟩
    go_wp2_with fail
    refine (size_any _ hsz _).mono ?_
    rintro e w' ⟨rfl, rfl⟩
    generalize Lx.sizeL (s.extract 1 s.size).data.toList = q at HN hle
    cases q with
    | none =>
      have HB : Hid (R = none) := HN
      clear HN hle
      go_wp2
      go_ret2
      exact ⟨ret_pair (by rw [HX.out, HB.out]; rfl) (by rw [HY.out, HB.out]; rfl), rfl⟩
    | some n =>
      have hn := hle n rfl
      clear hle
      by_cases hz : n = 0
      · have HB : Hid (R = none) := by show _ = _; rw [HN.out, hz]; rfl
        clear HN
        have hz' : ((n : Int) == 0) = true := by simp; omega
        clear hz
        go_wp2
        go_ret2
        exact ⟨ret_pair (by rw [HX.out, HB.out]; rfl) (by rw [HY.out, HB.out]; rfl), rfl⟩
      · have HB : Hid (R = some (-(n : Int))) := by show _ = _; rw [HN.out]; simp [Lx.negOf, hz]
        clear HN
        have hz' : ((n : Int) == 0) = false := by simp; omega
        clear hz
        go_wp2
        go_ret2
        exact ⟨ret_pair (by rw [HX.out, HB.out]; rfl) (by rw [HY.out, HB.out]; rfl), rfl⟩
  · have h45 : ∀ h0 : 0 < s.size, ¬ s[0].toNat = 45 := fun h0 e => hm ⟨h0, e⟩
    have HN : Hid (R = Lx.posOf (Lx.sizeL s.data.toList)) := by
      show _ = _
      by_cases h0 : 0 < s.size
      · rw [HR.out, Lx.numL_pos s h0 (h45 h0)]
      · rw [HR.out, Lx.numL_nil s h0, Lx.sizeL_nil s h0]; rfl
    clear HR hm
    have hle := Lx.sizeL_le s.data.toList
    go_enter Tryd.func67, Tryd.ntmps67
    go_wp2_with fail
    refine (cut_no s hs h45 _).mono ?_
    rintro e w' ⟨rfl, rfl⟩
    go_wp2_with fail
    refine (size_any _ hs _).mono ?_
    rintro e w' ⟨rfl, rfl⟩
    generalize Lx.sizeL s.data.toList = q at HN hle
    clear h45
    cases q with
    | none =>
      have HB : Hid (R = none) := HN
      clear HN hle
      go_wp2
      go_ret2
      exact ⟨ret_pair (by rw [HX.out, HB.out]; rfl) (by rw [HY.out, HB.out]; rfl), rfl⟩
    | some n =>
      have hn := hle n rfl
      clear hle
      by_cases hz : 2147483647 < n
      · have HB : Hid (R = none) := by show _ = _; rw [HN.out]; simp [Lx.posOf, hz]
        clear HN
        go_wp2
        go_ret2
        exact ⟨ret_pair (by rw [HX.out, HB.out]; rfl) (by rw [HY.out, HB.out]; rfl), rfl⟩
      · have HB : Hid (R = some (n : Int)) := by show _ = _; rw [HN.out]; simp [Lx.posOf, hz]
        clear HN
        go_wp2
        go_ret2
        exact ⟨ret_pair (by rw [HX.out, HB.out]; rfl) (by rw [HY.out, HB.out]; rfl), rfl⟩

end Go.Proofs.YtpngpkbnhepleaaDoor
