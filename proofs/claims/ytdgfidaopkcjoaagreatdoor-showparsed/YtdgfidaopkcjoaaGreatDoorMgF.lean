/- What the small tests of bytes answer. What Name, sign answer. What size, CutPrefix at a minus, Num answer. What token answers. Where the word at a place ends. What Scan answers. -/
import Derived.Test.YtdgfidaopkcjoaaGreatDoorRows
import Derived.Test.YtdgfidaopkcjoaaGreatDoorMgA
import Derived.WalkKit
import Derived.WalkSpells
import Derived.WalkLawsBesides
import Derived.Laws.BytesArg
namespace Go.Proofs.YtdgfidaopkcjoaaGreatDoor
open Go.RowKit
set_option linter.unusedVariables false
set_option linter.unusedSimpArgs false

theorem ret_bool {a b : Bool} (h : a = true ↔ b = true) : Ending.returned (.bool a) = .returned (.bool b) := by rw [Bool.eq_iff_iff.2 h]

set_option maxRecDepth 100000 in
set_option maxHeartbeats 400000 in
theorem isDigit_any (c : Int) (w : World) :
    Calls Tryz.prog 78 #[.int .u8 c] w fun e w' => e = .returned (.bool (Lx.digI c)) ∧ w' = w := by
  go_enter Tryz.func78, Tryz.ntmps78
  go_wp2
  all_goals (go_ret; exact ⟨ret_bool (by simp [Lx.digI]; omega), rfl⟩)

set_option maxRecDepth 100000 in
set_option maxHeartbeats 400000 in
theorem isBlank_any (c : Int) (w : World) :
    Calls Tryz.prog 53 #[.int .u8 c] w fun e w' => e = .returned (.bool (Lx.blkI c)) ∧ w' = w := by
  go_enter Tryz.func53, Tryz.ntmps53
  go_wp2
  all_goals (go_ret; exact ⟨ret_bool (by simp [Lx.blkI]; try omega), rfl⟩)

set_option maxRecDepth 100000 in
set_option maxHeartbeats 400000 in
theorem inWord_any (c : Int) (w : World) :
    Calls Tryz.prog 70 #[.int .u8 c] w fun e w' => e = .returned (.bool (Lx.inwI c)) ∧ w' = w := by
  go_enter Tryz.func70, Tryz.ntmps70
  go_wp2
  all_goals (go_ret; exact ⟨ret_bool (by simp [Lx.inwI]; try omega), rfl⟩)

set_option maxRecDepth 100000 in
set_option maxHeartbeats 400000 in
theorem isSign_any (c : Int) (h0 : 0 ≤ c) (h1 : c ≤ 255) (w : World) :
    Calls Tryz.prog 69 #[.int .u8 c] w fun e w' => e = .returned (.bool (Lx.sgnI c)) ∧ w' = w := by
  go_enter Tryz.func69, Tryz.ntmps69
  go_wp2
  rw [run_callFunc_extern Tryz.func102 (by kernel_rfl) (by kernel_rfl) (by kernel_rfl) (e := Extern.BytealgIndexByte.indexByte) (by kernel_rfl), run_indexByte_string]
  simp only [Result.andThen]
  rw [Oper.upon_value]
  go_wp2
  go_ret
  exact ⟨ret_bool (by rw [firstIdx_nonneg, ← Lx.sgn_any c h0 h1]), rfl⟩
end Go.Proofs.YtdgfidaopkcjoaaGreatDoor

namespace Go.Proofs.YtdgfidaopkcjoaaGreatDoor
open Go.RowKit
set_option linter.unusedVariables false
set_option linter.unusedSimpArgs false

set_option maxRecDepth 100000 in
set_option maxHeartbeats 400000 in
theorem Name_any (s : ByteArray) (hs : s.size ≤ maxLen) (w : World) :
    Calls Tryz.prog 62 #[.string s] w fun e w' => e = .returned (.bool (Lx.nameL s.data.toList)) ∧ w' = w := by
  unfold maxLen at hs
  by_cases h1 : s.size < 1
  · have Hf := Lx.nameL_short s h1
    rw [Hf]; clear Hf
    go_enter Tryz.func62, Tryz.ntmps62
    go_wp2
    go_ret
    exact ⟨rfl, rfl⟩
  by_cases h20 : 20 < s.size
  · have Hf := Lx.nameL_long s h20
    rw [Hf]; clear Hf
    go_enter Tryz.func62, Tryz.ntmps62
    go_wp2
    go_ret
    exact ⟨rfl, rfl⟩
  have Hf := Lx.nameL_mid s (by omega) (by omega)
  rw [Hf]; clear Hf
  have h1' : 0 < s.size := by omega
  obtain ⟨R, hR⟩ : ∃ R : Bool, R = (!Lx.dig s[0] && s.data.toList.all Lx.inw) := ⟨_, rfl⟩
  rw [← hR]
  have HR : Hid (R = (!Lx.dig s[0] && s.data.toList.all Lx.inw)) := hR
  clear hR
  cases hd : Lx.dig s[0] with
  | true =>
    have hd' : Lx.digI (s[0].toNat : Int) = true := hd
    have HF : Hid (R = false) := by show _ = _; rw [HR.out, hd]; rfl
    clear hd
    go_enter Tryz.func62, Tryz.ntmps62
    go_wp2_with (go_at_call 78; refine (isDigit_any _ _).mono ?_; rintro e w' ⟨rfl, rfl⟩)
    go_ret
    exact ⟨ret_bool (by rw [HF.out]), rfl⟩
  | false =>
    have hd' : Lx.digI (s[0].toNat : Int) = false := hd
    have HF : Hid (R = s.data.toList.all Lx.inw) := by show _ = _; rw [HR.out, hd]; rfl
    clear hd
    go_enter Tryz.func62, Tryz.ntmps62
    go_wp2_with (go_at_call 78; refine (isDigit_any _ _).mono ?_; rintro e w' ⟨rfl, rfl⟩)
    go_loop [19] (fun i => ∃ k : Nat, k ≤ s.size ∧ i = .int .i64 k ∧ (s.data.toList.take k).all Lx.inw = true) (fun i => s.size - (intOf i).toNat)
    case atStart => exact ⟨0, Nat.zero_le _, rfl, rfl⟩
    case round =>
      obtain ⟨k, hk, rfl, hall⟩ := hrel
      have Hall := hall; clear hall
      by_cases hlt : k < s.size
      · have hts := Lx.take_snoc s k hlt
        have HT : Hid ((s.data.toList.take (k + 1)).all Lx.inw = ((s.data.toList.take k).all Lx.inw && Lx.inw s[k])) := by rw [hts]; exact Lx.all_snoc _ _ _
        clear hts
        have HA : Hid ((s.data.toList.take k).all Lx.inw = true) := Hall
        clear Hall
        cases hw : Lx.inw s[k] with
        | true =>
          have hw' : Lx.inwI (s[k].toNat : Int) = true := hw
          have HW : Hid (Lx.inw s[k] = true) := hw
          clear hw
          go_wp2_with (go_at_call 70; refine (inWord_any _ _).mono ?_; rintro e w' ⟨rfl, rfl⟩)
          go_round
          case rel => exact ⟨k + 1, by omega, by go_num, by rw [HT.out, HA.out, HW.out]; rfl⟩
          case measure => simp [intOf]; omega
        | false =>
          have hw' : Lx.inwI (s[k].toNat : Int) = false := hw
          have HN : Hid (s.data.toList.all Lx.inw = false) := by
            show _ = _
            rw [Bool.eq_false_iff]; intro h
            have := List.all_eq_true.1 h s[k] (by simp [ByteArray.getElem_eq_getElem_data])
            rw [hw] at this; cases this
          clear hw
          go_wp2_with (go_at_call 70; refine (inWord_any _ _).mono ?_; rintro e w' ⟨rfl, rfl⟩)
          go_ret
          exact ⟨ret_bool (by rw [HF.out, HN.out]), rfl⟩
      · have HN : Hid (s.data.toList.all Lx.inw = true) := by
          show _ = _
          rw [← Hall, List.take_of_length_le (by simp; omega)]
        clear Hall
        go_wp2
        go_ret
        exact ⟨ret_bool (by rw [HF.out, HN.out]), rfl⟩

theorem Name_is (s : ByteArray) (r : Bool) (h : Lx.nameL s.data.toList = r) (hs : s.size ≤ maxLen) (w : World) :
    Calls Tryz.prog 62 #[.string s] w fun e w' => e = .returned (.bool r) ∧ w' = w := by
  have := Name_any s hs w
  rw [h] at this
  exact this

set_option maxRecDepth 100000 in
set_option maxHeartbeats 400000 in
theorem sign_any (s : ByteArray) (hs : s.size ≤ maxLen) (w : World) :
    Calls Tryz.prog 72 #[.string s] w fun e w' => e = .returned (.bool (Lx.signL s.data.toList)) ∧ w' = w := by
  unfold maxLen at hs
  by_cases h1 : s.size = 1
  · have h0 : 0 < s.size := by omega
    have Hf := Lx.signL_one s h1 h0
    rw [Hf]; clear Hf
    have hb := s[0].toNat_lt
    have ht : ((s.size : Int) == 1) = true := by simp; omega
    have H1 : Hid (s.size = 1) := h1
    clear h1
    go_enter Tryz.func72, Tryz.ntmps72
    go_wp2_with (go_at_call 69; refine (isSign_any _ (by omega) (by omega) _).mono ?_; rintro e w' ⟨rfl, rfl⟩)
    go_ret
    exact ⟨rfl, rfl⟩
  · have Hf := Lx.signL_not s h1
    rw [Hf]; clear Hf
    have ht : ((s.size : Int) == 1) = false := by simp; omega
    go_enter Tryz.func72, Tryz.ntmps72
    go_wp2
    go_ret
    exact ⟨rfl, rfl⟩

end Go.Proofs.YtdgfidaopkcjoaaGreatDoor

namespace Go.Proofs.YtdgfidaopkcjoaaGreatDoor
open Go.RowKit
set_option linter.unusedVariables false
set_option linter.unusedSimpArgs false

theorem ret_pair {a b : Int} {p q : Bool} (h : a = b) (g : p = q) : Ending.returned (.tuple #[.int .i64 a, .bool p]) = .returned (.tuple #[.int .i64 b, .bool q]) := by rw [h, g]
theorem isEmpty_pos (s : ByteArray) (h : 0 < s.size) : s.toList.isEmpty = false := by
  rw [ByteArray.toList_eq]; simp; intro e; rw [← ByteArray.size_data, e] at h; simp at h
theorem isEmpty_not (s : ByteArray) (h : ¬ 0 < s.size) : s.toList.isEmpty = true := by
  rw [ByteArray.toList_eq]; simp; exact Array.eq_empty_of_size_eq_zero (by rw [ByteArray.size_data]; omega)

set_option maxRecDepth 100000 in
set_option maxHeartbeats 1000000 in
theorem size_any (s : ByteArray) (hs : s.size ≤ maxLen) (w : World) :
    Calls Tryz.prog 91 #[.string s] w fun e w' => e = .returned (.tuple #[.int .i64 (((Lx.sizeL s.data.toList).getD 0 : Nat) : Int), .bool (Lx.sizeL s.data.toList).isSome]) ∧ w' = w := by
  unfold maxLen at hs
  obtain ⟨R, hR⟩ : ∃ R : Option Nat, R = Lx.sizeL s.data.toList := ⟨_, rfl⟩
  rw [← hR]
  have HR : Hid (R = Lx.sizeL s.data.toList) := hR
  clear hR
  obtain ⟨x, hx⟩ : ∃ x : Int, x = ((R.getD 0 : Nat) : Int) := ⟨_, rfl⟩
  obtain ⟨y, hy⟩ : ∃ y : Bool, y = R.isSome := ⟨_, rfl⟩
  rw [← hx, ← hy]
  have HX : Hid (x = ((R.getD 0 : Nat) : Int)) := hx
  have HY : Hid (y = R.isSome) := hy
  clear hx hy
  by_cases h0 : 0 < s.size
  · have he := isEmpty_pos s h0
    by_cases hz : s[0].toNat = 48 ∧ 1 < s.size
    · have HN : Hid (R = none) := by show _ = _; rw [HR.out, Lx.sizeL_cons s h0, if_pos hz]
      have hz1 : ((s[0].toNat : Int) == 48) = true := by simp; omega
      have hz2 : (1 : Int) < (s.size : Int) := by omega
      clear hz
      go_enter Tryz.func91, Tryz.ntmps91
      go_wp2
      go_ret2
      exact ⟨ret_pair (by rw [HX.out, HN.out]; rfl) (by rw [HY.out, HN.out]; rfl), rfl⟩
    · have HN : Hid (R = Lx.sizeGo s.data.toList 0) := by show _ = _; rw [HR.out, Lx.sizeL_cons s h0, if_neg hz]
      have hz' : ¬ ((1 : Int) < (s.size : Int)) ∨ (((1 : Int) < (s.size : Int)) ∧ ((s[0].toNat : Int) == 48) = false) := by
        by_cases h48 : s.size ≤ 1
        · exact .inl (by omega)
        · exact .inr ⟨by omega, by simp; omega⟩
      clear hz HR
      rcases hz' with hz' | hz'
      all_goals
        go_enter Tryz.func91, Tryz.ntmps91
        go_wp2
        clear hz' he
        go_loop [4, 20] (fun n i => ∃ k m : Nat, k ≤ s.size ∧ i = .int .i64 k ∧ n = .int .i64 m ∧ m ≤ 2147483648 ∧ Hid (R = Lx.sizeGo (s.data.toList.drop k) m)) (fun _ i => s.size - (intOf i).toNat)
        case atStart => exact ⟨0, 0, Nat.zero_le _, rfl, rfl, by omega, HN⟩
        case round =>
          obtain ⟨k, m, hk, rfl, rfl, hm, HK⟩ := hrel
          clear HN
          by_cases hlt : k < s.size
          · cases hd : Lx.dig s[k] with
            | true =>
              have hd' : Lx.digI (s[k].toNat : Int) = true := hd
              have hb := Lx.dig_bounds hd
              by_cases hbig : 2147483648 < m * 10 + (s[k].toNat - 48)
              · have HB : Hid (R = none) := by show _ = _; rw [HK.out, Lx.sizeGo_big s k hlt m hbig]
                clear hd HK
                go_wp2_with (go_at_call 78; refine (isDigit_any _ _).mono ?_; rintro e w' ⟨rfl, rfl⟩)
                go_ret2
                exact ⟨ret_pair (by rw [HX.out, HB.out]; rfl) (by rw [HY.out, HB.out]; rfl), rfl⟩
              · have HB : Hid (R = Lx.sizeGo (s.data.toList.drop (k + 1)) (m * 10 + (s[k].toNat - 48))) := by show _ = _; rw [HK.out, Lx.sizeGo_step s k hlt m hd hbig]
                clear hd HK
                go_wp2_with (go_at_call 78; refine (isDigit_any _ _).mono ?_; rintro e w' ⟨rfl, rfl⟩)
                go_round
                case rel => exact ⟨k + 1, m * 10 + (s[k].toNat - 48), by omega, by go_num, by go_num, by omega, HB⟩
                case measure => simp [intOf]; omega
            | false =>
              have hd' : Lx.digI (s[k].toNat : Int) = false := hd
              have HB : Hid (R = none) := by show _ = _; rw [HK.out, Lx.sizeGo_bad s k hlt m hd]
              clear hd HK
              go_wp2_with (go_at_call 78; refine (isDigit_any _ _).mono ?_; rintro e w' ⟨rfl, rfl⟩)
              go_ret2
              exact ⟨ret_pair (by rw [HX.out, HB.out]; rfl) (by rw [HY.out, HB.out]; rfl), rfl⟩
          · have HB : Hid (R = some m) := by show _ = _; rw [HK.out, Lx.sizeGo_end s k hlt m]
            clear HK
            go_wp2
            go_ret2
            exact ⟨ret_pair (by rw [HX.out, HB.out]; rfl) (by rw [HY.out, HB.out]; rfl), rfl⟩
  · have HN : Hid (R = none) := by show _ = _; rw [HR.out, Lx.sizeL_nil s h0]
    have he := isEmpty_not s h0
    go_enter Tryz.func91, Tryz.ntmps91
    go_wp2
    go_ret2
    exact ⟨ret_pair (by rw [HX.out, HN.out]; rfl) (by rw [HY.out, HN.out]; rfl), rfl⟩

theorem pre_list (s : ByteArray) (h0 : 0 < s.size) : (s.extract 0 1).toList = [s[0]] := by
  rw [ByteArray.toList_eq, ByteArray.data_extract, Array.toList_extract]
  have hc := Lx.drop_cons s 0 h0
  simp only [List.drop_zero] at hc
  generalize s.data.toList.drop (0 + 1) = r at hc
  rw [hc]; rfl
theorem pre_yes (s : ByteArray) (h0 : 0 < s.size) (h : s[0].toNat = 45) : ((s.extract 0 1).toList == [45]) = true := by
  rw [pre_list s h0]
  have : s[0] = 45 := UInt8.toNat_inj.1 h
  rw [this]; rfl
theorem pre_no (s : ByteArray) (h0 : 0 < s.size) (h : ¬ s[0].toNat = 45) : ((s.extract 0 1).toList == [45]) = false := by
  rw [pre_list s h0]
  have : ¬ s[0] = 45 := fun e => h (by rw [e]; rfl)
  simp [this]

set_option maxRecDepth 100000 in
set_option maxHeartbeats 1000000 in
theorem cut_yes (s : ByteArray) (hs : s.size ≤ maxLen) (h0 : 0 < s.size) (h45 : s[0].toNat = 45) (w : World) :
    Calls Tryz.prog 90 #[.string s, .string ⟨#[45]⟩] w fun e w' => e = .returned (.tuple #[.string (s.extract 1 s.size), .bool true]) ∧ w' = w := by
  unfold maxLen at hs
  have hp := pre_yes s h0 h45
  clear h45
  go_enter Tryz.func90, Tryz.ntmps90
  go_wp2
  go_ret2
  exact ⟨rfl, rfl⟩

set_option maxRecDepth 100000 in
set_option maxHeartbeats 1000000 in
theorem cut_no (s : ByteArray) (hs : s.size ≤ maxLen) (h45 : ∀ h0 : 0 < s.size, ¬ s[0].toNat = 45) (w : World) :
    Calls Tryz.prog 90 #[.string s, .string ⟨#[45]⟩] w fun e w' => e = .returned (.tuple #[.string s, .bool false]) ∧ w' = w := by
  unfold maxLen at hs
  by_cases h0 : 0 < s.size
  · have hp := pre_no s h0 (h45 h0)
    clear h45
    go_enter Tryz.func90, Tryz.ntmps90
    go_wp2
    go_ret2
    exact ⟨rfl, rfl⟩
  · clear h45
    go_enter Tryz.func90, Tryz.ntmps90
    go_wp2
    go_ret2
    exact ⟨rfl, rfl⟩

set_option maxRecDepth 100000 in
set_option maxHeartbeats 1000000 in
theorem Num_any (s : ByteArray) (hs : s.size ≤ maxLen) (w : World) :
    Calls Tryz.prog 71 #[.string s] w fun e w' => e = .returned (.tuple #[.int .i64 ((Lx.numL s.data.toList).getD 0), .bool (Lx.numL s.data.toList).isSome]) ∧ w' = w := by
  obtain ⟨R, hR⟩ : ∃ R : Option Int, R = Lx.numL s.data.toList := ⟨_, rfl⟩
  rw [← hR]
  have HR : Hid (R = Lx.numL s.data.toList) := hR
  clear hR
  obtain ⟨x, hx⟩ : ∃ x : Int, x = R.getD 0 := ⟨_, rfl⟩
  obtain ⟨y, hy⟩ : ∃ y : Bool, y = R.isSome := ⟨_, rfl⟩
  rw [← hx, ← hy]
  have HX : Hid (x = R.getD 0) := hx
  have HY : Hid (y = R.isSome) := hy
  clear hx hy
  by_cases hm : ∃ h0 : 0 < s.size, s[0].toNat = 45
  · obtain ⟨h0, h45⟩ := hm
    have HN : Hid (R = Lx.negOf (Lx.sizeL (s.extract 1 s.size).data.toList)) := by show _ = _; rw [HR.out, Lx.numL_neg s h0 h45]
    clear HR
    have hsz : (s.extract 1 s.size).size ≤ maxLen := by rw [ByteArray.size_extract]; omega
    have hle := Lx.sizeL_le (s.extract 1 s.size).data.toList
    go_enter Tryz.func71, Tryz.ntmps71
    go_wp2_with fail
    refine (cut_yes s hs h0 h45 _).mono ?_
    rintro e w' ⟨rfl, rfl⟩
    go_wp2_with fail
    refine (size_any _ hsz _).mono ?_
    rintro e w' ⟨rfl, rfl⟩
    generalize Lx.sizeL (s.extract 1 s.size).data.toList = q at HN hle
    cases q with
    | none =>
      have HB : Hid (R = none) := HN
      clear HN hle
      go_wp2
      go_ret2
      exact ⟨ret_pair (by rw [HX.out, HB.out]; rfl) (by rw [HY.out, HB.out]; rfl), rfl⟩
    | some n =>
      have hn := hle n rfl
      clear hle
      by_cases hz : n = 0
      · have HB : Hid (R = none) := by show _ = _; rw [HN.out, hz]; rfl
        clear HN
        have hz' : ((n : Int) == 0) = true := by simp; omega
        clear hz
        go_wp2
        go_ret2
        exact ⟨ret_pair (by rw [HX.out, HB.out]; rfl) (by rw [HY.out, HB.out]; rfl), rfl⟩
      · have HB : Hid (R = some (-(n : Int))) := by show _ = _; rw [HN.out]; simp [Lx.negOf, hz]
        clear HN
        have hz' : ((n : Int) == 0) = false := by simp; omega
        clear hz
        go_wp2
        go_ret2
        exact ⟨ret_pair (by rw [HX.out, HB.out]; rfl) (by rw [HY.out, HB.out]; rfl), rfl⟩
  · have h45 : ∀ h0 : 0 < s.size, ¬ s[0].toNat = 45 := fun h0 e => hm ⟨h0, e⟩
    have HN : Hid (R = Lx.posOf (Lx.sizeL s.data.toList)) := by
      show _ = _
      by_cases h0 : 0 < s.size
      · rw [HR.out, Lx.numL_pos s h0 (h45 h0)]
      · rw [HR.out, Lx.numL_nil s h0, Lx.sizeL_nil s h0]; rfl
    clear HR hm
    have hle := Lx.sizeL_le s.data.toList
    go_enter Tryz.func71, Tryz.ntmps71
    go_wp2_with fail
    refine (cut_no s hs h45 _).mono ?_
    rintro e w' ⟨rfl, rfl⟩
    go_wp2_with fail
    refine (size_any _ hs _).mono ?_
    rintro e w' ⟨rfl, rfl⟩
    generalize Lx.sizeL s.data.toList = q at HN hle
    clear h45
    cases q with
    | none =>
      have HB : Hid (R = none) := HN
      clear HN hle
      go_wp2
      go_ret2
      exact ⟨ret_pair (by rw [HX.out, HB.out]; rfl) (by rw [HY.out, HB.out]; rfl), rfl⟩
    | some n =>
      have hn := hle n rfl
      clear hle
      by_cases hz : 2147483647 < n
      · have HB : Hid (R = none) := by show _ = _; rw [HN.out]; simp [Lx.posOf, hz]
        clear HN
        go_wp2
        go_ret2
        exact ⟨ret_pair (by rw [HX.out, HB.out]; rfl) (by rw [HY.out, HB.out]; rfl), rfl⟩
      · have HB : Hid (R = some (n : Int)) := by show _ = _; rw [HN.out]; simp [Lx.posOf, hz]
        clear HN
        go_wp2
        go_ret2
        exact ⟨ret_pair (by rw [HX.out, HB.out]; rfl) (by rw [HY.out, HB.out]; rfl), rfl⟩

end Go.Proofs.YtdgfidaopkcjoaaGreatDoor

namespace Go.Proofs.YtdgfidaopkcjoaaGreatDoor
open Go.RowKit
set_option linter.unusedVariables false
set_option linter.unusedSimpArgs false

set_option maxRecDepth 100000 in
set_option maxHeartbeats 1000000 in
theorem token_name (s : ByteArray) (hs : s.size ≤ maxLen) (h : Lx.nameL s.data.toList = true) (w : World) :
    Calls Tryz.prog 55 #[.string s] w fun e w' => e = .returned (.tuple #[.agg #[.int .i64 1, .string s, .int .i64 0, .int .i64 0], .bool true]) ∧ Below w.heap.size w w' := by
  go_enter Tryz.func55, Tryz.ntmps55
  go_wp2_with (go_at_call 62; refine (Name_any _ hs _).mono ?_; rintro e w' ⟨rfl, rfl⟩)
  exact bodyPost_ret (v := .tuple #[.agg #[.int .i64 1, .string s, .int .i64 0, .int .i64 0], .bool true]) (by simp [results, Tryz.results55, go_sem]) rfl ⟨rfl, (Below.refl _ _).alloc (Nat.le_refl _) _⟩

set_option maxRecDepth 100000 in
set_option maxHeartbeats 1000000 in
theorem token_num (s : ByteArray) (hs : s.size ≤ maxLen) (h : Lx.nameL s.data.toList = false) (n : Int) (hn : Lx.numL s.data.toList = some n) (w : World) :
    Calls Tryz.prog 55 #[.string s] w fun e w' => e = .returned (.tuple #[.agg #[.int .i64 2, .string ⟨#[]⟩, .int .i64 n, .int .i64 0], .bool true]) ∧ Below w.heap.size w w' := by
  go_enter Tryz.func55, Tryz.ntmps55
  go_wp2_with (first | (go_at_call 62; refine (Name_any _ hs _).mono ?_; rintro e w' ⟨rfl, rfl⟩) | (go_at_call 71; refine (Num_any _ hs _).mono ?_; rintro e w' ⟨rfl, rfl⟩))
  exact bodyPost_ret (v := .tuple #[.agg #[.int .i64 2, .string ⟨#[]⟩, .int .i64 n, .int .i64 0], .bool true]) (by simp [results, Tryz.results55, go_sem]) rfl ⟨rfl, (Below.refl _ _).alloc (Nat.le_refl _) _⟩

set_option maxRecDepth 100000 in
set_option maxHeartbeats 1000000 in
theorem token_sign (s : ByteArray) (hs : s.size ≤ maxLen) (h : Lx.nameL s.data.toList = false) (hn : Lx.numL s.data.toList = none) (hg : Lx.signL s.data.toList = true) (w : World) :
    Calls Tryz.prog 55 #[.string s] w fun e w' => e = .returned (.tuple #[.agg #[.int .i64 3, .string s, .int .i64 0, .int .i64 0], .bool true]) ∧ Below w.heap.size w w' := by
  go_enter Tryz.func55, Tryz.ntmps55
  go_wp2_with (first | (go_at_call 62; refine (Name_any _ hs _).mono ?_; rintro e w' ⟨rfl, rfl⟩) | (go_at_call 71; refine (Num_any _ hs _).mono ?_; rintro e w' ⟨rfl, rfl⟩) | (go_at_call 72; refine (sign_any _ hs _).mono ?_; rintro e w' ⟨rfl, rfl⟩))
  exact bodyPost_ret (v := .tuple #[.agg #[.int .i64 3, .string s, .int .i64 0, .int .i64 0], .bool true]) (by simp [results, Tryz.results55, go_sem]) rfl ⟨rfl, (Below.refl _ _).alloc (Nat.le_refl _) _⟩

set_option maxRecDepth 100000 in
set_option maxHeartbeats 1000000 in
theorem token_none (s : ByteArray) (hs : s.size ≤ maxLen) (h : Lx.nameL s.data.toList = false) (hn : Lx.numL s.data.toList = none) (hg : Lx.signL s.data.toList = false) (w : World) :
    Calls Tryz.prog 55 #[.string s] w fun e w' => e = .returned (.tuple #[.agg #[.int .i64 0, .string ⟨#[]⟩, .int .i64 0, .int .i64 0], .bool false]) ∧ Below w.heap.size w w' := by
  go_enter Tryz.func55, Tryz.ntmps55
  go_wp2_with (first | (go_at_call 62; refine (Name_any _ hs _).mono ?_; rintro e w' ⟨rfl, rfl⟩) | (go_at_call 71; refine (Num_any _ hs _).mono ?_; rintro e w' ⟨rfl, rfl⟩) | (go_at_call 72; refine (sign_any _ hs _).mono ?_; rintro e w' ⟨rfl, rfl⟩))
  exact bodyPost_ret (v := .tuple #[.agg #[.int .i64 0, .string ⟨#[]⟩, .int .i64 0, .int .i64 0], .bool false]) (by simp [results, Tryz.results55, go_sem]) rfl ⟨rfl, (Below.refl _ _).alloc (Nat.le_refl _) _⟩

end Go.Proofs.YtdgfidaopkcjoaaGreatDoor

namespace Go.Proofs.YtdgfidaopkcjoaaGreatDoor
open Go.RowKit
set_option linter.unusedVariables false
set_option linter.unusedSimpArgs false

theorem ret_num {a b : Int} (h : a = b) : Ending.returned (.int .i64 a) = .returned (.int .i64 b) := by rw [h]

set_option maxRecDepth 100000 in
set_option maxHeartbeats 1000000 in
theorem wordEnd_any (bs : List UInt8) (b off cap p : Nat) (w : World) (hn : bs.length ≤ 6000) (hp : p < bs.length)
    (hc : ∀ k, k < bs.length → w.cell? ⟨b, off + k, none⟩ = some (.int .u8 ((bs.getD k 0).toNat : Int))) :
    Calls Tryz.prog 54 #[.slice (some ⟨b, off, none⟩) bs.length cap, .int .i64 (p : Int)] w fun e w' => e = .returned (.int .i64 ((p + Lx.wordLen (bs.drop p) : Nat) : Int)) ∧ w' = w := by
  obtain ⟨R, hR⟩ : ∃ R : Nat, R = p + Lx.wordLen (bs.drop p) := ⟨_, rfl⟩
  rw [← hR]
  have HR : Hid (R = p + Lx.wordLen (bs.drop p)) := hR
  clear hR
  have HC : Hid (∀ k, k < bs.length → w.cell? ⟨b, off + k, none⟩ = some (.int .u8 ((bs.getD k 0).toNat : Int))) := hc
  have hcp := hc p hp
  clear hc
  have hu := (bs.getD p 0).toNat_lt
  obtain ⟨len, hlen⟩ : ∃ len, len = bs.length := ⟨_, rfl⟩
  have HL : Hid (len = bs.length) := hlen
  rw [← hlen] at hp hn ⊢
  clear hlen
  obtain ⟨c, hcc⟩ : ∃ c : Nat, c = (bs.getD p 0).toNat := ⟨_, rfl⟩
  have HCC : Hid (c = (bs.getD p 0).toNat) := hcc
  rw [← hcc] at hu hcp
  clear hcc
  cases hs : Lx.sgnI (c : Int) with
  | true =>
    have HN : Hid (R = p + 1) := by show _ = _; rw [HR.out, Lx.wordLen_sgn bs p (by rw [← HL.out]; exact hp) (by rw [Lx.sgn, ← HCC.out]; exact hs)]
    clear HR
    go_enter Tryz.func54, Tryz.ntmps54
    go_wp2_with (go_at_call 69; refine (isSign_any _ (by omega) (by omega) _).mono ?_; rintro e w' ⟨rfl, rfl⟩)
    go_ret
    exact ⟨ret_num (by rw [HN.out]; omega), rfl⟩
  | false =>
    have hs' : Lx.sgn (bs.getD p 0) = false := by rw [Lx.sgn, ← HCC.out]; exact hs
    have HS : Hid (Lx.sgn (bs.getD p 0) = false) := hs'
    clear hs'
    by_cases h45 : c = 45
    · have HN : Hid (R = (p + 1) + Lx.runLen (bs.drop (p + 1))) := by
        show _ = _
        rw [HR.out, Lx.wordLen_min bs p (by rw [← HL.out]; exact hp) HS.out (by rw [← HCC.out]; exact h45)]; omega
      have h45' : ((c : Int) == 45) = true := by simp; omega
      clear HR h45
      go_enter Tryz.func54, Tryz.ntmps54
      go_wp2_with (go_at_call 69; refine (isSign_any _ (by omega) (by omega) _).mono ?_; rintro e w' ⟨rfl, rfl⟩)
      go_loop [1] (fun i => ∃ k : Nat, k ≤ len ∧ i = .int .i64 k ∧ Hid (R = k + Lx.runLen (bs.drop k))) (fun i => len - (intOf i).toNat)
      case atStart => exact ⟨p + 1, by omega, by go_num, HN⟩
      case round =>
        obtain ⟨k, hk, rfl, HK⟩ := hrel
        clear HN hcp
        by_cases hlt : k < len
        · have hck := HC.out k (by rw [← HL.out]; exact hlt)
          have hiw : Lx.inw (bs.getD k 0) = Lx.inwI ((bs.getD k 0).toNat : Int) := rfl
          have h1 := Lx.runLen_in bs k (by rw [← HL.out]; exact hlt)
          have h2 := Lx.runLen_out bs k (by rw [← HL.out]; exact hlt)
          rw [hiw] at h1 h2
          clear hiw
          generalize (bs.getD k 0).toNat = d at hck h1 h2
          cases hi : Lx.inwI (d : Int) with
          | true =>
            have HB : Hid (R = (k + 1) + Lx.runLen (bs.drop (k + 1))) := by show _ = _; rw [HK.out, h1 hi]; omega
            clear HK h1 h2
            go_wp2_with (go_at_call 70; refine (inWord_any _ _).mono ?_; rintro e w' ⟨rfl, rfl⟩)
            go_round
            case rel => exact ⟨k + 1, by omega, by go_num, HB⟩
            case measure => simp [intOf]; omega
          | false =>
            have HB : Hid (R = k) := by show _ = _; rw [HK.out, h2 hi]; omega
            clear HK h1 h2
            go_wp2_with (go_at_call 70; refine (inWord_any _ _).mono ?_; rintro e w' ⟨rfl, rfl⟩)
            go_ret
            exact ⟨ret_num (by rw [HB.out]), rfl⟩
        · have HB : Hid (R = k) := by show _ = _; rw [HK.out, Lx.runLen_end bs k (by rw [← HL.out]; exact hlt)]; omega
          clear HK
          go_wp2
          go_ret
          exact ⟨ret_num (by rw [HB.out]), rfl⟩
    · have HN : Hid (R = p + Lx.runLen (bs.drop p)) := by
        show _ = _
        rw [HR.out, Lx.wordLen_run bs p (by rw [← HL.out]; exact hp) HS.out (by rw [← HCC.out]; exact h45)]
      have h45' : ((c : Int) == 45) = false := by simp; omega
      clear HR h45
      go_enter Tryz.func54, Tryz.ntmps54
      go_wp2_with (go_at_call 69; refine (isSign_any _ (by omega) (by omega) _).mono ?_; rintro e w' ⟨rfl, rfl⟩)
      go_loop [1] (fun i => ∃ k : Nat, k ≤ len ∧ i = .int .i64 k ∧ Hid (R = k + Lx.runLen (bs.drop k))) (fun i => len - (intOf i).toNat)
      case atStart => exact ⟨p, by omega, by go_num, HN⟩
      case round =>
        obtain ⟨k, hk, rfl, HK⟩ := hrel
        clear HN hcp
        by_cases hlt : k < len
        · have hck := HC.out k (by rw [← HL.out]; exact hlt)
          have hiw : Lx.inw (bs.getD k 0) = Lx.inwI ((bs.getD k 0).toNat : Int) := rfl
          have h1 := Lx.runLen_in bs k (by rw [← HL.out]; exact hlt)
          have h2 := Lx.runLen_out bs k (by rw [← HL.out]; exact hlt)
          rw [hiw] at h1 h2
          clear hiw
          generalize (bs.getD k 0).toNat = d at hck h1 h2
          cases hi : Lx.inwI (d : Int) with
          | true =>
            have HB : Hid (R = (k + 1) + Lx.runLen (bs.drop (k + 1))) := by show _ = _; rw [HK.out, h1 hi]; omega
            clear HK h1 h2
            go_wp2_with (go_at_call 70; refine (inWord_any _ _).mono ?_; rintro e w' ⟨rfl, rfl⟩)
            go_round
            case rel => exact ⟨k + 1, by omega, by go_num, HB⟩
            case measure => simp [intOf]; omega
          | false =>
            have HB : Hid (R = k) := by show _ = _; rw [HK.out, h2 hi]; omega
            clear HK h1 h2
            go_wp2_with (go_at_call 70; refine (inWord_any _ _).mono ?_; rintro e w' ⟨rfl, rfl⟩)
            go_ret
            exact ⟨ret_num (by rw [HB.out]), rfl⟩
        · have HB : Hid (R = k) := by show _ = _; rw [HK.out, Lx.runLen_end bs k (by rw [← HL.out]; exact hlt)]; omega
          clear HK
          go_wp2
          go_ret
          exact ⟨ret_num (by rw [HB.out]), rfl⟩

end Go.Proofs.YtdgfidaopkcjoaaGreatDoor

namespace Go.Proofs.YtdgfidaopkcjoaaGreatDoor
open Go.RowKit
set_option linter.unusedVariables false
set_option linter.unusedSimpArgs false

theorem Tryz.info85 : (Tryz.prog.info? 85).map (fun i => (i.zero, i.size, i.bytes)) = some (some (.agg #[.int .i64 0, .string ⟨#[]⟩, .int .i64 0, .int .i64 0]), 4, 40) := by kernel_rfl

def tokCells (t : Lx.Tok) : List Value := [.int .i64 t.kind, .string ⟨t.text.toArray⟩, .int .i64 t.num, .int .i64 t.pos]
def toksCells (l : List Lx.Tok) : List Value := l.flatMap tokCells

theorem str_of_bytes (l : List UInt8) : strOfNums (l.map fun u => ((u.toNat : Nat) : Int)) = ⟨l.toArray⟩ := by
  unfold strOfNums
  rw [List.map_map]
  congr 2
  conv => rhs; rw [← List.map_id l]
  apply List.map_congr_left
  intro a _
  simp
theorem conv_bytes (bs : List UInt8) (w : World) (b off cap : Nat) (hc : ∀ k, k < bs.length → w.cell? ⟨b, off + k, none⟩ = some (.int .u8 ((bs.getD k 0).toNat : Int))) (k n cap' : Nat) (h : k + n ≤ bs.length) :
    (convert 26 9 (.slice (some ⟨b, off + k, none⟩) n cap')).run Tryz.prog w = .ok (.string ⟨((bs.drop k).take n).toArray⟩) w := by
  rw [← str_of_bytes]
  refine run_convert_bytes_arg w 26 5 (by kernel_rfl) (by kernel_rfl) b (off + k) n cap' _ (by simp; omega) (fun i hi => ?_) 9 (by kernel_rfl)
  have := hc (k + i) (by omega)
  rw [show off + k + i = off + (k + i) from by omega, this]
  simp [List.getD, hi, List.getElem?_drop, show k + i < bs.length from by omega]

theorem own_below {w w' : World} {base e size : Nat} {v : Value} {n : Nat} {xs : List Value} (h : w.ownsRow base e size v n xs) (hb : Below w.heap.size w w') : w'.ownsRow base e size v n xs :=
  h.kept (row := none) ⟨hb.os, hb.tape, hb.output, hb.size, fun k hk _ => hb.block k hk⟩ (by cases v.ownBlock <;> simp)

theorem scan_step {w wr w1 w2 : World} {B : Nat} {v v' : Value} {acc : List Lx.Tok} {t : Lx.Tok} {o1 o2 : Obj} (hB : B = w.heap.size) (hown : wr.ownsRow B 85 4 v acc.length (toksCells acc)) (hbel : Below B w wr) (hb1 : Below wr.heap.size wr w1)
    (hown2 : w2.ownsRow B 85 4 v' (acc.length + 1) (toksCells acc ++ [.int .i64 t.kind, .string ⟨t.text.toArray⟩, .int .i64 t.num, .int .i64 (t.pos : Int)])) (hg : ((w1.alloc o1).alloc o2).grownBy w2 v.ownBlock) :
    w2.ownsRow B 85 4 v' (acc ++ [t]).length (toksCells (acc ++ [t])) ∧ Below B w w2 := by
  have e : toksCells (acc ++ [t]) = toksCells acc ++ [.int .i64 t.kind, .string ⟨t.text.toArray⟩, .int .i64 t.num, .int .i64 (t.pos : Int)] := by simp [toksCells, tokCells]
  refine ⟨by rw [e, List.length_append]; exact hown2, ?_⟩
  have h0 := hbel.size
  have h1 := hb1.size
  have hl := hown.lt
  exact Below.grown (((hbel.trans (hb1.mono (by omega))).alloc (by omega) _).alloc (by simp; omega) _) hg (by simp; omega) (fun k hk => (hl k hk).1)

set_option maxRecDepth 100000 in
set_option maxHeartbeats 1000000 in
theorem Scan_any (bs : List UInt8) (b off cap : Nat) (w : World) (hn : bs.length ≤ 6000) (hcap : bs.length ≤ cap) (hb : b < w.heap.size)
    (hc : ∀ k, k < bs.length → w.cell? ⟨b, off + k, none⟩ = some (.int .u8 ((bs.getD k 0).toNat : Int))) :
    Calls Tryz.prog 30 #[.slice (some ⟨b, off, none⟩) bs.length cap] w fun e w' => ∃ v, e = .returned (.tuple #[v, .int .i64 ((Lx.scanL bs).2.1 : Int), .int .i64 ((Lx.scanL bs).2.2 : Int)]) ∧
      w'.ownsRow w.heap.size 85 4 v (Lx.scanL bs).1.length (toksCells (Lx.scanL bs).1) ∧ Below w.heap.size w w' := by
  obtain ⟨R, hR⟩ : ∃ R, R = Lx.scanL bs := ⟨_, rfl⟩
  rw [← hR]
  rw [Lx.scanL, if_neg (by omega)] at hR
  have HR : Hid (R = Lx.scanGo bs.length (bs.drop 0) 0 []) := hR
  clear hR
  have HC : Hid (∀ k, k < bs.length → w.cell? ⟨b, off + k, none⟩ = some (.int .u8 ((bs.getD k 0).toNat : Int))) := hc
  clear hc
  obtain ⟨len, hlen⟩ : ∃ len, len = bs.length := ⟨_, rfl⟩
  have HL : Hid (len = bs.length) := hlen
  rw [← hlen] at hn hcap ⊢
  clear hlen
  obtain ⟨i0, hi, hz0, hz1, hz2⟩ := info_parts Tryz.info85
  go_enter Tryz.func30, Tryz.ntmps30
  go_wp2
  go_loopw [2, 5] (fun v i wr => ∃ (k f : Nat) (acc : List Lx.Tok), k ≤ len ∧ i = .int .i64 k ∧ wr.ownsRow w.heap.size 85 4 v acc.length (toksCells acc) ∧ Below w.heap.size w wr ∧ acc.length ≤ k ∧ len - k ≤ f ∧ Hid (R = Lx.scanGo f (bs.drop k) k acc))
    (fun _ i _ => len - (intOf i).toNat)
  case atStart => exact ⟨0, len, [], Nat.zero_le _, rfl, World.ownsRow_nil _ _ _ _, Below.refl _ _, Nat.le_refl _, by omega, by rw [HL.out]; exact HR⟩
  case round =>
    obtain ⟨k, f, acc, hk, rfl, hown, hbel, hacc, hf, HK⟩ := hrel
    clear HR
    by_cases hlt : k < len
    · have hck : wr.cell? ⟨b, off + k, none⟩ = some (.int .u8 ((bs.getD k 0).toNat : Int)) := (hbel.cell (by exact hb)).trans (HC.out k (by rw [← HL.out]; exact hlt))
      have hcw : Hid (∀ k, k < bs.length → wr.cell? ⟨b, off + k, none⟩ = some (.int .u8 ((bs.getD k 0).toNat : Int))) := fun k hk => (hbel.cell (by exact hb)).trans (HC.out k hk)
      obtain ⟨f, rfl⟩ : ∃ f', f = f' + 1 := ⟨f - 1, by omega⟩
      obtain ⟨c, hcc⟩ : ∃ c : Nat, c = (bs.getD k 0).toNat := ⟨_, rfl⟩
      rw [← hcc] at hck
      cases hbk : Lx.blk (bs.getD k 0) with
      | true =>
        have hbk' : Lx.blkI (c : Int) = true := by rw [hcc]; exact hbk
        have HB : Hid (R = Lx.scanGo f (bs.drop (k + 1)) (k + 1) acc) := by show _ = _; rw [HK.out, Lx.scanGo_blk bs k f acc (by rw [← HL.out]; exact hlt) hbk]
        clear hcc hbk HK
        go_wp2_with (go_at_call 53; refine (isBlank_any _ _).mono ?_; rintro e w' ⟨rfl, rfl⟩)
        go_roundw
        case rel => exact ⟨k + 1, f, acc, by omega, by go_num, hown, hbel, by omega, by omega, HB⟩
        case measure => simp [intOf]; omega
      | false =>
        have hbk' : Lx.blkI (c : Int) = false := by rw [hcc]; exact hbk
        have HBK : Hid (Lx.blk (bs.getD k 0) = false) := hbk
        clear hcc hbk
        have hwe := wordEnd_any bs b off cap k wr (by rw [← HL.out]; exact hn) (by rw [← HL.out]; exact hlt) hcw.out
        rw [← HL.out] at hwe
        have hwl : k + Lx.wordLen (bs.drop k) ≤ len := by
          have := Lx.wordLen_le (bs.drop k); rw [List.length_drop, ← HL.out] at this; omega
        have hcv := fun cap' => conv_bytes bs wr b off cap hcw.out k (Lx.wordLen (bs.drop k)) cap' (by rw [← HL.out]; exact hwl)
        obtain ⟨n, hnn⟩ : ∃ n, n = Lx.wordLen (bs.drop k) := ⟨_, rfl⟩
        obtain ⟨word, hword⟩ : ∃ l, l = (bs.drop k).take (Lx.wordLen (bs.drop k)) := ⟨_, rfl⟩
        have HW : Hid (word = Lx.wordOf (bs.drop k)) := hword
        have hwlen : word.length ≤ len := by rw [hword, List.length_take, List.length_drop]; rw [← HL.out]; omega
        rw [← hword] at hcv
        rw [← hnn] at hwl hwe hcv
        have HNN : Hid (n = Lx.wordLen (bs.drop k)) := hnn
        clear hnn hword
        have hsz : (⟨word.toArray⟩ : ByteArray).size ≤ maxLen := by unfold maxLen; simp [ByteArray.size]; omega
        have hdl : (⟨word.toArray⟩ : ByteArray).data.toList = word := rfl
        have htk : (∃ t, Lx.tokOf word k = some t ∧ t.pos = k ∧ Calls Tryz.prog 55 #[.string ⟨word.toArray⟩] wr fun e w' => e = .returned (.tuple #[.agg #[.int .i64 t.kind, .string ⟨t.text.toArray⟩, .int .i64 t.num, .int .i64 0], .bool true]) ∧ Below wr.heap.size wr w') ∨
            (Lx.tokOf word k = none ∧ Calls Tryz.prog 55 #[.string ⟨word.toArray⟩] wr fun e w' => e = .returned (.tuple #[.agg #[.int .i64 0, .string ⟨#[]⟩, .int .i64 0, .int .i64 0], .bool false]) ∧ Below wr.heap.size wr w') := by
          cases h1 : Lx.nameL word with
          | true => exact .inl ⟨⟨1, word, 0, k⟩, by simp [Lx.tokOf, h1], rfl, token_name _ hsz h1 wr⟩
          | false =>
            cases h2 : Lx.numL word with
            | some m => exact .inl ⟨⟨2, [], m, k⟩, by simp [Lx.tokOf, h1, h2], rfl, token_num _ hsz h1 m h2 wr⟩
            | none =>
              cases h3 : Lx.signL word with
              | true => exact .inl ⟨⟨3, word, 0, k⟩, by simp [Lx.tokOf, h1, h2, h3], rfl, token_sign _ hsz h1 h2 h3 wr⟩
              | false => exact .inr ⟨by simp [Lx.tokOf, h1, h2, h3], token_none _ hsz h1 h2 h3 wr⟩
        clear hsz hdl
        rcases htk with ⟨t, ht, hpos, htok⟩ | ⟨ht, htok⟩
        · have HT : Hid (Lx.tokOf word k = some t) := ht
          clear ht
          have HP : Hid (t.pos = k) := hpos
          clear hpos
          have HB : Hid (R = Lx.scanGo f (bs.drop (k + n)) (k + n) (acc ++ [t])) := by
            show _ = _
            rw [HK.out, Lx.scanGo_some bs k f acc t (by rw [← HL.out]; exact hlt) HBK.out (by rw [← HW.out]; exact HT.out), ← HNN.out]
          have hn1 : 0 < n := by rw [HNN.out]; exact Lx.wordLen_pos _ k t (by rw [← HW.out]; exact HT.out)
          clear HK HT HW hwlen
          go_wp2_with (first | (go_at_call 53; refine (isBlank_any _ _).mono ?_; rintro e w' ⟨rfl, rfl⟩) | (go_at_call 54; refine hwe.mono ?_; rintro e w' ⟨rfl, rfl⟩) | (go_at_call 55; refine htok.mono ?_; rintro e w1 ⟨rfl, hb1⟩; have hown1 := own_below hown hb1) | (at_builtin; refine wpList_append_own _ rfl (.tmp 40) (.tmp 42) 60 rfl w.heap.size 85 i0 (.agg #[.int .i64 0, .string ⟨#[]⟩, .int .i64 0, .int .i64 0]) 4 40 Tryz.underlying60 hi hz0 hz1 hz2 rfl (by decide) _ _ _ rfl ((hown1.alloc _).alloc _) ⟨w1.heap.size + 1, 0, none⟩ 1 1 [.int .i64 t.kind, .string ⟨t.text.toArray⟩, .int .i64 t.num, .int .i64 (k : Int)] rfl rfl ?c1 ?c2 ?c3 ?c4 ?c5 ?_))
          case c1 =>
            intro j u hj
            match j, hj with
            | 0, hj => simp at hj; subst hj; simp [Addr.add]
            | 1, hj => simp at hj; subst hj; simp [Addr.add]
            | 2, hj => simp at hj; subst hj; simp [Addr.add]
            | 3, hj => simp at hj; subst hj; simp [Addr.add]
          case c2 => intro u hu; simp at hu; rcases hu with rfl | rfl | rfl | rfl <;> rfl
          case c3 => unfold maxLen; omega
          case c4 => omega
          case c5 => have h1 := hbel.size; have h2 := hb1.size; simp; omega
          · intro v' w2 hown2 hgrow2 _
            rw [← HP.out] at hown2
            have hR := scan_step rfl hown hbel hb1 hown2 hgrow2
            clear hown2 hgrow2 hown hown1 hbel hb1
            go_wp2
            go_roundw
            case rel => exact ⟨k + n, f, acc ++ [t], by omega, by go_num, hR.1, hR.2, by simp; omega, by omega, HB⟩
            case measure => simp [intOf]; omega
        · have HB : Hid (R = ([], k, 3)) := by show _ = _; rw [HK.out, Lx.scanGo_none bs k f acc (by rw [← HL.out]; exact hlt) HBK.out (by rw [← HW.out]; exact ht)]
          clear ht HK
          go_wp2_with (first | (go_at_call 53; refine (isBlank_any _ _).mono ?_; rintro e w' ⟨rfl, rfl⟩) | (go_at_call 54; refine hwe.mono ?_; rintro e w' ⟨rfl, rfl⟩) | (go_at_call 55; refine htok.mono ?_; rintro e w1 ⟨rfl, hb1⟩))
          go_ret3
          rw [HB.out]
          exact ⟨_, rfl, World.ownsRow_nil _ _ _ _, (hbel.trans (hb1.mono hbel.size)).alloc (Nat.le_trans hbel.size hb1.size) _⟩
    · have HB : Hid (R = (acc, 0, 0)) := by show _ = _; rw [HK.out, Lx.scanGo_end bs k f acc (by rw [← HL.out]; exact hlt)]
      clear HK
      go_wp2
      go_ret3
      rw [HB.out]
      exact ⟨_, rfl, hown, hbel⟩

set_option maxRecDepth 100000 in
set_option maxHeartbeats 1000000 in
theorem Scan_empty (a : Option Addr) (cap : Nat) (w : World) :
    Calls Tryz.prog 30 #[.slice a 0 cap] w fun e w' => e = .returned (.tuple #[.slice none 0 0, .int .i64 0, .int .i64 0]) ∧ w' = w := by
  go_enter Tryz.func30, Tryz.ntmps30
  go_wp2
  refine wp_loop_rounds 1 ?_
  rw [rounds_succ]
  go_wp2
  go_ret3
  exact ⟨rfl, rfl⟩

set_option maxRecDepth 100000 in
set_option maxHeartbeats 1000000 in
theorem Scan_long (a : Option Addr) (len cap : Nat) (h : 6000 < len) (hm : len ≤ maxLen) (w : World) :
    Calls Tryz.prog 30 #[.slice a len cap] w fun e w' => e = .returned (.tuple #[.slice none 0 0, .int .i64 0, .int .i64 2]) ∧ w' = w := by
  unfold maxLen at hm
  go_enter Tryz.func30, Tryz.ntmps30
  go_wp2
  go_ret3
  exact ⟨rfl, rfl⟩

end Go.Proofs.YtdgfidaopkcjoaaGreatDoor
