/- What the page's Name and Word answer. -/
import Derived.Test.YtiglcjcellhggaaDoorRefLeaf
namespace Go.Proofs.YtiglcjcellhggaaDoor
open Go.RowKit
set_option linter.unusedVariables false
set_option linter.unusedSimpArgs false

set_option maxHeartbeats 1000000 in
theorem refName_any (s : ByteArray) (hs : s.size ≤ maxLen) (w : World) :
    Calls Tryd.prog 15 #[.string s] w fun e w' => e = .returned (.bool (Lx.nameL s.data.toList)) ∧ w' = w := by
  unfold maxLen at hs
  by_cases h1 : s.size < 1
  · have Hf := Lx.nameL_short s h1
    rw [Hf]; clear Hf
    go_enter Tryd.func15, Tryd.ntmps15
    go_wp2
    go_ret
    exact ⟨rfl, rfl⟩
  by_cases h20 : 20 < s.size
  · have Hf := Lx.nameL_long s h20
    rw [Hf]; clear Hf
    go_enter Tryd.func15, Tryd.ntmps15
    go_wp2
    go_ret
    exact ⟨rfl, rfl⟩
  have Hf := Lx.nameL_mid s (by omega) (by omega)
  rw [Hf]; clear Hf
  have h1' : 0 < s.size := by omega
  obtain ⟨R, hR⟩ : ∃ R : Bool, R = (!Lx.dig s[0] && s.data.toList.all Lx.inw) := ⟨_, rfl⟩
  rw [← hR]
  have HR : Hid (R = (!Lx.dig s[0] && s.data.toList.all Lx.inw)) := hR
  clear hR
  have hmem : ∀ k, ∀ h : k < s.size, s[k] ∈ s.data.toList := fun k h => by simp [ByteArray.getElem_eq_getElem_data]
  have HM : Hid (∀ k, ∀ h : k < s.size, s[k] ∈ s.data.toList) := hmem
  clear hmem
  cases hd : Lx.ltr s[0] with
  | false =>
    have hd' : Lx.ltrI (s[0].toNat : Int) = false := hd
    have HF : Hid (R = false) := by
      show _ = _
      rw [HR.out, Bool.eq_false_iff]
      intro h
      rw [Bool.and_eq_true] at h
      have hi := List.all_eq_true.1 h.2 s[0] (HM.out 0 h1')
      rw [Lx.let_inw, h.1, hi] at hd; cases hd
    clear hd
    go_enter Tryd.func15, Tryd.ntmps15
    go_wp2_with (go_at_call 24; refine (refLetter_any _ _).mono ?_; rintro e w' ⟨rfl, rfl⟩)
    go_ret
    exact ⟨ret_bool (by rw [HF.out]), rfl⟩
  | true =>
    have hd' : Lx.ltrI (s[0].toNat : Int) = true := hd
    rw [Lx.let_inw, Bool.and_eq_true] at hd
    have HF : Hid (R = s.data.toList.all Lx.inw) := by show _ = _; rw [HR.out, hd.1]; rfl
    have H1 : Hid ((s.data.toList.take 1).all Lx.inw = true) := by
      show _ = _
      have := Lx.take_snoc s 0 h1'
      rw [show 0 + 1 = 1 from rfl] at this
      rw [this]; simp [hd.2]
    clear hd HR
    go_enter Tryd.func15, Tryd.ntmps15
    go_wp2_with (go_at_call 24; refine (refLetter_any _ _).mono ?_; rintro e w' ⟨rfl, rfl⟩)
    clear hd'
    go_loop [3] (fun i => ∃ k : Nat, 1 ≤ k ∧ k ≤ s.size ∧ i = .int .i64 k ∧ Hid ((s.data.toList.take k).all Lx.inw = true)) (fun i => s.size - (intOf i).toNat)
    case atStart => exact ⟨1, by omega, by omega, rfl, H1⟩
    case round =>
      obtain ⟨k, hk1, hk, rfl, HA⟩ := hrel
      clear H1
      by_cases hlt : k < s.size
      · have hts := Lx.take_snoc s k hlt
        have HT : Hid ((s.data.toList.take (k + 1)).all Lx.inw = ((s.data.toList.take k).all Lx.inw && Lx.inw s[k])) := by rw [hts]; exact Lx.all_snoc _ _ _
        clear hts
        cases hl : Lx.ltr s[k] with
        | true =>
          have hl' : Lx.ltrI (s[k].toNat : Int) = true := hl
          have HW : Hid (Lx.inw s[k] = true) := by show _ = _; rw [Lx.inw_let, hl]; rfl
          clear hl
          go_wp2_with (go_at_call 24; refine (refLetter_any _ _).mono ?_; rintro e w' ⟨rfl, rfl⟩)
          go_round
          case rel => exact ⟨k + 1, by omega, by omega, by go_num, by show _ = _; rw [HT.out, HA.out, HW.out]; rfl⟩
          case measure => simp [intOf]; omega
        | false =>
          have hl' : Lx.ltrI (s[k].toNat : Int) = false := hl
          cases hg : Lx.dig s[k] with
          | true =>
            have hg' : Lx.digI (s[k].toNat : Int) = true := hg
            have HW : Hid (Lx.inw s[k] = true) := by show _ = _; rw [Lx.inw_let, hl, hg]; rfl
            clear hl hg
            go_wp2_with (first | (go_at_call 24; refine (refLetter_any _ _).mono ?_; rintro e w' ⟨rfl, rfl⟩) | (go_at_call 25; refine (refDigit_any _ _).mono ?_; rintro e w' ⟨rfl, rfl⟩))
            go_round
            case rel => exact ⟨k + 1, by omega, by omega, by go_num, by show _ = _; rw [HT.out, HA.out, HW.out]; rfl⟩
            case measure => simp [intOf]; omega
          | false =>
            have hg' : Lx.digI (s[k].toNat : Int) = false := hg
            have HN : Hid (s.data.toList.all Lx.inw = false) := by
              show _ = _
              rw [Bool.eq_false_iff]; intro h
              have := List.all_eq_true.1 h s[k] (HM.out k hlt)
              rw [Lx.inw_let, hl, hg] at this; cases this
            clear hl hg
            go_wp2_with (first | (go_at_call 24; refine (refLetter_any _ _).mono ?_; rintro e w' ⟨rfl, rfl⟩) | (go_at_call 25; refine (refDigit_any _ _).mono ?_; rintro e w' ⟨rfl, rfl⟩))
            go_ret
            exact ⟨ret_bool (by rw [HF.out, HN.out]), rfl⟩
      · have HN : Hid (s.data.toList.all Lx.inw = true) := by
          show _ = _
          rw [← HA.out, List.take_of_length_le (by simp; omega)]
        go_wp2
        go_ret
        exact ⟨ret_bool (by rw [HF.out, HN.out]), rfl⟩

theorem refName_is (s : ByteArray) (r : Bool) (h : Lx.nameL s.data.toList = r) (hs : s.size ≤ maxLen) (w : World) :
    Calls Tryd.prog 15 #[.string s] w fun e w' => e = .returned (.bool r) ∧ w' = w := by
  have := refName_any s hs w
  rw [h] at this
  exact this

set_option maxHeartbeats 1000000 in
theorem Word_name (s : ByteArray) (p : Int) (hs : s.size ≤ maxLen) (h : Lx.nameL s.data.toList = true) (w : World) :
    Calls Tryd.prog 27 #[.agg #[.int .i64 1, .string s, .int .i64 0, .int .i64 p]] w fun e w' => e = .returned (.string s) ∧ Below w.heap.size w w' := by
  go_enter Tryd.func27, Tryd.ntmps27
  go_wp2_with (go_at_call 15; refine (refName_is _ _ h hs _).mono ?_; rintro e w' ⟨rfl, rfl⟩)
  go_ret
  exact ⟨rfl, (Below.refl _ _).alloc (Nat.le_refl _) _⟩

set_option maxHeartbeats 1000000 in
theorem Word_sign (s : ByteArray) (p : Int) (hs : s.size ≤ maxLen) (h : Lx.signL s.data.toList = true) (w : World) :
    Calls Tryd.prog 27 #[.agg #[.int .i64 3, .string s, .int .i64 0, .int .i64 p]] w fun e w' => e = .returned (.string s) ∧ Below w.heap.size w w' := by
  have h1 : s.size = 1 := by
    by_cases h1 : s.size = 1
    · exact h1
    · rw [Lx.signL_not s h1] at h; cases h
  have h0 : 0 < s.size := by omega
  have hg : Lx.sgnI ((s[0]'h0).toNat : Int) = true := by rw [← Lx.signL_one s h1 h0]; exact h
  have hb := s[0].toNat_lt
  have ht : ((s.size : Int) == 1) = true := by simp; omega
  have H1 : Hid (s.size = 1) := h1
  clear h1 h
  go_enter Tryd.func27, Tryd.ntmps27
  go_wp2_with (go_at_call 23; refine (refSign_any _ (by omega) (by omega) _).mono ?_; rintro e w' ⟨rfl, rfl⟩)
  go_ret
  exact ⟨rfl, (Below.refl _ _).alloc (Nat.le_refl _) _⟩

set_option maxHeartbeats 1000000 in
theorem Word_num (n p : Int) (h0 : -2147483648 ≤ n) (h1 : n ≤ 2147483647) (w : World) :
    Calls Tryd.prog 27 #[.agg #[.int .i64 2, .string ⟨#[]⟩, .int .i64 n, .int .i64 p]] w fun e w' => e = .returned (.string ⟨(Lx.intL n).toArray⟩) ∧ Below w.heap.size w w' := by
  go_enter Tryd.func27, Tryd.ntmps27
  go_wp2_with fail
  refine (Digits_any n (by omega) (by omega) _).mono ?_
  rintro e w1 ⟨rfl, hb1⟩
  go_wp2_with fail
  go_ret
  exact ⟨rfl, ((Below.refl _ _).alloc (Nat.le_refl _) _).trans (hb1.mono (by simp))⟩

theorem nameL_len (l : List UInt8) (h : Lx.nameL l = true) : l.length ≤ 20 := ((Lx.nameL_iff l).1 h).2.1
theorem signL_len (l : List UInt8) (h : Lx.signL l = true) : l.length = 1 := by
  match l, h with
  | [c], _ => rfl
  | [], h => cases h
  | _ :: _ :: _, h => cases h
theorem tokW_len (t : Lx.Tok) (hv : Lx.ValidT t) : (Lx.tokW t).length ≤ 21 := by
  unfold Lx.tokW
  split
  · exact (Lx.intL_len _).2
  · rename_i hk
    rcases hv with ⟨_, h, _⟩ | ⟨_, h, _⟩ | ⟨h, _⟩
    · have := nameL_len _ h; omega
    · have := signL_len _ h; omega
    · exact absurd h hk
theorem Word_valid (t : Lx.Tok) (hv : Lx.ValidT t) (p : Int) (w : World) :
    Calls Tryd.prog 27 #[.agg #[.int .i64 t.kind, .string ⟨t.text.toArray⟩, .int .i64 t.num, .int .i64 p]] w fun e w' => e = .returned (.string ⟨(Lx.tokW t).toArray⟩) ∧ Below w.heap.size w w' := by
  obtain ⟨kind, text, num, pos⟩ := t
  rcases hv with ⟨h1, h2, h3⟩ | ⟨h1, h2, h3⟩ | ⟨h1, h2, h3, h4⟩
  · simp only at h1 h2 h3
    subst h1 h3
    have := nameL_len _ h2
    exact Word_name ⟨text.toArray⟩ p (by rw [str_size]; unfold maxLen; omega) h2 w
  · simp only at h1 h2 h3
    subst h1 h3
    have := signL_len _ h2
    exact Word_sign ⟨text.toArray⟩ p (by rw [str_size]; unfold maxLen; omega) h2 w
  · simp only at h1 h2 h3 h4
    subst h1 h2
    exact Word_num num p h3 h4 w

end Go.Proofs.YtiglcjcellhggaaDoor
