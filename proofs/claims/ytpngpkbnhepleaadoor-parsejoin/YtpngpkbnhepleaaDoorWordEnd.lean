/- Where the word at a place ends. -/
import Derived.Test.YtpngpkbnhepleaaDoorToken
import Derived.Test.YtpngpkbnhepleaaDoorMgA
namespace Go.Proofs.YtpngpkbnhepleaaDoor
open Go.RowKit
set_option linter.unusedVariables false
set_option linter.unusedSimpArgs false

theorem ret_num {a b : Int} (h : a = b) : Ending.returned (.int .i64 a) = .returned (.int .i64 b) := by rw [h]

set_option maxRecDepth 100000 in
set_option maxHeartbeats 1000000 in
theorem wordEnd_any (bs : List UInt8) (b off cap p : Nat) (w : World) (hn : bs.length ≤ 6000) (hp : p < bs.length)
    (hc : ∀ k, k < bs.length → w.cell? ⟨b, off + k, none⟩ = some (.int .u8 ((bs.getD k 0).toNat : Int))) :
    Calls Tryd.prog 38 #[.slice (some ⟨b, off, none⟩) bs.length cap, .int .i64 (p : Int)] w fun e w' => e = .returned (.int .i64 ((p + Lx.wordLen (bs.drop p) : Nat) : Int)) ∧ w' = w := by
  obtain ⟨R, hR⟩ : ∃ R : Nat, R = p + Lx.wordLen (bs.drop p) := ⟨_, rfl⟩
  rw [← hR]
  have HR : Hid (R = p + Lx.wordLen (bs.drop p)) := hR
  clear hR
  have HC : Hid (∀ k, k < bs.length → w.cell? ⟨b, off + k, none⟩ = some (.int .u8 ((bs.getD k 0).toNat : Int))) := hc
  have hcp := hc p hp
  clear hc
  have hu := (bs.getD p 0).toNat_lt
  obtain ⟨len, hlen⟩ : ∃ len, len = bs.length := ⟨_, rfl⟩
  have HL : Hid (len = bs.length) := hlen
  rw [← hlen] at hp hn ⊢
  clear hlen
  obtain ⟨c, hcc⟩ : ∃ c : Nat, c = (bs.getD p 0).toNat := ⟨_, rfl⟩
  have HCC : Hid (c = (bs.getD p 0).toNat) := hcc
  rw [← hcc] at hu hcp
  clear hcc
  cases hs : Lx.sgnI (c : Int) with
  | true =>
    have HN : Hid (R = p + 1) := by show _ = _; rw [HR.out, Lx.wordLen_sgn bs p (by rw [← HL.out]; exact hp) (by rw [Lx.sgn, ← HCC.out]; exact hs)]
    clear HR
    go_enter Tryd.func38, Tryd.ntmps38
    go_wp2_with (go_at_call 66; refine (isSign_any _ (by omega) (by omega) _).mono ?_; rintro e w' ⟨rfl, rfl⟩)
    go_ret
    exact ⟨ret_num (by rw [HN.out]; omega), rfl⟩
  | false =>
    have hs' : Lx.sgn (bs.getD p 0) = false := by rw [Lx.sgn, ← HCC.out]; exact hs
    have HS : Hid (Lx.sgn (bs.getD p 0) = false) := hs'
    clear hs'
    by_cases h45 : c = 45
    · have HN : Hid (R = (p + 1) + Lx.runLen (bs.drop (p + 1))) := by
        show _ = _
        rw [HR.out, Lx.wordLen_min bs p (by rw [← HL.out]; exact hp) HS.out (by rw [← HCC.out]; exact h45)]; omega
      have h45' : ((c : Int) == 45) = true := by simp; omega
      clear HR h45
      go_enter Tryd.func38, Tryd.ntmps38
      go_wp2_with (go_at_call 66; refine (isSign_any _ (by omega) (by omega) _).mono ?_; rintro e w' ⟨rfl, rfl⟩)
      go_loop [1] (fun i => ∃ k : Nat, k ≤ len ∧ i = .int .i64 k ∧ Hid (R = k + Lx.runLen (bs.drop k))) (fun i => len - (intOf i).toNat)
      case atStart => exact ⟨p + 1, by omega, by go_num, HN⟩
      case round =>
        obtain ⟨k, hk, rfl, HK⟩ := hrel
        clear HN hcp
        by_cases hlt : k < len
        · have hck := HC.out k (by rw [← HL.out]; exact hlt)
          have hiw : Lx.inw (bs.getD k 0) = Lx.inwI ((bs.getD k 0).toNat : Int) := rfl
          have h1 := Lx.runLen_in bs k (by rw [← HL.out]; exact hlt)
          have h2 := Lx.runLen_out bs k (by rw [← HL.out]; exact hlt)
          rw [hiw] at h1 h2
          clear hiw
          generalize (bs.getD k 0).toNat = d at hck h1 h2
          cases hi : Lx.inwI (d : Int) with
          | true =>
            have HB : Hid (R = (k + 1) + Lx.runLen (bs.drop (k + 1))) := by show _ = _; rw [HK.out, h1 hi]; omega
            clear HK h1 h2
            go_wp2_with (go_at_call 42; refine (inWord_any _ _).mono ?_; rintro e w' ⟨rfl, rfl⟩)
            go_round
            case rel => exact ⟨k + 1, by omega, by go_num, HB⟩
            case measure => simp [intOf]; omega
          | false =>
            have HB : Hid (R = k) := by show _ = _; rw [HK.out, h2 hi]; omega
            clear HK h1 h2
            go_wp2_with (go_at_call 42; refine (inWord_any _ _).mono ?_; rintro e w' ⟨rfl, rfl⟩)
            go_ret
            exact ⟨ret_num (by rw [HB.out]), rfl⟩
        · have HB : Hid (R = k) := by show _ = _; rw [HK.out, Lx.runLen_end bs k (by rw [← HL.out]; exact hlt)]; omega
          clear HK
          go_wp2
          go_ret
          exact ⟨ret_num (by rw [HB.out]), rfl⟩
    · have HN : Hid (R = p + Lx.runLen (bs.drop p)) := by
        show _ = _
        rw [HR.out, Lx.wordLen_run bs p (by rw [← HL.out]; exact hp) HS.out (by rw [← HCC.out]; exact h45)]
      have h45' : ((c : Int) == 45) = false := by simp; omega
      clear HR h45
      go_enter Tryd.func38, Tryd.ntmps38
      go_wp2_with (go_at_call 66; refine (isSign_any _ (by omega) (by omega) _).mono ?_; rintro e w' ⟨rfl, rfl⟩)
      go_loop [1] (fun i => ∃ k : Nat, k ≤ len ∧ i = .int .i64 k ∧ Hid (R = k + Lx.runLen (bs.drop k))) (fun i => len - (intOf i).toNat)
      case atStart => exact ⟨p, by omega, by go_num, HN⟩
      case round =>
        obtain ⟨k, hk, rfl, HK⟩ := hrel
        clear HN hcp
        by_cases hlt : k < len
        · have hck := HC.out k (by rw [← HL.out]; exact hlt)
          have hiw : Lx.inw (bs.getD k 0) = Lx.inwI ((bs.getD k 0).toNat : Int) := rfl
          have h1 := Lx.runLen_in bs k (by rw [← HL.out]; exact hlt)
          have h2 := Lx.runLen_out bs k (by rw [← HL.out]; exact hlt)
          rw [hiw] at h1 h2
          clear hiw
          generalize (bs.getD k 0).toNat = d at hck h1 h2
          cases hi : Lx.inwI (d : Int) with
          | true =>
            have HB : Hid (R = (k + 1) + Lx.runLen (bs.drop (k + 1))) := by show _ = _; rw [HK.out, h1 hi]; omega
            clear HK h1 h2
            go_wp2_with (go_at_call 42; refine (inWord_any _ _).mono ?_; rintro e w' ⟨rfl, rfl⟩)
            go_round
            case rel => exact ⟨k + 1, by omega, by go_num, HB⟩
            case measure => simp [intOf]; omega
          | false =>
            have HB : Hid (R = k) := by show _ = _; rw [HK.out, h2 hi]; omega
            clear HK h1 h2
            go_wp2_with (go_at_call 42; refine (inWord_any _ _).mono ?_; rintro e w' ⟨rfl, rfl⟩)
            go_ret
            exact ⟨ret_num (by rw [HB.out]), rfl⟩
        · have HB : Hid (R = k) := by show _ = _; rw [HK.out, Lx.runLen_end bs k (by rw [← HL.out]; exact hlt)]; omega
          clear HK
          go_wp2
          go_ret
          exact ⟨ret_num (by rw [HB.out]), rfl⟩

end Go.Proofs.YtpngpkbnhepleaaDoor
