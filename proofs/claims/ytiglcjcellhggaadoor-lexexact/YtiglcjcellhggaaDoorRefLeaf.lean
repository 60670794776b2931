/- What the page's own small functions answer. -/
import Derived.Test.YtiglcjcellhggaaDoorDigits
import Derived.Test.YtiglcjcellhggaaDoorPlain7
namespace Go.Proofs.YtiglcjcellhggaaDoor
open Go.RowKit
set_option linter.unusedVariables false
set_option linter.unusedSimpArgs false

set_option maxHeartbeats 400000 in
theorem refDigit_any (c : Int) (w : World) :
    Calls Tryd.prog 25 #[.int .u8 c] w fun e w' => e = .returned (.bool (Lx.digI c)) ∧ w' = w := by
  go_enter Tryd.func25, Tryd.ntmps25
  go_wp2
  all_goals (go_ret; exact ⟨ret_bool (by simp [Lx.digI]; omega), rfl⟩)

set_option maxHeartbeats 400000 in
theorem refLetter_any (c : Int) (w : World) :
    Calls Tryd.prog 24 #[.int .u8 c] w fun e w' => e = .returned (.bool (Lx.ltrI c)) ∧ w' = w := by
  go_enter Tryd.func24, Tryd.ntmps24
  go_wp2
  all_goals (go_ret; exact ⟨ret_bool (by simp [Lx.ltrI]; try omega), rfl⟩)

theorem sgn_find (c : Int) (h0 : 0 ≤ c) (h1 : c ≤ 255) (S : ByteArray) (hS : S = ⟨#[123, 125, 40, 41, 58, 59, 44, 91, 93]⟩) : (∃ k, ∃ h : k < S.size, ((S[k].toNat : Nat) : Int) = c) ↔ Lx.sgnI c = true := by
  subst hS
  rw [Lx.sgnI, decide_eq_true_iff]
  constructor
  · rintro ⟨k, hk, h⟩
    have hk9 : k < 9 := hk
    match k, hk9 with
    | 0, _ => exact .inl h.symm
    | 1, _ => exact .inr (.inl h.symm)
    | 2, _ => exact .inr (.inr (.inl h.symm))
    | 3, _ => exact .inr (.inr (.inr (.inl h.symm)))
    | 4, _ => exact .inr (.inr (.inr (.inr (.inl h.symm))))
    | 5, _ => exact .inr (.inr (.inr (.inr (.inr (.inl h.symm)))))
    | 6, _ => exact .inr (.inr (.inr (.inr (.inr (.inr (.inl h.symm))))))
    | 7, _ => exact .inr (.inr (.inr (.inr (.inr (.inr (.inr (.inl h.symm)))))))
    | 8, _ => exact .inr (.inr (.inr (.inr (.inr (.inr (.inr (.inr h.symm)))))))
  · rintro (h | h | h | h | h | h | h | h | h)
    · exact ⟨0, by decide, h.symm⟩
    · exact ⟨1, by decide, h.symm⟩
    · exact ⟨2, by decide, h.symm⟩
    · exact ⟨3, by decide, h.symm⟩
    · exact ⟨4, by decide, h.symm⟩
    · exact ⟨5, by decide, h.symm⟩
    · exact ⟨6, by decide, h.symm⟩
    · exact ⟨7, by decide, h.symm⟩
    · exact ⟨8, by decide, h.symm⟩

set_option maxHeartbeats 1000000 in
theorem refSign_any (c : Int) (h0 : 0 ≤ c) (h1 : c ≤ 255) (w : World) :
    Calls Tryd.prog 23 #[.int .u8 c] w fun e w' => e = .returned (.bool (Lx.sgnI c)) ∧ w' = w := by
  obtain ⟨R, hR⟩ : ∃ R : Bool, R = Lx.sgnI c := ⟨_, rfl⟩
  rw [← hR]
  have HR : Hid (R = Lx.sgnI c) := hR
  clear hR
  go_enter Tryd.func23, Tryd.ntmps23
  go_wp2
  have hf := sgn_find c h0 h1 _ rfl
  have h9 : (⟨#[123, 125, 40, 41, 58, 59, 44, 91, 93]⟩ : ByteArray).size ≤ 9 := by decide
  generalize (⟨#[123, 125, 40, 41, 58, 59, 44, 91, 93]⟩ : ByteArray) = S at *
  have HF : Hid ((∃ k, ∃ h : k < S.size, ((S[k].toNat : Nat) : Int) = c) ↔ R = true) := by rw [HR.out]; exact hf
  clear hf HR
  go_loop [4] (fun i => ∃ k : Nat, k ≤ S.size ∧ i = .int .i64 k ∧ Hid (∀ j, ∀ h : j < S.size, j < k → ¬ ((S[j].toNat : Nat) : Int) = c)) (fun i => S.size - (intOf i).toNat)
  case atStart => exact ⟨0, Nat.zero_le _, rfl, fun j _ hj => by omega⟩
  case round =>
    obtain ⟨k, hk, rfl, HK⟩ := hrel
    by_cases hlt : k < S.size
    · by_cases heq : ((S[k].toNat : Nat) : Int) = c
      · have HT : Hid (R = true) := HF.out.1 ⟨k, hlt, heq⟩
        have hb : (((S[k].toNat : Nat) : Int) == c) = true := by simpa using heq
        clear heq HK HF
        go_wp2
        go_ret
        exact ⟨ret_bool (by rw [HT.out]), rfl⟩
      · have HN : Hid (∀ j, ∀ h : j < S.size, j < k + 1 → ¬ ((S[j].toNat : Nat) : Int) = c) := fun j h hj => by
          by_cases e : j = k
          · subst e; exact heq
          · exact HK.out j h (by omega)
        have hb : (((S[k].toNat : Nat) : Int) == c) = false := by simpa using heq
        clear heq HK
        go_wp2
        go_round
        case rel => exact ⟨k + 1, by omega, by go_num, HN⟩
        case measure => simp [intOf]; omega
    · have HT : Hid (R = false) := by
        show _ = _
        rw [Bool.eq_false_iff]
        intro h
        obtain ⟨j, hj, e⟩ := HF.out.2 h
        exact HK.out j hj (by omega) e
      clear HK HF
      go_wp2
      go_ret
      exact ⟨ret_bool (by rw [HT.out]), rfl⟩

end Go.Proofs.YtiglcjcellhggaaDoor
