/- What Bytes answers of any two rows. -/
import Derived.Test.YtdgfidaopkcjoaaDoorEqX
namespace Go.Proofs.YtdgfidaopkcjoaaDoor
open Go.RowKit
set_option linter.unusedVariables false
set_option linter.unusedSimpArgs false

set_option maxRecDepth 100000 in
set_option maxHeartbeats 4000000 in
theorem Bytes_eq (l1 l2 : List UInt8) (a1 a2 : Option Addr) (c1 c2 : Nat) (w : World) (n1 : l1.length ≤ 100000) (n2 : l2.length ≤ 100000) (h1 : RowAt w a1 l1) (h2 : RowAt w a2 l2) :
    Calls Tryd.prog 17 #[.slice a1 l1.length c1, .slice a2 l2.length c2] w fun e w' => Eq.Is l1 l2 e ∧ Below w.heap.size w w' := by
  have H1 := hide h1
  have H2 := hide h2
  obtain ⟨m1, hm1⟩ : ∃ m, m = l1.length := ⟨_, rfl⟩
  obtain ⟨m2, hm2⟩ : ∃ m, m = l2.length := ⟨_, rfl⟩
  have HM1 := hide hm1
  have HM2 := hide hm2
  rw [← hm1] at n1 ⊢
  rw [← hm2] at n2 ⊢
  clear h1 h2 hm1 hm2
  by_cases hne : m1 = m2
  · subst hne
    go_enter Tryd.func17, Tryd.ntmps17
    go_wp2_with fail
    go_loopw [5] (fun i wr => ∃ k : Nat, k ≤ m1 ∧ i = .int .i64 k ∧ Below w.heap.size w wr ∧ Hid (l1.take k = l2.take k)) (fun i _ => m1 - (intOf i).toNat)
    case atStart => exact ⟨0, Nat.zero_le _, rfl, Below.refl _ _, rfl⟩
    case round =>
      obtain ⟨k, hk, rfl, hbel, HT⟩ := hrel
      by_cases hlt : k < m1
      · have hk1 : k < l1.length := by rw [← HM1.out]; exact hlt
        have hk2 : k < l2.length := by rw [← HM2.out]; exact hlt
        rcases H1.out with h0 | ⟨b1, o1, rfl, hb1, hc1⟩
        · rw [h0] at hk1; simp at hk1
        rcases H2.out with h0 | ⟨b2, o2, rfl, hb2, hc2⟩
        · rw [h0] at hk2; simp at hk2
        have hd1 := (hbel.cell (p := ⟨b1, o1 + k, none⟩) (by exact hb1)).trans (hc1 k hk1)
        have hd2 := (hbel.cell (p := ⟨b2, o2 + k, none⟩) (by exact hb2)).trans (hc2 k hk2)
        have HX : Hid (l1[k]? = some (l1.getD k 0)) := hide (by simp [List.getD, hk1])
        have HY : Hid (l2[k]? = some (l2.getD k 0)) := hide (by simp [List.getD, hk2])
        generalize l1.getD k 0 = d1 at *
        generalize l2.getD k 0 = d2 at *
        clear hc1 hc2 hk1 hk2
        have hlt' : (k : Int) < (m1 : Int) := by omega
        by_cases en : d1 = d2
        · subst en
          have HS := hide (Eq.take_step HT.out HX.out HY.out)
          generalize d1.toNat = d at *
          go_wp2_with fail
          go_quiet (fail)
          go_wp2_with fail
          go_roundw
          case rel => exact ⟨k + 1, by omega, by go_num, by first | exact hbel | exact below_drewN hbel _, HS⟩
          case measure => simp [intOf]; omega
        · have HN := hide (Eq.ne_at HX.out HY.out en)
          have en' : ((d1.toNat : Int) == (d2.toNat : Int)) = false := by
            rw [beq_eq_false_iff_ne]
            intro e
            apply en
            apply UInt8.toNat_inj.1
            omega
          clear en
          go_wp2_with fail
          go_quiet (fail)
          go_wp2_with fail
          go_ret
          exact ⟨Eq.no HN.out, by first | exact hbel | exact below_drewN hbel _⟩
      · have HE := hide (Eq.take_end HT.out (by rw [← HM1.out]; omega) (by rw [← HM2.out]; omega))
        go_wp2_with fail
        go_ret
        exact ⟨Eq.yes HE.out, hbel⟩
  · have hne' : ((m1 : Int) != (m2 : Int)) = true := by simp; omega
    have HN : Hid (l1 ≠ l2) := hide (fun e => hne (by rw [HM1.out, HM2.out, e]))
    go_enter Tryd.func17, Tryd.ntmps17
    go_wp2_with fail
    go_ret
    exact ⟨Eq.no HN.out, Below.refl _ _⟩

end Go.Proofs.YtdgfidaopkcjoaaDoor
