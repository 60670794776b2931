/- The walk of IntsExact. -/
import Derived.Test.YtihgbafemaabgaaIntN
import Derived.Test.YtihgbafemaabgaaIntD
import Derived.LoopTactic
import Derived.Below
import Derived.BigQuiet
import Derived.Deep.QuietTactic
namespace Go.Proofs.Ytihgbafemaabgaa
open Go.RowKit
set_option linter.unusedVariables false
set_option linter.unusedSimpArgs false

set_option maxRecDepth 100000 in
set_option maxHeartbeats 4000000 in
theorem exact_walk (a b : Int) (w : World) :
    Calls Try.prog 3 #[.int .i64 a, .int .i64 b] w fun e w' => e = .returned (.bool true) ∧ Below w.heap.size w w' := by
  go_enter Try.func3, Try.ntmps3
  go_wp2_with fail
  have hB : Below w.heap.size w (w.alloc (Obj.cells #[.int .i64 8, .int .i64 9, .int .i64 10, .int .i64 11, .int .i64 12, .int .i64 13] 3)) := (Below.refl _ _).alloc (Nat.le_refl _) _
  have hS : w.heap.size < (w.alloc (Obj.cells #[.int .i64 8, .int .i64 9, .int .i64 10, .int .i64 11, .int .i64 12, .int .i64 13] 3)).heap.size := by simp
  have hC : ∀ j : Nat, j < 6 → (w.alloc (Obj.cells #[.int .i64 8, .int .i64 9, .int .i64 10, .int .i64 11, .int .i64 12, .int .i64 13] 3)).cell? ⟨w.heap.size, j, none⟩ = some (.int .i64 (8 + j)) := by
    intro j hj
    rw [cell_of_row _ w.heap.size j _ _ _ (heap_alloc_new w _)]
    match j, hj with
    | 0, _ => rfl
    | 1, _ => rfl
    | 2, _ => rfl
    | 3, _ => rfl
    | 4, _ => rfl
    | 5, _ => rfl
  generalize w.alloc (Obj.cells #[.int .i64 8, .int .i64 9, .int .i64 10, .int .i64 11, .int .i64 12, .int .i64 13] 3) = w1 at *
  have HC := hide hC
  have HB := hide hB
  clear hC hB
  have HZ : Hid (w.heap.size ≤ w1.heap.size) := HB.out.size
  go_loopw [6] (fun i wr => ∃ k : Nat, k ≤ 6 ∧ i = .int .i64 k ∧ Below w1.heap.size w1 wr) (fun i _ => 6 - (intOf i).toNat)
  case atStart => exact ⟨0, by omega, rfl, Below.refl _ _⟩
  case round =>
    obtain ⟨k, hk, rfl, hbel⟩ := hrel
    have hk' : k = 0 ∨ k = 1 ∨ k = 2 ∨ k = 3 ∨ k = 4 ∨ k = 5 ∨ k = 6 := by omega
    clear hk
    rcases hk' with rfl | rfl | rfl | rfl | rfl | rfl | rfl
    · have hc := (hbel.cell (p := ⟨w.heap.size, 0, none⟩) (by exact hS)).trans (HC.out 0 (by decide))
      obtain ⟨x, e, h⟩ := Iz.pair_eta (Iz.addL a b)
      have HO := hide h
      clear h
      go_wp2_with fail
      refine (Add_any _ _ _).mono ?_
      rintro e w2 ⟨rfl, rfl⟩
      rw [HO.out]
      go_wp2_with (go_at_call 15; refine (num_add _ _ _).mono ?_; rintro e w2 ⟨rfl, rfl⟩; rw [HO.out])
      go_roundw
      case rel => exact ⟨1, by omega, by go_num, by first | exact hbel | exact below_drewN hbel _⟩
      case measure => simp [intOf]
    · have hc := (hbel.cell (p := ⟨w.heap.size, 1, none⟩) (by exact hS)).trans (HC.out 1 (by decide))
      obtain ⟨x, e, h⟩ := Iz.pair_eta (Iz.subL a b)
      have HO := hide h
      clear h
      go_wp2_with fail
      refine (Sub_any _ _ _).mono ?_
      rintro e w2 ⟨rfl, rfl⟩
      rw [HO.out]
      go_wp2_with (go_at_call 15; refine (num_sub _ _ _).mono ?_; rintro e w2 ⟨rfl, rfl⟩; rw [HO.out])
      go_roundw
      case rel => exact ⟨2, by omega, by go_num, by first | exact hbel | exact below_drewN hbel _⟩
      case measure => simp [intOf]
    · have hc := (hbel.cell (p := ⟨w.heap.size, 2, none⟩) (by exact hS)).trans (HC.out 2 (by decide))
      obtain ⟨x, e, h⟩ := Iz.pair_eta (Iz.mulL a b)
      have HO := hide h
      clear h
      go_wp2_with fail
      refine (Mul_any _ _ _).mono ?_
      rintro e w2 ⟨rfl, rfl⟩
      rw [HO.out]
      go_wp2_with (go_at_call 15; refine (num_mul _ _ _).mono ?_; rintro e w2 ⟨rfl, rfl⟩; rw [HO.out])
      go_roundw
      case rel => exact ⟨3, by omega, by go_num, by first | exact hbel | exact below_drewN hbel _⟩
      case measure => simp [intOf]
    · have hc := (hbel.cell (p := ⟨w.heap.size, 3, none⟩) (by exact hS)).trans (HC.out 3 (by decide))
      obtain ⟨x, e, h⟩ := Iz.pair_eta (Iz.divL a b)
      have HO := hide h
      clear h
      go_wp2_with fail
      refine (Div_any _ _ _).mono ?_
      rintro e w2 ⟨rfl, rfl⟩
      rw [HO.out]
      go_wp2_with (go_at_call 15; refine (num_div _ _ _).mono ?_; rintro e w2 ⟨rfl, rfl⟩; rw [HO.out])
      go_roundw
      case rel => exact ⟨4, by omega, by go_num, by first | exact hbel | exact below_drewN hbel _⟩
      case measure => simp [intOf]
    · have hc := (hbel.cell (p := ⟨w.heap.size, 4, none⟩) (by exact hS)).trans (HC.out 4 (by decide))
      obtain ⟨x, e, h⟩ := Iz.pair_eta (Iz.remL a b)
      have HO := hide h
      clear h
      go_wp2_with fail
      refine (Rem_any _ _ _).mono ?_
      rintro e w2 ⟨rfl, rfl⟩
      rw [HO.out]
      go_wp2_with (go_at_call 15; refine (num_rem _ _ _).mono ?_; rintro e w2 ⟨rfl, rfl⟩; rw [HO.out])
      go_roundw
      case rel => exact ⟨5, by omega, by go_num, by first | exact hbel | exact below_drewN hbel _⟩
      case measure => simp [intOf]
    · have hc := (hbel.cell (p := ⟨w.heap.size, 5, none⟩) (by exact hS)).trans (HC.out 5 (by decide))
      obtain ⟨x, e, h⟩ := Iz.pair_eta (Iz.subL 0 a)
      have HO := hide h
      clear h
      go_wp2_with fail
      refine (Neg_any _ _).mono ?_
      rintro e w2 ⟨rfl, rfl⟩
      rw [HO.out]
      go_wp2_with (go_at_call 15; refine (num_neg _ _).mono ?_; rintro e w2 ⟨rfl, rfl⟩; rw [HO.out])
      go_roundw
      case rel => exact ⟨6, by omega, by go_num, by first | exact hbel | exact below_drewN hbel _⟩
      case measure => simp [intOf]
    · go_wp2_with (first
        | (go_at_call 16; refine (Fits_any _ _).mono ?_; rintro e w1 ⟨rfl, rfl⟩)
        | (go_at_call 17; refine (Fit_any _ _).mono ?_; rintro e w1 ⟨rfl, rfl⟩)
        | (go_at_call 18; refine (wakes_any _).mono ?_; rintro e w1 ⟨rfl, rfl⟩))
      go_ret
      exact ⟨rfl, HB.out.trans (hbel.mono HZ.out)⟩
end Go.Proofs.Ytihgbafemaabgaa
