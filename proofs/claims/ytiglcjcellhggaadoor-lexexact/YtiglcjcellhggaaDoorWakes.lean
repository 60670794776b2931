/- The three words that every statement begins with. -/
import Derived.Test.YtiglcjcellhggaaDoorScan
import Derived.Lib.SlBytesConst
namespace Go.Proofs.YtiglcjcellhggaaDoor
open Go.RowKit
set_option linter.unusedVariables false
set_option linter.unusedSimpArgs false

theorem own_some {w : World} {base e size : Nat} {v : Value} {n : Nat} {xs : List Value} (h : w.ownsRow base e size v n xs) (hn : 0 < n) :
    ∃ g cap, v = .slice (some ⟨g, 0, none⟩) n cap ∧ base ≤ g ∧ g < w.heap.size ∧ n ≤ cap ∧ cap ≤ maxLen ∧ ∀ j u, xs[j]? = some u → w.cell? ⟨g, j, none⟩ = some u := by
  have hx := h
  rcases h.2 with ⟨_, h0⟩ | ⟨g, cap, cur, rfl, hb, hg, hnc, hcm, _, _⟩
  · omega
  · refine ⟨g, cap, rfl, hb, (Array.getElem?_eq_some_iff.1 hg).1, hnc, hcm, fun j u hj => ?_⟩
    have hl : j < xs.length := by
      rcases Nat.lt_or_ge j xs.length with h | h
      · exact h
      · rw [List.getElem?_eq_none h] at hj; cases hj
    rw [hx.cellAt j (by rw [← hx.1]; exact hl)]
    exact hj
theorem own_none {w : World} {base e size : Nat} {v : Value} {xs : List Value} (h : w.ownsRow base e size v 0 xs) : ∃ a cap, v = .slice a 0 cap := by
  rcases h.2 with ⟨rfl, _⟩ | ⟨g, cap, cur, rfl, _⟩
  · exact ⟨none, 0, rfl⟩
  · exact ⟨_, cap, rfl⟩

theorem scan_wake1 : Lx.scanL [97, 45, 49, 32, 123] = ([⟨1, [97], 0, 0⟩, ⟨2, [], -1, 1⟩, ⟨3, [123], 0, 4⟩], 0, 0) := by kernel_rfl
theorem scan_wake2 : Lx.scanL [97, 32, 48, 49] = ([], 2, 3) := by kernel_rfl
theorem name_wake1 : Lx.nameL (⟨#[95, 97, 49]⟩ : ByteArray).data.toList = true := by kernel_rfl
theorem name_wake2 : Lx.nameL (⟨#[49, 97]⟩ : ByteArray).data.toList = false := by kernel_rfl

theorem conv_same (w : World) (C : Array Value) (n c : Nat) : (convert 22 22 (.slice (some ⟨w.heap.size, 0, none⟩) n c)).run Tryd.prog (w.alloc (.cells C 5)) = .ok (.slice (some ⟨w.heap.size, 0, none⟩) n c) (w.alloc (.cells C 5 (C.size, C.size + 1))) :=
  Lib.run_convert_bytes_const w 22 5 C n c (by kernel_rfl) (by kernel_rfl)

theorem cell_marked (w : World) (C : Array Value) (e : TypeId) (fz : Nat × Nat) (k : Nat) : (w.alloc (.cells C e fz)).cell? ⟨w.heap.size, k, none⟩ = C[k]? :=
  cell_of_row _ w.heap.size k C e fz (heap_alloc_new w _)

set_option maxHeartbeats 1000000 in
theorem wakes_any (w : World) :
    Calls Tryd.prog 18 #[] w fun e w' => e = .returned (.bool true) ∧ Below w.heap.size w w' := by
  go_enter Tryd.func18, Tryd.ntmps18
  have hcs := conv_same
  go_wp2_with fail
  have hc1 : ∀ k, k < ([97, 45, 49, 32, 123] : List UInt8).length → (w.alloc (.cells #[.int .u8 97, .int .u8 45, .int .u8 49, .int .u8 32, .int .u8 123] 5 (5, 6))).cell? ⟨w.heap.size, 0 + k, none⟩ = some (.int .u8 ((([97, 45, 49, 32, 123] : List UInt8).getD k 0).toNat : Int)) := by
    intro k hk
    match k, hk with
    | 0, _ => rw [cell_marked]; rfl
    | 1, _ => rw [cell_marked]; rfl
    | 2, _ => rw [cell_marked]; rfl
    | 3, _ => rw [cell_marked]; rfl
    | 4, _ => rw [cell_marked]; rfl
  have h1 := Scan_any [97, 45, 49, 32, 123] w.heap.size 0 5 _ (by decide) (by decide) (by simp) hc1
  rw [scan_wake1] at h1
  clear hc1
  refine h1.mono ?_
  clear h1
  rintro e w1 ⟨v1, rfl, hown1, hb1⟩
  obtain ⟨g1, cap1, rfl, hg1, hg1', _, _, hc1⟩ := own_some hown1 (by decide)
  have hN := hc1 6 _ rfl
  have hA := hc1 11 _ rfl
  have hB1 : Below w.heap.size w w1 := ((Below.refl _ _).alloc (Nat.le_refl _) _).trans (hb1.mono (by simp))
  clear hc1 hown1 hb1 hg1
  go_wp2_with fail
  have hc2 : ∀ k, k < ([97, 32, 48, 49] : List UInt8).length → (w1.alloc (.cells #[.int .u8 97, .int .u8 32, .int .u8 48, .int .u8 49] 5 (4, 5))).cell? ⟨w1.heap.size, 0 + k, none⟩ = some (.int .u8 ((([97, 32, 48, 49] : List UInt8).getD k 0).toNat : Int)) := by
    intro k hk
    match k, hk with
    | 0, _ => rw [cell_marked]; rfl
    | 1, _ => rw [cell_marked]; rfl
    | 2, _ => rw [cell_marked]; rfl
    | 3, _ => rw [cell_marked]; rfl
  have h2 := Scan_any [97, 32, 48, 49] w1.heap.size 0 4 _ (by decide) (by decide) (by simp) hc2
  rw [scan_wake2] at h2
  clear hc2
  refine h2.mono ?_
  clear h2
  rintro e w2 ⟨v2, rfl, hown2, hb2⟩
  obtain ⟨a2, cap2, rfl⟩ := own_none hown2
  have hN2 : w2.cell? ⟨g1, 6, none⟩ = some (.int .i64 (-1)) := by
    rw [hb2.cell (by simp; omega), Lib.cell?_alloc_marked _ hN]
  have hA2 : w2.cell? ⟨g1, 11, none⟩ = some (.int .i64 4) := by
    rw [hb2.cell (by simp; omega), Lib.cell?_alloc_marked _ hA]; rfl
  have hB2 : Below w.heap.size w w2 := (hB1.alloc hB1.size _).trans (hb2.mono (by have := hB1.size; simp; omega))
  clear hown2 hb2 hN hA hB1 hg1' hcs
  go_wp2_with (go_at_call 14; refine (Name_any _ (by decide) _).mono ?_; rintro e w' ⟨rfl, rfl⟩; first | rw [name_wake1] | rw [name_wake2])
  go_ret
  exact ⟨rfl, hB2⟩

end Go.Proofs.YtiglcjcellhggaaDoor
