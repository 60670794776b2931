/- LexBack: the walk: what is joined is scanned again. -/
import Derived.Test.YtiglcjcellhggaaDoorCompare
namespace Go.Proofs.YtiglcjcellhggaaDoor
open Go.RowKit
set_option linter.unusedVariables false
set_option linter.unusedSimpArgs false

set_option maxHeartbeats 1000000 in
theorem back_long (a : Option Addr) (n c : Nat) (hm : n ≤ maxLen) (h : 200 < n) (w : World) :
    Calls Tryd.prog 4 #[.slice a n c] w fun e w' => e = .returned (.bool true) ∧ Below w.heap.size w w' := by
  unfold maxLen at hm
  go_enter Tryd.func4, Tryd.ntmps4
  go_wp2_with fail
  go_ret
  exact ⟨rfl, Below.refl _ _⟩

set_option maxHeartbeats 1000000 in
theorem back_empty (a : Option Addr) (c : Nat) (w : World) :
    Calls Tryd.prog 4 #[.slice a 0 c] w fun e w' => e = .returned (.bool true) ∧ Below w.heap.size w w' := by
  go_enter Tryd.func4, Tryd.ntmps4
  go_wp2_with fail
  refine (Join_empty _ _ _).mono ?_
  rintro e w1 ⟨rfl, rfl⟩
  go_wp2_with fail
  refine (Scan_empty _ _ _).mono ?_
  rintro e w1 ⟨rfl, rfl⟩
  go_wp2_with fail
  refine wp_loop_rounds 1 ?_
  rw [rounds_succ]
  go_wp2_with fail
  refine (wakes_any _).mono ?_
  rintro e w3 ⟨rfl, hb3⟩
  go_wp2_with fail
  go_ret
  exact ⟨rfl, hb3⟩

set_option maxHeartbeats 4000000 in
theorem back_walk (xs : List Lx.ATok) (b1 o1 c1 : Nat) (w : World) (ht : Tab w) (hx1 : 1 ≤ xs.length) (hx2 : xs.length ≤ 200) (hc1 : xs.length ≤ c1)
    (hb1 : b1 < w.heap.size) (htx : ToksAt w b1 o1 xs) (hlx : ∀ t ∈ xs, t.text.length ≤ maxLen) :
    Calls Tryd.prog 4 #[.slice (some ⟨b1, o1, none⟩) xs.length c1] w fun e w' => e = .returned (.bool true) ∧ Below w.heap.size w w' := by
  have hj := Join_any xs b1 o1 c1 w (by omega) hc1 hb1 ht htx hlx
  have HX : Hid (ToksAt w b1 o1 xs) := htx
  clear htx hlx ht
  cases hR : Lx.joinL xs with
  | none =>
    rw [hR] at hj
    clear hR
    simp only [errOf, Option.getD_none] at hj
    go_enter Tryd.func4, Tryd.ntmps4
    go_wp2_with fail
    refine hj.mono ?_
    clear hj
    rintro e w1 ⟨v1, rfl, hown1, hB1⟩
    obtain ⟨av1, cv1, rfl⟩ := own_none hown1
    clear hown1
    go_wp2_with fail
    refine (wakes_any _).mono ?_
    rintro e w3 ⟨rfl, hb3⟩
    go_wp2_with fail
    go_ret
    exact ⟨rfl, hB1.trans (hb3.mono hB1.size)⟩
  | some bs =>
    have hlen : bs.length ≤ 4400 := by have := Lx.joinGo_len xs true [] bs hR; simp at this; omega
    have hpos := Lx.joinL_pos xs bs (fun e => by rw [e] at hx1; simp at hx1) hR
    obtain ⟨l, hl, hm⟩ := Lx.scanL_joined xs bs hR (by omega)
    rw [hR] at hj
    clear hR
    simp only [errOf, Option.getD_some] at hj
    have HM : Hid (l.map Lx.bare = xs.map Lx.bareA) := hm
    have hll := bare_len hm
    have HS : Hid (Lx.scanL bs = (l, 0, 0)) := hl
    clear hm hl
    go_enter Tryd.func4, Tryd.ntmps4
    go_wp2_with fail
    refine hj.mono ?_
    clear hj
    rintro e w1 ⟨v1, rfl, hown1, hB1⟩
    obtain ⟨g1, cv1, rfl, hg1, hg1', hnc1, hcm1, hcell1⟩ := own_some hown1 (by omega)
    have hsc := Scan_any bs g1 0 cv1 w1 (by omega) hnc1 hg1' (fun k hk => by
      rw [Nat.zero_add]; apply hcell1; simp [List.getD, hk, byteV])
    rw [HS.out] at hsc
    clear hcell1 hown1
    go_wp2_with fail
    refine hsc.mono ?_
    clear hsc
    rintro e w2 ⟨v2, rfl, hown2, hB2⟩
    have hown2' : w2.ownsRow w1.heap.size 25 4 v2 l.length (toksCells l) := hown2
    clear hown2
    obtain ⟨g2, cv2, rfl, hg2, hg2', hnc2, hcm2, _⟩ := own_some hown2' (by omega)
    have hBB : Below w.heap.size w w2 := hB1.trans (hB2.mono hB1.size)
    have hs1 := hBB.size
    have HX2 : Hid (ToksAt w2 b1 o1 xs) := HX.out.on hBB hb1
    have HO2 : Hid (w2.ownsRow w1.heap.size 25 4 (.slice (some ⟨g2, 0, none⟩) l.length cv2) l.length (toksCells l)) := hown2'
    clear hown2' hB1 hB2
    have hne : ((l.length : Int) != (xs.length : Int)) = false := by rw [hll]; simp
    go_wp2_with fail
    go_loopw [8] (fun i wr => ∃ k : Nat, k ≤ xs.length ∧ i = .int .i64 k ∧ Below w2.heap.size w2 wr) (fun i _ => xs.length - (intOf i).toNat)
    case atStart => exact ⟨0, Nat.zero_le _, rfl, Below.refl _ _⟩
    case round =>
      obtain ⟨k, hk, rfl, hbel⟩ := hrel
      by_cases hlt : k < xs.length
      · obtain ⟨q, s, n, d1, d2, d3, d4, d5, d6⟩ := both_cells HM.out HO2.out hg2' (by omega) HX2.out hbel k hlt
        have hlt' : (k : Int) < (xs.length : Int) := by omega
        have hlt2 : (k : Int) < (l.length : Int) := by omega
        go_wp2_with fail
        go_quiet (fail)
        go_wp2_with fail
        go_roundw
        case rel => exact ⟨k + 1, by omega, by go_num, by first | exact hbel | exact below_drewN hbel _⟩
        case measure => simp [intOf]; omega
      · go_wp2_with fail
        refine (wakes_any _).mono ?_
        rintro e w3 ⟨rfl, hb3⟩
        go_wp2_with fail
        go_ret
        have h9 := hBB.trans (hbel.mono hs1)
        exact ⟨rfl, h9.trans (hb3.mono h9.size)⟩

end Go.Proofs.YtiglcjcellhggaaDoor
