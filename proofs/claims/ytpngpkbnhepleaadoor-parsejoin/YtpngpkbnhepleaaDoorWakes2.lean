/- The calls that every statement begins with. -/
import Derived.Test.YtpngpkbnhepleaaDoorWakes1
import Derived.Test.YtpngpkbnhepleaaDoorMgA
namespace Go.Proofs.YtpngpkbnhepleaaDoor
open Go.RowKit
set_option linter.unusedVariables false
set_option linter.unusedSimpArgs false

set_option maxRecDepth 100000 in
set_option maxHeartbeats 4000000 in
theorem wakes_any (w : World) (ht : TabS w) :
    Calls Tryd.prog 20 #[] w fun e w' => e = .returned (.bool true) ∧ Below w.heap.size w w' := by
  have h1 := hide (Program_lit w Pp.wake1 (27, 28) (by decide) ht)
  rw [Pp.wake1_is] at h1
  have HT := hide ht
  clear ht
  have hcs := conv_same
  have hcs2 := conv_same2
  go_enter Tryd.func20, Tryd.ntmps20
  go_wp2_with fail
  refine h1.out.mono ?_
  clear h1
  rintro e w1 ⟨v1, rfl, hp1, hb1⟩
  obtain ⟨xs, ho, vi, vf, vm, ys, hxs, ⟨_, xm, hof, _, _⟩, _⟩ := hp1
  obtain ⟨g1, cap1, rfl, _, hg1, _, hcm1, hc1⟩ := own_some ho (by decide)
  obtain ⟨g2, cap2, rfl, _, hg2, _, hcm2, hc2⟩ := own_some hof (by decide)
  have hF := hc1 4 (.slice (some ⟨g2, 0, none⟩) 1 cap2) (by rw [hxs]; rfl)
  have hK := hc2 1 (.int .i64 2) rfl
  have HT1 := hide (HT.out.below hb1)
  have HB1 := hide hb1
  clear ho hof hxs hc1 hc2 hb1 HT
  have h2 := Program_lit (w1.alloc (.cells #[.slice (some ⟨g1, 0, none⟩) 1 cap1] 26)) Pp.wake2 (29, 30) (by decide) (HT1.out.below ((Below.refl _ _).alloc (Nat.le_refl _) _))
  rw [Pp.wake2_is, show (w1.alloc (.cells #[.slice (some ⟨g1, 0, none⟩) 1 cap1] 26)).heap.size = w1.heap.size + 1 from by simp] at h2
  have h2 := hide h2
  go_wp2_with fail
  refine h2.out.mono ?_
  clear h2
  rintro e w2 ⟨v2, rfl, hp2, hb2⟩
  obtain ⟨a2, c2, rfl⟩ := hp2.shape
  have hB2 : Below w1.heap.size w1 w2 := ((Below.refl _ _).alloc (Nat.le_refl _) _).trans (hb2.mono (by simp))
  have hP : w2.cell? ⟨w1.heap.size, 0, none⟩ = some (.slice (some ⟨g1, 0, none⟩) 1 cap1) := (hb2.cell (by simp)).trans (by rw [cell_blk (heap_alloc_new w1 _)]; rfl)
  have hF2 : w2.cell? ⟨g1, 4, none⟩ = some (.slice (some ⟨g2, 0, none⟩) 1 cap2) := (hB2.cell (by exact hg1)).trans hF
  have hK2 : w2.cell? ⟨g2, 1, none⟩ = some (.int .i64 2) := (hB2.cell (by exact hg2)).trans hK
  have HT2 := hide (HT1.out.below hB2)
  have HB2 := hide (HB1.out.trans (hB2.mono HB1.out.size))
  have hs1 : w1.heap.size < w2.heap.size := by have := hb2.size; simp at this; omega
  have hs2 : g1 < w2.heap.size := by omega
  have hs3 : g2 < w2.heap.size := by omega
  clear hp2 hb2 hB2 hF hK HT1 HB1 hcs hcs2
  have hO := hide (fun w' (hb : Below w2.heap.size w2 w') => Op_any [116, 104, 114, 111, 119] w' (HT2.out.below hb))
  rw [opN, Pp.wake_op] at hO
  have hW := hide (fun w' (hb : Below w2.heap.size w2 w') => Word_in 8 (by decide) w' (HT2.out.below hb))
  rw [Pp.wake_add] at hW
  have hKp := hide (fun w' (hb : Below w2.heap.size w2 w') => Kept_any [99, 108, 97, 115, 115] w' (HT2.out.below hb))
  rw [Pp.wake_class] at hKp
  go_wp2_with fail
  refine (hO.out _ ((Below.refl _ _).alloc (Nat.le_refl _) _)).mono ?_
  rintro e w3 ⟨rfl, hw3⟩
  have hw3 := hw3.symm
  subst hw3
  clear hO
  go_wp2_with fail
  refine (hW.out _ ((Below.refl _ _).alloc (Nat.le_refl _) _)).mono ?_
  rintro e w3 ⟨rfl, hw3⟩
  have hw3 := hw3.symm
  subst hw3
  clear hW
  go_wp2_with fail
  refine (hKp.out _ ((Below.refl _ _).alloc (Nat.le_refl _) _)).mono ?_
  rintro e w3 ⟨rfl, hw3⟩
  have hw3 := hw3.symm
  subst hw3
  clear hKp
  go_wp2_with fail
  go_ret
  exact ⟨rfl, HB2.out.alloc HB2.out.size _⟩

end Go.Proofs.YtpngpkbnhepleaaDoor
