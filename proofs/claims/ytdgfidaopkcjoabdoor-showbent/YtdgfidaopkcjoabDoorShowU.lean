/- What the closed look answers. -/
import Derived.Test.YtdgfidaopkcjoabDoorShowT
import Derived.Lib.SlBytesRow
namespace Go.Proofs.YtdgfidaopkcjoabDoor
open Go.RowKit
set_option linter.unusedVariables false
set_option linter.unusedSimpArgs false

namespace Sh
theorem prog_one (w : World) (g : Nat) (n : Pp.Bs) (hn : n.length ≤ maxLen) (hg : w.heap[g]? = some (.cells #[.string ⟨n.toArray⟩, .bool false, .string ⟨#[]⟩, .slice none 0 0, .slice none 0 0, .slice none 0 0] 32 (0, 0))) : ProgX w (.slice (some ⟨g, 0, none⟩) 1 1) [⟨n, false, [], [], [], []⟩] := by
  refine ⟨⟨some ⟨g, 0, none⟩, 1, rfl, by simp, .inr ⟨g, 0, rfl, lt_of_blk hg, fun k x hx => ?_⟩⟩, by unfold maxLen; simp⟩
  have hk : k = 0 := by
    cases k with
    | zero => rfl
    | succ k => simp at hx
  subst hk
  simp at hx
  subst hx
  have hz : (0 : Nat) ≤ maxLen := Nat.zero_le _
  refine ⟨_, ⟨.slice none 0 0, .slice none 0 0, .slice none 0 0, rfl, ⟨none, 0, rfl, Nat.le_refl _, .inl rfl⟩, ⟨none, 0, rfl, Nat.le_refl _, .inl rfl⟩, ⟨none, 0, rfl, Nat.le_refl _, .inl rfl⟩, hn, hz, hz, hz, hz⟩, fun j u hj => ?_⟩
  rw [show 0 + 0 * 6 + j = j by omega, cell_box hg]
  simpa [clsXL] using hj
/-- Bytes of a row as a string. -/
theorem bytes_of {B : Nat} {w : World} {l : List UInt8} {rv : Value} (h : w.ownsRow B 5 1 rv l.length (l.map byV)) (h0 : l ≠ []) : ∃ g c, rv = .slice (some ⟨g, 0, none⟩) l.length c ∧ Lib.Bytes w g 0 ⟨l.toArray⟩ := by
  rcases h.2 with ⟨rfl, e⟩ | ⟨g, cap, cur, rfl, hb, hg, r1, r2, r3, r4⟩
  · exact absurd (List.length_eq_zero_iff.1 e) h0
  · refine ⟨g, cap, rfl, fun i hi => ?_⟩
    have hi' : i < l.length := by simpa [ByteArray.size] using hi
    rw [Nat.zero_add, cell_box hg]
    have h5 := congrArg (fun x : List Value => x[i]?) r4
    simp only [List.getElem?_map, List.getElem?_take] at h5
    rw [if_pos (by omega)] at h5
    rw [List.getElem?_eq_getElem hi'] at h5
    simp only [Option.map_some, Array.getElem?_toList] at h5
    rw [h5]
    rfl
end Sh

set_option maxRecDepth 100000 in
set_option maxHeartbeats 4000000 in
theorem wakes_any (w : World) (ht : TabS w) (hp : Tab w) (hg : 3 < w.heap.size ∧ 2 < w.heap.size ∧ 0 < w.heap.size) :
    Calls Tryd.prog 8 #[] w fun e w' => e = .returned (.bool true) ∧ Below w.heap.size w w' := by
  have HT : Hid (Sh.Tabs w.heap.size w) := hide ⟨ht, hp, hg⟩
  clear ht hp hg
  have HTx : Hid (∀ w', Below w.heap.size w w' → ∀ g, w'.heap[g]? = some (.cells #[.string ⟨#[65]⟩, .bool false, .string ⟨#[]⟩, .slice none 0 0, .slice none 0 0, .slice none 0 0] 32 (0, 0)) → Calls Tryd.prog 9 #[.agg #[.slice (some ⟨g, 0, none⟩) 1 1]] w' fun e w'' => (∃ g2 c2, e = .returned (.tuple #[.slice (some ⟨g2, 0, none⟩) 12 c2, .int .i64 0]) ∧ Lib.Bytes w'' g2 0 ⟨#[99, 108, 97, 115, 115, 32, 65, 32, 123, 10, 125, 10]⟩) ∧ Below w'.heap.size w' w'') := hide fun w' hb g hg => by
    have ht := HT.out.on hb
    refine (Text_any [⟨[65], false, [], [], [], []⟩] _ w' ht.ws ht.pw (by have := ht.hB; have := hb.size; omega) (Sh.prog_one w' g [65] (by unfold maxLen; simp) hg)).mono ?_
    rintro e w'' ⟨⟨rv, rfl, h1⟩, h2⟩
    have e1 : Pp.progB [⟨[65], false, [], [], [], []⟩] = true := by decide +kernel
    have e2 : Pp.textX [⟨[65], false, [], [], [], []⟩] = [99, 108, 97, 115, 115, 32, 65, 32, 123, 10, 125, 10] := by decide +kernel
    rw [e1, e2] at h1
    rw [if_pos (by decide)] at h1
    obtain ⟨g2, c2, rfl, h3⟩ := Sh.bytes_of h1 (by decide)
    refine ⟨⟨g2, c2, ?_, h3⟩, h2⟩
    rw [e1, e2]; rfl
  have HTy : Hid (∀ w', Below w.heap.size w w' → Calls Tryd.prog 15 #[.agg #[.int .i64 5, .string ⟨#[65]⟩]] w' fun e w'' => e = .returned (.tuple #[.string ⟨#[65, 91, 93]⟩, .int .i64 0]) ∧ Below w'.heap.size w' w'') := hide fun w' hb => by
    have h := Type_any ⟨5, [65]⟩ (by unfold maxLen; simp) w' (HT.out.on hb).ws
    have e1 : Pp.typeB ⟨5, [65]⟩ = true := by decide +kernel
    have e2 : Pp.typeT ⟨5, [65]⟩ = [65, 91, 93] := by decide +kernel
    rw [e1, e2] at h
    exact h
  have HCk : Hid (∀ w', Below w.heap.size w w' → ∀ g, w'.heap[g]? = some (.cells #[.string ⟨#[]⟩, .bool false, .string ⟨#[]⟩, .slice none 0 0, .slice none 0 0, .slice none 0 0] 32 (0, 0)) → Calls Tryd.prog 10 #[.agg #[.slice (some ⟨g, 0, none⟩) 1 1]] w' fun e w'' => e = .returned (.int .i64 4) ∧ Below w'.heap.size w' w'') := hide fun w' hb g hg => by
    have h := Check_any [⟨[], false, [], [], [], []⟩] _ w' (HT.out.on hb).ws (Sh.prog_one w' g [] (by unfold maxLen; simp) hg)
    have e1 : Pp.progB [⟨[], false, [], [], [], []⟩] = false := by decide +kernel
    rw [e1] at h
    exact h
  clear HT
  go_enter Tryd.func8, Tryd.ntmps8
  go_wp2_with fail
  refine (HTx.out _ ((Below.refl _ _).alloc (Nat.le_refl _) _) _ (heap_alloc_new w _)).mono ?_
  rintro e w1 ⟨⟨g2, c2, rfl, hby⟩, hb1⟩
  have HB1 := hide (((Below.refl _ _).alloc (Nat.le_refl _) _).trans (hb1.mono (by simp)))
  have HBY := hide hby
  clear hb1 hby HTx
  go_wp2_with fail
  refine (HTy.out _ HB1.out).mono ?_
  rintro e w2 ⟨rfl, hb2⟩
  have HB2 := hide (HB1.out.trans (hb2.mono HB1.out.size))
  have hg2 : g2 < w1.heap.size := World.block_lt_of_cell? w1 _ (HBY.out 0 (by decide))
  have hby2 : Lib.Bytes w2 g2 0 ⟨#[99, 108, 97, 115, 115, 32, 65, 32, 123, 10, 125, 10]⟩ := fun i hi => (hb2.cell (by exact hg2)).trans (HBY.out i hi)
  have hcv : (convert 46 9 (.slice (some ⟨g2, 0, none⟩) 12 c2)).run Tryd.prog w2 = .ok (.string ⟨#[99, 108, 97, 115, 115, 32, 65, 32, 123, 10, 125, 10]⟩) w2 := Lib.run_convert_whole w2 46 5 9 Tryd.underlying46 Tryd.underlying5 Tryd.underlying9 g2 0 _ hby2 c2
  clear hb2 HBY hg2 hby2 HTy HB1
  go_wp2_with fail
  refine (HCk.out _ (HB2.out.alloc HB2.out.size _) _ (heap_alloc_new w2 _)).mono ?_
  rintro e w3 ⟨rfl, hb3⟩
  have hA := HB2.out.alloc HB2.out.size (.cells #[.string ⟨#[]⟩, .bool false, .string ⟨#[]⟩, .slice none 0 0, .slice none 0 0, .slice none 0 0] 32)
  have HB3 := hide (hA.trans (hb3.mono hA.size))
  clear hb3 hA HCk HB2 hcv
  go_wp2_with fail
  go_ret
  exact ⟨rfl, HB3.out⟩

end Go.Proofs.YtdgfidaopkcjoabDoor
