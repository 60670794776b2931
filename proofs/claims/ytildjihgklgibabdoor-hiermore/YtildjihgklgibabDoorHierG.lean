/- What look, Check, Super, Under answer. -/
import Derived.Test.YtildjihgklgibabDoorHierF
namespace Go.Proofs.YtildjihgklgibabDoor
open Go.RowKit
set_option linter.unusedVariables false
set_option linter.unusedSimpArgs false
namespace Hr
def lookL (cs : List Pp.XCls) (nm : Pp.Bs) : Option Nat := if errL cs = 0 then placeL (allL cs) nm else none
def superQ (cs : List Pp.XCls) (nm : Pp.Bs) : Option Pp.Bs := match lookL cs nm with
  | none => none
  | some k => match (allL cs)[k]? with
    | none => none
    | some c => superL c
def underQ (cs : List Pp.XCls) (a b : Pp.Bs) : Prop := ∃ up i j, errL cs = 0 ∧ growL (allL cs) (allL cs) = some up ∧ placeL (allL cs) a = some i ∧ placeL (allL cs) b = some j ∧ (i = j ∨ j = 0 ∨ Far up i j)
theorem lookL_no {cs : List Pp.XCls} {nm : Pp.Bs} (h : errL cs ≠ 0) : lookL cs nm = none := by unfold lookL; rw [if_neg h]
theorem lookL_yes {cs : List Pp.XCls} {nm : Pp.Bs} (h : errL cs = 0) : lookL cs nm = placeL (allL cs) nm := by unfold lookL; rw [if_pos h]
theorem lookL_some {cs : List Pp.XCls} {nm : Pp.Bs} {k : Nat} (h : lookL cs nm = some k) : errL cs = 0 ∧ placeL (allL cs) nm = some k := by
  unfold lookL at h
  split at h
  · exact ⟨by assumption, h⟩
  · cases h
end Hr

set_option maxRecDepth 100000 in
set_option maxHeartbeats 8000000 in
theorem hCheck_any (cs : List Pp.XCls) (v : Value) (w : World) (ht : TabS w) (h : ProgX w v cs) :
    Calls Tryd.prog 10 #[.agg #[v]] w fun e w' => e = .returned (.int .i64 (Hr.errL cs)) ∧ Below w.heap.size w w' := by
  have HG := hide (fun wx (hb : Below w.heap.size w wx) => grow_any cs v w wx (ht.below hb) hb h)
  obtain ⟨pa, pc, rfl, _⟩ := h.1.len
  clear h ht
  generalize cs.length = n at *
  have HB0 := hide ((Below.refl w.heap.size w).alloc (Nat.le_refl _) (.cells #[.slice pa n pc] 24))
  go_enter Tryd.func10, Tryd.ntmps10
  go_wp2_with fail
  refine (HG.out _ HB0.out).mono ?_
  rintro e w1 ⟨⟨a1, n1, c1, a2, n2, c2, rfl, _⟩, hb1⟩
  have HB1 := hide (HB0.out.trans (hb1.mono HB0.out.size))
  clear hb1 HG HB0
  go_wp2_with fail
  go_ret
  exact ⟨rfl, HB1.out.alloc HB1.out.size _⟩

set_option maxRecDepth 100000 in
set_option maxHeartbeats 8000000 in
theorem look_any (cs : List Pp.XCls) (v : Value) (nm : Pp.Bs) (wp w : World) (ht : TabS w) (hwp : Below wp.heap.size wp w) (h : ProgX wp v cs) :
    Calls Tryd.prog 22 #[.agg #[v], .string ⟨nm.toArray⟩] w fun e w' => (∃ a1 n1 c1 a2 n2 c2, e = .returned (.tuple #[.agg #[.slice a1 n1 c1, .slice a2 n2 c2], .int .i64 (Hr.pairP (Hr.lookL cs nm)).1, .bool (Hr.pairP (Hr.lookL cs nm)).2]) ∧ (Hr.errL cs = 0 → ∃ up, Hr.TreeO wp w' cs (.slice a1 n1 c1) (.slice a2 n2 c2) up)) ∧ Below w.heap.size w w' := by
  have HG := hide (fun wx (hb : Below w.heap.size w wx) => grow_any cs v wp wx (ht.below hb) (hwp.trans (hb.mono hwp.size)) h)
  have HWP := hide hwp
  obtain ⟨pa, pc, rfl, _⟩ := h.1.len
  clear h ht hwp
  generalize cs.length = n at *
  have hx1 := hide (Ow.blk_alloc2b w (.cells #[.slice pa n pc] 24) (.cells #[.slice none 0 0, .slice none 0 0] 63))
  have HB0 := hide (Ow.bel_alloc2 w (.cells #[.slice pa n pc] 24) (.cells #[.slice none 0 0, .slice none 0 0] 63))
  go_enter Tryd.func22, Tryd.ntmps22
  go_wp2_with fail
  generalize (w.alloc (.cells #[.slice pa n pc] 24)).alloc (.cells #[.slice none 0 0, .slice none 0 0] 63) = w0 at *
  refine (HG.out _ HB0.out).mono ?_
  rintro e w1 ⟨⟨a1, n1, c1, a2, n2, c2, rfl, htr⟩, hb1⟩
  have HTR := hide htr
  have HB1 := hide hb1
  have HX := hide ((hb1.block _ (Ow.lt_of_blk hx1.out)).trans hx1.out)
  have k0 := cell_box HX.out 0
  have k1 := cell_box HX.out 1
  have f0 := Ow.fz_blk HX.out 0
  have f1 := Ow.fz_blk HX.out 1
  have HPt := hide (Hr.two_put HX.out (.slice a1 n1 c1) (.slice a2 n2 c2))
  clear htr hb1 hx1 HG
  by_cases he : Hr.errL cs = 0
  · obtain ⟨up, htr⟩ := HTR.out he
    rw [he]
    have HT2 := hide (htr.kx HPt.out.2.1)
    have HB2 := hide ((HB0.out.trans (HB1.out.mono HB0.out.size)).trans (HPt.out.2.2 w.heap.size (by omega)))
    have hl0 := HT2.out.top
    have HPl : Hid (∀ wx, Below ((w1.setCell ⟨w.heap.size + 1, 0, none⟩ (.slice a1 n1 c1)).setCell ⟨w.heap.size + 1, 1, none⟩ (.slice a2 n2 c2)).heap.size ((w1.setCell ⟨w.heap.size + 1, 0, none⟩ (.slice a1 n1 c1)).setCell ⟨w.heap.size + 1, 1, none⟩ (.slice a2 n2 c2)) wx → Calls Tryd.prog 25 #[.slice a1 n1 c1, .string ⟨nm.toArray⟩] wx fun e w' => e = .returned (.tuple #[.int .i64 (Hr.pairP (Hr.placeL (Hr.allL cs) nm)).1, .bool (Hr.pairP (Hr.placeL (Hr.allL cs) nm)).2]) ∧ Below wx.heap.size wx w') := hide fun wx hb => place_any _ _ nm wx (((HT2.out.on hb).x (HWP.out.trans ((HB2.out.trans (hb.mono HB2.out.size)).mono HWP.out.size))).all) (by unfold maxLen; omega)
    have HE := hide he
    have HLk := hide (Hr.lookL_yes (nm := nm) he)
    clear he htr HTR hl0
    go_wp2_with fail
    refine (HPl.out _ (Below.refl _ _)).mono ?_
    rintro e w5 ⟨rfl, hb5⟩
    have HB5 := hide (HB2.out.trans (hb5.mono HB2.out.size))
    have HT5 := hide (HT2.out.on hb5)
    have HX5 := hide ((hb5.block _ (Ow.lt_of_blk HPt.out.1)).trans HPt.out.1)
    have s0 := cell_box HX5.out 0
    have s1 := cell_box HX5.out 1
    have g0 := Ow.fz_blk HX5.out 0
    have g1 := Ow.fz_blk HX5.out 1
    have HPz := hide (Hr.two_put HX5.out (.slice a1 n1 c1) (.slice a2 n2 c2))
    clear hb5 k0 k1 f0 f1
    obtain ⟨lk, hlk⟩ : ∃ lk, lk = Hr.pairP (Hr.placeL (Hr.allL cs) nm) := ⟨_, rfl⟩
    have HLK := hide hlk
    rw [← hlk]
    clear hlk HPl
    go_wp2_with fail
    refine bodyPost_ret (v := .tuple #[.agg #[.slice a1 n1 c1, .slice a2 n2 c2], .int .i64 lk.1, .bool lk.2]) (by simp [results, Tryd.results22, go_sem, *]) rfl ?_
    rw [HLk.out, ← HLK.out]
    exact ⟨⟨_, _, _, _, _, _, rfl, fun _ => ⟨up, HT5.out.kx HPz.out.2.1⟩⟩, HB5.out.trans (HPz.out.2.2 w.heap.size (by omega))⟩
  · have HE := hide he
    have HLk := hide (Hr.lookL_no (nm := nm) he)
    have HPz := hide (Hr.two_put HPt.out.1 (.slice none 0 0) (.slice none 0 0))
    go_wp2_with fail
    have z0 := cell_box HPz.out.1 0
    have z1 := cell_box HPz.out.1 1
    simp only [List.size_toArray, List.length_cons, List.length_nil, Nat.zero_add, Nat.lt_add_one, getElem?_pos, List.getElem_toArray, List.getElem_cons_zero, List.getElem_cons_succ] at z0 z1
    refine bodyPost_ret (v := .tuple #[.agg #[.slice none 0 0, .slice none 0 0], .int .i64 0, .bool false]) (by simp [results, Tryd.results22, go_sem, z0, z1]) rfl ?_
    rw [HLk.out]
    exact ⟨⟨_, _, _, _, _, _, rfl, fun h => absurd h HE.out⟩, ((HB0.out.trans (HB1.out.mono HB0.out.size)).trans (HPt.out.2.2 w.heap.size (by omega))).trans (HPz.out.2.2 w.heap.size (by omega))⟩

end Go.Proofs.YtildjihgklgibabDoor
