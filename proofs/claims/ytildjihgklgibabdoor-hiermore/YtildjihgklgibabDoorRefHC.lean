/- What the page's All, reach answer. -/
import Derived.Test.YtildjihgklgibabDoorRefHB
import Derived.Test.YtildjihgklgibabDoorTwinD
namespace Go.Proofs.YtildjihgklgibabDoor
open Go.RowKit
set_option linter.unusedVariables false
set_option linter.unusedSimpArgs false

theorem Hr.fld_prog (w : World) (a : Option Addr) (n c : Nat) : (Instr.field 24 (.agg #[.slice a n c]) 0).run Tryd.prog w = .ok (.slice a n c) w := by kernel_rfl
set_option maxRecDepth 100000 in
set_option maxHeartbeats 8000000 in
theorem RAll_any (cs : List Pp.XCls) (v : Value) (w : World) (h : ProgX w v cs) (hl : Pp.Light cs) :
    Calls Tryd.prog 15 #[.agg #[v]] w fun e w' => ∃ v', e = .returned v' ∧ Ow.OwnX w' w.heap.size 34 6 (Ow.ClsO w' w.heap.size) v' (Hr.allL cs) ∧ Below w.heap.size w w' := by
  obtain ⟨j0, hj, hj0, hj1, hj2⟩ := Ow.info_of Ow.i_cls
  have HT := hide (fun wx (hb : Below w.heap.size w wx) => TwinProgram_any cs v wx (h.on hb) hl)
  have hn := hl.1
  obtain ⟨pa, pc, rfl, _⟩ := h.1.len
  have HL : Hid (Hr.base.length + cs.length ≤ 1000000) := hide (by show 8 + cs.length ≤ 1000000; omega)
  obtain ⟨n, hn'⟩ : ∃ n, n = cs.length := ⟨_, rfl⟩
  have HN := hide hn'
  rw [← hn'] at HT hn ⊢
  clear h hl hn'
  have hx0 := hide (heap_alloc_new w (.cells #[.slice pa n pc] 24))
  have HB0 := hide ((Below.refl w.heap.size w).alloc (Nat.le_refl _) (.cells #[.slice pa n pc] 24))
  go_enter Tryd.func15, Tryd.ntmps15
  go_wp2_with fail
  generalize w.alloc (.cells #[.slice pa n pc] 24) = w0 at *
  have HC := hide (fun wx (hb : Below w0.heap.size w0 wx) => cell_box ((hb.block _ (Ow.lt_of_blk hx0.out)).trans hx0.out) 0)
  have HD : Hid (Below w0.heap.size w0 w0.drew) := hide (Below.drew (Below.refl _ _))
  have HW : Hid (∀ wx, Below w0.heap.size w0 wx → Below w.heap.size w wx) := hide fun wx hb => HB0.out.trans (hb.mono HB0.out.size)
  have c0 := HC.out w0 (Below.refl _ _)
  have cd := HC.out _ HD.out
  clear hx0
  have hfd := Hr.fld_prog
  go_region_law (first
    | (refine Ow.step_app rfl (.tmp 3) (.tmp 6) 22 rfl Tryd.underlying22 hj hj0 hj1 hj2 (by decide) Ow.shp_cls (by first | rfl | simp [Act.eval, Act.put]) HO1.out (by first | rfl | simp [Act.eval, Act.put]) HR1.out HL.out (by decide) (HW.out _ HB1.out).size ?_
       intro v' w9 hown hgrow
       have HB9 := hide ((HW.out _ HB1.out).trans (Ow.bel_grown HO1.out (HW.out _ HB1.out).size hgrow))
       have HO9 : Hid (Ow.OwnX w9 w.heap.size 34 6 (Ow.ClsO w9 w.heap.size) v' (Hr.allL cs)) := hide (hown.low (Nat.le_refl _) fun _ _ h => h.kx (Ow.kx_grown HO1.out hgrow) (by decide) (by decide) (by decide) (by decide) (by decide) (by decide))
       clear hown hgrow HO1 HR1)
    | (go_simp
       refine (Base_any _).mono ?_
       rintro e wb ⟨vb, rfl, hob, hbb⟩
       first
         | (have HBb := hide (HD.out.trans (hbb.mono HD.out.size))
            have HOb := hide (hob.low (base' := w.heap.size) (HW.out _ HD.out).size fun _ _ h => h)
            have cb := HC.out _ HBb.out
            clear hob hbb)
         | (have HB1 := hide (HBt.out.trans (hbb.mono HBt.out.size))
            have HO1 : Hid (Ow.OwnX wb w.heap.size 34 6 (Ow.ClsO wb w.heap.size) vb Hr.base) := hide (hob.low (HW.out _ HBt.out).size fun _ _ h => h.o _ _)
            have HR1 : Hid (RowX wb 6 (Ow.ClsO wb w.heap.size) (.slice ta cs.length tc) cs) := hide ((HPt.out.1.on hbb fun _ _ h => h.on hbb (Nat.le_refl _)).row Ow.shp_cls fun _ _ h => h)
            clear hob hbb))
    | (go_simp
       first
         | (refine (HT.out _ (HW.out _ HD.out)).mono ?_
            rintro e wt ⟨vt, rfl, hpt, hbt⟩
            obtain ⟨ta, tc, rfl⟩ := hpt.1.shape
            have HBt := hide (HD.out.trans (hbt.mono HD.out.size))
            have HPt : Hid (Ow.ProgO wt w.heap.size (.slice ta cs.length tc) cs) := hide (hpt.on (Below.refl _ _) (HW.out _ HD.out).size)
            clear hpt hbt)
         | (refine (HT.out _ (HW.out _ HBb.out)).mono ?_
            rintro e wt ⟨vt, rfl, hpt, hbt⟩
            obtain ⟨ta, tc, rfl⟩ := hpt.1.shape
            have HB1 := hide (HBb.out.trans (hbt.mono HBb.out.size))
            have HO1 : Hid (Ow.OwnX wt w.heap.size 34 6 (Ow.ClsO wt w.heap.size) vb Hr.base) := hide (HOb.out.on hbt fun _ _ h => h.o _ _)
            have HR1 : Hid (RowX wt 6 (Ow.ClsO wt w.heap.size) (.slice ta cs.length tc) cs) := hide ((hpt.on (Below.refl _ _) (HW.out _ HBb.out).size).1.row Ow.shp_cls fun _ _ h => h)
            clear hpt hbt)))
  all_goals
    go_wp2_with fail
    go_ret
    exact ⟨_, rfl, HO9.out, HB9.out⟩
end Go.Proofs.YtildjihgklgibabDoor
