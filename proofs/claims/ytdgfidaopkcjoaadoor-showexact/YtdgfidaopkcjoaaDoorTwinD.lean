/- What TwinProgram answers. -/
import Derived.Test.YtdgfidaopkcjoaaDoorTwinC
namespace Go.Proofs.YtdgfidaopkcjoaaDoor
open Go.RowKit
set_option linter.unusedVariables false
set_option linter.unusedSimpArgs false

set_option maxRecDepth 100000 in
set_option maxHeartbeats 8000000 in
theorem TwinProgram_any (cs : List Pp.XCls) (v : Value) (w : World) (h : ProgX w v cs) (hl : Pp.Light cs) :
    Calls Tryd.prog 8 #[.agg #[v]] w fun e w' => ∃ v', e = .returned (.agg #[v']) ∧ Ow.ProgO w' w.heap.size v' cs ∧ Below w.heap.size w w' := by
  have HR := hide h.1
  have HZ := hide h.2
  have HLc := hide hl.2
  have hn := hl.1
  obtain ⟨pa, pc, rfl, _⟩ := h.1.len
  obtain ⟨n, hn'⟩ : ∃ n, n = cs.length := ⟨_, rfl⟩
  have HN := hide hn'
  rw [← hn'] at HR hn ⊢
  clear h hl hn'
  obtain ⟨j0, hj, hj0, hj1, hj2⟩ := Ow.info_of Ow.i_cls
  have hx0 : (((w.alloc (.cells #[.slice pa n pc] 24)).alloc (.cells #[.slice none 0 0] 24)).alloc (.cells #[.slice none 0 0] 24)).heap[w.heap.size]? = some (.cells #[.slice pa n pc] 24 (0, 0)) :=
    (((Below.refl _ _).alloc (Nat.le_refl _) _).block w.heap.size (by simp; omega)).trans (Ow.blk_alloc2a w _ _)
  have hx1 : (((w.alloc (.cells #[.slice pa n pc] 24)).alloc (.cells #[.slice none 0 0] 24)).alloc (.cells #[.slice none 0 0] 24)).heap[w.heap.size + 1]? = some (.cells #[.slice none 0 0] 24 (0, 0)) :=
    (((Below.refl _ _).alloc (Nat.le_refl _) _).block (w.heap.size + 1) (by simp)).trans (Ow.blk_alloc2b w _ _)
  have hx2 : (((w.alloc (.cells #[.slice pa n pc] 24)).alloc (.cells #[.slice none 0 0] 24)).alloc (.cells #[.slice none 0 0] 24)).heap[w.heap.size + 2]? = some (.cells #[.slice none 0 0] 24 (0, 0)) := by
    have := heap_alloc_new ((w.alloc (.cells #[.slice pa n pc] 24)).alloc (.cells #[.slice none 0 0] 24)) (.cells #[.slice none 0 0] 24)
    simpa using this
  have HB0 := hide (Ow.bel_alloc2 w (.cells #[.slice pa n pc] 24) (.cells #[.slice none 0 0] 24) |>.alloc (by simp; omega) (.cells #[.slice none 0 0] 24))
  go_enter Tryd.func8, Tryd.ntmps8
  go_wp2_with fail
  generalize (((w.alloc (.cells #[.slice pa n pc] 24)).alloc (.cells #[.slice none 0 0] 24)).alloc (.cells #[.slice none 0 0] 24)) = w0 at *
  have hs2 : w.heap.size + 2 < w0.heap.size := Ow.lt_of_blk hx2
  have HC : Hid (∀ wx, Below (w.heap.size + 2) w0 wx → wx.heap[w.heap.size]? = some (.cells #[.slice pa n pc] 24 (0, 0)) ∧ wx.heap[w.heap.size + 1]? = some (.cells #[.slice none 0 0] 24 (0, 0))) := hide fun wx hb => ⟨(hb.block _ (by omega)).trans hx0, (hb.block _ (by omega)).trans hx1⟩
  have HX2 := hide hx2
  clear hx0 hx1 hx2
  go_loopw [4] (fun i wr => ∃ (k : Nat) (acc : List Pp.XCls) (la : Option Addr) (lc : Nat), k ≤ n ∧ i = .int .i64 k ∧ Hid (Below (w.heap.size + 2) w0 wr) ∧ Hid (wr.heap[w.heap.size + 2]? = some (.cells #[.slice la acc.length lc] 24 (0, 0))) ∧ Hid (Ow.OwnX wr w0.heap.size 48 6 (Ow.ClsO wr w0.heap.size) (.slice la acc.length lc) acc) ∧ Hid (acc = cs.take k)) (fun i _ => n - (intOf i).toNat)
  case atStart => exact ⟨0, [], none, 0, Nat.zero_le _, rfl, hide (Below.refl _ _), HX2, hide (Ow.OwnX.nil _ _ _ _ _), hide rfl⟩
  case round =>
    obtain ⟨k, acc, la, lc, hk, rfl, HBr, HTr, HO, HAc⟩ := hrel
    clear HX2
    have q0 := cell_box (HC.out wr HBr.out).1 0
    have hsr := HBr.out.size
    by_cases hlt : k < n
    · obtain ⟨x, hx⟩ : ∃ x, cs[k]? = some x := ⟨cs[k]'(by rw [← HN.out]; exact hlt), List.getElem?_eq_getElem _⟩
      obtain ⟨g1, o1, eg1, ys1, w1', hc1⟩ := Ow.row_at HR.out hx
      subst eg1
      have HBw := hide (HB0.out.trans (HBr.out.mono (by omega)))
      have HCx := hide (hc1 wr.drew (HBw.out.trans ((Below.drew (Below.refl _ _)).mono HBw.out.size)))
      have HM := hide (fun wy (hb : Below wr.heap.size wr wy) => TwinClass_any x ys1 wy (w1'.on (HBw.out.trans (hb.mono HBw.out.size))) (HLc.out x (List.mem_of_getElem? hx)))
      have HTk : Hid (acc ++ [x] = cs.take (k + 1)) := hide (by rw [HAc.out, List.take_add_one, hx]; rfl)
      have HLn : Hid (acc.length ≤ 14) := hide (by rw [HAc.out, List.length_take]; omega)
      obtain ⟨vp, vc, vk, rfl, x1, x2, x3, _⟩ := w1'
      obtain ⟨va1, vd1, rfl, _⟩ := x1.len
      obtain ⟨va2, vd2, rfl, _⟩ := x2.len
      obtain ⟨va3, vd3, rfl, _⟩ := x3.len
      have r0 := HCx.out 0 _ rfl
      have r1 := HCx.out 1 _ rfl
      have r2 := HCx.out 2 _ rfl
      have r3 := HCx.out 3 _ rfl
      have r4 := HCx.out 4 _ rfl
      have r5 := HCx.out 5 _ rfl
      rw [Nat.add_zero] at r0
      have hlt' : (k : Int) < (n : Int) := by omega
      have hn1 : (n : Int) ≤ 14 := by omega
      have HDr : Hid (Below wr.heap.size wr wr.drew) := hide (Below.drew (Below.refl _ _))
      have HT9 : Hid (∀ wy, Below wr.heap.size wr wy → wy.heap[w.heap.size + 2]? = some (.cells #[.slice la acc.length lc] 24 (0, 0))) := hide fun wy hb => (hb.block _ (Ow.lt_of_blk HTr.out)).trans HTr.out
      have t0 := cell_box HTr.out 0
      obtain ⟨ln, hln⟩ : ∃ q, q = acc.length := ⟨_, rfl⟩
      have HLN := hide hln
      rw [← hln] at t0
      clear hc1 hx x1 x2 x3 HCx HAc hln
      simp only [clsXL] at HM
      go_wp2_with fail
      go_region_law (first
        | (refine Ow.step_app rfl (.tmp 13) (.tmp 20) 22 rfl Tryd.underlying22 hj hj0 hj1 hj2 (by decide) Ow.shp_cls (by first | rfl | simp [Act.eval, Act.put]) HO1.out (by first | rfl | simp [Act.eval, Act.put]) HR1.out (by have := HLn.out; simp; omega) (by decide) hszA ?_
           intro v' w10 hown hgrow
           obtain ⟨xa, xc, hv'⟩ := hown.shape
           obtain ⟨nr, hnr⟩ : ∃ q, q = (acc ++ [x]).length := ⟨_, rfl⟩
           have HNr := hide hnr
           rw [← hnr] at hv'
           clear hnr
           subst hv'
           have hkx := Ow.kx_grown HO1.out hgrow
           have HB10 := hide (HA.out.trans ((Ow.bel_grown HO1.out hszA hgrow).mono (by omega)))
           have HO10 : Hid (Ow.OwnX w10 w0.heap.size 48 6 (Ow.ClsO w10 w0.heap.size) (.slice xa nr xc) (acc ++ [x])) := hide (hown.low (Nat.le_refl _) fun _ _ h => h.kx hkx (by decide) (by decide) (by decide) (by decide) (by decide) (by decide))
           have HT10 := hide (hkx.blk _ _ _ _ HTA.out (by decide))
           have f10 := Ow.fz_blk HT10.out 0
           have t10 := cell_box HT10.out 0
           clear hown hgrow hkx HO1 HR1 HA HTA)
        | (go_simp
           refine (HM.out _ HDr.out).mono ?_
           rintro e w9 ⟨ys', rfl, ho9, hb9⟩
           obtain ⟨wp, wc, wk, rfl, q1, q2, q3, q4⟩ := ho9
           have hMO : Ow.ClsO w9 w0.heap.size x (clsXL x wp wc wk) := Ow.ClsO.on ⟨wp, wc, wk, rfl, q1, q2, q3, q4⟩ (Below.refl _ _) (Nat.le_trans HBr.out.size HDr.out.size)
           have hB9 := HDr.out.trans (hb9.mono HDr.out.size)
           have hA : Below wr.heap.size wr (w9.alloc (.cells (clsXL x wp wc wk).toArray 48)) := hB9.trans (((Below.refl _ _).alloc (Nat.le_refl _) _).mono hB9.size)
           have HR1 : Hid (RowX (w9.alloc (.cells (clsXL x wp wc wk).toArray 48)) 6 (Ow.ClsO (w9.alloc (.cells (clsXL x wp wc wk).toArray 48)) w0.heap.size) (.slice (some ⟨w9.heap.size, 0, none⟩) 1 1) [x]) := hide (Ow.row_one (hMO.on ((Below.refl _ _).alloc (Nat.le_refl _) _) (Nat.le_refl _)))
           have HO1 : Hid (Ow.OwnX (w9.alloc (.cells (clsXL x wp wc wk).toArray 48)) w0.heap.size 48 6 (Ow.ClsO (w9.alloc (.cells (clsXL x wp wc wk).toArray 48)) w0.heap.size) (.slice la ln lc) acc) := hide (by rw [HLN.out]; exact HO.out.on hA fun _ _ h => h.on hA (Nat.le_refl _))
           have HTA := hide (HT9.out _ hA)
           have hszA := Nat.le_trans hsr hA.size
           have HA := hide (HBr.out.trans (hA.mono (by omega)))
           have t9 := cell_box (HT9.out _ hB9) 0
           rw [← HLN.out] at t9
           obtain ⟨ua1, ud1, rfl⟩ := q1.shape
           obtain ⟨ua2, ud2, rfl⟩ := q2.shape
           obtain ⟨ua3, ud3, rfl⟩ := q3.shape
           clear hMO q1 q2 q3 q4 hb9 hB9 hA HM
           simp only [clsXL] at HR1 HO1 HA HTA ⊢
           have t9a := cell_box HTA.out 0
           rw [← HLN.out] at t9a))
      all_goals
        have hP := Ow.blk_put HT10.out 0 (.slice xa nr xc)
        have hK2 : Ow.Kx 24 w10 (w10.setCell ⟨w.heap.size + 2, 0, none⟩ (.slice xa nr xc)) := Ow.Kx.set ⟨_, _, HT10.out⟩ 0 (.slice xa nr xc)
        have HBz := hide (HB10.out.trans ((Below.refl _ _).setCell (p := ⟨w.heap.size + 2, 0, none⟩) (Nat.le_refl _) (.slice xa nr xc)))
        have HTz : Hid ((w10.setCell ⟨w.heap.size + 2, 0, none⟩ (.slice xa nr xc)).heap[w.heap.size + 2]? = some (.cells #[.slice xa nr xc] 24 (0, 0))) := hide hP
        have HOz := hide (HO10.out.kx hK2 (by decide) fun _ _ h => h.kx hK2 (by decide) (by decide) (by decide) (by decide) (by decide) (by decide))
        clear hP hK2
        go_wp2_with fail
        go_roundw
        case rel =>
          refine ⟨k + 1, acc ++ [x], xa, xc, by omega, by go_num, ?_, ?_, ?_, HTk⟩
          · exact HBz
          · rw [← HNr.out]; exact HTz
          · rw [← HNr.out]; exact HOz
        case measure => simp [intOf]; omega
    · have HE : Hid (acc = cs) := hide (by rw [HAc.out, List.take_of_length_le (by rw [← HN.out]; omega)])
      have hnl : ¬ ((k : Int) < (n : Int)) := by omega
      have t0 := cell_box HTr.out 0
      have s0 := cell_box (HC.out wr HBr.out).2 0
      have f0 := Ow.fz_blk (HC.out wr HBr.out).2 0
      have hw0 : w.heap.size ≤ w0.heap.size := by omega
      have hB : Below w.heap.size w wr := HB0.out.trans (HBr.out.mono (by omega))
      have HPt := hide (hB.trans ((Below.refl _ _).setCell (p := ⟨w.heap.size + 1, 0, none⟩) (Nat.le_succ _) (.slice la acc.length lc)))
      have hK : Ow.Kx 24 wr (wr.setCell ⟨w.heap.size + 1, 0, none⟩ (.slice la acc.length lc)) := Ow.Kx.set ⟨_, _, (HC.out wr HBr.out).2⟩ 0 (.slice la acc.length lc)
      have HOz := hide ((HO.out.kx hK (by decide) fun _ _ h => h.kx hK (by decide) (by decide) (by decide) (by decide) (by decide) (by decide)).low (base' := w.heap.size) hw0 fun _ _ h => h.on (Below.refl _ _) hw0)
      clear hB hK HAc HTr HBr HC HO
      obtain ⟨m, hm⟩ : ∃ q, q = acc.length := ⟨_, rfl⟩
      have HMx := hide hm
      rw [← hm] at t0 HPt HOz
      clear hm
      go_wp2_with fail
      refine bodyPost_ret (v := .agg #[.slice la m lc]) (by simp [results, Tryd.results8, go_sem, *]) rfl ?_
      refine ⟨_, rfl, ⟨?_, HZ.out⟩, HPt.out⟩
      have := HOz.out
      rw [HE.out] at this
      exact this
end Go.Proofs.YtdgfidaopkcjoaaDoor
