/- What All answers. -/
import Derived.Test.YtildjihgklgibabDoorHierK
import Derived.Test.YtildjihgklgibabDoorHierH
namespace Go.Proofs.YtildjihgklgibabDoor
open Go.RowKit
set_option linter.unusedVariables false
set_option linter.unusedSimpArgs false

set_option maxRecDepth 100000 in
set_option maxHeartbeats 8000000 in
theorem All_any (cs : List Pp.XCls) (v : Value) (w : World) (h : ProgX w v cs) (hl : Pp.Light cs) :
    Calls Tryd.prog 21 #[.agg #[v]] w fun e w' => ∃ v', e = .returned v' ∧ Ow.OwnX w' w.heap.size 34 6 (Ow.ClsO w' w.heap.size) v' (Hr.allL cs) ∧ Below w.heap.size w w' := by
  have HR := hide h.1
  have HLc := hide hl.2
  have hn := hl.1
  obtain ⟨pa, pc, rfl, _⟩ := h.1.len
  obtain ⟨n, hn'⟩ : ∃ n, n = cs.length := ⟨_, rfl⟩
  have HN := hide hn'
  rw [← hn'] at HR hn ⊢
  clear h hl hn'
  obtain ⟨j0, hj, hj0, hj1, hj2⟩ := Ow.info_of Ow.i_cls
  have hx0 := hide (heap_alloc_new w (.cells #[.slice pa n pc] 24))
  have HB0 := hide ((Below.refl w.heap.size w).alloc (Nat.le_refl _) (.cells #[.slice pa n pc] 24))
  go_enter Tryd.func21, Tryd.ntmps21
  go_wp2_with fail
  generalize w.alloc (.cells #[.slice pa n pc] 24) = w0 at *
  refine (standing_any w0).mono ?_
  rintro e w1 ⟨v1, rfl, ho1, hb1⟩
  have c0 := cell_box ((hb1.block _ (Ow.lt_of_blk hx0.out)).trans hx0.out) 0
  have HB1 := hide (HB0.out.trans (hb1.mono HB0.out.size))
  have HO1 : Hid (Ow.OwnX w1 w.heap.size 34 6 (Ow.ClsO w1 w.heap.size) v1 (Hr.base ++ cs.take 0)) := hide (by
    rw [List.take_zero, List.append_nil]
    exact ho1.low HB0.out.size fun _ _ h => h.o _ _)
  clear ho1 hb1 hx0 HB0
  go_wp2_with fail
  clear c0
  go_loopw [3, 10] (fun lv i wr => ∃ (k : Nat) (acc : List Pp.XCls), k ≤ n ∧ i = .int .i64 k ∧ Hid (Below w.heap.size w wr) ∧ Hid (Ow.OwnX wr w.heap.size 34 6 (Ow.ClsO wr w.heap.size) lv acc) ∧ Hid (acc = Hr.base ++ cs.take k)) (fun lv i _ => n - (intOf i).toNat)
  case atStart => exact ⟨0, _, Nat.zero_le _, rfl, HB1, HO1, hide rfl⟩
  case round =>
    obtain ⟨k, acc, hk, rfl, HBr, HO, HAc⟩ := hrel
    clear HB1 HO1
    obtain ⟨la, lc, rfl⟩ := HO.out.shape
    by_cases hlt : k < n
    · obtain ⟨x, hx⟩ : ∃ x, cs[k]? = some x := ⟨cs[k]'(by rw [← HN.out]; exact hlt), List.getElem?_eq_getElem _⟩
      obtain ⟨g1, o1, eg1, ys1, w1', hc1⟩ := Hr.row_at HR.out hx
      subst eg1
      have HCx := hide (hc1 wr HBr.out)
      have HM := hide (fun wy (hb : Below wr.heap.size wr wy) => copyClass_any x ys1 wy (w1'.on (HBr.out.trans (hb.mono HBr.out.size))) (HLc.out x (List.mem_of_getElem? hx)))
      have HTk : Hid (acc ++ [x] = Hr.base ++ cs.take (k + 1)) := hide (by rw [HAc.out, List.take_add_one, hx, List.append_assoc]; rfl)
      have HLn : Hid (acc.length ≤ 22) := hide (by rw [HAc.out, List.length_append, List.length_take]; show 8 + _ ≤ 22; omega)
      obtain ⟨va1, vd1, va2, vd2, va3, vd3, rfl⟩ := Hr.at_c w1'
      have r0 := HCx.out 0 _ rfl
      have r1 := HCx.out 1 _ rfl
      have r2 := HCx.out 2 _ rfl
      have r3 := HCx.out 3 _ rfl
      have r4 := HCx.out 4 _ rfl
      have r5 := HCx.out 5 _ rfl
      rw [Nat.add_zero] at r0
      have hlt' : (k : Int) < (n : Int) := by omega
      have hn1 : (n : Int) ≤ 14 := by omega
      have HAl := hide ((Below.refl wr.heap.size wr).alloc (Nat.le_refl _) (.cells #[.string ⟨x.name.toArray⟩, .bool x.iface, .string ⟨x.super.toArray⟩, .slice va1 x.ifaces.length vd1, .slice va2 x.fields.length vd2, .slice va3 x.methods.length vd3] 34))
      clear hc1 HCx hx w1' HAc
      go_wp2_with fail
      refine (HM.out _ HAl.out).mono ?_
      rintro e w9 ⟨ys', rfl, ho9, hb9⟩
      obtain ⟨wp, wc, wk, rfl, q1, q2, q3, q4⟩ := ho9
      have hMO : Ow.ClsO w9 w.heap.size x (clsXL x wp wc wk) := Ow.ClsO.on ⟨wp, wc, wk, rfl, q1, q2, q3, q4⟩ (Below.refl _ _) (Nat.le_trans HBr.out.size HAl.out.size)
      have hB9 := HAl.out.trans (hb9.mono HAl.out.size)
      have hA : Below wr.heap.size wr (w9.alloc (.cells (clsXL x wp wc wk).toArray 34)) := hB9.trans (((Below.refl _ _).alloc (Nat.le_refl _) _).mono hB9.size)
      have HR1 : Hid (RowX (w9.alloc (.cells (clsXL x wp wc wk).toArray 34)) 6 (Ow.ClsO (w9.alloc (.cells (clsXL x wp wc wk).toArray 34)) w.heap.size) (.slice (some ⟨w9.heap.size, 0, none⟩) 1 1) [x]) := hide (Hr.row_one (heap_alloc_new w9 _) (hMO.on ((Below.refl _ _).alloc (Nat.le_refl _) _) (Nat.le_refl _)))
      have HO1 : Hid (Ow.OwnX (w9.alloc (.cells (clsXL x wp wc wk).toArray 34)) w.heap.size 34 6 (Ow.ClsO (w9.alloc (.cells (clsXL x wp wc wk).toArray 34)) w.heap.size) (.slice la acc.length lc) acc) := hide (HO.out.on hA fun _ _ h => h.on hA (Nat.le_refl _))
      have HA := hide (HBr.out.trans (hA.mono HBr.out.size))
      obtain ⟨ua1, ud1, rfl⟩ := q1.shape
      obtain ⟨ua2, ud2, rfl⟩ := q2.shape
      obtain ⟨ua3, ud3, rfl⟩ := q3.shape
      clear hMO q1 q2 q3 q4 hb9 hB9 hA HM r0 r1 r2 r3 r4 r5
      simp only [clsXL] at HR1 HO1 HA ⊢
      go_wp2_with (at_builtin; refine Ow.wpList_app rfl (.tmp 14) (.tmp 17) 22 rfl Tryd.underlying22 hj hj0 hj1 hj2 (by decide) Ow.shp_cls rfl HO1.out rfl HR1.out ?c1 (by decide) HA.out.size ?_)
      case c1 => have := HLn.out; simp; omega
      · intro v' w10 hown hgrow
        have hkx := Ow.kx_grown HO1.out hgrow
        have HB10 := hide (HA.out.trans (Ow.bel_grown HO1.out HA.out.size hgrow))
        have HO10 : Hid (Ow.OwnX w10 w.heap.size 34 6 (Ow.ClsO w10 w.heap.size) v' (acc ++ [x])) := hide (hown.low (Nat.le_refl _) fun _ _ h => h.kx hkx (by decide) (by decide) (by decide) (by decide) (by decide) (by decide))
        clear hown hgrow hkx HO1 HR1 HA
        go_wp2_with fail
        go_roundw
        case rel => first | exact ⟨k + 1, acc ++ [x], by omega, by go_num, HB10, HO10, HTk⟩ | ((repeat apply Exists.intro); exact ⟨⟨k + 1, acc ++ [x], by omega, by go_num, HB10, HO10, HTk⟩, rfl⟩)
        case measure => simp [intOf]; omega
    · have HE : Hid (acc = Hr.allL cs) := hide (by rw [HAc.out, List.take_of_length_le (by rw [← HN.out]; omega)]; rfl)
      have hnl : ¬ ((k : Int) < (n : Int)) := by omega
      go_wp2_with fail
      go_ret
      rw [← HE.out]
      exact ⟨_, rfl, HO.out, HBr.out⟩
end Go.Proofs.YtildjihgklgibabDoor
