/- What the laws of this seat lean on: 8 texts. -/
import Derived.Test.YtjlappamkfjlkaaGreatDoorPkAf
import Derived.Test.YtjlappamkfjlkaaGreatDoorPkAo
import Derived.Maps.AppendAt
import Derived.Test.YtjlappamkfjlkaaGreatDoorPkAa
import Derived.Test.YtjlappamkfjlkaaGreatDoorPkAi
set_option maxRecDepth 100000
set_option maxHeartbeats 64000000
set_option linter.unusedVariables false
set_option linter.unusedSimpArgs false
namespace Go.Proofs.YtjlappamkfjlkaaGreatDoor
open Go.RowKit
theorem TwinProgram_any (cs : List Pp.XCls) (v : Value) (w : World) (h : ProgX w v cs) (hl : Pp.Light cs) :
 Calls Tryz.prog 10 #[.agg #[v]] w fun e w' => ∃ v', e = .returned (.agg #[v']) /\ Ow.ProgO w' w.heap.size v' cs /\ Below w.heap.size w w' := by
 have HR := hide h.1; have HZ := hide h.2; have HLc := hide hl.2; have hn := hl.1; obtain ⟨pa, pc, rfl, _⟩ := h.1.len; obtain ⟨n, hn'⟩ : ∃ n, n = cs.length := ⟨_, rfl⟩; have HN := hide hn'; rw [<- hn'] at HR hn ⊢; clear h hl hn'; obtain ⟨j0, hj, hj0, hj1, hj2⟩ := Ow.info_of Ow.i_cls
 have hx0 : (((w.alloc (.cells #[.slice pa n pc] 24)).alloc (.cells #[.slice none 0 0] 24)).alloc (.cells #[.slice none 0 0] 24)).heap[w.heap.size]? = some (.cells #[.slice pa n pc] 24 (0, 0)) :=
  (((Below.refl _ _).alloc (Nat.le_refl _) _).block w.heap.size (by simp; omega)).trans (Ow.blk_alloc2a w _ _)
 have hx1 : (((w.alloc (.cells #[.slice pa n pc] 24)).alloc (.cells #[.slice none 0 0] 24)).alloc (.cells #[.slice none 0 0] 24)).heap[w.heap.size + 1]? = some (.cells #[.slice none 0 0] 24 (0, 0)) :=
  (((Below.refl _ _).alloc (Nat.le_refl _) _).block (w.heap.size + 1) (by simp)).trans (Ow.blk_alloc2b w _ _)
 have hx2 : (((w.alloc (.cells #[.slice pa n pc] 24)).alloc (.cells #[.slice none 0 0] 24)).alloc (.cells #[.slice none 0 0] 24)).heap[w.heap.size + 2]? = some (.cells #[.slice none 0 0] 24 (0, 0)) := by
  have := heap_alloc_new ((w.alloc (.cells #[.slice pa n pc] 24)).alloc (.cells #[.slice none 0 0] 24)) (.cells #[.slice none 0 0] 24)
  simpa using this
 have HB0 := hide (Ow.bel_alloc2 w (.cells #[.slice pa n pc] 24) (.cells #[.slice none 0 0] 24) |>.alloc (by simp; omega) (.cells #[.slice none 0 0] 24))
 go_enter Tryz.func10, Tryz.ntmps10; go_wp2_with fail; generalize (((w.alloc (.cells #[.slice pa n pc] 24)).alloc (.cells #[.slice none 0 0] 24)).alloc (.cells #[.slice none 0 0] 24)) = w0 at *
 have hs2 : w.heap.size + 2 < w0.heap.size := Ow.lt_of_blk hx2; have HC : Hid (∀ wx, Below (w.heap.size + 2) w0 wx -> wx.heap[w.heap.size]? = some (.cells #[.slice pa n pc] 24 (0, 0)) /\ wx.heap[w.heap.size + 1]? = some (.cells #[.slice none 0 0] 24 (0, 0))) := hide fun wx hb => ⟨(hb.block _ (by omega)).trans hx0, (hb.block _ (by omega)).trans hx1⟩
 have HX2 := hide hx2; clear hx0 hx1 hx2
 go_loopw [4] (fun i wr => ∃ (k : Nat) (acc : List Pp.XCls) (la : Option Addr) (lc : Nat), k <= n /\ i = .int .i64 k /\ Hid (Below (w.heap.size + 2) w0 wr) /\ Hid (wr.heap[w.heap.size + 2]? = some (.cells #[.slice la acc.length lc] 24 (0, 0))) /\ Hid (Ow.OwnX wr w0.heap.size 59 6 (Ow.ClsO wr w0.heap.size) (.slice la acc.length lc) acc) /\ Hid (acc = cs.take k)) (fun i _ => n - (intOf i).toNat)
 case atStart => exact ⟨0, [], none, 0, Nat.zero_le _, rfl, hide (Below.refl _ _), HX2, hide (Ow.OwnX.nil _ _ _ _ _), hide rfl⟩
 case round =>
  obtain ⟨k, acc, la, lc, hk, rfl, HBr, HTr, HO, HAc⟩ := hrel; clear HX2; have q0 := cell_box (HC.out wr HBr.out).1 0; have hsr := HBr.out.size; by_cases hlt : k < n
  · obtain ⟨x, hx⟩ : ∃ x, cs[k]? = some x := ⟨cs[k]'(by rw [<- HN.out]; exact hlt), List.getElem?_eq_getElem _⟩
    obtain ⟨g1, o1, eg1, ys1, w1', hc1⟩ := Ow.row_at HR.out hx; subst eg1; have HBw := hide (HB0.out.trans (HBr.out.mono (by omega)))
    have HCx := hide (hc1 wr.drew (HBw.out.trans ((Below.drew (Below.refl _ _)).mono HBw.out.size))); have HM := hide (fun wy (hb : Below wr.heap.size wr wy) => TwinClass_any x ys1 wy (w1'.on (HBw.out.trans (hb.mono HBw.out.size))) (HLc.out x (List.mem_of_getElem? hx))); have HTk : Hid (acc ++ [x] = cs.take (k + 1)) := hide (by rw [HAc.out, List.take_add_one, hx]; rfl)
    have HLn : Hid (acc.length <= 14) := hide (by rw [HAc.out, List.length_take]; omega)
    obtain ⟨vp, vc, vk, rfl, x1, x2, x3, _⟩ := w1'; obtain ⟨va1, vd1, rfl, _⟩ := x1.len; obtain ⟨va2, vd2, rfl, _⟩ := x2.len; obtain ⟨va3, vd3, rfl, _⟩ := x3.len; have r0 := HCx.out 0 _ rfl; have r1 := HCx.out 1 _ rfl; have r2 := HCx.out 2 _ rfl; have r3 := HCx.out 3 _ rfl; have r4 := HCx.out 4 _ rfl; have r5 := HCx.out 5 _ rfl; rw [Nat.add_zero] at r0; have hlt' : (k : Int) < (n : Int) := by omega
    have hn1 : (n : Int) <= 14 := by omega
    have HDr : Hid (Below wr.heap.size wr wr.drew) := hide (Below.drew (Below.refl _ _)); have HT9 : Hid (∀ wy, Below wr.heap.size wr wy -> wy.heap[w.heap.size + 2]? = some (.cells #[.slice la acc.length lc] 24 (0, 0))) := hide fun wy hb => (hb.block _ (Ow.lt_of_blk HTr.out)).trans HTr.out; have t0 := cell_box HTr.out 0; obtain ⟨ln, hln⟩ : ∃ q, q = acc.length := ⟨_, rfl⟩; have HLN := hide hln; rw [<- hln] at t0; clear hc1 hx x1 x2 x3 HCx HAc hln; simp only [clsXL] at HM; go_wp2_with fail
    go_region_law (first
     | (refine Ow.step_app rfl (.tmp 13) (.tmp 20) 22 rfl Tryz.underlying22 hj hj0 hj1 hj2 (by decide) Ow.shp_cls (by first | rfl | simp [Act.eval, Act.put]) HO1.out (by first | rfl | simp [Act.eval, Act.put]) HR1.out (by have := HLn.out; simp; omega) (by decide) hszA ?_
        intro v' w10 hown hgrow; obtain ⟨xa, xc, hv'⟩ := hown.shape; obtain ⟨nr, hnr⟩ : ∃ q, q = (acc ++ [x]).length := ⟨_, rfl⟩; have HNr := hide hnr; rw [<- hnr] at hv'; clear hnr; subst hv'; have hkx := Ow.kx_grown HO1.out hgrow; have HB10 := hide (HA.out.trans ((Ow.bel_grown HO1.out hszA hgrow).mono (by omega)))
        have HO10 : Hid (Ow.OwnX w10 w0.heap.size 59 6 (Ow.ClsO w10 w0.heap.size) (.slice xa nr xc) (acc ++ [x])) := hide (hown.low (Nat.le_refl _) fun _ _ h => h.kx hkx (by decide) (by decide) (by decide) (by decide) (by decide) (by decide))
        have HT10 := hide (hkx.blk _ _ _ _ HTA.out (by decide))
        have f10 := Ow.fz_blk HT10.out 0; have t10 := cell_box HT10.out 0
        clear hown hgrow hkx HO1 HR1 HA HTA)
     | (go_simp
        refine (HM.out _ HDr.out).mono ?_; rintro e w9 ⟨ys', rfl, ho9, hb9⟩; obtain ⟨wp, wc, wk, rfl, q1, q2, q3, q4⟩ := ho9; have hMO : Ow.ClsO w9 w0.heap.size x (clsXL x wp wc wk) := Ow.ClsO.on ⟨wp, wc, wk, rfl, q1, q2, q3, q4⟩ (Below.refl _ _) (Nat.le_trans HBr.out.size HDr.out.size); have hB9 := HDr.out.trans (hb9.mono HDr.out.size); have hA : Below wr.heap.size wr (w9.alloc (.cells (clsXL x wp wc wk).toArray 59)) := hB9.trans (((Below.refl _ _).alloc (Nat.le_refl _) _).mono hB9.size); have HR1 : Hid (RowX (w9.alloc (.cells (clsXL x wp wc wk).toArray 59)) 6 (Ow.ClsO (w9.alloc (.cells (clsXL x wp wc wk).toArray 59)) w0.heap.size) (.slice (some ⟨w9.heap.size, 0, none⟩) 1 1) [x]) := hide (Ow.row_one (hMO.on ((Below.refl _ _).alloc (Nat.le_refl _) _) (Nat.le_refl _))); have HO1 : Hid (Ow.OwnX (w9.alloc (.cells (clsXL x wp wc wk).toArray 59)) w0.heap.size 59 6 (Ow.ClsO (w9.alloc (.cells (clsXL x wp wc wk).toArray 59)) w0.heap.size) (.slice la ln lc) acc) := hide (by rw [HLN.out]; exact HO.out.on hA fun _ _ h => h.on hA (Nat.le_refl _))
        have HTA := hide (HT9.out _ hA); have hszA := Nat.le_trans hsr hA.size; have HA := hide (HBr.out.trans (hA.mono (by omega)))
        have t9 := cell_box (HT9.out _ hB9) 0; rw [<- HLN.out] at t9; obtain ⟨ua1, ud1, rfl⟩ := q1.shape; obtain ⟨ua2, ud2, rfl⟩ := q2.shape; obtain ⟨ua3, ud3, rfl⟩ := q3.shape; clear hMO q1 q2 q3 q4 hb9 hB9 hA HM; simp only [clsXL] at HR1 HO1 HA HTA ⊢; have t9a := cell_box HTA.out 0
        rw [<- HLN.out] at t9a))
    all_goals
     have hP := Ow.blk_put HT10.out 0 (.slice xa nr xc); have hK2 : Ow.Kx 24 w10 (w10.setCell ⟨w.heap.size + 2, 0, none⟩ (.slice xa nr xc)) := Ow.Kx.set ⟨_, _, HT10.out⟩ 0 (.slice xa nr xc); have HBz := hide (HB10.out.trans ((Below.refl _ _).setCell (p := ⟨w.heap.size + 2, 0, none⟩) (Nat.le_refl _) (.slice xa nr xc))); have HTz : Hid ((w10.setCell ⟨w.heap.size + 2, 0, none⟩ (.slice xa nr xc)).heap[w.heap.size + 2]? = some (.cells #[.slice xa nr xc] 24 (0, 0))) := hide hP; have HOz := hide (HO10.out.kx hK2 (by decide) fun _ _ h => h.kx hK2 (by decide) (by decide) (by decide) (by decide) (by decide) (by decide))
     clear hP hK2; go_wp2_with fail
     go_roundw
     case rel =>
      refine ⟨k + 1, acc ++ [x], xa, xc, by omega, by go_num, ?_, ?_, ?_, HTk⟩
      · exact HBz
      · rw [<- HNr.out]; exact HTz
      · rw [<- HNr.out]; exact HOz
     case measure => simp [intOf]; omega
  · have HE : Hid (acc = cs) := hide (by rw [HAc.out, List.take_of_length_le (by rw [<- HN.out]; omega)])
    have hnl : ¬ ((k : Int) < (n : Int)) := by omega
    have t0 := cell_box HTr.out 0; have s0 := cell_box (HC.out wr HBr.out).2 0; have f0 := Ow.fz_blk (HC.out wr HBr.out).2 0; have hw0 : w.heap.size <= w0.heap.size := by omega
    have hB : Below w.heap.size w wr := HB0.out.trans (HBr.out.mono (by omega))
    have HPt := hide (hB.trans ((Below.refl _ _).setCell (p := ⟨w.heap.size + 1, 0, none⟩) (Nat.le_succ _) (.slice la acc.length lc))); have hK : Ow.Kx 24 wr (wr.setCell ⟨w.heap.size + 1, 0, none⟩ (.slice la acc.length lc)) := Ow.Kx.set ⟨_, _, (HC.out wr HBr.out).2⟩ 0 (.slice la acc.length lc); have HOz := hide ((HO.out.kx hK (by decide) fun _ _ h => h.kx hK (by decide) (by decide) (by decide) (by decide) (by decide) (by decide)).low (base' := w.heap.size) hw0 fun _ _ h => h.on (Below.refl _ _) hw0)
    clear hB hK HAc HTr HBr HC HO; obtain ⟨m, hm⟩ : ∃ q, q = acc.length := ⟨_, rfl⟩; have HMx := hide hm; rw [<- hm] at t0 HPt HOz; clear hm; go_wp2_with fail; refine bodyPost_ret (v := .agg #[.slice la m lc]) (by simp [results, Tryz.results10, go_sem, *]) rfl ?_
    refine ⟨_, rfl, ⟨?_, HZ.out⟩, HPt.out⟩; have := HOz.out; rw [HE.out] at this; exact this
theorem Hr.fld_prog (w : World) (a : Option Addr) (n c : Nat) : (Instr.field 24 (.agg #[.slice a n c]) 0).run Tryz.prog w = .ok (.slice a n c) w := by kernel_rfl
theorem RAll_any (cs : List Pp.XCls) (v : Value) (w : World) (h : ProgX w v cs) (hl : Pp.Light cs) :
 Calls Tryz.prog 34 #[.agg #[v]] w fun e w' => ∃ v', e = .returned v' /\ Ow.OwnX w' w.heap.size 59 6 (Ow.ClsO w' w.heap.size) v' (Hr.allL cs) /\ Below w.heap.size w w' := by
 obtain ⟨j0, hj, hj0, hj1, hj2⟩ := Ow.info_of Ow.i_cls; have HT := hide (fun wx (hb : Below w.heap.size w wx) => TwinProgram_any cs v wx (h.on hb) hl); have hn := hl.1; obtain ⟨pa, pc, rfl, _⟩ := h.1.len; have HL : Hid (Hr.base.length + cs.length <= 1000000) := hide (by show 8 + cs.length <= 1000000; omega)
 obtain ⟨n, hn'⟩ : ∃ n, n = cs.length := ⟨_, rfl⟩; have HN := hide hn'; rw [<- hn'] at HT hn ⊢; clear h hl hn'; have hx0 := hide (heap_alloc_new w (.cells #[.slice pa n pc] 24)); have HB0 := hide ((Below.refl w.heap.size w).alloc (Nat.le_refl _) (.cells #[.slice pa n pc] 24)); go_enter Tryz.func34, Tryz.ntmps34; go_wp2_with fail; generalize w.alloc (.cells #[.slice pa n pc] 24) = w0 at *
 have HC := hide (fun wx (hb : Below w0.heap.size w0 wx) => cell_box ((hb.block _ (Ow.lt_of_blk hx0.out)).trans hx0.out) 0); have HD : Hid (Below w0.heap.size w0 w0.drew) := hide (Below.drew (Below.refl _ _)); have HW : Hid (∀ wx, Below w0.heap.size w0 wx -> Below w.heap.size w wx) := hide fun wx hb => HB0.out.trans (hb.mono HB0.out.size); have c0 := HC.out w0 (Below.refl _ _); have cd := HC.out _ HD.out; clear hx0; have hfd := Hr.fld_prog
 go_region_law (first
  | (refine Ow.step_app rfl (.tmp 3) (.tmp 6) 22 rfl Tryz.underlying22 hj hj0 hj1 hj2 (by decide) Ow.shp_cls (by first | rfl | simp [Act.eval, Act.put]) HO1.out (by first | rfl | simp [Act.eval, Act.put]) HR1.out HL.out (by decide) (HW.out _ HB1.out).size ?_
     intro v' w9 hown hgrow; have HB9 := hide ((HW.out _ HB1.out).trans (Ow.bel_grown HO1.out (HW.out _ HB1.out).size hgrow)); have HO9 : Hid (Ow.OwnX w9 w.heap.size 59 6 (Ow.ClsO w9 w.heap.size) v' (Hr.allL cs)) := hide (hown.low (Nat.le_refl _) fun _ _ h => h.kx (Ow.kx_grown HO1.out hgrow) (by decide) (by decide) (by decide) (by decide) (by decide) (by decide))
     clear hown hgrow HO1 HR1)
  | (go_simp
     refine (Base_any _).mono ?_; rintro e wb ⟨vb, rfl, hob, hbb⟩
     first
      | (have HBb := hide (HD.out.trans (hbb.mono HD.out.size))
         have HOb := hide (hob.low (base' := w.heap.size) (HW.out _ HD.out).size fun _ _ h => h); have cb := HC.out _ HBb.out
         clear hob hbb)
      | (have HB1 := hide (HBt.out.trans (hbb.mono HBt.out.size))
         have HO1 : Hid (Ow.OwnX wb w.heap.size 59 6 (Ow.ClsO wb w.heap.size) vb Hr.base) := hide (hob.low (HW.out _ HBt.out).size fun _ _ h => h.o _ _); have HR1 : Hid (RowX wb 6 (Ow.ClsO wb w.heap.size) (.slice ta cs.length tc) cs) := hide ((HPt.out.1.on hbb fun _ _ h => h.on hbb (Nat.le_refl _)).row Ow.shp_cls fun _ _ h => h)
         clear hob hbb))
  | (go_simp
     first
      | (refine (HT.out _ (HW.out _ HD.out)).mono ?_
         rintro e wt ⟨vt, rfl, hpt, hbt⟩; obtain ⟨ta, tc, rfl⟩ := hpt.1.shape; have HBt := hide (HD.out.trans (hbt.mono HD.out.size)); have HPt : Hid (Ow.ProgO wt w.heap.size (.slice ta cs.length tc) cs) := hide (hpt.on (Below.refl _ _) (HW.out _ HD.out).size)
         clear hpt hbt)
      | (refine (HT.out _ (HW.out _ HBb.out)).mono ?_
         rintro e wt ⟨vt, rfl, hpt, hbt⟩; obtain ⟨ta, tc, rfl⟩ := hpt.1.shape; have HB1 := hide (HBb.out.trans (hbt.mono HBb.out.size)); have HO1 : Hid (Ow.OwnX wt w.heap.size 59 6 (Ow.ClsO wt w.heap.size) vb Hr.base) := hide (HOb.out.on hbt fun _ _ h => h.o _ _); have HR1 : Hid (RowX wt 6 (Ow.ClsO wt w.heap.size) (.slice ta cs.length tc) cs) := hide ((hpt.on (Below.refl _ _) (HW.out _ HBb.out).size).1.row Ow.shp_cls fun _ _ h => h)
         clear hpt hbt)))
 all_goals
  go_wp2_with fail; go_ret; exact ⟨_, rfl, HO9.out, HB9.out⟩
namespace Ow
section
variable {α : Type} {P P' : α -> List Value -> Prop} {sz base e : Nat} {w w' : World} {v : Value} {l : List α}
theorem run_app2 {Pr : Program} {t ty : TypeId} {i : TypeInfo} {n bytes : Nat} (ht : Pr.underlying t = some (.slice e)) (hi : Pr.info? e = some i) (hz : i.zero.map (fun z => z.cells.size) = some sz) (hsize : i.size = sz) (hby : i.bytes = bytes) (hsz : 0 < sz) (hs : Shp P sz)
 (ho : OwnX w base e sz P v l) {v2 : Value} {l2 : List α} (hr : RowX w sz P v2 l2) (h63 : l.length + l2.length <= 1000000) (hb2 : bytes <= 1000) (hbase : base <= w.heap.size) :
 ∃ v' w', (Builtin.append_ #[t, t] ty #[v, v2]).run Pr w = .ok v' w' /\ OwnX w' base e sz P v' (l ++ l2) /\ w.grownBy w' v.ownBlock /\ (v'.ownBlock = v.ownBlock \/ v'.ownBlock = some w.heap.size) := by
 cases hzz : i.zero with
 | none => rw [hzz] at hz; cases hz
 | some z =>
   rw [hzz] at hz; simp at hz; obtain ⟨a, c, rfl, hc, hr⟩ := hr; obtain ⟨news, hf, hown⟩ := ho
   have key : ∀ (ad : Addr) (news2 : List Value), Flat P l2 news2 -> (∀ j u, news2[j]? = some u -> w.cell? (ad.add j) = some u) -> ∃ v' w', (Builtin.append_ #[t, t] ty #[v, .slice (some ad) l2.length c]).run Pr w = .ok v' w' /\ OwnX w' base e sz P v' (l ++ l2) /\ w.grownBy w' v.ownBlock /\ (v'.ownBlock = v.ownBlock \/ v'.ownBlock = some w.heap.size) := by
    intro ad news2 hf2 hc2; have hbb : (l.length + l2.length) * bytes <= 1000000 * 1000 := Nat.mul_le_mul h63 hb2; obtain ⟨v', w', h1, h2, h3, _, h4⟩ := run_append_own_at (P := Pr) w base t ty e i z sz bytes ht hi hzz hsize hby hz hsz v l.length news hown ad l2.length c news2 (hf2.len hs) hc2 (hf2.ones hs) (by unfold maxLen; omega) (by omega) hbase
    exact ⟨v', w', h1, ⟨news ++ news2, hf.app hf2, by rw [List.length_append]; exact h2⟩, h3, h4⟩
   rcases hr with rfl | ⟨b, o, rfl, hlt, hx⟩
   · cases a with
     | some ad => exact key ad [] rfl (by intro j u hj; simp at hj)
     | none =>
       refine ⟨v, w, ?_, ⟨news, by simpa using hf, by simpa using hown⟩, ⟨rfl, rfl, rfl, Nat.le_refl _, fun _ _ _ => rfl⟩, .inl rfl⟩
       rcases hown.2 with ⟨rfl, _⟩ | ⟨g, cap, cur, rfl, _, _, hnc, _⟩
       · simp [Builtin.append_, run_underlying ht, sizeOf, typeInfo, hi, Builtin.lenOf, Builtin.firstCells, loadCells, loadCellsFrom]
       · simp [Builtin.append_, run_underlying ht, sizeOf, typeInfo, hi, Builtin.lenOf, Builtin.firstCells, loadCells, loadCellsFrom, hnc, storeCells]
   · obtain ⟨news2, hf2, hc2⟩ := flat_of hs l2 o hx
     exact key ⟨b, o, none⟩ news2 hf2 (fun j u hj => by rw [Go.WideShapes.add_plain]; exact hc2 j u hj)
theorem wpList_app2 {Pr : Program} {ops : Array Oper} {rest : List Oper} {o : Oper} {a : Act} {Q : Exit -> Act -> World -> Prop} (hgd : o.guard = none) (s x : Operand) (t : TypeId)
 (hop : o.op = .call { callee := .builtin .append, args := #[s, x], argTypes := #[t, t] }) {i : TypeInfo} {bytes : Nat}
 (ht : Pr.underlying t = some (.slice e)) (hi : Pr.info? e = some i) (hz : i.zero.map (fun z => z.cells.size) = some sz) (hsize : i.size = sz) (hby : i.bytes = bytes) (hsz : 0 < sz) (hs : Shp P sz)
 (hv : a.eval s = v) (ho : OwnX w base e sz P v l) {v2 : Value} {l2 : List α} (hv2 : a.eval x = v2) (hr : RowX w sz P v2 l2) (h63 : l.length + l2.length <= 1000000) (hb2 : bytes <= 1000) (hbase : base <= w.heap.size)
 (h : ∀ v' w', OwnX w' base e sz P v' (l ++ l2) -> w.grownBy w' v.ownBlock -> (v'.ownBlock = v.ownBlock \/ v'.ownBlock = some w.heap.size) -> wpList Pr ops Q rest (a.put o.dst v') w') : wpList Pr ops Q (o :: rest) a w := by
 refine wpList_plain hgd fun K hK => ?_; obtain ⟨v', w', hrun, h1, h2, h3⟩ := run_app2 (Pr := Pr) (t := t) (ty := o.type) (n := 0) ht hi hz hsize hby hsz hs ho hr h63 hb2 hbase; unfold Oper.wp execOp; simp only [hop, resolve, invoke, builtin, Sem.run_bind, Sem.run_pure, Result.andThen_ok, List.map_toArray, List.map_cons, List.map_nil, hv, hv2, hrun]; exact hK _ _ (h v' w' h1 h2 h3)
theorem row_grown {α : Type} {w w' : World} {sz : Nat} {P : α -> List Value -> Prop} {b o n c : Nat} {l : List α} {row : Option Nat} (h : RowX w sz P (.slice (some ⟨b, o, none⟩) n c) l) (hb : b < w.heap.size) (hg : w.grownBy w' row) (hne : row ≠ some b) : RowX w' sz P (.slice (some ⟨b, o, none⟩) n c) l := by
 obtain ⟨a', c', e, hc, h⟩ := h; injection e with e1 e2 e3; subst e1; refine ⟨_, _, by rw [e2, e3], hc, ?_⟩
 rcases h with rfl | ⟨b', o', e', hlt, hr⟩
 · exact .inl rfl
 · cases e'
   refine .inr ⟨b, o, rfl, Nat.lt_of_lt_of_le hlt hg.size, fun k x hx => ?_⟩; obtain ⟨ys, h1, h2⟩ := hr k x hx; refine ⟨ys, h1, fun j u hj => ?_⟩; rw [<- h2 j u hj]; have := hg.block b hb (fun e => hne e.symm); unfold World.cell?; simp only [this]
end
end Ow
namespace Hr
theorem above_len {l : List Pp.XCls} (hl : ∀ c ∈ l, c.ifaces.length <= 1000) {c : Pp.XCls} (hc : c ∈ l) : (aboveL c).length <= 1001 := by
 have := hl c hc; unfold aboveL; rw [List.length_append]; cases superL c <;> simp <;> omega
theorem most_le : ∀ {l : List Pp.XCls}, (∀ c ∈ l, c.ifaces.length <= 1000) -> (l.flatMap aboveL).length <= 1001 * l.length
 | [], _ => by simp
 | c :: l, h => by
   have h1 := above_len (l := c :: l) h (c := c) (by simp)
   have h2 := most_le (l := l) fun c hc => h c (by simp [hc])
   rw [List.flatMap_cons, List.length_append, List.length_cons]; omega
end Hr
theorem reach_any (l : List Pp.XCls) (v : Value) (n : Pp.Bs) (w : World) (h : RowX w 6 (ClsX w) v l) (hlen : l.length <= 100) (hif : ∀ c ∈ l, c.ifaces.length <= 1000) (hn : n.length <= maxLen) :
 Calls Tryz.prog 62 #[v, .string ⟨n.toArray⟩] w fun e w' => ∃ v' out, e = .returned v' /\ Ow.OwnX w' w.heap.size 9 1 StrX v' out /\ Hr.RInv l n out out.length /\ Below w.heap.size w w' := by
 obtain ⟨i0, hj1, hj0, hj2, hj3⟩ := Ow.info_of Ow.i_str; have H := hide h; have HIf := hide hif; have HL := hide hlen; obtain ⟨la, lc, rfl, _⟩ := h.len; obtain ⟨m, hm⟩ : ∃ m, m = l.length := ⟨_, rfl⟩; have HM := hide hm; have hmm : m <= 100 := by omega
 rw [<- hm] at H ⊢; have HN := hide hn; have HA := hide (fun wx (hb : Below w.heap.size w wx) (x : Pp.Bs) => RAt_any l (.slice la m lc) x wx (H.out.on hb fun _ _ h => h.on hb) (by unfold maxLen; omega))
 clear h hif hlen hm hn; have HB0 := hide ((Below.refl w.heap.size w).alloc (Nat.le_refl _) (.cells #[.string ⟨n.toArray⟩] 9))
 have HO0 : Hid (Ow.OwnX (w.alloc (.cells #[.string ⟨n.toArray⟩] 9)) w.heap.size 9 1 StrX (.slice (some ⟨w.heap.size, 0, none⟩) 1 1) [n]) := hide
  ⟨_, ⟨[.string ⟨n.toArray⟩], _, rfl, ⟨rfl, HN.out⟩, rfl⟩, rfl, .inr ⟨w.heap.size, 1, _, rfl, Nat.le_refl _, heap_alloc_new w _, Nat.le_refl _, by decide, rfl, rfl⟩⟩
 go_enter Tryz.func62, Tryz.ntmps62; go_wp2_with fail
 go_loopw [5, 6] (fun ov i wr => ∃ (k : Nat) (out : List Pp.Bs), i = .int .i64 k /\ Hid (Below w.heap.size w wr) /\ Hid (Ow.OwnX wr w.heap.size 9 1 StrX ov out) /\ Hid (Hr.RInv l n out k)) (fun ov i _ => Hr.mostL l - (intOf i).toNat)
 case atStart => exact ⟨0, [n], rfl, HB0, HO0, hide (Hr.RInv.start l n)⟩
 case round =>
  obtain ⟨k, out, rfl, HB, HO, HI⟩ := hrel; clear HB0 HO0
  have hfew : out.length <= 100101 := by
   have h1 := HI.out.few; have h2 := Hr.most_le HIf.out; have h3 := HL.out; unfold Hr.mostL at h1; omega
  obtain ⟨oa, oc, rfl⟩ := HO.out.shape; by_cases hlt : k < out.length
  · obtain ⟨x, hx⟩ : ∃ x, out[k]? = some x := ⟨out[k], List.getElem?_eq_getElem _⟩
    obtain ⟨g1, o1, eg1, ys1, hys1, hc1⟩ := Hr.row_at (HO.out.row Ow.shp_str fun _ _ h => h) hx; subst eg1; obtain rfl : ys1 = _ := hys1.1; have r0 := hc1 wr (Below.refl _ _) 0 _ rfl; simp only [Nat.mul_one, Nat.add_zero] at r0; have HX := hide hx; have hkm : k < Hr.mostL l := Nat.lt_of_lt_of_le hlt HI.out.few; obtain ⟨p0, hp0⟩ : ∃ q, q = out.length := ⟨_, rfl⟩; have HP0 := hide hp0; rw [<- hp0] at hlt hfew HO ⊢; have hlt' : (k : Int) < (p0 : Int) := by omega
    have hp1 : (p0 : Int) <= 100101 := by omega
    have HAt := hide (HA.out wr HB.out x); clear hc1 hx hp0 hys1; cases hpl : Hr.placeL l x with
    | none =>
      have HI2 := hide (HI.out.none HX.out hpl); rw [hpl] at HAt; simp only [Hr.placeI] at HAt; clear hpl HI; generalize (⟨x.toArray⟩ : ByteArray) = xb at *
      go_wp2_with fail; refine HAt.out.mono ?_; rintro e w1 ⟨rfl, hb1⟩; have HB1 := hide (HB.out.trans (hb1.mono HB.out.size)); have HO1 := hide (HO.out.on hb1 fun _ _ h => h); clear hb1 r0 HB HO HAt; rw [HP0.out] at HO1; go_wp2_with fail
      go_roundw
      case rel => first | exact ⟨k + 1, out, by go_num, HB1, by rw [HP0.out]; exact HO1, HI2⟩ | ((repeat apply Exists.intro); exact ⟨⟨k + 1, out, by go_num, HB1, by rw [HP0.out]; exact HO1, HI2⟩, rfl⟩)
      case measure => simp [intOf]; omega
    | some q =>
      obtain ⟨c, hcq, -, -⟩ := Hr.placeL_lt hpl; have HPL := hide hpl; have HCQ := hide hcq; have hqm : q < m := by rw [HM.out]; exact (List.getElem?_eq_some_iff.1 hcq).1
      obtain ⟨g2, o2, eg2, ys2, w2', hc2⟩ := Hr.row_at H.out hcq; subst eg2; have hif1 := HIf.out c (List.mem_of_getElem? hcq); have HAb := hide (fun wx (hb : Below w.heap.size w wx) => above_any c ys2 wx (w2'.on hb) hif1); have HC2 := hide hc2; have HAL : Hid ((Hr.aboveL c).length <= 1001) := hide (Hr.above_len HIf.out (List.mem_of_getElem? hcq)); rw [hpl] at HAt; simp only [Hr.placeI] at HAt; obtain ⟨va1, vd1, va2, vd2, va3, vd3, rfl⟩ := Hr.at_c w2'; clear hpl hcq w2' hc2 hif1; generalize (⟨x.toArray⟩ : ByteArray) = xb at *
      have hqm' : (q : Int) < (m : Int) := by omega
      have hmm' : (m : Int) <= 100 := by omega
      go_wp2_with fail; refine HAt.out.mono ?_; rintro e w1 ⟨rfl, hb1⟩; have HB1 := hide (HB.out.trans (hb1.mono HB.out.size)); have HO1 := hide (HO.out.on hb1 fun _ _ h => h); have hr := HC2.out w1 HB1.out; have r10 := hr 0 _ rfl; have r11 := hr 1 _ rfl; have r12 := hr 2 _ rfl; have r13 := hr 3 _ rfl; have r14 := hr 4 _ rfl; have r15 := hr 5 _ rfl; rw [Nat.add_zero] at r10; clear hb1 hr r0 HB HO HAt; go_wp2_with fail; refine (HAb.out w1 HB1.out).mono ?_; rintro e w3 ⟨vn, rfl, hon, hb3⟩; have HB3 := hide (HB1.out.trans (hb3.mono HB1.out.size)); have HO3 := hide (HO1.out.on hb3 fun _ _ h => h); obtain ⟨p, hp⟩ : ∃ p, p = (Hr.aboveL c).length := ⟨_, rfl⟩; have HP := hide hp; rw [<- hp] at HAL; have hp1001 : p <= 1001 := HAL.out
      obtain ⟨nb, nc, HNe, HNR⟩ : ∃ (nb : Option Addr) (nc : Nat), Hid (vn = .slice nb p nc) /\ Hid (p = 0 \/ ∃ b, nb = some ⟨b, 0, none⟩ /\ b < w3.heap.size /\ (Value.slice (some ⟨g1, o1, none⟩) p0 oc).ownBlock ≠ some b /\ RowX w3 1 StrX (.slice (some ⟨b, 0, none⟩) p nc) (Hr.aboveL c)) := by
       have hrow := hon.row Ow.shp_str fun _ _ h => h; obtain ⟨news, hf, hown⟩ := hon
       rcases hown.2 with ⟨rfl, h0⟩ | ⟨g, cap, cur, rfl, hgb, hg, _⟩
       · exact ⟨none, 0, hide (by rw [hp, h0]), hide (.inl (by rw [hp, h0]))⟩
       · refine ⟨some ⟨g, 0, none⟩, cap, hide (by rw [hp]), hide (.inr ⟨g, rfl, Ow.lt_of_blk hg, ?_, by rw [hp]; exact hrow⟩)⟩
         intro he; obtain ⟨news', _, hown'⟩ := HO1.out; obtain ⟨c', hc'⟩ := Ow.own_at hown' g he; have := Ow.lt_of_blk hc'; omega
      have hvn := HNe.out; subst hvn; clear HNe hon hb3 hp r10 r11 r12 r13 r14 r15 HO1; have HI3 := hide (HI.out.mid HX.out c); obtain ⟨vo, hvo⟩ : ∃ v, v = Value.slice (some ⟨g1, o1, none⟩) p0 oc := ⟨_, rfl⟩; rw [<- hvo] at HO3 HNR; go_wp2_with fail; rw [<- hvo]; clear hvo
      go_loopw [5, 9] (fun ov i wr => ∃ (j : Nat) (out : List Pp.Bs), j <= p /\ i = .int .i64 j /\ Hid (Below w.heap.size w wr) /\ Hid (Ow.OwnX wr w.heap.size 9 1 StrX ov out) /\ Hid (Hr.RMid l n out k x c j) /\ Hid (p = 0 \/ ∃ b, nb = some ⟨b, 0, none⟩ /\ b < wr.heap.size /\ ov.ownBlock ≠ some b /\ RowX wr 1 StrX (.slice (some ⟨b, 0, none⟩) p nc) (Hr.aboveL c))) (fun ov i _ => p - (intOf i).toNat)
      case atStart => exact ⟨0, out, Nat.zero_le _, rfl, HB3, by rw [HP0.out] at *; exact HO3, HI3, HNR⟩
      case round =>
       obtain ⟨j, out2, hj, rfl, HB4, HO4, HM4, HN4⟩ := hrel; clear HB3 HO3 HNR HI3 HI
       have hfw2 : out2.length <= 100101 := by
        have h1 := HM4.out.inv.few; have h2 := Hr.most_le HIf.out; have h3 := HL.out; unfold Hr.mostL at h1; omega
       by_cases hlj : j < p
       · obtain ⟨y, hy⟩ : ∃ y, (Hr.aboveL c)[j]? = some y := ⟨(Hr.aboveL c)[j]'(by rw [<- HP.out]; exact hlj), List.getElem?_eq_getElem _⟩
         obtain ⟨b, hnb, hbs, hob, hrw⟩ := HN4.out.resolve_left (by omega)
         subst hnb; obtain ⟨g5, o5, eg5, ys5, hys5, hc5⟩ := Hr.row_at hrw hy; cases eg5; obtain rfl : ys5 = _ := hys5.1; have HYl := hide hys5.2; have HHs := hide (fun wx (hb : Below wr.heap.size wr wx) => hb); have r0 := hc5 wr (Below.refl _ _) 0 _ rfl; simp only [Nat.mul_one, Nat.add_zero, Nat.zero_add] at r0; have HY := hide hy; have HC5 := hide (fun wx (hb : Below wr.heap.size wr wx) => by have := hc5 wx hb 0 _ rfl; simp only [Nat.mul_one, Nat.add_zero, Nat.zero_add] at this; exact this)
         have HOB := hide hob; have HRW := hide hrw; have hlj' : (j : Int) < (p : Int) := by omega
         have hpi : (p : Int) <= 1001 := by omega
         obtain ⟨a5, c5, rfl⟩ := HO4.out.shape; have HHas := hide (has_any out2 (.slice a5 out2.length c5) y wr (HO4.out.row Ow.shp_str fun _ _ h => h) (by unfold maxLen; omega))
         clear hc5 hy hys5 hob hrw HN4; by_cases hm : y ∈ out2
         · have HM5 := hide (HM4.out.skip HY.out hm)
           rw [decide_eq_true hm] at HHas; clear hm HM4; generalize (⟨y.toArray⟩ : ByteArray) = yb at *
           go_wp2_with fail; refine HHas.out.mono ?_; rintro e w6 ⟨rfl, hb6⟩; have HB6 := hide (HB4.out.trans (hb6.mono HB4.out.size)); have HO6 := hide (HO4.out.on hb6 fun _ _ h => h); have HN6 : Hid (p = 0 \/ ∃ b', some (⟨b, 0, none⟩ : Addr) = some ⟨b', 0, none⟩ /\ b' < w6.heap.size /\ (Value.slice a5 out2.length c5).ownBlock ≠ some b' /\ RowX w6 1 StrX (.slice (some ⟨b', 0, none⟩) p nc) (Hr.aboveL c)) := hide (.inr ⟨b, rfl, Nat.lt_of_lt_of_le hbs hb6.size, HOB.out, HRW.out.on hb6 fun _ _ h => h⟩); clear hb6 r0 HHas HO4 HB4; go_wp2_with fail
           go_roundw
           case rel => first | exact ⟨j + 1, out2, by omega, by go_num, HB6, HO6, HM5, HN6⟩ | ((repeat apply Exists.intro); exact ⟨⟨j + 1, out2, by omega, by go_num, HB6, HO6, HM5, HN6⟩, rfl⟩)
           case measure => simp [intOf]; omega
         · have HM5 := hide (HM4.out.push HPL.out HCQ.out HY.out hm)
           rw [decide_eq_false hm] at HHas; clear hm HM4; obtain ⟨p2, hp2⟩ : ∃ q, q = out2.length := ⟨_, rfl⟩; have HP2 := hide hp2; rw [<- hp2] at HHas HO4 hfw2 HOB ⊢; clear hp2; go_wp2_with fail; refine HHas.out.mono ?_; rintro e w6 ⟨rfl, hb6⟩; have r1 := HC5.out w6 hb6; have hA := hb6.trans (((Below.refl _ _).alloc (Nat.le_refl _) (.cells #[.string ⟨y.toArray⟩] 9)).mono hb6.size); have HA6 := hide hA; have HB6 := hide (HB4.out.trans (hA.mono HB4.out.size)); have HO6 : Hid (Ow.OwnX (w6.alloc (.cells #[.string ⟨y.toArray⟩] 9)) w.heap.size 9 1 StrX (.slice a5 p2 c5) out2) := hide (HO4.out.on hA fun _ _ h => h); have HR6 : Hid (RowX (w6.alloc (.cells #[.string ⟨y.toArray⟩] 9)) 1 StrX (.slice (some ⟨w6.heap.size, 0, none⟩) 1 1) [y]) := hide (Hr.row_one (heap_alloc_new w6 _) ⟨rfl, HYl.out⟩); have HS6 : Hid (wr.heap.size <= (w6.alloc (.cells #[.string ⟨y.toArray⟩] 9)).heap.size) := hide hA.size; have HS7 := hide hb6.size; clear hb6 hA r0 HHas HO4
           go_wp2_with (at_builtin; refine Ow.wpList_app2 rfl (.tmp 44) (.tmp 49) 55 rfl Tryz.underlying55 hj1 hj0 hj2 hj3 (by decide) Ow.shp_str rfl HO6.out rfl HR6.out ?c1 (by decide) HB6.out.size ?_)
           case c1 => rw [<- HP2.out]; simp; omega
           · intro v' w10 hown hgrow hob10
             have HB10 := hide (HB6.out.trans (Ow.bel_grown HO6.out HB6.out.size hgrow)); have HO10 := hide hown
             have HN10 : Hid (p = 0 \/ ∃ b', some (⟨b, 0, none⟩ : Addr) = some ⟨b', 0, none⟩ /\ b' < w10.heap.size /\ v'.ownBlock ≠ some b' /\ RowX w10 1 StrX (.slice (some ⟨b', 0, none⟩) p nc) (Hr.aboveL c)) := hide (by
              have hs6 := HS6.out; have hs7 := HS7.out; refine .inr ⟨b, rfl, by have := hgrow.size; omega, ?_, Ow.row_grown (HRW.out.on HA6.out fun _ _ h => h) (by omega) hgrow HOB.out⟩
              rcases hob10 with h | h
              · rw [h]; exact HOB.out
              · rw [h]; intro he; injection he with he; omega)
             clear hown hgrow hob10 HO6 HR6 HB6 r1; go_wp2_with fail
             go_roundw
             case rel => first | exact ⟨j + 1, _, by omega, by go_num, HB10, HO10, HM5, HN10⟩ | ((repeat apply Exists.intro); exact ⟨⟨j + 1, _, by omega, by go_num, HB10, HO10, HM5, HN10⟩, rfl⟩)
             case measure => simp [intOf]; omega
       · have HI4 := hide (HM4.out.stop HPL.out HCQ.out (by rw [<- HP.out]; omega))
         have hnl : ¬ ((j : Int) < (p : Int)) := by omega
         clear HM4 HN4; go_wp2_with fail
         go_roundw
         case rel => first | exact ⟨k + 1, out2, by go_num, HB4, HO4, HI4⟩ | ((repeat apply Exists.intro); exact ⟨⟨k + 1, out2, by go_num, HB4, HO4, HI4⟩, rfl⟩)
         case measure => simp [intOf]; omega
  · have hk : k = out.length := by have := HI.out.low; omega
    subst hk; go_wp2_with fail; go_ret; exact ⟨_, _, rfl, HO.out, HI.out, HB.out⟩
namespace Pp
def GW (w : Wd) : Prop := Lx.wordA ⟨w.kind, w.text, w.num, 0⟩ = some (wtx w)
def GWs (n : Nat) (ws : List Wd) : Prop := (∀ w ∈ ws, GW w) /\ ws.length <= n
theorem gw_nm {s : Bs} (h : Lx.nameL s = true) : GW (nm s) := by simp [GW, nm, Lx.wordA, wtx, h]
theorem gw_sg {s : Bs} (h : Lx.signL s = true) : GW (sg s) := by simp [GW, sg, Lx.wordA, wtx, h]
theorem gws_one {w : Wd} (h : GW w) : GWs 1 [w] := ⟨by simp [h], by simp⟩
theorem gws_cons {n : Nat} {w : Wd} {ws : List Wd} (h : GW w) (hs : GWs n ws) : GWs (n + 1) (w :: ws) := ⟨by intro x hx; simp at hx; rcases hx with rfl | hx; exact h; exact hs.1 x hx, by simp; exact hs.2⟩
theorem gws_mono {n m : Nat} {a : List Wd} (h : GWs n a) (hn : n <= m) : GWs m a := ⟨h.1, by have := h.2; omega⟩
theorem gw_ty {t : Ty} (h : okTy t) : GWs 3 (tyW t) := by
 obtain ⟨k, n⟩ := t; have hi : GW (nm wInt) := gw_nm (by decide)
 have hv : GW (nm wVoid) := gw_nm (by decide)
 have hl : GW (sg wLK) := gw_sg (by decide)
 have hr : GW (sg wRK) := gw_sg (by decide)
 unfold tyW
 rcases h with ⟨h, _⟩ | ⟨h, h2⟩
 · simp only at h
   rcases h with rfl | rfl | rfl
   · exact gws_mono (gws_one hv) (by omega)
   · exact gws_mono (gws_one hi) (by omega)
   · exact gws_cons hi (gws_cons hl (gws_one hr))
 · simp only at h h2
   rcases h with rfl | rfl
   · exact gws_mono (gws_one (gw_nm h2.1)) (by omega)
   · exact gws_cons (gw_nm h2.1) (gws_cons hl (gws_one hr))
end Pp
namespace Pp
def typeT (t : Ty) : Bs := if typeB t = true then ((tyW t).map wtx).flatten else []
end Pp
namespace Sh
theorem wtx_nm (s : Pp.Bs) : Pp.wtx (Pp.nm s) = s := rfl
theorem wtx_sg (s : Pp.Bs) : Pp.wtx (Pp.sg s) = s := rfl
theorem str_sz (a : List UInt8) : (⟨a.toArray⟩ : ByteArray).size = a.length := by simp [ByteArray.size]
end Sh
theorem refDigit_any (c : Int) (w : World) :
 Calls Tryz.prog 117 #[.int .u8 c] w fun e w' => e = .returned (.bool (Lx.digI c)) /\ w' = w := by
 go_enter Tryz.func117, Tryz.ntmps117; go_wp2
 all_goals (go_ret; exact ⟨ret_bool (by simp [Lx.digI]; omega), rfl⟩)
theorem refLetter_any (c : Int) (w : World) :
 Calls Tryz.prog 116 #[.int .u8 c] w fun e w' => e = .returned (.bool (Lx.ltrI c)) /\ w' = w := by
 go_enter Tryz.func116, Tryz.ntmps116; go_wp2
 all_goals (go_ret; exact ⟨ret_bool (by simp [Lx.ltrI]; try omega), rfl⟩)
theorem refName_any (s : ByteArray) (hs : s.size <= maxLen) (w : World) :
 Calls Tryz.prog 98 #[.string s] w fun e w' => e = .returned (.bool (Lx.nameL s.data.toList)) /\ w' = w := by
 unfold maxLen at hs; by_cases h1 : s.size < 1
 · have Hf := Lx.nameL_short s h1
   rw [Hf]; clear Hf; go_enter Tryz.func98, Tryz.ntmps98; go_wp2; go_ret; exact ⟨rfl, rfl⟩
 by_cases h20 : 20 < s.size
 · have Hf := Lx.nameL_long s h20
   rw [Hf]; clear Hf; go_enter Tryz.func98, Tryz.ntmps98; go_wp2; go_ret; exact ⟨rfl, rfl⟩
 have Hf := Lx.nameL_mid s (by omega) (by omega)
 rw [Hf]; clear Hf; have h1' : 0 < s.size := by omega
 obtain ⟨R, hR⟩ : ∃ R : Bool, R = (!Lx.dig s[0] && s.data.toList.all Lx.inw) := ⟨_, rfl⟩; rw [<- hR]; have HR : Hid (R = (!Lx.dig s[0] && s.data.toList.all Lx.inw)) := hR; clear hR; have hmem : ∀ k, ∀ h : k < s.size, s[k] ∈ s.data.toList := fun k h => by simp [ByteArray.getElem_eq_getElem_data]
 have HM : Hid (∀ k, ∀ h : k < s.size, s[k] ∈ s.data.toList) := hmem; clear hmem; cases hd : Lx.ltr s[0] with
 | false =>
   have hd' : Lx.ltrI (s[0].toNat : Int) = false := hd
   have HF : Hid (R = false) := by
    show _ = _; rw [HR.out, Bool.eq_false_iff]; intro h; rw [Bool.and_eq_true] at h; have hi := List.all_eq_true.1 h.2 s[0] (HM.out 0 h1'); rw [Lx.let_inw, h.1, hi] at hd; cases hd
   clear hd; go_enter Tryz.func98, Tryz.ntmps98
   go_wp2_with (go_at_call 116; refine (refLetter_any _ _).mono ?_; rintro e w' ⟨rfl, rfl⟩)
   go_ret; exact ⟨ret_bool (by rw [HF.out]), rfl⟩
 | true =>
   have hd' : Lx.ltrI (s[0].toNat : Int) = true := hd; rw [Lx.let_inw, Bool.and_eq_true] at hd; have HF : Hid (R = s.data.toList.all Lx.inw) := by show _ = _; rw [HR.out, hd.1]; rfl
   have H1 : Hid ((s.data.toList.take 1).all Lx.inw = true) := by
    show _ = _; have := Lx.take_snoc s 0 h1'; rw [show 0 + 1 = 1 from rfl] at this
    rw [this]; simp [hd.2]
   clear hd HR; go_enter Tryz.func98, Tryz.ntmps98
   go_wp2_with (go_at_call 116; refine (refLetter_any _ _).mono ?_; rintro e w' ⟨rfl, rfl⟩)
   clear hd'
   go_loop [3] (fun i => ∃ k : Nat, 1 <= k /\ k <= s.size /\ i = .int .i64 k /\ Hid ((s.data.toList.take k).all Lx.inw = true)) (fun i => s.size - (intOf i).toNat)
   case atStart => exact ⟨1, by omega, by omega, rfl, H1⟩
   case round =>
    obtain ⟨k, hk1, hk, rfl, HA⟩ := hrel; clear H1; by_cases hlt : k < s.size
    · have hts := Lx.take_snoc s k hlt
      have HT : Hid ((s.data.toList.take (k + 1)).all Lx.inw = ((s.data.toList.take k).all Lx.inw && Lx.inw s[k])) := by rw [hts]; exact Lx.all_snoc _ _ _
      clear hts; cases hl : Lx.ltr s[k] with
      | true =>
        have hl' : Lx.ltrI (s[k].toNat : Int) = true := hl; have HW : Hid (Lx.inw s[k] = true) := by show _ = _; rw [Lx.inw_let, hl]; rfl
        clear hl
        go_wp2_with (go_at_call 116; refine (refLetter_any _ _).mono ?_; rintro e w' ⟨rfl, rfl⟩)
        go_round
        case rel => exact ⟨k + 1, by omega, by omega, by go_num, by show _ = _; rw [HT.out, HA.out, HW.out]; rfl⟩
        case measure => simp [intOf]; omega
      | false =>
        have hl' : Lx.ltrI (s[k].toNat : Int) = false := hl; cases hg : Lx.dig s[k] with
        | true =>
          have hg' : Lx.digI (s[k].toNat : Int) = true := hg; have HW : Hid (Lx.inw s[k] = true) := by show _ = _; rw [Lx.inw_let, hl, hg]; rfl
          clear hl hg
          go_wp2_with (first | (go_at_call 116; refine (refLetter_any _ _).mono ?_; rintro e w' ⟨rfl, rfl⟩) | (go_at_call 117; refine (refDigit_any _ _).mono ?_; rintro e w' ⟨rfl, rfl⟩))
          go_round
          case rel => exact ⟨k + 1, by omega, by omega, by go_num, by show _ = _; rw [HT.out, HA.out, HW.out]; rfl⟩
          case measure => simp [intOf]; omega
        | false =>
          have hg' : Lx.digI (s[k].toNat : Int) = false := hg
          have HN : Hid (s.data.toList.all Lx.inw = false) := by
           show _ = _; rw [Bool.eq_false_iff]; intro h; have := List.all_eq_true.1 h s[k] (HM.out k hlt); rw [Lx.inw_let, hl, hg] at this; cases this
          clear hl hg
          go_wp2_with (first | (go_at_call 116; refine (refLetter_any _ _).mono ?_; rintro e w' ⟨rfl, rfl⟩) | (go_at_call 117; refine (refDigit_any _ _).mono ?_; rintro e w' ⟨rfl, rfl⟩))
          go_ret; exact ⟨ret_bool (by rw [HF.out, HN.out]), rfl⟩
    · have HN : Hid (s.data.toList.all Lx.inw = true) := by
       show _ = _; rw [<- HA.out, List.take_of_length_le (by simp; omega)]
      go_wp2; go_ret; exact ⟨ret_bool (by rw [HF.out, HN.out]), rfl⟩
theorem refKept_any (s : List UInt8) (w : World) :
 Calls Tryz.prog 99 #[.string ⟨s.toArray⟩] w fun e w' => e = .returned (.bool (Pp.keptL s)) /\ Below w.heap.size w w' := by
 obtain ⟨K, hK⟩ : ∃ K, K = Pp.keptWords := ⟨_, rfl⟩; have hL : Hid (K.length = 12) := by rw [hK]; exact hide rfl
 have hg : Hid (Pp.keptL s = K.any (· == s)) := by rw [hK]; rfl
 go_enter Tryz.func99, Tryz.ntmps99; go_wp2; generalize hA : (#[_, _, _, _, _, _, _, _, _, _, _, _] : Array Value) = A; have hAK : A = (K.map fun t => Value.string ⟨t.toArray⟩).toArray := by rw [<- hA, hK]; rfl
 clear hA hK
 have hAt : ∀ k, k < 12 -> A[k]? = some (.string ⟨(K.getD k []).toArray⟩) := by
  intro k hk; rw [hAK]; simp [List.getD, show k < K.length by have := hL.out; omega]
 clear hAK
 go_loop [4] (fun i => ∃ k : Nat, k <= 12 /\ i = .int .i64 k /\ Hid ((K.take k).any (· == s) = false)) (fun i => 12 - (intOf i).toNat)
 case atStart => exact ⟨0, by omega, rfl, rfl⟩
 case round =>
  obtain ⟨k, hk, rfl, hp⟩ := hrel; by_cases hlt : k < 12
  · have hix : (w.alloc (.cells A 9)).cell? ⟨w.heap.size, k, none⟩ = some (.string ⟨(K.getD k []).toArray⟩) := (cell_box (heap_alloc_new w _) k).trans (hAt k hlt)
    clear hAt; obtain ⟨t, htt⟩ : ∃ t, t = K.getD k [] := ⟨_, rfl⟩; rw [<- htt] at hix; have HT := hide htt; clear htt; have hlt' : (k : Int) < 12 := by omega
    by_cases hts : t = s
    · have hr := hide (hg.out.trans (Pp.any_at K s t k (by rw [hL.out]; exact hlt) HT.out hts))
      subst hts; go_wp2; go_ret; rw [hr.out]; exact ⟨rfl, (Below.refl _ _).alloc (Nat.le_refl _) _⟩
    · have hr := hide (Pp.any_step K s t k (by rw [hL.out]; exact hlt) HT.out hts hp.out)
      have hne : (t == s) = false := by simp [hts]
      go_wp2
      go_round
      case rel => exact ⟨k + 1, by omega, by go_num, hr⟩
      case measure => simp [intOf]; omega
  · have hr := hide (hg.out.trans (Pp.any_end K s k (by rw [hL.out]; exact hlt) hp.out))
    clear hAt; go_wp2; go_ret; rw [hr.out]; exact ⟨rfl, (Below.refl _ _).alloc (Nat.le_refl _) _⟩
theorem refFresh_any (s : List UInt8) (hs : s.length <= maxLen) (w : World) :
 Calls Tryz.prog 83 #[.string ⟨s.toArray⟩] w fun e w' => e = .returned (.bool (Pp.freshB s)) /\ Below w.heap.size w w' := by
 have hN : Hid (∀ w', Calls Tryz.prog 98 #[.string ⟨s.toArray⟩] w' fun e w'' => e = .returned (.bool (Lx.nameL s)) /\ w'' = w') := hide fun w' => refName_any ⟨s.toArray⟩ (by rw [Sh.str_sz]; exact hs) w'
 have hK := hide (fun w' => refKept_any s w'); have hF : Hid (Pp.freshB s = (Lx.nameL s && !Pp.keptL s)) := rfl; generalize Lx.nameL s = b at *
 generalize Pp.keptL s = b2 at *
 generalize Pp.freshB s = R at *
 generalize (⟨s.toArray⟩ : ByteArray) = S at *
 cases b with
 | false =>
   go_enter Tryz.func83, Tryz.ntmps83; go_wp2_with fail; refine (hN.out _).mono ?_; rintro e wq ⟨rfl, hwq⟩; have hwq := hwq.symm; subst hwq; go_wp2_with fail; go_ret; exact ⟨by rw [hF.out]; rfl, Below.refl _ _⟩
 | true =>
   go_enter Tryz.func83, Tryz.ntmps83; go_wp2_with fail; refine (hN.out _).mono ?_; rintro e wq ⟨rfl, hwq⟩; have hwq := hwq.symm; subst hwq; go_wp2_with fail; refine (hK.out _).mono ?_; rintro e w2 ⟨rfl, hb⟩; go_wp2_with fail; go_ret; exact ⟨by rw [hF.out]; rfl, hb⟩
theorem ref_in_any (n lo hi : Int) (w : World) :
 Calls Tryz.prog 100 #[.int .i64 n, .int .i64 lo, .int .i64 hi] w fun e w' => e = .returned (.bool (Pp.withinB n lo hi)) /\ w' = w := by
 go_enter Tryz.func100, Tryz.ntmps100; by_cases h1 : lo <= n
 · go_wp2_with fail
   go_ret; exact ⟨ret_bool (by simp [Pp.withinB, h1]), rfl⟩
 · go_wp2_with fail
   go_ret; exact ⟨ret_bool (by simp [Pp.withinB]; omega), rfl⟩
namespace Sh
theorem typeT_no {t : Pp.Ty} (h : Pp.typeB t = false) : Pp.typeT t = [] := by unfold Pp.typeT; rw [h]; rfl
theorem typeT_of {t : Pp.Ty} (h : Pp.typeB t = true) : Pp.typeT t = ((Pp.tyW t).map Pp.wtx).flatten := by unfold Pp.typeT; rw [h]; rfl
theorem typeT_ne {t : Pp.Ty} (h : Pp.typeB t = true) : Pp.typeT t ≠ [] := by
 rw [typeT_of h]; have h1 := Pp.gw_ty ((Pp.typeB_iff t).1 h); obtain ⟨k, n⟩ := t; have h2 := (Pp.typeB_iff _).1 h
 rcases h2 with ⟨h2, _⟩ | ⟨h2, h3⟩
 · simp only at h2
   rcases h2 with rfl | rfl | rfl <;> simp [Pp.tyW, wtx_nm, Pp.wVoid, Pp.wInt]
 · simp only at h2 h3
   have hn : n ≠ [] := fun e => by rw [e] at h3; have := h3.1; simp [Lx.nameL] at this
   rcases h2 with rfl | rfl
   · simp [Pp.tyW, wtx_nm, hn]
   · simp [Pp.tyW, wtx_nm, hn]
end Sh
theorem TypeText_any (t : Pp.Ty) (hs : t.name.length <= maxLen) (w : World) :
 Calls Tryz.prog 84 #[.agg #[.int .i64 t.kind, .string ⟨t.name.toArray⟩]] w fun e w' => e = .returned (.string ⟨(Pp.typeT t).toArray⟩) /\ Below w.heap.size w w' := by
 obtain ⟨k, n⟩ := t; simp only at hs ⊢; have hF := hide (fun w' => refFresh_any n hs w'); have HB1 : Hid (∀ o, Below w.heap.size w (w.alloc o)) := hide fun o => (Below.refl _ _).alloc (Nat.le_refl _) o
 rcases (show k = 1 \/ k = 2 \/ k = 4 \/ k = 3 \/ k = 5 \/ (¬ k = 1 /\ ¬ k = 2 /\ ¬ k = 4 /\ ¬ k = 3 /\ ¬ k = 5) by omega) with hk | hk | hk | hk | hk | ⟨k1, k2, k4, k3, k5⟩
 · subst hk
   by_cases hn : n = []
   · subst hn
     have hR : Hid (Pp.typeT ⟨1, []⟩ = [118, 111, 105, 100]) := hide (by decide +kernel)
     rw [hR.out]; go_enter Tryz.func84, Tryz.ntmps84; go_wp2_with fail; go_ret; exact ⟨rfl, HB1.out _⟩
   · have hR : Hid (Pp.typeT ⟨1, n⟩ = []) := hide (Sh.typeT_no (by unfold Pp.typeB; rw [if_pos (by simp)]; simpa using hn))
     have hne := sh_nonempty n hn; rw [hR.out]; generalize (⟨n.toArray⟩ : ByteArray) = S at *
     go_enter Tryz.func84, Tryz.ntmps84; go_wp2_with fail; go_ret; exact ⟨rfl, HB1.out _⟩
 · subst hk
   by_cases hn : n = []
   · subst hn
     have hR : Hid (Pp.typeT ⟨2, []⟩ = [105, 110, 116]) := hide (by decide +kernel)
     rw [hR.out]; go_enter Tryz.func84, Tryz.ntmps84; go_wp2_with fail; go_ret; exact ⟨rfl, HB1.out _⟩
   · have hR : Hid (Pp.typeT ⟨2, n⟩ = []) := hide (Sh.typeT_no (by unfold Pp.typeB; rw [if_pos (by simp)]; simpa using hn))
     have hne := sh_nonempty n hn; rw [hR.out]; generalize (⟨n.toArray⟩ : ByteArray) = S at *
     go_enter Tryz.func84, Tryz.ntmps84; go_wp2_with fail; go_ret; exact ⟨rfl, HB1.out _⟩
 · subst hk
   by_cases hn : n = []
   · subst hn
     have hR : Hid (Pp.typeT ⟨4, []⟩ = [105, 110, 116, 91, 93]) := hide (by decide +kernel)
     rw [hR.out]; go_enter Tryz.func84, Tryz.ntmps84; go_wp2_with fail; go_ret; exact ⟨rfl, HB1.out _⟩
   · have hR : Hid (Pp.typeT ⟨4, n⟩ = []) := hide (Sh.typeT_no (by unfold Pp.typeB; rw [if_pos (by simp)]; simpa using hn))
     have hne := sh_nonempty n hn; rw [hR.out]; generalize (⟨n.toArray⟩ : ByteArray) = S at *
     go_enter Tryz.func84, Tryz.ntmps84; go_wp2_with fail; go_ret; exact ⟨rfl, HB1.out _⟩
 · subst hk
   have HRR : Hid (Pp.typeT ⟨3, n⟩ = if Pp.freshB n = true then n else []) := hide (by unfold Pp.typeT; rw [show Pp.typeB ⟨3, n⟩ = Pp.freshB n from rfl]; cases Pp.freshB n <;> simp [Pp.tyW, Sh.wtx_nm])
   rw [HRR.out]; cases hb : Pp.freshB n with
   | false =>
     rw [hb] at hF; clear hb HRR; rw [if_neg Bool.false_ne_true]; generalize (⟨n.toArray⟩ : ByteArray) = S at *
     go_enter Tryz.func84, Tryz.ntmps84; go_wp2_with fail; refine (hF.out _).mono ?_; rintro e w2 ⟨rfl, hb2⟩; have HB2 := hide (((Below.refl _ _).alloc (Nat.le_refl _) _).trans (hb2.mono (by simp)))
     obtain ⟨B1, _, hsz⟩ := box_one hb2; have p0 : w2.cell? ⟨w.heap.size, 0, none⟩ = some (.int .i64 3) := B1 0; have p1 : w2.cell? ⟨w.heap.size, 1, none⟩ = some (.string S) := B1 1; clear hb2 B1 hF; go_wp2_with fail; go_ret; exact ⟨rfl, HB2.out⟩
   | true =>
     rw [hb] at hF; have hnl : n.length <= 20 := ((Lx.nameL_iff n).1 ((Pp.freshB_iff n).1 hb).1).2.1; clear hb HRR; rw [if_pos rfl]; have hap : Hid ((⟨n.toArray⟩ : ByteArray) ++ ⟨#[91, 93]⟩ = ⟨(n ++ [91, 93]).toArray⟩) := hide (by apply ByteArray.ext; simp)
     go_enter Tryz.func84, Tryz.ntmps84; go_wp2_with fail; refine (hF.out _).mono ?_; rintro e w2 ⟨rfl, hb2⟩; have HB2 := hide (((Below.refl _ _).alloc (Nat.le_refl _) _).trans (hb2.mono (by simp)))
     obtain ⟨B1, _, hsz⟩ := box_one hb2; have p0 : w2.cell? ⟨w.heap.size, 0, none⟩ = some (.int .i64 3) := B1 0; have p1 : w2.cell? ⟨w.heap.size, 1, none⟩ = some (.string ⟨n.toArray⟩) := B1 1; clear hb2 B1 hF; go_wp2_with fail; go_ret; exact ⟨by first | rfl | (rw [<- hap.out]; rfl), HB2.out⟩
 · subst hk
   have HRR : Hid (Pp.typeT ⟨5, n⟩ = if Pp.freshB n = true then n ++ [91, 93] else []) := hide (by unfold Pp.typeT; rw [show Pp.typeB ⟨5, n⟩ = Pp.freshB n from rfl]; cases Pp.freshB n <;> simp [Pp.tyW, Sh.wtx_nm, Sh.wtx_sg, Pp.wLK, Pp.wRK])
   rw [HRR.out]; cases hb : Pp.freshB n with
   | false =>
     rw [hb] at hF; clear hb HRR; rw [if_neg Bool.false_ne_true]; generalize (⟨n.toArray⟩ : ByteArray) = S at *
     go_enter Tryz.func84, Tryz.ntmps84; go_wp2_with fail; refine (hF.out _).mono ?_; rintro e w2 ⟨rfl, hb2⟩; have HB2 := hide (((Below.refl _ _).alloc (Nat.le_refl _) _).trans (hb2.mono (by simp)))
     obtain ⟨B1, _, hsz⟩ := box_one hb2; have p0 : w2.cell? ⟨w.heap.size, 0, none⟩ = some (.int .i64 5) := B1 0; have p1 : w2.cell? ⟨w.heap.size, 1, none⟩ = some (.string S) := B1 1; clear hb2 B1 hF; go_wp2_with fail; go_ret; exact ⟨rfl, HB2.out⟩
   | true =>
     rw [hb] at hF; have hnl : n.length <= 20 := ((Lx.nameL_iff n).1 ((Pp.freshB_iff n).1 hb).1).2.1; clear hb HRR; rw [if_pos rfl]; have hap : Hid ((⟨n.toArray⟩ : ByteArray) ++ ⟨#[91, 93]⟩ = ⟨(n ++ [91, 93]).toArray⟩) := hide (by apply ByteArray.ext; simp)
     go_enter Tryz.func84, Tryz.ntmps84; go_wp2_with fail; refine (hF.out _).mono ?_; rintro e w2 ⟨rfl, hb2⟩; have HB2 := hide (((Below.refl _ _).alloc (Nat.le_refl _) _).trans (hb2.mono (by simp)))
     obtain ⟨B1, _, hsz⟩ := box_one hb2; have p0 : w2.cell? ⟨w.heap.size, 0, none⟩ = some (.int .i64 5) := B1 0; have p1 : w2.cell? ⟨w.heap.size, 1, none⟩ = some (.string ⟨n.toArray⟩) := B1 1; clear hb2 B1 hF; go_wp2_with fail; go_ret; exact ⟨by first | rfl | (rw [<- hap.out]; rfl), HB2.out⟩
 · have hR : Hid (Pp.typeT ⟨k, n⟩ = []) := hide (Sh.typeT_no (by unfold Pp.typeB; rw [if_neg (by simp only; omega), if_neg (by simp only; omega)]))
   have e1 : (k == 1) = false := by simpa using k1
   have e2 : (k == 2) = false := by simpa using k2
   have e3 : (k == 3) = false := by simpa using k3
   have e4 : (k == 4) = false := by simpa using k4
   have e5 : (k == 5) = false := by simpa using k5
   rw [hR.out]; generalize (⟨n.toArray⟩ : ByteArray) = S at *
   clear k1 k2 k3 k4 k5; go_enter Tryz.func84, Tryz.ntmps84; go_wp2_with fail; go_ret; exact ⟨rfl, HB1.out _⟩
theorem Shape_any (op : Nat) (h : op < 44) (w : World) :
 Calls Tryz.prog 118 #[.int .i64 (op : Int)] w fun e w' => e = .returned (.int .i64 (Pp.shape op : Int)) /\ w' = w := by
 rcases (show op = 0 \/ op = 1 \/ op = 2 \/ op = 3 \/ op = 4 \/ op = 5 \/ op = 6 \/ op = 7 \/ op = 8 \/ op = 9 \/ op = 10 \/ op = 11 \/ op = 12 \/ op = 13 \/ op = 14 \/ op = 15 \/ op = 16 \/ op = 17 \/ op = 18 \/ op = 19 \/ op = 20 \/ op = 21 \/ op = 22 \/ op = 23 \/ op = 24 \/ op = 25 \/ op = 26 \/ op = 27 \/ op = 28 \/ op = 29 \/ op = 30 \/ op = 31 \/ op = 32 \/ op = 33 \/ op = 34 \/ op = 35 \/ op = 36 \/ op = 37 \/ op = 38 \/ op = 39 \/ op = 40 \/ op = 41 \/ op = 42 \/ op = 43 by omega) with rfl | rfl | rfl | rfl | rfl | rfl | rfl | rfl | rfl | rfl | rfl | rfl | rfl | rfl | rfl | rfl | rfl | rfl | rfl | rfl | rfl | rfl | rfl | rfl | rfl | rfl | rfl | rfl | rfl | rfl | rfl | rfl | rfl | rfl | rfl | rfl | rfl | rfl | rfl | rfl | rfl | rfl | rfl | rfl
 all_goals (go_enter Tryz.func118, Tryz.ntmps118; go_wp2; go_ret; exact ⟨rfl, rfl⟩)
end Go.Proofs.YtjlappamkfjlkaaGreatDoor
