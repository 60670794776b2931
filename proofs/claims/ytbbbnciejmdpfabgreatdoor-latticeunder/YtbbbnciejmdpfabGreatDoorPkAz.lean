/- What the laws of this seat lean on: 2 texts. -/
import Derived.Test.YtbbbnciejmdpfabGreatDoorPkAy
set_option maxRecDepth 100000
set_option maxHeartbeats 64000000
set_option linter.unusedVariables false
set_option linter.unusedSimpArgs false
namespace Go.Proofs.YtbbbnciejmdpfabGreatDoor
open Go.RowKit
theorem lack_any (N : Net) (l : List Pp.XCls) (bs : List Nat) (hok : NetOk N l bs) (w0 : World) (b : Nat) (hb : N.T b) (m : Pp.XMth) (ms : List Value) (hm : MthX w0 m ms) (hmp : m.params.length <= 100) (w : World) (A : Nat -> Prop) (h : Rdy N w0 w A) (hop : ∀ o, Ly.methP N b m.name = some o -> o.2.params.length <= 100) :
 Calls Tryz.prog 100 #[.pointer (some ⟨b, 0, none⟩), .agg ms.toArray] w fun e w' => e = .returned (.int .i64 (Ly.lackF N b m)) /\ Rdy N w0 w' A /\ Fx N.T w w' := by
 have HM := hide hm; have HT := hide (fun k hk => (h.2.2.1 k hk).2); have HMe := hide (fun wx (hx : Below w.heap.size w wx) => method_any N hok.good hok.small w0 b hb m.name wx A (h.on hx)); have HOp := hide hop; obtain ⟨vp, vc, vk, rfl, x1, x2, x3, _⟩ := hm; obtain ⟨xa1, xd1, rfl, _⟩ := x1.len; obtain ⟨xa2, xd2, rfl, _⟩ := x2.len; obtain ⟨xa3, xd3, rfl, _⟩ := x3.len; clear x1 x2 x3 h hok hb hop; obtain ⟨r, hr⟩ : ∃ r, r = Ly.lackF N b m := ⟨_, rfl⟩; have HR := hide hr; rw [<- hr]; clear hr; unfold Ly.lackF at HR; simp only [mthXL] at HM ⊢; have HAl := hide (fun (o : Pp.Bs × Pp.XMth) (zs : List Value) (wx : World) (hw : Below w0.heap.size w0 wx) (hz : MthX w0 o.2 zs) (hl : o.2.params.length <= 100) => alike_any o.2 m zs _ wx (hz.on hw) (HM.out.on hw) (by omega) (by omega))
 clear HM; generalize Ly.methP N b m.name = res at *
 generalize (⟨m.name.toArray⟩ : ByteArray) = NB at *
 generalize (⟨m.ret.name.toArray⟩ : ByteArray) = rn at *
 generalize m.stat = st at *
 generalize m.abst = ab at *
 generalize m.ret.kind = rk at *
 generalize m.locals = lo at *
 generalize m.params.length = n1 at *
 generalize m.code.length = n2 at *
 generalize m.catches.length = n3 at *
 have hA := (Below.refl w.heap.size w).alloc (Nat.le_refl _) (.cells #[.string NB, .bool st, .bool ab, .slice xa1 n1 xd1, .int .i64 rk, .string rn, .int .i64 lo, .slice xa2 n2 xd2, .slice xa3 n3 xd3] 48); have HA := hide hA; have HX0 := hide (heap_alloc_new w (.cells #[.string NB, .bool st, .bool ab, .slice xa1 n1 xd1, .int .i64 rk, .string rn, .int .i64 lo, .slice xa2 n2 xd2, .slice xa3 n3 xd3] 48)); have HMc := HMe.out _ hA; clear HMe; have HMc := hide HMc; go_enter Tryz.func100, Tryz.ntmps100; go_wp2_with fail; generalize w.alloc (.cells #[.string NB, .bool st, .bool ab, .slice xa1 n1 xd1, .int .i64 rk, .string rn, .int .i64 lo, .slice xa2 n2 xd2, .slice xa3 n3 xd3] 48) = wa at *
 refine HMc.out.mono ?_; rintro e w1 ⟨⟨zs, rfl, hz1, hz2⟩, hr1, hf1⟩; have HR1 := hide hr1; have HF1 := hide ((Fx.below hA).trans hf1); have hX1 := (hf1.blk _ (Ow.lt_of_blk HX0.out) fun hk => Nat.lt_irrefl _ (HT.out _ hk)).trans HX0.out; have HX1 := hide hX1; have HZ1 := hide hz1; have HZ2 := hide hz2; clear hr1 hf1 hX1 HX0 HMc hz1 hz2 hA; cases res with
 | none =>
   have hzs := HZ2.out rfl; subst hzs; have HQ : Hid (r = 5) := hide HR.out; simp only [zeroO]; have HB2 := hide ((Below.refl w1.heap.size w1).alloc (Nat.le_refl _) (.cells #[.string ⟨#[]⟩, .string ⟨#[]⟩, .bool false, .bool false, .slice none 0 0, .int .i64 0, .string ⟨#[]⟩, .int .i64 0, .slice none 0 0, .slice none 0 0] 150)); clear HZ1 HZ2 HR HAl HOp HX1; go_wp2_with fail; go_ret; exact ⟨by rw [HQ.out]; rfl, HR1.out.on HB2.out, HF1.out.trans (Fx.below HB2.out)⟩
 | some o =>
   have ho := HZ1.out o rfl; obtain ⟨_, rfl, ho⟩ := ho; have HO := hide ho; have hol := HOp.out o rfl; obtain ⟨vp, vc, vk, rfl, y1, y2, y3, _⟩ := ho; obtain ⟨va1, vd1, rfl, _⟩ := y1.len; obtain ⟨va2, vd2, rfl, _⟩ := y2.len; obtain ⟨va3, vd3, rfl, _⟩ := y3.len; clear y1 y2 y3 HZ1 HZ2 HOp; simp only [mthXL] at HO ⊢; have hA2 := (Below.refl w1.heap.size w1).alloc (Nat.le_refl _) (.cells #[.string ⟨o.1.toArray⟩, .string ⟨o.2.name.toArray⟩, .bool o.2.stat, .bool o.2.abst, .slice va1 o.2.params.length vd1, .int .i64 o.2.ret.kind, .string ⟨o.2.ret.name.toArray⟩, .int .i64 o.2.locals, .slice va2 o.2.code.length vd2, .slice va3 o.2.catches.length vd3] 150); have HB2 := hide hA2; have hX2 := (hA2.block _ (Ow.lt_of_blk HX1.out)).trans HX1.out; have hY2 := heap_alloc_new w1 (.cells #[.string ⟨o.1.toArray⟩, .string ⟨o.2.name.toArray⟩, .bool o.2.stat, .bool o.2.abst, .slice va1 o.2.params.length vd1, .int .i64 o.2.ret.kind, .string ⟨o.2.ret.name.toArray⟩, .int .i64 o.2.locals, .slice va2 o.2.code.length vd2, .slice va3 o.2.catches.length vd3] 150); have b1 := cell_box hY2 1; have b2 := cell_box hY2 2; have b3 := cell_box hY2 3; have b4 := cell_box hY2 4; have b5 := cell_box hY2 5; have b6 := cell_box hY2 6; have b7 := cell_box hY2 7; have b8 := cell_box hY2 8; have b9 := cell_box hY2 9; have m0 := cell_box hX2 0; have m1 := cell_box hX2 1; have m2 := cell_box hX2 2; have m3 := cell_box hX2 3; have m4 := cell_box hX2 4; have m5 := cell_box hX2 5; have m6 := cell_box hX2 6; have m7 := cell_box hX2 7; have m8 := cell_box hX2 8; have HAc := hide (HAl.out o _ _ (HR1.out.1.trans (hA2.mono HR1.out.1.size)) HO.out hol); have HR2 : Hid (r = if (o.2.stat || !Ly.alikeB o.2 m) = true then 8 else 0) := hide HR.out
   obtain ⟨os, hos⟩ : ∃ q, q = o.2.stat := ⟨_, rfl⟩; rw [<- hos] at HR2 b2 HAc HB2 b1 b3 b4 b5 b6 b7 b8 b9 m0 m1 m2 m3 m4 m5 m6 m7 m8 ⊢; clear hos hX2 hY2 hA2 HR HAl HX1 HO; cases os with
   | true =>
     have HQ : Hid (r = 8) := hide (by rw [HR2.out]; rfl)
     clear HR2 HAc; go_wp2_with fail; go_ret; exact ⟨by rw [HQ.out]; rfl, HR1.out.on HB2.out, HF1.out.trans (Fx.below HB2.out)⟩
   | false =>
     go_wp2_with fail; refine HAc.out.mono ?_; rintro e w3 ⟨rfl, hb3⟩; have HB3 := hide (HB2.out.trans (hb3.mono HB2.out.size)); clear HAc hb3; cases hal : Ly.alikeB o.2 m with
     | true =>
       have HQ : Hid (r = 0) := hide (by rw [HR2.out, hal]; rfl)
       clear HR2 hal; go_wp2_with fail; go_ret; exact ⟨by rw [HQ.out]; rfl, HR1.out.on HB3.out, HF1.out.trans (Fx.below HB3.out)⟩
     | false =>
       have HQ : Hid (r = 8) := hide (by rw [HR2.out, hal]; rfl)
       clear HR2 hal; go_wp2_with fail; go_ret; exact ⟨by rw [HQ.out]; rfl, HR1.out.on HB3.out, HF1.out.trans (Fx.below HB3.out)⟩
theorem mtF_of {N : Net} (hG : N.Good) : ∀ n b, N.T b -> ∀ o ∈ N.mtF n b, ∃ q, N.T q /\ o.2 ∈ (N.cl q).methods
 | 0, _, _, o, ho => by cases ho
 | n + 1, b, hb, o, ho => by
   unfold Net.mtF at ho
   have h0 : ∀ o ∈ Net.ownM (N.cl b), ∃ q, N.T q /\ o.2 ∈ (N.cl q).methods := by
    intro o ho; obtain ⟨m, hm, rfl⟩ := List.mem_map.1 ho; exact ⟨b, hb, hm⟩
   cases hs : N.sup b with
   | none => rw [hs] at ho; exact h0 o ho
   | some s =>
     rw [hs] at ho
     rcases List.mem_append.1 ho with ho | ho
     · exact h0 o ho
     · exact mtF_of hG n s (hG.sup b s hb hs).1 o ho
theorem NetOk.mtp {N : Net} {l : List Pp.XCls} {bs : List Nat} (h : NetOk N l bs) {b : Nat} (hb : N.T b) {nm : Pp.Bs} {o : Pp.Bs × Pp.XMth} (ho : Ly.methP N b nm = some o) : o.2.params.length <= 100 := by
 obtain ⟨q, h1, h2⟩ := mtF_of h.good _ b hb o (List.mem_of_find?_eq_some ho); exact h.pars q h1 _ h2
theorem Rdy.live {N : Net} {w0 w : World} {A : Nat -> Prop} (h : Rdy N w0 w A) {l : List Nat} (hl : ∀ x ∈ l, N.T x) : Live w l := fun x hx => by
 obtain ⟨cs, h1, _⟩ := h.head (hl x hx); exact ⟨cs, h1⟩
theorem ifaceFault_any (N : Net) (l : List Pp.XCls) (bs : List Nat) (hok : NetOk N l bs) (v : Value) (b : Nat) (hb : N.T b) (w0 w : World) (A : Nat -> Prop) (h : Rdy N w0 w A) (hrow : Stb (fun k => N.T k \/ A k) w 1 PtrX v bs) :
 Calls Tryz.prog 84 #[v, .pointer (some ⟨b, 0, none⟩)] w fun e w' => e = .returned (.int .i64 (Ly.ifcF N bs b)) /\ Rdy N w0 w' A /\ Fx N.T w w' := by
 have HOk := hide hok; have HTb := hide hb; have HRdy := hide h; obtain ⟨cs, ys, hcs, hcl, hys, _⟩ := h.cls hb; obtain ⟨ia, ic, fa, fc, ma, mc, rfl, _⟩ := cls_open hcl; have c1 := hys 1 _ rfl; obtain ⟨va, vc, rfl, _⟩ := hrow.row.len; obtain ⟨nb, hnb⟩ : ∃ q, q = bs.length := ⟨_, rfl⟩; have HN := hide hnb; have hn1 : nb <= 1000 := by rw [hnb]; exact hok.len
 rw [<- hnb] at hrow ⊢; have HRow := hide hrow; obtain ⟨r, hr⟩ : ∃ r, r = Ly.ifcF N bs b := ⟨_, rfl⟩; have HR := hide hr; rw [<- hr]; unfold Ly.ifcF at HR; obtain ⟨fi, hfi⟩ : ∃ q, q = (N.cl b).iface := ⟨_, rfl⟩; rw [<- hfi] at c1 HR; have HM := hide (fun wx (hx : Rdy N w0 wx A) => made_rdy N hok.good hok.small w0 b hb wx A hx); clear hr hfi hcl hys hcs hnb hrow hok hb h; cases fi with
 | true =>
   have HQ : Hid (r = 0) := hide (by rw [HR.out]; rfl)
   go_enter Tryz.func84, Tryz.ntmps84; go_wp2_with fail; go_ret; exact ⟨by rw [HQ.out]; rfl, HRdy.out, Fx.refl _ _⟩
 | false =>
   have HR1 : Hid (r = Ly.firstL (Ly.faceF N b) bs) := hide (by rw [HR.out, if_neg (by decide)])
   clear HR; go_enter Tryz.func84, Tryz.ntmps84; go_wp2_with fail
   go_loopw [17] (fun i wr => ∃ k : Nat, k <= nb /\ i = .int .i64 k /\ Hid (Rdy N w0 wr A) /\ Hid (Fx N.T w wr) /\ Hid (Ly.firstL (Ly.faceF N b) (bs.take k) = 0)) (fun i _ => nb - (intOf i).toNat)
   case atStart => exact ⟨0, Nat.zero_le _, rfl, HRdy, hide (Fx.refl _ _), hide rfl⟩
   case round =>
    obtain ⟨k, hk, rfl, HQr, HF, HZ⟩ := hrel; by_cases hlt : k < nb
    · obtain ⟨x, hx⟩ : ∃ x, bs[k]? = some x := ⟨bs[k]'(by rw [<- HN.out]; exact hlt), List.getElem?_eq_getElem _⟩
      have HRr := (HRow.out.on (HF.out.mono fun k _ hk => Or.inl hk) fun _ _ h => h).row; rw [HN.out] at HRr; obtain ⟨g, o, rfl, ys, wf, hc⟩ := Ow.row_at' HRr hx; have hwf : ys = [.pointer (some ⟨x, 0, none⟩)] := wf; subst hwf; have r0 := hc wr (Below.refl _ _) 0 _ rfl; rw [Nat.add_zero, Nat.mul_one] at r0; have hTx : N.T x := (HOk.out.mem x).2 (List.mem_of_getElem? hx); have HTx := hide hTx; have HSt := hide (fun hf => HR1.out.trans (Ly.firstL_stop (f := Ly.faceF N b) HZ.out hx hf)); have HTk := hide (Ly.firstL_take (f := Ly.faceF N b) HZ.out hx); clear hc wf hx HRr HZ hTx; have hlt' : (k : Int) < (nb : Int) := by omega
      have HM1 := hide (HM.out wr HQr.out); go_wp2_with fail; refine HM1.out.mono ?_; rintro e w1 ⟨rfl, hr1, hf1, cs1, hcs1, vs1, vm1, va1, _, _, e13, _, _, hs13⟩; have HQ1 := hide hr1; have HF1 := hide (HF.out.trans hf1); have c13 := (cell_box hcs1 13).trans e13
      have HIn := hide (hasT_any (N.ab b) x va1 w1 hs13.row (Nat.le_trans (HOk.out.small.ab b HTb.out) (by decide)) (hr1.live fun z hz => by
       rcases List.mem_cons.1 hz with rfl | hz
       · exact HTx.out
       · exact ((HOk.out.good.mem_ab _ b HTb.out (Nat.lt_succ_self _)).2 z hz).1))
      obtain ⟨pa, pc, rfl, _⟩ := hs13.row.len; clear HM1 hr1 hf1 hcs1 e13 hs13; go_wp2_with fail; refine HIn.out.mono ?_; rintro e w2 ⟨rfl, hw2⟩; have hw2' := hw2.symm; subst hw2'; clear HIn hw2 c13; by_cases hin : x ∈ N.ab b
      · rw [decide_eq_true hin]
        have HFace : Hid (Ly.faceF N b x = Ly.firstL (Ly.lackF N b) (N.cl x).methods) := hide (by unfold Ly.faceF; rw [if_pos hin])
        obtain ⟨csx, ysx, hcsx, hclx, hysx, _⟩ := HQ1.out.cls HTx.out; obtain ⟨ja, jc, ga, gc, na, nc, rfl, _, _, xrow⟩ := cls_open hclx; have e5 := hysx 5 _ rfl; have HXr := hide xrow; have HXp := hide (HOk.out.pars x HTx.out); have HXm := hide (HOk.out.small.mths x HTx.out); obtain ⟨nx, hnx⟩ : ∃ q, q = (N.cl x).methods.length := ⟨_, rfl⟩; have HNx := hide hnx; rw [<- hnx] at e5 HXr HXm; clear hin hcsx hclx hysx xrow hnx; have hnx1 : (nx : Int) <= 100 := by have := HXm.out; omega
        go_wp2_with fail; obtain ⟨wB, hwB⟩ : ∃ q, q = w1 := ⟨_, rfl⟩
        go_loopw [35] (fun i wr => ∃ j : Nat, j <= nx /\ i = .int .i64 j /\ Hid (Rdy N w0 wr A) /\ Hid (Fx N.T w wr) /\ Hid (Ly.firstL (Ly.lackF N b) ((N.cl x).methods.take j) = 0)) (fun i _ => nx - (intOf i).toNat)
        case atStart => exact ⟨0, Nat.zero_le _, rfl, HQ1, HF1, hide rfl⟩
        case round =>
         clear HQ1 HF1 HQr HF e5 r0 hwB; obtain ⟨j, hj, rfl, HQj, HFj, HZj⟩ := hrel; by_cases hjl : j < nx
         · obtain ⟨m, hm⟩ : ∃ m, (N.cl x).methods[j]? = some m := ⟨(N.cl x).methods[j]'(by rw [<- HNx.out]; exact hjl), List.getElem?_eq_getElem _⟩
           obtain ⟨g2, o2, rfl, ms, mf, hcm⟩ := Ow.row_at' HXr.out hm; have hG := hide (hcm _ HQj.out.1); have hmp := HXp.out m (List.mem_of_getElem? hm); have HSm := hide (fun hf => Ly.firstL_stop (f := Ly.lackF N b) HZj.out hm hf); have HTm := hide (Ly.firstL_take (f := Ly.lackF N b) HZj.out hm); have HMf := hide mf; obtain ⟨vp, vc', vk, rfl, x1, x2, x3, _⟩ := mf; obtain ⟨xa1, xd1, rfl, _⟩ := x1.len; obtain ⟨xa2, xd2, rfl, _⟩ := x2.len; obtain ⟨xa3, xd3, rfl, _⟩ := x3.len; clear hcm hm x1 x2 x3 HZj; have s0 := hG.out 0 _ rfl; have s1 := hG.out 1 _ rfl; have s2 := hG.out 2 _ rfl; have s3 := hG.out 3 _ rfl; have s4 := hG.out 4 _ rfl; have s5 := hG.out 5 _ rfl; have s6 := hG.out 6 _ rfl; have s7 := hG.out 7 _ rfl; have s8 := hG.out 8 _ rfl; rw [Nat.add_zero] at s0; clear hG; simp only [mthXL] at HMf; have hjl' : (j : Int) < (nx : Int) := by omega
           have hA := (Below.refl wr.heap.size wr).alloc (Nat.le_refl _) (.cells #[.string ⟨m.name.toArray⟩, .bool m.stat, .bool m.abst, .slice xa1 m.params.length xd1, .int .i64 m.ret.kind, .string ⟨m.ret.name.toArray⟩, .int .i64 m.locals, .slice xa2 m.code.length xd2, .slice xa3 m.catches.length xd3] 48); have hbx := heap_alloc_new wr (.cells #[.string ⟨m.name.toArray⟩, .bool m.stat, .bool m.abst, .slice xa1 m.params.length xd1, .int .i64 m.ret.kind, .string ⟨m.ret.name.toArray⟩, .int .i64 m.locals, .slice xa2 m.code.length xd2, .slice xa3 m.catches.length xd3] 48); have b0 := cell_box hbx 0; have b1 := cell_box hbx 1; have b2 := cell_box hbx 2; have b3 := cell_box hbx 3; have b4 := cell_box hbx 4; have b5 := cell_box hbx 5; have b6 := cell_box hbx 6; have b7 := cell_box hbx 7; have b8 := cell_box hbx 8; have HFA := hide (HFj.out.trans (Fx.below hA)); have HLk := hide (lack_any N l bs HOk.out w0 b HTb.out m _ HMf.out hmp _ A (HQj.out.on hA) fun o ho => HOk.out.mtp HTb.out ho); generalize Ly.lackF N b m = lf at HLk HSm HTm; clear hA hbx HMf; go_wp2_with fail; refine HLk.out.mono ?_; rintro e w5 ⟨rfl, hr5, hf5⟩; have HQ5 := hide hr5; have HF5 := hide (HFA.out.trans hf5); clear HLk hr5 hf5; by_cases hlf : lf = 0
           · subst hlf
             have HT5 := hide (HTm.out); clear HSm HTm; go_wp2_with fail
             go_roundw
             case rel => exact ⟨j + 1, by omega, by go_num, HQ5, HF5, HT5⟩
             case measure => simp [intOf]; omega
           · have hlf' : (lf != 0) = true := by simpa using hlf
             have HRes : Hid (r = lf) := hide (by
              have h1 := HSm.out hlf; rw [<- HFace.out] at h1; rw [<- h1]
              exact HSt.out (by rw [h1]; exact hlf))
             clear HSm HTm hlf; go_wp2_with fail; go_ret; exact ⟨by rw [HRes.out]; rfl, HQ5.out, HF5.out⟩
         · have HEnd : Hid (Ly.firstL (Ly.faceF N b) (bs.take (k + 1)) = 0) := hide (by
            have h1 := HZj.out; rw [List.take_of_length_le (by rw [<- HNx.out]; omega)] at h1
            rw [HTk.out, HFace.out, h1])
           have hnl : ¬ ((j : Int) < (nx : Int)) := by omega
           clear HZj HTk HSt; go_wp2_with fail
           go_roundw
           case rel => exact ⟨k + 1, by omega, by go_num, HQj, HFj, HEnd⟩
           case measure => simp [intOf]; omega
      · rw [decide_eq_false hin]
        have HEnd : Hid (Ly.firstL (Ly.faceF N b) (bs.take (k + 1)) = 0) := hide (by rw [HTk.out]; unfold Ly.faceF; rw [if_neg hin])
        clear hin HTk HSt; go_wp2_with fail
        go_roundw
        case rel => exact ⟨k + 1, by omega, by go_num, HQ1, HF1, HEnd⟩
        case measure => simp [intOf]; omega
    · have HQ : Hid (r = 0) := hide (by
       have h1 := HZ.out; rw [List.take_of_length_le (by rw [<- HN.out]; omega)] at h1
       rw [HR1.out, h1])
      have hnl : ¬ ((k : Int) < (nb : Int)) := by omega
      clear HZ; go_wp2_with fail; go_ret; exact ⟨by rw [HQ.out]; rfl, HQr.out, HF.out⟩
end Go.Proofs.YtbbbnciejmdpfabGreatDoor
