/- What the laws of this seat lean on: 3 texts. -/
import Derived.Test.YtjlappamkfjlkabGreatDoorPkAk
set_option maxRecDepth 100000
set_option maxHeartbeats 64000000
set_option linter.unusedVariables false
set_option linter.unusedSimpArgs false
namespace Go.Proofs.YtjlappamkfjlkabGreatDoor
open Go.RowKit
theorem lack_any (N : Net) (l : List Pp.XCls) (bs : List Nat) (hok : NetOk N l bs) (w0 : World) (b : Nat) (hb : N.T b) (m : Pp.XMth) (ms : List Value) (hm : MthX w0 m ms) (hmp : m.params.length <= 100) (w : World) (A : Nat -> Prop) (h : Rdy N w0 w A) (hop : ∀ o, Ly.methP N b m.name = some o -> o.2.params.length <= 100) :
 Calls Tryz.prog 48 #[.pointer (some ⟨b, 0, none⟩), .agg ms.toArray] w fun e w' => e = .returned (.int .i64 (Ly.lackF N b m)) /\ Rdy N w0 w' A /\ Fx N.T w w' := by
 have HM := hide hm; have HT := hide (fun k hk => (h.2.2.1 k hk).2); have HMe := hide (fun wx (hx : Below w.heap.size w wx) => method_any N hok.good hok.small w0 b hb m.name wx A (h.on hx)); have HOp := hide hop; obtain ⟨vp, vc, vk, rfl, x1, x2, x3, _⟩ := hm; obtain ⟨xa1, xd1, rfl, _⟩ := x1.len; obtain ⟨xa2, xd2, rfl, _⟩ := x2.len; obtain ⟨xa3, xd3, rfl, _⟩ := x3.len; clear x1 x2 x3 h hok hb hop; obtain ⟨r, hr⟩ : ∃ r, r = Ly.lackF N b m := ⟨_, rfl⟩; have HR := hide hr; rw [<- hr]; clear hr; unfold Ly.lackF at HR; simp only [mthXL] at HM ⊢; have HAl := hide (fun (o : Pp.Bs × Pp.XMth) (zs : List Value) (wx : World) (hw : Below w0.heap.size w0 wx) (hz : MthX w0 o.2 zs) (hl : o.2.params.length <= 100) => alike_any o.2 m zs _ wx (hz.on hw) (HM.out.on hw) (by omega) (by omega))
 clear HM; generalize Ly.methP N b m.name = res at *
 generalize (⟨m.name.toArray⟩ : ByteArray) = NB at *
 generalize (⟨m.ret.name.toArray⟩ : ByteArray) = rn at *
 generalize m.stat = st at *
 generalize m.abst = ab at *
 generalize m.ret.kind = rk at *
 generalize m.locals = lo at *
 generalize m.params.length = n1 at *
 generalize m.code.length = n2 at *
 generalize m.catches.length = n3 at *
 have hA := (Below.refl w.heap.size w).alloc (Nat.le_refl _) (.cells #[.string NB, .bool st, .bool ab, .slice xa1 n1 xd1, .int .i64 rk, .string rn, .int .i64 lo, .slice xa2 n2 xd2, .slice xa3 n3 xd3] 29); have HA := hide hA; have HX0 := hide (heap_alloc_new w (.cells #[.string NB, .bool st, .bool ab, .slice xa1 n1 xd1, .int .i64 rk, .string rn, .int .i64 lo, .slice xa2 n2 xd2, .slice xa3 n3 xd3] 29)); have HMc := HMe.out _ hA; clear HMe; have HMc := hide HMc; go_enter Tryz.func48, Tryz.ntmps48; go_wp2_with fail; generalize w.alloc (.cells #[.string NB, .bool st, .bool ab, .slice xa1 n1 xd1, .int .i64 rk, .string rn, .int .i64 lo, .slice xa2 n2 xd2, .slice xa3 n3 xd3] 29) = wa at *
 refine HMc.out.mono ?_; rintro e w1 ⟨⟨zs, rfl, hz1, hz2⟩, hr1, hf1⟩; have HR1 := hide hr1; have HF1 := hide ((Fx.below hA).trans hf1); have hX1 := (hf1.blk _ (Ow.lt_of_blk HX0.out) fun hk => Nat.lt_irrefl _ (HT.out _ hk)).trans HX0.out; have HX1 := hide hX1; have HZ1 := hide hz1; have HZ2 := hide hz2; clear hr1 hf1 hX1 HX0 HMc hz1 hz2 hA; cases res with
 | none =>
   have hzs := HZ2.out rfl; subst hzs; have HQ : Hid (r = 5) := hide HR.out; simp only [zeroO]; have HB2 := hide ((Below.refl w1.heap.size w1).alloc (Nat.le_refl _) (.cells #[.string ⟨#[]⟩, .string ⟨#[]⟩, .bool false, .bool false, .slice none 0 0, .int .i64 0, .string ⟨#[]⟩, .int .i64 0, .slice none 0 0, .slice none 0 0] 55)); clear HZ1 HZ2 HR HAl HOp HX1; go_wp2_with fail; go_ret; exact ⟨by rw [HQ.out]; rfl, HR1.out.on HB2.out, HF1.out.trans (Fx.below HB2.out)⟩
 | some o =>
   have ho := HZ1.out o rfl; obtain ⟨_, rfl, ho⟩ := ho; have HO := hide ho; have hol := HOp.out o rfl; obtain ⟨vp, vc, vk, rfl, y1, y2, y3, _⟩ := ho; obtain ⟨va1, vd1, rfl, _⟩ := y1.len; obtain ⟨va2, vd2, rfl, _⟩ := y2.len; obtain ⟨va3, vd3, rfl, _⟩ := y3.len; clear y1 y2 y3 HZ1 HZ2 HOp; simp only [mthXL] at HO ⊢; have hA2 := (Below.refl w1.heap.size w1).alloc (Nat.le_refl _) (.cells #[.string ⟨o.1.toArray⟩, .string ⟨o.2.name.toArray⟩, .bool o.2.stat, .bool o.2.abst, .slice va1 o.2.params.length vd1, .int .i64 o.2.ret.kind, .string ⟨o.2.ret.name.toArray⟩, .int .i64 o.2.locals, .slice va2 o.2.code.length vd2, .slice va3 o.2.catches.length vd3] 55); have HB2 := hide hA2; have hX2 := (hA2.block _ (Ow.lt_of_blk HX1.out)).trans HX1.out; have hY2 := heap_alloc_new w1 (.cells #[.string ⟨o.1.toArray⟩, .string ⟨o.2.name.toArray⟩, .bool o.2.stat, .bool o.2.abst, .slice va1 o.2.params.length vd1, .int .i64 o.2.ret.kind, .string ⟨o.2.ret.name.toArray⟩, .int .i64 o.2.locals, .slice va2 o.2.code.length vd2, .slice va3 o.2.catches.length vd3] 55); have b1 := cell_box hY2 1; have b2 := cell_box hY2 2; have b3 := cell_box hY2 3; have b4 := cell_box hY2 4; have b5 := cell_box hY2 5; have b6 := cell_box hY2 6; have b7 := cell_box hY2 7; have b8 := cell_box hY2 8; have b9 := cell_box hY2 9; have m0 := cell_box hX2 0; have m1 := cell_box hX2 1; have m2 := cell_box hX2 2; have m3 := cell_box hX2 3; have m4 := cell_box hX2 4; have m5 := cell_box hX2 5; have m6 := cell_box hX2 6; have m7 := cell_box hX2 7; have m8 := cell_box hX2 8; have HAc := hide (HAl.out o _ _ (HR1.out.1.trans (hA2.mono HR1.out.1.size)) HO.out hol); have HR2 : Hid (r = if (o.2.stat || !Ly.alikeB o.2 m) = true then 8 else 0) := hide HR.out
   obtain ⟨os, hos⟩ : ∃ q, q = o.2.stat := ⟨_, rfl⟩; rw [<- hos] at HR2 b2 HAc HB2 b1 b3 b4 b5 b6 b7 b8 b9 m0 m1 m2 m3 m4 m5 m6 m7 m8 ⊢; clear hos hX2 hY2 hA2 HR HAl HX1 HO; cases os with
   | true =>
     have HQ : Hid (r = 8) := hide (by rw [HR2.out]; rfl)
     clear HR2 HAc; go_wp2_with fail; go_ret; exact ⟨by rw [HQ.out]; rfl, HR1.out.on HB2.out, HF1.out.trans (Fx.below HB2.out)⟩
   | false =>
     go_wp2_with fail; refine HAc.out.mono ?_; rintro e w3 ⟨rfl, hb3⟩; have HB3 := hide (HB2.out.trans (hb3.mono HB2.out.size)); clear HAc hb3; cases hal : Ly.alikeB o.2 m with
     | true =>
       have HQ : Hid (r = 0) := hide (by rw [HR2.out, hal]; rfl)
       clear HR2 hal; go_wp2_with fail; go_ret; exact ⟨by rw [HQ.out]; rfl, HR1.out.on HB3.out, HF1.out.trans (Fx.below HB3.out)⟩
     | false =>
       have HQ : Hid (r = 8) := hide (by rw [HR2.out, hal]; rfl)
       clear HR2 hal; go_wp2_with fail; go_ret; exact ⟨by rw [HQ.out]; rfl, HR1.out.on HB3.out, HF1.out.trans (Fx.below HB3.out)⟩
theorem mtF_of {N : Net} (hG : N.Good) : ∀ n b, N.T b -> ∀ o ∈ N.mtF n b, ∃ q, N.T q /\ o.2 ∈ (N.cl q).methods
 | 0, _, _, o, ho => by cases ho
 | n + 1, b, hb, o, ho => by
   unfold Net.mtF at ho
   have h0 : ∀ o ∈ Net.ownM (N.cl b), ∃ q, N.T q /\ o.2 ∈ (N.cl q).methods := by
    intro o ho; obtain ⟨m, hm, rfl⟩ := List.mem_map.1 ho; exact ⟨b, hb, hm⟩
   cases hs : N.sup b with
   | none => rw [hs] at ho; exact h0 o ho
   | some s =>
     rw [hs] at ho
     rcases List.mem_append.1 ho with ho | ho
     · exact h0 o ho
     · exact mtF_of hG n s (hG.sup b s hb hs).1 o ho
theorem NetOk.mtp {N : Net} {l : List Pp.XCls} {bs : List Nat} (h : NetOk N l bs) {b : Nat} (hb : N.T b) {nm : Pp.Bs} {o : Pp.Bs × Pp.XMth} (ho : Ly.methP N b nm = some o) : o.2.params.length <= 100 := by
 obtain ⟨q, h1, h2⟩ := mtF_of h.good _ b hb o (List.mem_of_find?_eq_some ho); exact h.pars q h1 _ h2
theorem Rdy.live {N : Net} {w0 w : World} {A : Nat -> Prop} (h : Rdy N w0 w A) {l : List Nat} (hl : ∀ x ∈ l, N.T x) : Live w l := fun x hx => by
 obtain ⟨cs, h1, _⟩ := h.head (hl x hx); exact ⟨cs, h1⟩
theorem ifaceFault_any (N : Net) (l : List Pp.XCls) (bs : List Nat) (hok : NetOk N l bs) (v : Value) (b : Nat) (hb : N.T b) (w0 w : World) (A : Nat -> Prop) (h : Rdy N w0 w A) (hrow : Stb (fun k => N.T k \/ A k) w 1 PtrX v bs) :
 Calls Tryz.prog 29 #[v, .pointer (some ⟨b, 0, none⟩)] w fun e w' => e = .returned (.int .i64 (Ly.ifcF N bs b)) /\ Rdy N w0 w' A /\ Fx N.T w w' := by
 have HOk := hide hok; have HTb := hide hb; have HRdy := hide h; obtain ⟨cs, ys, hcs, hcl, hys, _⟩ := h.cls hb; obtain ⟨ia, ic, fa, fc, ma, mc, rfl, _⟩ := cls_open hcl; have c1 := hys 1 _ rfl; obtain ⟨va, vc, rfl, _⟩ := hrow.row.len; obtain ⟨nb, hnb⟩ : ∃ q, q = bs.length := ⟨_, rfl⟩; have HN := hide hnb; have hn1 : nb <= 1000 := by rw [hnb]; exact hok.len
 rw [<- hnb] at hrow ⊢; have HRow := hide hrow; obtain ⟨r, hr⟩ : ∃ r, r = Ly.ifcF N bs b := ⟨_, rfl⟩; have HR := hide hr; rw [<- hr]; unfold Ly.ifcF at HR; obtain ⟨fi, hfi⟩ : ∃ q, q = (N.cl b).iface := ⟨_, rfl⟩; rw [<- hfi] at c1 HR; have HM := hide (fun wx (hx : Rdy N w0 wx A) => made_rdy N hok.good hok.small w0 b hb wx A hx); clear hr hfi hcl hys hcs hnb hrow hok hb h; cases fi with
 | true =>
   have HQ : Hid (r = 0) := hide (by rw [HR.out]; rfl)
   go_enter Tryz.func29, Tryz.ntmps29; go_wp2_with fail; go_ret; exact ⟨by rw [HQ.out]; rfl, HRdy.out, Fx.refl _ _⟩
 | false =>
   have HR1 : Hid (r = Ly.firstL (Ly.faceF N b) bs) := hide (by rw [HR.out, if_neg (by decide)])
   clear HR; go_enter Tryz.func29, Tryz.ntmps29; go_wp2_with fail
   go_loopw [17] (fun i wr => ∃ k : Nat, k <= nb /\ i = .int .i64 k /\ Hid (Rdy N w0 wr A) /\ Hid (Fx N.T w wr) /\ Hid (Ly.firstL (Ly.faceF N b) (bs.take k) = 0)) (fun i _ => nb - (intOf i).toNat)
   case atStart => exact ⟨0, Nat.zero_le _, rfl, HRdy, hide (Fx.refl _ _), hide rfl⟩
   case round =>
    obtain ⟨k, hk, rfl, HQr, HF, HZ⟩ := hrel; by_cases hlt : k < nb
    · obtain ⟨x, hx⟩ : ∃ x, bs[k]? = some x := ⟨bs[k]'(by rw [<- HN.out]; exact hlt), List.getElem?_eq_getElem _⟩
      have HRr := (HRow.out.on (HF.out.mono fun k _ hk => Or.inl hk) fun _ _ h => h).row; rw [HN.out] at HRr; obtain ⟨g, o, rfl, ys, wf, hc⟩ := Ow.row_at' HRr hx; have hwf : ys = [.pointer (some ⟨x, 0, none⟩)] := wf; subst hwf; have r0 := hc wr (Below.refl _ _) 0 _ rfl; rw [Nat.add_zero, Nat.mul_one] at r0; have hTx : N.T x := (HOk.out.mem x).2 (List.mem_of_getElem? hx); have HTx := hide hTx; have HSt := hide (fun hf => HR1.out.trans (Ly.firstL_stop (f := Ly.faceF N b) HZ.out hx hf)); have HTk := hide (Ly.firstL_take (f := Ly.faceF N b) HZ.out hx); clear hc wf hx HRr HZ hTx; have hlt' : (k : Int) < (nb : Int) := by omega
      have HM1 := hide (HM.out wr HQr.out); go_wp2_with fail; refine HM1.out.mono ?_; rintro e w1 ⟨rfl, hr1, hf1, cs1, hcs1, vs1, vm1, va1, _, _, e13, _, _, hs13⟩; have HQ1 := hide hr1; have HF1 := hide (HF.out.trans hf1); have c13 := (cell_box hcs1 13).trans e13
      have HIn := hide (hasT_any (N.ab b) x va1 w1 hs13.row (Nat.le_trans (HOk.out.small.ab b HTb.out) (by decide)) (hr1.live fun z hz => by
       rcases List.mem_cons.1 hz with rfl | hz
       · exact HTx.out
       · exact ((HOk.out.good.mem_ab _ b HTb.out (Nat.lt_succ_self _)).2 z hz).1))
      obtain ⟨pa, pc, rfl, _⟩ := hs13.row.len; clear HM1 hr1 hf1 hcs1 e13 hs13; go_wp2_with fail; refine HIn.out.mono ?_; rintro e w2 ⟨rfl, hw2⟩; have hw2' := hw2.symm; subst hw2'; clear HIn hw2 c13; by_cases hin : x ∈ N.ab b
      · rw [decide_eq_true hin]
        have HFace : Hid (Ly.faceF N b x = Ly.firstL (Ly.lackF N b) (N.cl x).methods) := hide (by unfold Ly.faceF; rw [if_pos hin])
        obtain ⟨csx, ysx, hcsx, hclx, hysx, _⟩ := HQ1.out.cls HTx.out; obtain ⟨ja, jc, ga, gc, na, nc, rfl, _, _, xrow⟩ := cls_open hclx; have e5 := hysx 5 _ rfl; have HXr := hide xrow; have HXp := hide (HOk.out.pars x HTx.out); have HXm := hide (HOk.out.small.mths x HTx.out); obtain ⟨nx, hnx⟩ : ∃ q, q = (N.cl x).methods.length := ⟨_, rfl⟩; have HNx := hide hnx; rw [<- hnx] at e5 HXr HXm; clear hin hcsx hclx hysx xrow hnx; have hnx1 : (nx : Int) <= 100 := by have := HXm.out; omega
        go_wp2_with fail; obtain ⟨wB, hwB⟩ : ∃ q, q = w1 := ⟨_, rfl⟩
        go_loopw [35] (fun i wr => ∃ j : Nat, j <= nx /\ i = .int .i64 j /\ Hid (Rdy N w0 wr A) /\ Hid (Fx N.T w wr) /\ Hid (Ly.firstL (Ly.lackF N b) ((N.cl x).methods.take j) = 0)) (fun i _ => nx - (intOf i).toNat)
        case atStart => exact ⟨0, Nat.zero_le _, rfl, HQ1, HF1, hide rfl⟩
        case round =>
         clear HQ1 HF1 HQr HF e5 r0 hwB; obtain ⟨j, hj, rfl, HQj, HFj, HZj⟩ := hrel; by_cases hjl : j < nx
         · obtain ⟨m, hm⟩ : ∃ m, (N.cl x).methods[j]? = some m := ⟨(N.cl x).methods[j]'(by rw [<- HNx.out]; exact hjl), List.getElem?_eq_getElem _⟩
           obtain ⟨g2, o2, rfl, ms, mf, hcm⟩ := Ow.row_at' HXr.out hm; have hG := hide (hcm _ HQj.out.1); have hmp := HXp.out m (List.mem_of_getElem? hm); have HSm := hide (fun hf => Ly.firstL_stop (f := Ly.lackF N b) HZj.out hm hf); have HTm := hide (Ly.firstL_take (f := Ly.lackF N b) HZj.out hm); have HMf := hide mf; obtain ⟨vp, vc', vk, rfl, x1, x2, x3, _⟩ := mf; obtain ⟨xa1, xd1, rfl, _⟩ := x1.len; obtain ⟨xa2, xd2, rfl, _⟩ := x2.len; obtain ⟨xa3, xd3, rfl, _⟩ := x3.len; clear hcm hm x1 x2 x3 HZj; have s0 := hG.out 0 _ rfl; have s1 := hG.out 1 _ rfl; have s2 := hG.out 2 _ rfl; have s3 := hG.out 3 _ rfl; have s4 := hG.out 4 _ rfl; have s5 := hG.out 5 _ rfl; have s6 := hG.out 6 _ rfl; have s7 := hG.out 7 _ rfl; have s8 := hG.out 8 _ rfl; rw [Nat.add_zero] at s0; clear hG; simp only [mthXL] at HMf; have hjl' : (j : Int) < (nx : Int) := by omega
           have hA := (Below.refl wr.heap.size wr).alloc (Nat.le_refl _) (.cells #[.string ⟨m.name.toArray⟩, .bool m.stat, .bool m.abst, .slice xa1 m.params.length xd1, .int .i64 m.ret.kind, .string ⟨m.ret.name.toArray⟩, .int .i64 m.locals, .slice xa2 m.code.length xd2, .slice xa3 m.catches.length xd3] 29); have hbx := heap_alloc_new wr (.cells #[.string ⟨m.name.toArray⟩, .bool m.stat, .bool m.abst, .slice xa1 m.params.length xd1, .int .i64 m.ret.kind, .string ⟨m.ret.name.toArray⟩, .int .i64 m.locals, .slice xa2 m.code.length xd2, .slice xa3 m.catches.length xd3] 29); have b0 := cell_box hbx 0; have b1 := cell_box hbx 1; have b2 := cell_box hbx 2; have b3 := cell_box hbx 3; have b4 := cell_box hbx 4; have b5 := cell_box hbx 5; have b6 := cell_box hbx 6; have b7 := cell_box hbx 7; have b8 := cell_box hbx 8; have HFA := hide (HFj.out.trans (Fx.below hA)); have HLk := hide (lack_any N l bs HOk.out w0 b HTb.out m _ HMf.out hmp _ A (HQj.out.on hA) fun o ho => HOk.out.mtp HTb.out ho); generalize Ly.lackF N b m = lf at HLk HSm HTm; clear hA hbx HMf; go_wp2_with fail; refine HLk.out.mono ?_; rintro e w5 ⟨rfl, hr5, hf5⟩; have HQ5 := hide hr5; have HF5 := hide (HFA.out.trans hf5); clear HLk hr5 hf5; by_cases hlf : lf = 0
           · subst hlf
             have HT5 := hide (HTm.out); clear HSm HTm; go_wp2_with fail
             go_roundw
             case rel => exact ⟨j + 1, by omega, by go_num, HQ5, HF5, HT5⟩
             case measure => simp [intOf]; omega
           · have hlf' : (lf != 0) = true := by simpa using hlf
             have HRes : Hid (r = lf) := hide (by
              have h1 := HSm.out hlf; rw [<- HFace.out] at h1; rw [<- h1]
              exact HSt.out (by rw [h1]; exact hlf))
             clear HSm HTm hlf; go_wp2_with fail; go_ret; exact ⟨by rw [HRes.out]; rfl, HQ5.out, HF5.out⟩
         · have HEnd : Hid (Ly.firstL (Ly.faceF N b) (bs.take (k + 1)) = 0) := hide (by
            have h1 := HZj.out; rw [List.take_of_length_le (by rw [<- HNx.out]; omega)] at h1
            rw [HTk.out, HFace.out, h1])
           have hnl : ¬ ((j : Int) < (nx : Int)) := by omega
           clear HZj HTk HSt; go_wp2_with fail
           go_roundw
           case rel => exact ⟨k + 1, by omega, by go_num, HQj, HFj, HEnd⟩
           case measure => simp [intOf]; omega
      · rw [decide_eq_false hin]
        have HEnd : Hid (Ly.firstL (Ly.faceF N b) (bs.take (k + 1)) = 0) := hide (by rw [HTk.out]; unfold Ly.faceF; rw [if_neg hin])
        clear hin HTk HSt; go_wp2_with fail
        go_roundw
        case rel => exact ⟨k + 1, by omega, by go_num, HQ1, HF1, HEnd⟩
        case measure => simp [intOf]; omega
    · have HQ : Hid (r = 0) := hide (by
       have h1 := HZ.out; rw [List.take_of_length_le (by rw [<- HN.out]; omega)] at h1
       rw [HR1.out, h1])
      have hnl : ¬ ((k : Int) < (nb : Int)) := by omega
      clear HZ; go_wp2_with fail; go_ret; exact ⟨by rw [HQ.out]; rfl, HQr.out, HF.out⟩
theorem fx_ten (b : Nat) (w : World) (u0 u1 u2 u3 u4 u5 u6 u7 u8 u9 : Value) : Fx (fun k => k = b) w ((((((((((w.setCell ⟨b, 0, none⟩ u0).setCell ⟨b, 1, none⟩ u1).setCell ⟨b, 2, none⟩ u2).setCell ⟨b, 3, none⟩ u3).setCell ⟨b, 4, none⟩ u4).setCell ⟨b, 5, none⟩ u5).setCell ⟨b, 6, none⟩ u6).setCell ⟨b, 7, none⟩ u7).setCell ⟨b, 8, none⟩ u8).setCell ⟨b, 9, none⟩ u9) := by
 iterate 10 refine fx_put (S := fun k => k = b) ?_ rfl _ _
 exact Fx.refl _ _
theorem set_t0 (z0 z1 z2 z3 z4 z5 z6 z7 z8 z9 u0 u1 u2 u3 u4 u5 u6 u7 u8 u9 : Value) : (#[z0, z1, z2, z3, z4, z5, z6, z7, z8, z9]).setIfInBounds 0 u0 = #[u0, z1, z2, z3, z4, z5, z6, z7, z8, z9] := rfl
theorem set_t1 (z0 z1 z2 z3 z4 z5 z6 z7 z8 z9 u0 u1 u2 u3 u4 u5 u6 u7 u8 u9 : Value) : (#[u0, z1, z2, z3, z4, z5, z6, z7, z8, z9]).setIfInBounds 1 u1 = #[u0, u1, z2, z3, z4, z5, z6, z7, z8, z9] := rfl
theorem set_t2 (z0 z1 z2 z3 z4 z5 z6 z7 z8 z9 u0 u1 u2 u3 u4 u5 u6 u7 u8 u9 : Value) : (#[u0, u1, z2, z3, z4, z5, z6, z7, z8, z9]).setIfInBounds 2 u2 = #[u0, u1, u2, z3, z4, z5, z6, z7, z8, z9] := rfl
theorem set_t3 (z0 z1 z2 z3 z4 z5 z6 z7 z8 z9 u0 u1 u2 u3 u4 u5 u6 u7 u8 u9 : Value) : (#[u0, u1, u2, z3, z4, z5, z6, z7, z8, z9]).setIfInBounds 3 u3 = #[u0, u1, u2, u3, z4, z5, z6, z7, z8, z9] := rfl
theorem set_t4 (z0 z1 z2 z3 z4 z5 z6 z7 z8 z9 u0 u1 u2 u3 u4 u5 u6 u7 u8 u9 : Value) : (#[u0, u1, u2, u3, z4, z5, z6, z7, z8, z9]).setIfInBounds 4 u4 = #[u0, u1, u2, u3, u4, z5, z6, z7, z8, z9] := rfl
theorem set_t5 (z0 z1 z2 z3 z4 z5 z6 z7 z8 z9 u0 u1 u2 u3 u4 u5 u6 u7 u8 u9 : Value) : (#[u0, u1, u2, u3, u4, z5, z6, z7, z8, z9]).setIfInBounds 5 u5 = #[u0, u1, u2, u3, u4, u5, z6, z7, z8, z9] := rfl
theorem set_t6 (z0 z1 z2 z3 z4 z5 z6 z7 z8 z9 u0 u1 u2 u3 u4 u5 u6 u7 u8 u9 : Value) : (#[u0, u1, u2, u3, u4, u5, z6, z7, z8, z9]).setIfInBounds 6 u6 = #[u0, u1, u2, u3, u4, u5, u6, z7, z8, z9] := rfl
theorem set_t7 (z0 z1 z2 z3 z4 z5 z6 z7 z8 z9 u0 u1 u2 u3 u4 u5 u6 u7 u8 u9 : Value) : (#[u0, u1, u2, u3, u4, u5, u6, z7, z8, z9]).setIfInBounds 7 u7 = #[u0, u1, u2, u3, u4, u5, u6, u7, z8, z9] := rfl
theorem set_t8 (z0 z1 z2 z3 z4 z5 z6 z7 z8 z9 u0 u1 u2 u3 u4 u5 u6 u7 u8 u9 : Value) : (#[u0, u1, u2, u3, u4, u5, u6, u7, z8, z9]).setIfInBounds 8 u8 = #[u0, u1, u2, u3, u4, u5, u6, u7, u8, z9] := rfl
theorem set_t9 (z0 z1 z2 z3 z4 z5 z6 z7 z8 z9 u0 u1 u2 u3 u4 u5 u6 u7 u8 u9 : Value) : (#[u0, u1, u2, u3, u4, u5, u6, u7, u8, z9]).setIfInBounds 9 u9 = #[u0, u1, u2, u3, u4, u5, u6, u7, u8, u9] := rfl
theorem blk_ten {b : Nat} {w : World} {z0 z1 z2 z3 z4 z5 z6 z7 z8 z9 : Value} {t : TypeId} (h : w.heap[b]? = some (.cells #[z0, z1, z2, z3, z4, z5, z6, z7, z8, z9] t (0, 0))) (u0 u1 u2 u3 u4 u5 u6 u7 u8 u9 : Value) : ((((((((((w.setCell ⟨b, 0, none⟩ u0).setCell ⟨b, 1, none⟩ u1).setCell ⟨b, 2, none⟩ u2).setCell ⟨b, 3, none⟩ u3).setCell ⟨b, 4, none⟩ u4).setCell ⟨b, 5, none⟩ u5).setCell ⟨b, 6, none⟩ u6).setCell ⟨b, 7, none⟩ u7).setCell ⟨b, 8, none⟩ u8).setCell ⟨b, 9, none⟩ u9).heap[b]? = some (.cells #[u0, u1, u2, u3, u4, u5, u6, u7, u8, u9] t (0, 0)) := by
 have h0 := put_blk (k := 0) h u0; rw [set_t0 z0 z1 z2 z3 z4 z5 z6 z7 z8 z9 u0 u1 u2 u3 u4 u5 u6 u7 u8 u9] at h0; have h1 := put_blk (k := 1) h0 u1; rw [set_t1 z0 z1 z2 z3 z4 z5 z6 z7 z8 z9 u0 u1 u2 u3 u4 u5 u6 u7 u8 u9] at h1; have h2 := put_blk (k := 2) h1 u2; rw [set_t2 z0 z1 z2 z3 z4 z5 z6 z7 z8 z9 u0 u1 u2 u3 u4 u5 u6 u7 u8 u9] at h2; have h3 := put_blk (k := 3) h2 u3; rw [set_t3 z0 z1 z2 z3 z4 z5 z6 z7 z8 z9 u0 u1 u2 u3 u4 u5 u6 u7 u8 u9] at h3; have h4 := put_blk (k := 4) h3 u4; rw [set_t4 z0 z1 z2 z3 z4 z5 z6 z7 z8 z9 u0 u1 u2 u3 u4 u5 u6 u7 u8 u9] at h4; have h5 := put_blk (k := 5) h4 u5; rw [set_t5 z0 z1 z2 z3 z4 z5 z6 z7 z8 z9 u0 u1 u2 u3 u4 u5 u6 u7 u8 u9] at h5; have h6 := put_blk (k := 6) h5 u6; rw [set_t6 z0 z1 z2 z3 z4 z5 z6 z7 z8 z9 u0 u1 u2 u3 u4 u5 u6 u7 u8 u9] at h6; have h7 := put_blk (k := 7) h6 u7; rw [set_t7 z0 z1 z2 z3 z4 z5 z6 z7 z8 z9 u0 u1 u2 u3 u4 u5 u6 u7 u8 u9] at h7; have h8 := put_blk (k := 8) h7 u8; rw [set_t8 z0 z1 z2 z3 z4 z5 z6 z7 z8 z9 u0 u1 u2 u3 u4 u5 u6 u7 u8 u9] at h8; have h9 := put_blk (k := 9) h8 u9; rw [set_t9 z0 z1 z2 z3 z4 z5 z6 z7 z8 z9 u0 u1 u2 u3 u4 u5 u6 u7 u8 u9] at h9; exact h9
theorem superFault_any (N : Net) (l : List Pp.XCls) (bs : List Nat) (hok : NetOk N l bs) (v : Value) (b : Nat) (hb : N.T b) (w0 w : World) (A : Nat -> Prop) (h : Rdy N w0 w A) (hv : ∃ a n c, v = .slice a n c) :
 Calls Tryz.prog 28 #[v, .pointer (some ⟨b, 0, none⟩)] w fun e w' => e = .returned (.int .i64 (Ly.supF N b)) /\ Rdy N w0 w' A /\ Fx N.T w w' := by
 have HOk := hide hok; have HTb := hide hb; have HRdy := hide h; have HC6 := hide (fun wx (hx : Rdy N w0 wx A) => (hx.cls hb).elim fun cs h => h.elim fun ys h => h.2.2.2); obtain ⟨cs, ys, hcs, hcl, hys, c6⟩ := h.cls hb; obtain ⟨ia, ic, fa, fc, ma, mc, rfl, _, xf, xm⟩ := cls_open hcl; have HC45 := hide (fun wx (hx : Rdy N w0 wx A) => (hx.cls hb)); obtain ⟨va, vn, vc, rfl⟩ := hv; obtain ⟨r, hr⟩ : ∃ r, r = Ly.supF N b := ⟨_, rfl⟩; have HR := hide hr; rw [<- hr]; clear hr HC45; unfold Ly.supF at HR; cases hs : N.sup b with
 | none =>
   rw [hs] at HR c6; have HQ : Hid (r = 0) := hide HR.out; simp only [Option.map_none] at c6; clear HR hs hcl hys hcs xf xm h hb hok HC6; go_enter Tryz.func28, Tryz.ntmps28; go_wp2_with fail; go_ret; exact ⟨by rw [HQ.out]; rfl, HRdy.out, Fx.refl _ _⟩
 | some s =>
   have hTs := (hok.good.sup b s hb hs).1; have HTs := hide hTs; rw [hs] at HR c6 HC6; simp only [Option.map_some] at c6 HC6; have c4 := hys 4 _ rfl; have HR1 : Hid (r = if (N.cl b).fields.any (Ly.clashF N s) = true then 6 else if (N.cl b).methods.any (Ly.clashM N s) = true then 8 else 0) := hide HR.out
   have HXf := hide xf; have HXm := hide xm; have HPm := hide (hok.pars b hb)
   have HC5 : Hid (∀ wx, Rdy N w0 wx A -> ∃ ma mc, wx.cell? ⟨b, 5, none⟩ = some (.slice ma (N.cl b).methods.length mc) /\ RowX w0 9 (MthX w0) (.slice ma (N.cl b).methods.length mc) (N.cl b).methods) := hide fun wx hx => by
    obtain ⟨cs', ys', _, hcl', hys', _⟩ := hx.cls hb; obtain ⟨_, _, _, _, ma', mc', rfl, _, _, xm'⟩ := cls_open hcl'; exact ⟨ma', mc', hys' 5 _ rfl, xm'⟩
   have HTlt := hide (fun wx (hx : Rdy N w0 wx A) k hk => (hx.2.2.1 k hk).2); obtain ⟨nf, hnf⟩ : ∃ q, q = (N.cl b).fields.length := ⟨_, rfl⟩; obtain ⟨nm, hnm⟩ : ∃ q, q = (N.cl b).methods.length := ⟨_, rfl⟩; have HNf := hide hnf; have HNm := hide hnm; have hf1 : (nf : Int) <= 100 := by have := hok.small.flds b hb; omega
   have hm1 : (nm : Int) <= 100 := by have := hok.small.mths b hb; omega
   rw [<- hnf] at HXf c4; rw [<- hnm] at HC5; clear HR hs hcl hys hcs xf xm h hb hok hTs hnf hnm HXm; go_enter Tryz.func28, Tryz.ntmps28; go_wp2_with fail
   go_loopw [22] (fun i wr => ∃ k : Nat, k <= nf /\ i = .int .i64 k /\ Hid (Rdy N w0 wr A) /\ Hid (Fx N.T w wr) /\ Hid (((N.cl b).fields.take k).any (Ly.clashF N s) = false)) (fun i _ => nf - (intOf i).toNat)
   case atStart => exact ⟨0, Nat.zero_le _, rfl, HRdy, hide (Fx.refl _ _), hide (by simp)⟩
   case round =>
    obtain ⟨k, hk, rfl, HQr, HF, HZ⟩ := hrel; by_cases hlt : k < nf
    · obtain ⟨x, hx⟩ : ∃ x, (N.cl b).fields[k]? = some x := ⟨(N.cl b).fields[k]'(by rw [<- HNf.out]; exact hlt), List.getElem?_eq_getElem _⟩
      obtain ⟨g, o, rfl, ys, wf, hc⟩ := Ow.row_at' HXf.out hx; have hG := hide (hc _ HQr.out.1); have HSt := hide (fun hp => HR1.out.trans (if_pos (Ly.any_stop (p := Ly.clashF N s) hx hp))); have HTk := hide (fun hp => Ly.any_take (p := Ly.clashF N s) HZ.out hx hp); clear hc hx HZ; obtain ⟨rfl, _⟩ := wf; have r0 := hG.out 0 _ rfl; have r1 := hG.out 1 _ rfl; have r2 := hG.out 2 _ rfl; have r3 := hG.out 3 _ rfl; rw [Nat.add_zero] at r0; clear hG; have hlt' : (k : Int) < (nf : Int) := by omega
      have hcf : Ly.clashF N s x = (!x.stat && Ly.slotP N s x.name) := rfl; rw [hcf] at HSt HTk; clear hcf; obtain ⟨fs, hfs⟩ : ∃ q, q = x.stat := ⟨_, rfl⟩; rw [<- hfs] at r3 HSt HTk; clear hfs; have hA := (Below.refl wr.heap.size wr).alloc (Nat.le_refl _) (.cells #[.string ⟨x.name.toArray⟩, .int .i64 x.ty.kind, .string ⟨x.ty.name.toArray⟩, .bool fs] 88); have hbx := heap_alloc_new wr (.cells #[.string ⟨x.name.toArray⟩, .int .i64 x.ty.kind, .string ⟨x.ty.name.toArray⟩, .bool fs] 88); have HA := hide hA; have HBx := hide hbx; have HQA := hide (HQr.out.on hA); have HFA := hide (HF.out.trans (Fx.below (S := N.T) hA)); have HQd := hide ((HQr.out.on hA).on (Below.drew (Below.refl _ _))); have HNt : Hid (¬ N.T wr.heap.size) := hide fun hk => Nat.lt_irrefl _ (HTlt.out wr HQr.out _ hk); have hszA := Ow.lt_of_blk hbx; have HFd := hide ((HF.out.trans (Fx.below hA)).trans (Fx.below (Below.drew (Below.refl _ _)))); have HCx := hide (HC6.out _ (HQr.out.on hA)); have b0 := cell_box hbx 0; have b3 := cell_box hbx 3; clear hA hbx; cases fs with
      | true =>
        have HT' := hide (HTk.out rfl); clear HSt HTk HCx; go_wp2_with fail
        go_quiet (fail)
        go_wp2_with fail
        go_roundw
        case rel => exact ⟨k + 1, by omega, by go_num, hide (HQA.out.on (below_drewN (Below.refl _ _) _)), hide (HFA.out.trans (Fx.below (below_drewN (Below.refl _ _) _))), HT'⟩
        case measure => simp [intOf]; omega
      | false =>
        have HSl := hide (hasSlot_any N HOk.out.good HOk.out.small w0 s HTs.out x.name _ A HQd.out); have HSt1 : Hid (Ly.slotP N s x.name = true -> r = 6) := hide fun h => HSt.out (by rw [h]; rfl)
        have HTk1 : Hid (Ly.slotP N s x.name = false -> ((N.cl b).fields.take (k + 1)).any (Ly.clashF N s) = false) := hide fun h => HTk.out (by rw [h]; rfl)
        generalize Ly.slotP N s x.name = sp at HSl HSt1 HTk1; clear HSt HTk; go_wp2_with fail; generalize wr.alloc (.cells #[.string ⟨x.name.toArray⟩, .int .i64 x.ty.kind, .string ⟨x.ty.name.toArray⟩, .bool false] 88) = wB at *
        have HS3 : Hid (wB.drew.cell? ⟨wr.heap.size, 3, none⟩ = some (.bool false) /\ wB.drew.cell? ⟨b, 6, none⟩ = some (.pointer (some ⟨s, 0, none⟩)) /\ wB.drew.cell? ⟨wr.heap.size, 0, none⟩ = some (.string ⟨x.name.toArray⟩)) := hide ⟨by rw [World.cell?_drew]; exact b3, by rw [World.cell?_drew]; exact HCx.out, by rw [World.cell?_drew]; exact b0⟩
        go_region_held3 (fun wz => wz.cell? ⟨wr.heap.size, 3, none⟩ = some (.bool false) /\ wz.cell? ⟨b, 6, none⟩ = some (.pointer (some ⟨s, 0, none⟩)) /\ wz.cell? ⟨wr.heap.size, 0, none⟩ = some (.string ⟨x.name.toArray⟩)) (exact HS3.out)
         (first
           | (go_at_call 45
              refine HSl.out.mono ?_; rintro e w5 ⟨rfl, hr5, hf5⟩; have HQ5 := hide hr5; have HF5 := hide (HFd.out.trans hf5); have hbk := cell_of_blk (k := 0) (hf5.blk wr.heap.size hszA HNt.out); have hbk3 := cell_of_blk (k := 3) (hf5.blk wr.heap.size hszA HNt.out); have HS3 := hide (And.intro (hbk3.trans HS3.out.1) (And.intro (HC6.out w5 hr5) (hbk.trans HS3.out.2.2)))
              clear hr5 hf5 hbk hbk3)
           | fail)
        cases sp with
        | true =>
          have HRes := hide (HSt1.out rfl); clear HSt1 HTk1; go_wp2_with fail; go_ret; exact ⟨by rw [HRes.out]; rfl, HQ5.out, HF5.out⟩
        | false =>
          have HT' := hide (HTk1.out rfl); clear HSt1 HTk1; go_wp2_with fail
          go_roundw
          case rel => exact ⟨k + 1, by omega, by go_num, HQ5, HF5, HT'⟩
          case measure => simp [intOf]; omega
    · have HR2 : Hid (r = if (N.cl b).methods.any (Ly.clashM N s) = true then 8 else 0) := hide (by
       have h1 := Ly.any_end HZ.out (by rw [<- HNf.out]; omega)
       rw [HR1.out, if_neg (by rw [h1]; decide)])
      have hnl : ¬ ((k : Int) < (nf : Int)) := by omega
      obtain ⟨ma, mc, c5, xm⟩ := HC5.out wr HQr.out; have HXm := hide xm; clear HZ xm; go_wp2_with fail
      go_loopw [45] (fun i wr => ∃ j : Nat, j <= nm /\ i = .int .i64 j /\ Hid (Rdy N w0 wr A) /\ Hid (Fx N.T w wr) /\ Hid (((N.cl b).methods.take j).any (Ly.clashM N s) = false)) (fun i _ => nm - (intOf i).toNat)
      case atStart => exact ⟨0, Nat.zero_le _, rfl, HQr, HF, hide (by simp)⟩
      case round =>
       clear HQr HF c5; obtain ⟨j, hj, rfl, HQr, HF, HZ⟩ := hrel; by_cases hlt : j < nm
       · obtain ⟨m, hx⟩ : ∃ m, (N.cl b).methods[j]? = some m := ⟨(N.cl b).methods[j]'(by rw [<- HNm.out]; exact hlt), List.getElem?_eq_getElem _⟩
         obtain ⟨g, o, rfl, ys, wf, hc⟩ := Ow.row_at' HXm.out hx; have hG := hide (hc _ HQr.out.1); have hmp := HPm.out m (List.mem_of_getElem? hx); have HSt := hide (fun hp => HR2.out.trans (if_pos (Ly.any_stop (p := Ly.clashM N s) hx hp))); have HTk := hide (fun hp => Ly.any_take (p := Ly.clashM N s) HZ.out hx hp); have HMf := hide wf; obtain ⟨vp, vc', vk, rfl, x1, x2, x3, _⟩ := wf; obtain ⟨xa1, xd1, rfl, _⟩ := x1.len; obtain ⟨xa2, xd2, rfl, _⟩ := x2.len; obtain ⟨xa3, xd3, rfl, _⟩ := x3.len; clear hc hx x1 x2 x3 HZ; simp only [mthXL] at HMf; have r0 := hG.out 0 _ rfl; have r1 := hG.out 1 _ rfl; have r2 := hG.out 2 _ rfl; have r3 := hG.out 3 _ rfl; have r4 := hG.out 4 _ rfl; have r5 := hG.out 5 _ rfl; have r6 := hG.out 6 _ rfl; have r7 := hG.out 7 _ rfl; have r8 := hG.out 8 _ rfl; rw [Nat.add_zero] at r0; clear hG; have hlt' : (j : Int) < (nm : Int) := by omega
         have HMe := hide (fun wx A' (hx : Rdy N w0 wx A') => method_any N HOk.out.good HOk.out.small w0 s HTs.out m.name wx A' hx); have HAl := hide (fun (o : Pp.Bs × Pp.XMth) (zs : List Value) (wx : World) (hw : Below w0.heap.size w0 wx) (hz : MthX w0 o.2 zs) (hl : o.2.params.length <= 100) => alike_any o.2 m zs _ wx (hz.on hw) (HMf.out.on hw) (by omega) (by omega))
         have HOp := hide (fun o (ho : Ly.methP N s m.name = some o) => HOk.out.mtp HTs.out ho); obtain ⟨cl, hcl⟩ : ∃ q, q = Ly.clashM N s m := ⟨_, rfl⟩; have HCl := hide hcl; unfold Ly.clashM at HCl; rw [<- hcl] at HSt HTk; clear hcl HMf; generalize Ly.methP N s m.name = res at *
         generalize (⟨m.name.toArray⟩ : ByteArray) = NB at *
         generalize (⟨m.ret.name.toArray⟩ : ByteArray) = rn at *
         obtain ⟨st, hst⟩ : ∃ q, q = m.stat := ⟨_, rfl⟩; rw [<- hst] at HCl HAl r1; clear hst; generalize m.abst = ab at *
         generalize m.ret.kind = rk at *
         generalize m.locals = lo at *
         generalize m.params.length = n1 at *
         generalize m.code.length = n2 at *
         generalize m.catches.length = n3 at *
         have hA := (Below.refl wr.heap.size wr).alloc (Nat.le_refl _) (.cells #[.string NB, .bool st, .bool ab, .slice xa1 n1 xd1, .int .i64 rk, .string rn, .int .i64 lo, .slice xa2 n2 xd2, .slice xa3 n3 xd3] 29); have hbx := heap_alloc_new wr (.cells #[.string NB, .bool st, .bool ab, .slice xa1 n1 xd1, .int .i64 rk, .string rn, .int .i64 lo, .slice xa2 n2 xd2, .slice xa3 n3 xd3] 29); have HQA := hide (HQr.out.on hA); have HFA := hide (HF.out.trans (Fx.below (S := N.T) hA)); have HCx := HC6.out _ HQA.out; have b0 := cell_box hbx 0; have HBx := hide hbx; have HNt : Hid (¬ N.T wr.heap.size) := hide fun hk => Nat.lt_irrefl _ (HTlt.out wr HQr.out _ hk); clear hA hbx; go_wp2_with fail; generalize wr.alloc (.cells #[.string NB, .bool st, .bool ab, .slice xa1 n1 xd1, .int .i64 rk, .string rn, .int .i64 lo, .slice xa2 n2 xd2, .slice xa3 n3 xd3] 29) = wB at *
         have hszB := Ow.lt_of_blk HBx.out; have hD : Below wB.heap.size wB wB.drew := Below.drew (Below.refl _ _); have hDa : Below wB.heap.size wB (wB.alloc (.cells #[.string ⟨#[]⟩, .string ⟨#[]⟩, .bool false, .bool false, .slice none 0 0, .int .i64 0, .string ⟨#[]⟩, .int .i64 0, .slice none 0 0, .slice none 0 0] 55)).drew := Below.drew ((Below.refl _ _).alloc (Nat.le_refl _) _); have c6a : (wB.alloc (.cells #[.string ⟨#[]⟩, .string ⟨#[]⟩, .bool false, .bool false, .slice none 0 0, .int .i64 0, .string ⟨#[]⟩, .int .i64 0, .slice none 0 0, .slice none 0 0] 55)).cell? ⟨b, 6, none⟩ = some (.pointer (some ⟨s, 0, none⟩)) := (hDa.cell (p := ⟨b, 6, none⟩) (by exact HTlt.out wB HQA.out b HTb.out)).trans HCx
         have b0a : (wB.alloc (.cells #[.string ⟨#[]⟩, .string ⟨#[]⟩, .bool false, .bool false, .slice none 0 0, .int .i64 0, .string ⟨#[]⟩, .int .i64 0, .slice none 0 0, .slice none 0 0] 55)).cell? ⟨wr.heap.size, 0, none⟩ = some (.string NB) := (hDa.cell (p := ⟨wr.heap.size, 0, none⟩) hszB).trans b0
         have hEnd2 : ∀ w5, Rdy N w0 w5 A -> Fx N.T wB.drew w5 -> ∀ w3, Fx (fun k => k = w5.heap.size) w5 w3 -> Rdy N w0 w3 A /\ Fx N.T w w3 := fun w5 h1 h2 w3 h3 => by
          have hb : Below w5.heap.size w5 w3 := ⟨h3.bel.os, h3.bel.tape, h3.bel.output, h3.bel.size, fun k hk => h3.blk k hk (fun e => by omega)⟩
          exact ⟨h1.on hb, ((HFA.out.trans (Fx.below hD)).trans h2).trans (Fx.below hb)⟩
         have hEnd1 : ∀ w5, Rdy N w0 w5 (fun k => A k \/ k = wB.heap.size) -> Fx N.T (wB.alloc (.cells #[.string ⟨#[]⟩, .string ⟨#[]⟩, .bool false, .bool false, .slice none 0 0, .int .i64 0, .string ⟨#[]⟩, .int .i64 0, .slice none 0 0, .slice none 0 0] 55)).drew w5 -> ∀ w3, Fx (fun k => k = wB.heap.size) w5 w3 -> Rdy N w0 w3 A /\ Fx N.T w w3 := fun w5 h1 h2 w3 h3 => by
          refine ⟨(h1.put h3 fun k hk => .inr hk).less fun k hk => .inl hk, HFA.out.bel.trans ((hDa.mono (Nat.zero_le _)).trans (h2.bel.trans h3.bel)), fun k hk hn => ?_⟩; have hk1 : k < wB.heap.size := Nat.lt_of_lt_of_le hk HFA.out.size; have e1 := HFA.out.blk k hk hn; have e2 := hDa.block k hk1; have e3 := h2.blk k (Nat.lt_of_lt_of_le hk1 hDa.size) hn; have e4 := h3.blk k (Nat.lt_of_lt_of_le (Nat.lt_of_lt_of_le hk1 hDa.size) h2.size) (fun e => by omega)
          exact e4.trans (e3.trans (e2.trans e1))
         have hRd : Rdy N w0 wB.drew A := HQA.out.on hD; have hRa : Rdy N w0 (wB.alloc (.cells #[.string ⟨#[]⟩, .string ⟨#[]⟩, .bool false, .bool false, .slice none 0 0, .int .i64 0, .string ⟨#[]⟩, .int .i64 0, .slice none 0 0, .slice none 0 0] 55)).drew (fun k => A k \/ k = wB.heap.size) := (HQA.out.alloc _).on (Below.drew (Below.refl _ _)); have hMa := HMe.out _ _ hRd; have hMb := HMe.out _ _ hRa; have hZa : (wB.alloc (.cells #[.string ⟨#[]⟩, .string ⟨#[]⟩, .bool false, .bool false, .slice none 0 0, .int .i64 0, .string ⟨#[]⟩, .int .i64 0, .slice none 0 0, .slice none 0 0] 55)).drew.heap[wB.heap.size]? = some (.cells #[.string ⟨#[]⟩, .string ⟨#[]⟩, .bool false, .bool false, .slice none 0 0, .int .i64 0, .string ⟨#[]⟩, .int .i64 0, .slice none 0 0, .slice none 0 0] 55 (0, 0)) := heap_alloc_new wB (.cells #[.string ⟨#[]⟩, .string ⟨#[]⟩, .bool false, .bool false, .slice none 0 0, .int .i64 0, .string ⟨#[]⟩, .int .i64 0, .slice none 0 0, .slice none 0 0] 55); have hNb : ¬ N.T wB.heap.size := fun hk => Nat.lt_irrefl _ (HTlt.out wB HQA.out _ hk); have hmbd : ∀ w5, Fx N.T wB.drew w5 -> w5.heap[wr.heap.size]? = some (.cells #[.string NB, .bool st, .bool ab, .slice xa1 n1 xd1, .int .i64 rk, .string rn, .int .i64 lo, .slice xa2 n2 xd2, .slice xa3 n3 xd3] 29 (0, 0)) := fun w5 h2 => ((h2.blk _ (Nat.lt_of_lt_of_le hszB hD.size) HNt.out).trans (hD.block _ hszB)).trans HBx.out; have hmba : ∀ w5, Fx N.T (wB.alloc (.cells #[.string ⟨#[]⟩, .string ⟨#[]⟩, .bool false, .bool false, .slice none 0 0, .int .i64 0, .string ⟨#[]⟩, .int .i64 0, .slice none 0 0, .slice none 0 0] 55)).drew w5 -> w5.heap[wr.heap.size]? = some (.cells #[.string NB, .bool st, .bool ab, .slice xa1 n1 xd1, .int .i64 rk, .string rn, .int .i64 lo, .slice xa2 n2 xd2, .slice xa3 n3 xd3] 29 (0, 0)) := fun w5 h2 => ((h2.blk _ (Nat.lt_of_lt_of_le hszB hDa.size) HNt.out).trans (hDa.block _ hszB)).trans HBx.out; have hboa : ∀ w5, Fx N.T (wB.alloc (.cells #[.string ⟨#[]⟩, .string ⟨#[]⟩, .bool false, .bool false, .slice none 0 0, .int .i64 0, .string ⟨#[]⟩, .int .i64 0, .slice none 0 0, .slice none 0 0] 55)).drew w5 -> w5.heap[wB.heap.size]? = some (.cells #[.string ⟨#[]⟩, .string ⟨#[]⟩, .bool false, .bool false, .slice none 0 0, .int .i64 0, .string ⟨#[]⟩, .int .i64 0, .slice none 0 0, .slice none 0 0] 55 (0, 0)) := fun w5 h2 => (h2.blk _ (Ow.lt_of_blk hZa) hNb).trans hZa; have hmo : wr.heap.size ≠ wB.heap.size := Nat.ne_of_lt hszB; clear HMe r0 r1 r2 r3 r4 r5 r6 r7 r8 hRd hRa hZa hNb HQA HFA hD hDa HBx HNt HQr HF; cases res with
         | none =>
           have HMa : Hid (Calls Tryz.prog 10 #[.pointer (some ⟨s, 0, none⟩), .string NB] wB.drew fun e w5 => e = .returned (.tuple #[.agg #[.string ⟨#[]⟩, .string ⟨#[]⟩, .bool false, .bool false, .slice none 0 0, .int .i64 0, .string ⟨#[]⟩, .int .i64 0, .slice none 0 0, .slice none 0 0], .bool false]) /\ ∀ w3, Fx (fun k => k = w5.heap.size) w5 w3 -> Rdy N w0 w3 A /\ Fx N.T w w3) := hide (hMa.mono fun e w5 h => by
            obtain ⟨⟨zs, rfl, _, h2⟩, h3, h4⟩ := h; have := h2 rfl; subst this
            exact ⟨rfl, hEnd2 w5 h3 h4⟩)
           have HMb : Hid (Calls Tryz.prog 10 #[.pointer (some ⟨s, 0, none⟩), .string NB] (wB.alloc (.cells #[.string ⟨#[]⟩, .string ⟨#[]⟩, .bool false, .bool false, .slice none 0 0, .int .i64 0, .string ⟨#[]⟩, .int .i64 0, .slice none 0 0, .slice none 0 0] 55)).drew fun e w5 => e = .returned (.tuple #[.agg #[.string ⟨#[]⟩, .string ⟨#[]⟩, .bool false, .bool false, .slice none 0 0, .int .i64 0, .string ⟨#[]⟩, .int .i64 0, .slice none 0 0, .slice none 0 0], .bool false]) /\ (∀ w3, Fx (fun k => k = wB.heap.size) w5 w3 -> Rdy N w0 w3 A /\ Fx N.T w w3) /\ w5.heap[wB.heap.size]? = some (.cells #[.string ⟨#[]⟩, .string ⟨#[]⟩, .bool false, .bool false, .slice none 0 0, .int .i64 0, .string ⟨#[]⟩, .int .i64 0, .slice none 0 0, .slice none 0 0] 55 (0, 0))) := hide (hMb.mono fun e w5 h => by
            obtain ⟨⟨zs, rfl, _, h2⟩, h3, h4⟩ := h; have := h2 rfl; subst this
            exact ⟨rfl, hEnd1 w5 h3 h4, hboa w5 h4⟩)
           have HT' := hide (HTk.out HCl.out); clear hMa hMb hEnd1 hEnd2 hmbd hmba hboa HSt HTk HCl HOp HAl
           go_region_law (first
            | (go_simp
               with_reducible refine HMa.out.mono ?_
               rintro e w5 ⟨rfl, hend⟩; have HEnd := hide hend
               clear hend)
            | (go_simp
               with_reducible refine HMb.out.mono ?_
               rintro e w5 ⟨rfl, hend, hbo⟩; have HEnd := hide hend; have HBo := hide hbo; have f0 := Ow.fzl_blk hbo 0; have q0 := cell_box hbo 0; have f1 := Ow.fzl_blk hbo 1; have q1 := cell_box hbo 1; have f2 := Ow.fzl_blk hbo 2; have q2 := cell_box hbo 2; have f3 := Ow.fzl_blk hbo 3; have q3 := cell_box hbo 3; have f4 := Ow.fzl_blk hbo 4; have q4 := cell_box hbo 4; have f5 := Ow.fzl_blk hbo 5; have q5 := cell_box hbo 5; have f6 := Ow.fzl_blk hbo 6; have q6 := cell_box hbo 6; have f7 := Ow.fzl_blk hbo 7; have q7 := cell_box hbo 7; have f8 := Ow.fzl_blk hbo 8; have q8 := cell_box hbo 8; have f9 := Ow.fzl_blk hbo 9; have q9 := cell_box hbo 9
               clear hend hbo)
            | fail)
           all_goals go_wp2_with fail
           all_goals go_roundw
           all_goals first
            | (have _h := HBo
               exact ⟨j + 1, by omega, by go_num, hide (HEnd.out _ (fx_ten wB.heap.size w5 _ _ _ _ _ _ _ _ _ _)).1, hide (HEnd.out _ (fx_ten wB.heap.size w5 _ _ _ _ _ _ _ _ _ _)).2, HT'⟩)
            | exact ⟨j + 1, by omega, by go_num, hide (HEnd.out _ (Fx.below ((Below.refl _ _).alloc (Nat.le_refl _) _))).1, hide (HEnd.out _ (Fx.below ((Below.refl _ _).alloc (Nat.le_refl _) _))).2, HT'⟩
            | (simp [intOf]; omega)
         | some o =>
           have hol := HOp.out o rfl; have hcl2 : cl = (o.2.stat != st || !Ly.alikeB o.2 m) := HCl.out
           have hAl2 := HAl.out o
           have hF : ∀ e, FoundO w0 (some o) e -> ∃ va1 vd1 va2 vd2 va3 vd3, e = .returned (.tuple #[.agg #[.string ⟨o.1.toArray⟩, .string ⟨o.2.name.toArray⟩, .bool o.2.stat, .bool o.2.abst, .slice va1 o.2.params.length vd1, .int .i64 o.2.ret.kind, .string ⟨o.2.ret.name.toArray⟩, .int .i64 o.2.locals, .slice va2 o.2.code.length vd2, .slice va3 o.2.catches.length vd3], .bool true]) /\ MthX w0 o.2 [.string ⟨o.2.name.toArray⟩, .bool o.2.stat, .bool o.2.abst, .slice va1 o.2.params.length vd1, .int .i64 o.2.ret.kind, .string ⟨o.2.ret.name.toArray⟩, .int .i64 o.2.locals, .slice va2 o.2.code.length vd2, .slice va3 o.2.catches.length vd3] := by
            rintro e ⟨zs, rfl, h1, _⟩; obtain ⟨_, rfl, ho⟩ := h1 o rfl; have ho2 := ho; obtain ⟨vp, vc', vk, rfl, y1, y2, y3, _⟩ := ho; obtain ⟨va1, vd1, rfl, _⟩ := y1.len; obtain ⟨va2, vd2, rfl, _⟩ := y2.len; obtain ⟨va3, vd3, rfl, _⟩ := y3.len; exact ⟨va1, vd1, va2, vd2, va3, vd3, rfl, ho2⟩
           clear HAl HOp HCl; generalize (⟨o.1.toArray⟩ : ByteArray) = OW at *
           generalize (⟨o.2.name.toArray⟩ : ByteArray) = ON at *
           generalize (⟨o.2.ret.name.toArray⟩ : ByteArray) = OR at *
           generalize o.2.stat = os at *
           generalize o.2.abst = oa at *
           generalize o.2.ret.kind = ok' at *
           generalize o.2.locals = ol at *
           generalize o.2.code.length = o2 at *
           generalize o.2.catches.length = o3 at *
           have hAl3 := hAl2; obtain ⟨o1, ho1⟩ : ∃ q, q = o.2.params.length := ⟨_, rfl⟩; rw [<- ho1] at hF; have HAl4 := hide (fun zs wx hw hz => hAl3 zs wx hw hz hol); have HCl2 := hide hcl2; obtain ⟨al, hal⟩ : ∃ q, q = Ly.alikeB o.2 m := ⟨_, rfl⟩; rw [<- hal] at HAl4 HCl2; have HMa : Hid (Calls Tryz.prog 10 #[.pointer (some ⟨s, 0, none⟩), .string NB] wB.drew fun e w5 => (∃ va1 vd1 va2 vd2 va3 vd3, e = .returned (.tuple #[.agg #[.string OW, .string ON, .bool os, .bool oa, .slice va1 o1 vd1, .int .i64 ok', .string OR, .int .i64 ol, .slice va2 o2 vd2, .slice va3 o3 vd3], .bool true]) /\ MthX w0 o.2 [.string ON, .bool os, .bool oa, .slice va1 o1 vd1, .int .i64 ok', .string OR, .int .i64 ol, .slice va2 o2 vd2, .slice va3 o3 vd3]) /\ (∀ w3, Fx (fun k => k = w5.heap.size) w5 w3 -> Rdy N w0 w3 A /\ Fx N.T w w3) /\ w5.heap[wr.heap.size]? = some (.cells #[.string NB, .bool st, .bool ab, .slice xa1 n1 xd1, .int .i64 rk, .string rn, .int .i64 lo, .slice xa2 n2 xd2, .slice xa3 n3 xd3] 29 (0, 0))) := hide (hMa.mono fun e w5 h => ⟨hF e h.1, hEnd2 w5 h.2.1 h.2.2, hmbd w5 h.2.2⟩); have HMb : Hid (Calls Tryz.prog 10 #[.pointer (some ⟨s, 0, none⟩), .string NB] (wB.alloc (.cells #[.string ⟨#[]⟩, .string ⟨#[]⟩, .bool false, .bool false, .slice none 0 0, .int .i64 0, .string ⟨#[]⟩, .int .i64 0, .slice none 0 0, .slice none 0 0] 55)).drew fun e w5 => (∃ va1 vd1 va2 vd2 va3 vd3, e = .returned (.tuple #[.agg #[.string OW, .string ON, .bool os, .bool oa, .slice va1 o1 vd1, .int .i64 ok', .string OR, .int .i64 ol, .slice va2 o2 vd2, .slice va3 o3 vd3], .bool true]) /\ MthX w0 o.2 [.string ON, .bool os, .bool oa, .slice va1 o1 vd1, .int .i64 ok', .string OR, .int .i64 ol, .slice va2 o2 vd2, .slice va3 o3 vd3]) /\ (∀ w3, Fx (fun k => k = wB.heap.size) w5 w3 -> Rdy N w0 w3 A /\ Fx N.T w w3) /\ w5.heap[wr.heap.size]? = some (.cells #[.string NB, .bool st, .bool ab, .slice xa1 n1 xd1, .int .i64 rk, .string rn, .int .i64 lo, .slice xa2 n2 xd2, .slice xa3 n3 xd3] 29 (0, 0)) /\ w5.heap[wB.heap.size]? = some (.cells #[.string ⟨#[]⟩, .string ⟨#[]⟩, .bool false, .bool false, .slice none 0 0, .int .i64 0, .string ⟨#[]⟩, .int .i64 0, .slice none 0 0, .slice none 0 0] 55 (0, 0))) := hide (hMb.mono fun e w5 h => ⟨hF e h.1, hEnd1 w5 h.2.1 h.2.2, hmba w5 h.2.2, hboa w5 h.2.2⟩); clear hMa hMb hEnd1 hEnd2 hmbd hmba hboa hF hAl2 hAl3 hcl2 hol hal ho1
           go_region_law (first
            | (go_simp
               with_reducible refine HMa.out.mono ?_
               rintro e w5 ⟨⟨va1, vd1, va2, vd2, va3, vd3, rfl, hmx⟩, hend, hmb⟩; have HEnd := hide hend; have HMx := hide hmx; have HMb5 := hide hmb
               clear hend hmx hmb)
            | (go_simp
               with_reducible refine HMb.out.mono ?_
               rintro e w5 ⟨⟨va1, vd1, va2, vd2, va3, vd3, rfl, hmx⟩, hend, hmb, hbo⟩; have HEnd := hide hend; have HMx := hide hmx; have HMb5 := hide hmb; have HBo := hide hbo; have f0 := Ow.fzl_blk hbo 0; have q0 := cell_box hbo 0; have f1 := Ow.fzl_blk hbo 1; have q1 := cell_box hbo 1; have f2 := Ow.fzl_blk hbo 2; have q2 := cell_box hbo 2; have f3 := Ow.fzl_blk hbo 3; have q3 := cell_box hbo 3; have f4 := Ow.fzl_blk hbo 4; have q4 := cell_box hbo 4; have f5 := Ow.fzl_blk hbo 5; have q5 := cell_box hbo 5; have f6 := Ow.fzl_blk hbo 6; have q6 := cell_box hbo 6; have f7 := Ow.fzl_blk hbo 7; have q7 := cell_box hbo 7; have f8 := Ow.fzl_blk hbo 8; have q8 := cell_box hbo 8; have f9 := Ow.fzl_blk hbo 9; have q9 := cell_box hbo 9
               clear hend hmx hmb hbo)
            | fail)
           all_goals first
            | (have hBo := HBo.out
               have hWx : ∃ W, W = ((((((((((w5.setCell ⟨wB.heap.size, 0, none⟩ (.string OW)).setCell ⟨wB.heap.size, 1, none⟩ (.string ON)).setCell ⟨wB.heap.size, 2, none⟩ (.bool os)).setCell ⟨wB.heap.size, 3, none⟩ (.bool oa)).setCell ⟨wB.heap.size, 4, none⟩ (.slice va1 o1 vd1)).setCell ⟨wB.heap.size, 5, none⟩ (.int .i64 ok')).setCell ⟨wB.heap.size, 6, none⟩ (.string OR)).setCell ⟨wB.heap.size, 7, none⟩ (.int .i64 ol)).setCell ⟨wB.heap.size, 8, none⟩ (.slice va2 o2 vd2)).setCell ⟨wB.heap.size, 9, none⟩ (.slice va3 o3 vd3)) /\ W.heap[wB.heap.size]? = some (.cells #[.string OW, .string ON, .bool os, .bool oa, .slice va1 o1 vd1, .int .i64 ok', .string OR, .int .i64 ol, .slice va2 o2 vd2, .slice va3 o3 vd3] 55 (0, 0)) /\ W.heap[wr.heap.size]? = some (.cells #[.string NB, .bool st, .bool ab, .slice xa1 n1 xd1, .int .i64 rk, .string rn, .int .i64 lo, .slice xa2 n2 xd2, .slice xa3 n3 xd3] 29 (0, 0)) /\ Rdy N w0 W A /\ Fx N.T w W :=
                ⟨_, rfl, blk_ten hBo (.string OW) (.string ON) (.bool os) (.bool oa) (.slice va1 o1 vd1) (.int .i64 ok') (.string OR) (.int .i64 ol) (.slice va2 o2 vd2) (.slice va3 o3 vd3), ((fx_ten wB.heap.size w5 (.string OW) (.string ON) (.bool os) (.bool oa) (.slice va1 o1 vd1) (.int .i64 ok') (.string OR) (.int .i64 ol) (.slice va2 o2 vd2) (.slice va3 o3 vd3)).blk wr.heap.size (Ow.lt_of_blk HMb5.out) hmo).trans HMb5.out, HEnd.out _ (fx_ten wB.heap.size w5 (.string OW) (.string ON) (.bool os) (.bool oa) (.slice va1 o1 vd1) (.int .i64 ok') (.string OR) (.int .i64 ol) (.slice va2 o2 vd2) (.slice va3 o3 vd3))⟩
               obtain ⟨W, hW, hWb, hWm, hWE⟩ := hWx; rw [<- hW]
               clear hBo HBo f0 f1 f2 f3 f4 f5 f6 f7 f8 f9 q0 q1 q2 q3 q4 q5 q6 q7 q8 q9 hW)
            | (have hWl := (Below.refl w5.heap.size w5).alloc (Nat.le_refl _) (.cells #[.string OW, .string ON, .bool os, .bool oa, .slice va1 o1 vd1, .int .i64 ok', .string OR, .int .i64 ol, .slice va2 o2 vd2, .slice va3 o3 vd3] 55)
               have hWx : ∃ W, W = w5.alloc (.cells #[.string OW, .string ON, .bool os, .bool oa, .slice va1 o1 vd1, .int .i64 ok', .string OR, .int .i64 ol, .slice va2 o2 vd2, .slice va3 o3 vd3] 55) /\ W.heap[w5.heap.size]? = some (.cells #[.string OW, .string ON, .bool os, .bool oa, .slice va1 o1 vd1, .int .i64 ok', .string OR, .int .i64 ol, .slice va2 o2 vd2, .slice va3 o3 vd3] 55 (0, 0)) /\ W.heap[wr.heap.size]? = some (.cells #[.string NB, .bool st, .bool ab, .slice xa1 n1 xd1, .int .i64 rk, .string rn, .int .i64 lo, .slice xa2 n2 xd2, .slice xa3 n3 xd3] 29 (0, 0)) /\ Rdy N w0 W A /\ Fx N.T w W :=
                ⟨_, rfl, heap_alloc_new w5 _, (hWl.block wr.heap.size (Ow.lt_of_blk HMb5.out)).trans HMb5.out, HEnd.out _ (Fx.below (S := fun k => k = w5.heap.size) hWl)⟩
               obtain ⟨W, hW, hWb, hWm, hWE⟩ := hWx; rw [<- hW]
               clear hWl hW)
           all_goals
            have m0 := cell_box hWm 0; have m1 := cell_box hWm 1; have m2 := cell_box hWm 2; have m3 := cell_box hWm 3; have m4 := cell_box hWm 4; have m5 := cell_box hWm 5; have m6 := cell_box hWm 6; have m7 := cell_box hWm 7; have m8 := cell_box hWm 8; have n1' := cell_box hWb 1; have n2' := cell_box hWb 2; have n3' := cell_box hWb 3; have n4' := cell_box hWb 4; have n5' := cell_box hWb 5; have n6' := cell_box hWb 6; have n7' := cell_box hWb 7; have n8' := cell_box hWb 8; have n9' := cell_box hWb 9; have HWE := hide hWE; clear hWb hWm hWE HEnd HMb5
           all_goals cases os <;> cases st
           all_goals first
            | (have HRes := hide (HSt.out (by rw [HCl2.out]; rfl))
               clear HSt HTk HCl2 HAl4 HMx; go_wp2_with fail; go_ret
               exact ⟨by rw [HRes.out]; rfl, HWE.out⟩)
            | (have HAc := hide (HAl4.out _ W HWE.out.1.1 HMx.out)
               have HCl3 : Hid (cl = !al) := hide (by rw [HCl2.out]; rfl)
               clear HCl2 HAl4 HMx; go_wp2_with fail; refine HAc.out.mono ?_; rintro e w7 ⟨rfl, hb7⟩; have HQ7 := hide (HWE.out.1.on hb7); have HF7 := hide (HWE.out.2.trans (Fx.below hb7)); clear HAc hb7 HWE; cases al with
               | true =>
                 have HT' := hide (HTk.out HCl3.out); clear HSt HTk HCl3; go_wp2_with fail
                 go_roundw
                 case rel => exact ⟨j + 1, by omega, by go_num, HQ7, HF7, HT'⟩
                 case measure => simp [intOf]; omega
               | false =>
                 have HRes := hide (HSt.out HCl3.out); clear HSt HTk HCl3; go_wp2_with fail; go_ret
                 exact ⟨by rw [HRes.out]; rfl, HQ7.out, HF7.out⟩)
       · have HQ : Hid (r = 0) := hide (by
          have h1 := Ly.any_end HZ.out (by rw [<- HNm.out]; omega)
          rw [HR2.out, if_neg (by rw [h1]; decide)])
         have hnl : ¬ ((j : Int) < (nm : Int)) := by omega
         clear HZ; go_wp2_with fail; go_ret; exact ⟨by rw [HQ.out]; rfl, HQr.out, HF.out⟩
end Go.Proofs.YtjlappamkfjlkabGreatDoor
