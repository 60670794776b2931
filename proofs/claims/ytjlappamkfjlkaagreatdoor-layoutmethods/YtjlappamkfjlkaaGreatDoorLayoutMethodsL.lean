/- LayoutMethods: the walk. -/
import Derived.Test.YtjlappamkfjlkaaGreatDoorPkAv
import Derived.Test.YtjlappamkfjlkaaGreatDoorPkAy
import Derived.Test.YtjlappamkfjlkaaGreatDoorPkAn
import Derived.Deep.RegionHeld3
set_option maxRecDepth 100000
set_option maxHeartbeats 64000000
set_option linter.unusedVariables false
set_option linter.unusedSimpArgs false
namespace Go.Proofs.YtjlappamkfjlkaaGreatDoor
open Go.RowKit
theorem layoutMethods_walk (v : Value) (cs : List Pp.XCls) (at1 : Int) (nm : Pp.Bs) (w : World) (ht : TabS w) (h : ProgX w v cs) (hnm : nm.length <= maxLen) :
 Calls Tryz.prog 5 #[.agg #[v], .int .i64 at1, .string ⟨nm.toArray⟩] w fun e w' => e = .returned (.bool true) /\ Below w.heap.size w w' := by
 have HP := hide (fun wx (hb : Below w.heap.size w wx) => h.on hb); have HT := hide (fun wx (hb : Below w.heap.size w wx) => ht.below hb); obtain ⟨pa, pc, rfl, _⟩ := h.1.len; obtain ⟨n, hn'⟩ : ∃ n, n = cs.length := ⟨_, rfl⟩; have HN := hide hn'; rw [<- hn'] at HP ⊢; clear h ht hn'; have hx0 := hide (heap_alloc_new w (.cells #[.slice pa n pc] 24)); have HB0 := hide ((Below.refl w.heap.size w).alloc (Nat.le_refl _) (.cells #[.slice pa n pc] 24)); go_enter Tryz.func5, Tryz.ntmps5; go_wp2_with fail; generalize w.alloc (.cells #[.slice pa n pc] 24) = w0 at *
 have HC : Hid (∀ wx, Below w0.heap.size w0 wx -> wx.cell? ⟨w.heap.size, 0, none⟩ = some (.slice pa n pc)) := hide fun wx hb => cell_box ((hb.block _ (Ow.lt_of_blk hx0.out)).trans hx0.out) 0; have HW : Hid (∀ wx, Below w0.heap.size w0 wx -> Below w.heap.size w wx) := hide fun wx hb => HB0.out.trans (hb.mono HB0.out.size); clear hx0; refine (Heavy_any cs _ w0 (HP.out w0 HB0.out)).mono ?_; rintro e w1 ⟨⟨b, rfl, hlb⟩, hb1⟩; have HB1 := hide hb1; clear hb1; cases b with
 | true =>
   go_wp2_with fail; go_ret; exact ⟨rfl, HW.out _ HB1.out⟩
 | false =>
   have HLt := hide (hlb rfl); have d0 := HC.out w1 HB1.out; clear hlb; have hzs : (⟨nm.toArray⟩ : ByteArray).size = nm.length := by simp [ByteArray.size]
   by_cases hlen : 60 < nm.length
   · have hli : (60 : Int) < ((⟨nm.toArray⟩ : ByteArray).size : Int) := by rw [hzs]; omega
     clear hzs; go_wp2_with fail; go_ret; exact ⟨rfl, HW.out _ HB1.out⟩
   have hli : ¬ (60 : Int) < ((⟨nm.toArray⟩ : ByteArray).size : Int) := by rw [hzs]; omega
   clear hzs hlen; go_wp2_with fail; refine (RLayout_any cs _ w1 (HP.out _ (HW.out _ HB1.out)) HLt.out).mono ?_; rintro e w2 ⟨rfl, hb2⟩; have HB2 := hide (HB1.out.trans (hb2.mono HB1.out.size)); clear hb2 d0; have d0 := HC.out w2 HB2.out; by_cases he : Ly.layE cs ≠ 0
   · generalize Ly.layE cs = er at *
     have he' : (er != 0) = true := by simpa using he
     go_wp2_with fail; go_ret; exact ⟨rfl, HW.out _ HB2.out⟩
   have HE := hide (show Ly.layE cs = 0 by simpa using he)
   have HEr := hide (Ly.lay_err HE.out); rw [HE.out]; clear he; have hn14 : n <= 14 := by rw [HN.out]; exact HLt.out.1
   by_cases hz0 : n = 0
   · subst hz0
     go_wp2_with fail; go_ret; exact ⟨rfl, HW.out _ HB2.out⟩
   have hnz : ((n : Int) == 0) = false := by simp; omega
   have hni : (n : Int) <= 14 := by omega
   have hwn : IntKind.u64.wrap (n : Int) = (n : Int) := by rw [IntKind.wrap_u64]; omega
   obtain ⟨q, hq, hw⟩ := mod_at at1 n (by omega) (by omega)
   have hq' : (q : Int) < (n : Int) := by omega
   have hw' : IntKind.i64.wrap ((IntKind.u64.wrap at1).tmod (n : Int)) = (q : Int) := by rw [IntWalk.i64_left]; exact hw
   obtain ⟨x, hx⟩ : ∃ x, cs[q]? = some x := ⟨cs[q]'(by rw [<- HN.out]; exact hq), List.getElem?_eq_getElem _⟩
   have HRw := (HP.out _ (HW.out _ HB2.out)).1; obtain ⟨g, o, rfl, ys, hys, hc⟩ := Eq.row_at HRw hx; have HXw := hide hys; obtain ⟨ia, ic, fa, fc, ma, mc, rfl, _, x2, x3⟩ := cls_open hys; have HRf := hide x2; have HRm := hide x3; have HX : Hid (∀ wx, Below w2.heap.size w2 wx -> wx.cell? ⟨w.heap.size, 0, none⟩ = some (.slice (some ⟨g, o, none⟩) n pc) /\ wx.cell? ⟨g, o + q * 6, none⟩ = some (.string ⟨x.name.toArray⟩) /\ wx.cell? ⟨g, o + q * 6 + 1, none⟩ = some (.bool x.iface) /\ wx.cell? ⟨g, o + q * 6 + 2, none⟩ = some (.string ⟨x.super.toArray⟩) /\ wx.cell? ⟨g, o + q * 6 + 3, none⟩ = some (.slice ia x.ifaces.length ic) /\ wx.cell? ⟨g, o + q * 6 + 4, none⟩ = some (.slice fa x.fields.length fc) /\ wx.cell? ⟨g, o + q * 6 + 5, none⟩ = some (.slice ma x.methods.length mc)) := hide fun wx hb => ⟨HC.out wx (HB2.out.trans (hb.mono HB2.out.size)), hc wx hb 0 _ rfl, hc wx hb 1 _ rfl, hc wx hb 2 _ rfl, hc wx hb 3 _ rfl, hc wx hb 4 _ rfl, hc wx hb 5 _ rfl⟩; have HI := hide hx; clear x2 x3 hc hx hys HRw hw; obtain ⟨nb, hnb⟩ : ∃ z : ByteArray, z = ⟨x.name.toArray⟩ := ⟨_, rfl⟩; obtain ⟨sb, hsb⟩ : ∃ z : ByteArray, z = ⟨x.super.toArray⟩ := ⟨_, rfl⟩; obtain ⟨fi, hfi⟩ : ∃ z, z = x.iface := ⟨_, rfl⟩; obtain ⟨ni, hni'⟩ : ∃ z, z = x.ifaces.length := ⟨_, rfl⟩; obtain ⟨nf, hnf⟩ : ∃ z, z = x.fields.length := ⟨_, rfl⟩; obtain ⟨nt, hnt⟩ : ∃ z, z = x.methods.length := ⟨_, rfl⟩; rw [<- hnb, <- hsb, <- hfi, <- hni', <- hnf, <- hnt] at HX; rw [<- hnf] at HRf; rw [<- hnt] at HRm; have HNb := hide hnb; have HFi := hide hfi; have HNf := hide hnf; have HNt := hide hnt; clear hnb hsb hfi hni' hnf hnt; have hDr : Hid (Below w2.heap.size w2 w2.drew) := hide (Below.drew (Below.refl _ _)); go_wp2_with fail
   go_region_held3 (fun wz => wz.cell? ⟨w.heap.size, 0, none⟩ = some (.slice (some ⟨g, o, none⟩) n pc) /\ wz.cell? ⟨g, o + q * 6, none⟩ = some (.string nb) /\ wz.cell? ⟨g, o + q * 6 + 1, none⟩ = some (.bool fi) /\ wz.cell? ⟨g, o + q * 6 + 2, none⟩ = some (.string sb) /\ wz.cell? ⟨g, o + q * 6 + 3, none⟩ = some (.slice ia ni ic) /\ wz.cell? ⟨g, o + q * 6 + 4, none⟩ = some (.slice fa nf fc) /\ wz.cell? ⟨g, o + q * 6 + 5, none⟩ = some (.slice ma nt mc)) (first | with_reducible exact HX.out _ hDr.out | with_reducible exact HX.out _ (Below.drew ((Below.refl _ _).alloc (Nat.le_refl _) _)) | (trace_state; fail))
    (first | fail)
   all_goals
    have hcx : ((w2.alloc (.cells #[.string nb, .bool fi, .string sb, .slice ia ni ic, .slice fa nf fc, .slice ma nt mc] 59)).drew).heap[w2.heap.size]? = some (.cells #[.string nb, .bool fi, .string sb, .slice ia ni ic, .slice fa nf fc, .slice ma nt mc] 59 (0, 0)) := heap_alloc_new w2 _; have hA3 : Below w2.heap.size w2 ((w2.alloc (.cells #[.string nb, .bool fi, .string sb, .slice ia ni ic, .slice fa nf fc, .slice ma nt mc] 59)).drew) := Below.drew ((Below.refl _ _).alloc (Nat.le_refl _) _); generalize (w2.alloc (.cells #[.string nb, .bool fi, .string sb, .slice ia ni ic, .slice fa nf fc, .slice ma nt mc] 59)).drew = w3 at *
    have HA3 := hide hA3; have HB3 := hide (HB2.out.trans (hA3.mono HB2.out.size))
    have HCx : Hid (∀ wx, Below w3.heap.size w3 wx -> wx.cell? ⟨w.heap.size, 0, none⟩ = some (.slice (some ⟨g, o, none⟩) n pc) /\ wx.cell? ⟨w2.heap.size, 0, none⟩ = some (.string nb) /\ wx.cell? ⟨w2.heap.size, 1, none⟩ = some (.bool fi) /\ wx.cell? ⟨w2.heap.size, 5, none⟩ = some (.slice ma nt mc)) := hide fun wx hb => by
     have hbk := (hb.block _ (Ow.lt_of_blk hcx)).trans hcx; exact ⟨HC.out wx (HB3.out.trans (hb.mono HB3.out.size)), cell_box hbk 0, cell_box hbk 1, cell_box hbk 5⟩
    clear hcx hA3 HX; have hM := Method_any cs _ x.name nm w3 (HT.out _ (HW.out _ HB3.out)) (HP.out _ (HW.out _ HB3.out)) HLt.out; rw [<- HNb.out] at hM; obtain ⟨d0, d1, d2, d5⟩ := HCx.out w3 (Below.refl _ _); go_wp2_with fail; refine hM.mono ?_; clear hM; rintro e w4 ⟨hf, hb4⟩; obtain ⟨ms, hmv, rfl, hmx⟩ := hf.is; obtain ⟨n1, b2, b3, a4, m4, c4, k5, s6, l7, a8, m8, c8, a9, m9, c9, rfl⟩ := hmv; obtain ⟨OW, hOW⟩ : ∃ z : ByteArray, z = ⟨(((Ly.methQ cs x.name nm).map (·.1)).getD []).toArray⟩ := ⟨_, rfl⟩; obtain ⟨y, hy⟩ : ∃ z, z = (Ly.methQ cs x.name nm).isSome := ⟨_, rfl⟩; rw [<- hOW, <- hy]; have HOW := hide hOW; have HY := hide hy; have hA5 : Below w4.heap.size w4 (w4.alloc (.cells #[.string n1, .bool b2, .bool b3, .slice a4 m4 c4, .int .i64 k5, .string s6, .int .i64 l7, .slice a8 m8 c8, .slice a9 m9 c9] 39)) := (Below.refl _ _).alloc (Nat.le_refl _) _; have HB5 := hide (HB3.out.trans ((hb4.trans (hA5.mono hb4.size)).mono HB3.out.size)); have H5 := hide (hb4.trans (hA5.mono hb4.size)); have HM5 := hide (hmx.on hA5); have hx5 := heap_alloc_new w4 (.cells #[.string n1, .bool b2, .bool b3, .slice a4 m4 c4, .int .i64 k5, .string s6, .int .i64 l7, .slice a8 m8 c8, .slice a9 m9 c9] 39); clear hf hmx hOW hy hA5 hb4 d0 d1 d2 d5; obtain ⟨d0, d1, d2, d5⟩ := HCx.out _ H5.out; cases fi with
    | true =>
      have hq := Ly.methQ_face HE.out (Ly.own_at HI.out) HFi.out.symm nm; have h1 : OW = ⟨#[]⟩ := by rw [HOW.out, hq]; rfl
      have h2 : y = false := by rw [HY.out, hq]; rfl
      subst h1 h2; clear hq; go_wp2_with fail; generalize w4.alloc (.cells #[.string n1, .bool b2, .bool b3, .slice a4 m4 c4, .int .i64 k5, .string s6, .int .i64 l7, .slice a8 m8 c8, .slice a9 m9 c9] 39) = w5 at *
      have HWk := hide (lwakes_any w5 (HT.out _ (HW.out _ HB5.out))); refine HWk.out.mono ?_; rintro e w6 ⟨rfl, hb6⟩; have HB6 := hide (HB5.out.trans (hb6.mono HB5.out.size)); clear hb6; go_wp2_with fail; go_ret; exact ⟨rfl, HW.out _ HB6.out⟩
    | false =>
      go_wp2_with fail; generalize w4.alloc (.cells #[.string n1, .bool b2, .bool b3, .slice a4 m4 c4, .int .i64 k5, .string s6, .int .i64 l7, .slice a8 m8 c8, .slice a9 m9 c9] 39) = w5 at *
      have HL9 : Hid (∀ wx, Below w5.heap.size w5 wx -> wx.cell? ⟨w4.heap.size, 0, none⟩ = some (.string n1) /\ wx.cell? ⟨w4.heap.size, 1, none⟩ = some (.bool b2) /\ wx.cell? ⟨w4.heap.size, 2, none⟩ = some (.bool b3) /\ wx.cell? ⟨w4.heap.size, 3, none⟩ = some (.slice a4 m4 c4) /\ wx.cell? ⟨w4.heap.size, 4, none⟩ = some (.int .i64 k5) /\ wx.cell? ⟨w4.heap.size, 5, none⟩ = some (.string s6) /\ wx.cell? ⟨w4.heap.size, 6, none⟩ = some (.int .i64 l7) /\ wx.cell? ⟨w4.heap.size, 7, none⟩ = some (.slice a8 m8 c8) /\ wx.cell? ⟨w4.heap.size, 8, none⟩ = some (.slice a9 m9 c9)) := hide fun wx hb => by
       have hbk := (hb.block _ (Ow.lt_of_blk hx5)).trans hx5; exact ⟨cell_box hbk 0, cell_box hbk 1, cell_box hbk 2, cell_box hbk 3, cell_box hbk 4, cell_box hbk 5, cell_box hbk 6, cell_box hbk 7, cell_box hbk 8⟩
      clear hx5; have H25 := hide (HA3.out.trans (H5.out.mono HA3.out.size)); have HRm5 := hide (HRm.out.on H25.out fun _ _ h => h.on H25.out); have hnt : (nt : Int) <= 100000 := by have := (Ly.light_cls HLt.out (List.mem_of_getElem? (Ly.own_at HI.out))).1.2.1; rw [HNt.out]; omega
      go_loop [11] (fun i => ∃ k : Nat, k <= nt /\ i = .int .i64 k /\ Hid ((x.methods.take k).any (fun m => m.name == nm) = false)) (fun i => nt - (intOf i).toNat)
      case atStart => exact ⟨0, Nat.zero_le _, rfl, hide (by simp)⟩
      case round =>
       obtain ⟨k, hk, rfl, HNo⟩ := hrel; by_cases hlt : k < nt
       · obtain ⟨m, hm⟩ : ∃ m, x.methods[k]? = some m := ⟨x.methods[k]'(by rw [<- HNt.out]; exact hlt), List.getElem?_eq_getElem _⟩
         obtain ⟨g2, o2, rfl, ys, wf, hc⟩ := Ow.row_at' HRm5.out hm; have HMk := hide wf; obtain ⟨n1q, b2q, b3q, a4q, m4q, c4q, k5q, s6q, l7q, a8q, m8q, c8q, a9q, m9q, c9q, rfl⟩ := Mv.of wf
         have h1q : n1q = ⟨m.name.toArray⟩ := by
          obtain ⟨vp, vc, vk, e, _⟩ := wf; simp only [mthXL, List.cons.injEq, Value.string.injEq] at e; exact e.1
         have hk' : (k : Int) < (nt : Int) := by omega
         by_cases hn : m.name = nm
         · have e1 : n1q = ⟨nm.toArray⟩ := by rw [h1q, hn]
           clear h1q; subst e1; have hF := Ly.methQ_own HE.out (Ly.own_at HI.out) HFi.out.symm (Ly.find_take HNo.out hm (by simp [hn]))
           have h1 : OW = nb := by rw [HOW.out, hF, HNb.out]; rfl
           have h2 : y = true := by rw [HY.out, hF]; rfl
           have h1 := h1.symm; subst h1 h2
           have hMo : MthX w5 m [.string n1, .bool b2, .bool b3, .slice a4 m4 c4, .int .i64 k5, .string s6, .int .i64 l7, .slice a8 m8 c8, .slice a9 m9 c9] := by
            have h := HM5.out; rw [hF] at h; exact h
           have HLm := hide (Ly.meth_light HLt.out hF); have HS : Hid (∀ wx, Below w5.heap.size w5 wx -> wx.cell? ⟨w2.heap.size, 0, none⟩ = some (.string nb) /\ wx.cell? ⟨w2.heap.size, 5, none⟩ = some (.slice (some ⟨g2, o2, none⟩) nt mc) /\ (wx.cell? ⟨w4.heap.size, 0, none⟩ = some (.string n1) /\ wx.cell? ⟨w4.heap.size, 1, none⟩ = some (.bool b2) /\ wx.cell? ⟨w4.heap.size, 2, none⟩ = some (.bool b3) /\ wx.cell? ⟨w4.heap.size, 3, none⟩ = some (.slice a4 m4 c4) /\ wx.cell? ⟨w4.heap.size, 4, none⟩ = some (.int .i64 k5) /\ wx.cell? ⟨w4.heap.size, 5, none⟩ = some (.string s6) /\ wx.cell? ⟨w4.heap.size, 6, none⟩ = some (.int .i64 l7) /\ wx.cell? ⟨w4.heap.size, 7, none⟩ = some (.slice a8 m8 c8) /\ wx.cell? ⟨w4.heap.size, 8, none⟩ = some (.slice a9 m9 c9)) /\ wx.cell? ⟨g2, o2 + k * 9, none⟩ = some (.string ⟨nm.toArray⟩) /\ wx.cell? ⟨g2, o2 + k * 9 + 1, none⟩ = some (.bool b2q) /\ wx.cell? ⟨g2, o2 + k * 9 + 2, none⟩ = some (.bool b3q) /\ wx.cell? ⟨g2, o2 + k * 9 + 3, none⟩ = some (.slice a4q m4q c4q) /\ wx.cell? ⟨g2, o2 + k * 9 + 4, none⟩ = some (.int .i64 k5q) /\ wx.cell? ⟨g2, o2 + k * 9 + 5, none⟩ = some (.string s6q) /\ wx.cell? ⟨g2, o2 + k * 9 + 6, none⟩ = some (.int .i64 l7q) /\ wx.cell? ⟨g2, o2 + k * 9 + 7, none⟩ = some (.slice a8q m8q c8q) /\ wx.cell? ⟨g2, o2 + k * 9 + 8, none⟩ = some (.slice a9q m9q c9q)) := hide fun wx hb => ⟨(HCx.out wx (H5.out.trans (hb.mono H5.out.size))).2.1, (HCx.out wx (H5.out.trans (hb.mono H5.out.size))).2.2.2, HL9.out wx hb, hc wx hb 0 _ rfl, hc wx hb 1 _ rfl, hc wx hb 2 _ rfl, hc wx hb 3 _ rfl, hc wx hb 4 _ rfl, hc wx hb 5 _ rfl, hc wx hb 6 _ rfl, hc wx hb 7 _ rfl, hc wx hb 8 _ rfl⟩; have hDr5 : Hid (Below w5.heap.size w5 w5.drew) := hide (Below.drew (Below.refl _ _))
           have HMe : Hid (∀ wx, Below w5.heap.size w5 wx -> Calls Tryz.prog 18 #[.agg #[.string n1, .bool b2, .bool b3, .slice a4 m4 c4, .int .i64 k5, .string s6, .int .i64 l7, .slice a8 m8 c8, .slice a9 m9 c9], .agg #[.string ⟨nm.toArray⟩, .bool b2q, .bool b3q, .slice a4q m4q c4q, .int .i64 k5q, .string s6q, .int .i64 l7q, .slice a8q m8q c8q, .slice a9q m9q c9q]] wx fun e w' => e = .returned (.bool true) /\ Below wx.heap.size wx w') := hide fun wx hb => by
            refine (Method_eq m m _ _ wx (hMo.on hb) (HMk.out.on hb) HLm.out HLm.out).mono ?_; rintro e w' ⟨his, hb'⟩; exact ⟨eq_yes his rfl, hb'⟩
           have HWk : Hid (∀ wx, Below w5.heap.size w5 wx -> Calls Tryz.prog 19 #[] wx fun e w' => e = .returned (.bool true) /\ Below wx.heap.size wx w') := hide fun wx hb => lwakes_any wx (HT.out _ (HW.out _ (HB5.out.trans (hb.mono HB5.out.size)))); obtain ⟨_, _, _, r0, _⟩ := HS.out w5 (Below.refl _ _); clear hMo hm hc wf HNo hn hF HCx; go_wp2_with fail
           go_region_held3 (fun wx => wx.cell? ⟨w2.heap.size, 0, none⟩ = some (.string nb) /\ wx.cell? ⟨w2.heap.size, 5, none⟩ = some (.slice (some ⟨g2, o2, none⟩) nt mc) /\ (wx.cell? ⟨w4.heap.size, 0, none⟩ = some (.string n1) /\ wx.cell? ⟨w4.heap.size, 1, none⟩ = some (.bool b2) /\ wx.cell? ⟨w4.heap.size, 2, none⟩ = some (.bool b3) /\ wx.cell? ⟨w4.heap.size, 3, none⟩ = some (.slice a4 m4 c4) /\ wx.cell? ⟨w4.heap.size, 4, none⟩ = some (.int .i64 k5) /\ wx.cell? ⟨w4.heap.size, 5, none⟩ = some (.string s6) /\ wx.cell? ⟨w4.heap.size, 6, none⟩ = some (.int .i64 l7) /\ wx.cell? ⟨w4.heap.size, 7, none⟩ = some (.slice a8 m8 c8) /\ wx.cell? ⟨w4.heap.size, 8, none⟩ = some (.slice a9 m9 c9)) /\ wx.cell? ⟨g2, o2 + k * 9, none⟩ = some (.string ⟨nm.toArray⟩) /\ wx.cell? ⟨g2, o2 + k * 9 + 1, none⟩ = some (.bool b2q) /\ wx.cell? ⟨g2, o2 + k * 9 + 2, none⟩ = some (.bool b3q) /\ wx.cell? ⟨g2, o2 + k * 9 + 3, none⟩ = some (.slice a4q m4q c4q) /\ wx.cell? ⟨g2, o2 + k * 9 + 4, none⟩ = some (.int .i64 k5q) /\ wx.cell? ⟨g2, o2 + k * 9 + 5, none⟩ = some (.string s6q) /\ wx.cell? ⟨g2, o2 + k * 9 + 6, none⟩ = some (.int .i64 l7q) /\ wx.cell? ⟨g2, o2 + k * 9 + 7, none⟩ = some (.slice a8q m8q c8q) /\ wx.cell? ⟨g2, o2 + k * 9 + 8, none⟩ = some (.slice a9q m9q c9q)) (first | with_reducible exact HS.out _ hDr5.out | with_reducible exact HS.out _ HB7.out | with_reducible exact HS.out _ HB8.out)
            (first
              | (go_at_call 18
                 refine (HMe.out _ hDr5.out).mono ?_; rintro e w7 ⟨rfl, hb7⟩; have HB7 : Hid (Below w5.heap.size w5 w7) := hide (hDr5.out.trans (hb7.mono hDr5.out.size))
                 clear hb7 HMe)
              | (go_at_call 19
                 refine (HWk.out _ HB7.out).mono ?_; rintro e w8 ⟨rfl, hb8⟩; have HB8 : Hid (Below w5.heap.size w5 w8) := hide (HB7.out.trans (hb8.mono HB7.out.size))
                 clear hb8))
           all_goals
            go_wp2_with fail; go_ret; exact ⟨rfl, HW.out _ (HB5.out.trans (HB8.out.mono HB5.out.size))⟩
         · have hne : (m.name == nm) = false := by simp [hn]
           have HNo2 := hide (Ly.any_take (p := fun m : Pp.XMth => m.name == nm) HNo.out hm hne); have r0 := hc w5 (Below.refl _ _) 0 _ rfl; rw [Nat.add_zero, h1q] at r0; clear hm hc wf HMk HNo h1q; obtain ⟨y0, hy0⟩ : ∃ z, z = m.name := ⟨_, rfl⟩; rw [<- hy0] at hn hne r0; clear hy0; go_wp2_with fail
           go_round
           case rel => exact ⟨k + 1, by omega, by go_num, HNo2⟩
           case measure => simp [intOf]; omega
       · have hnl : ¬ ((k : Int) < (nt : Int)) := by omega
         have hfn := Ly.find_end HNo.out (by rw [<- HNt.out]; omega)
         obtain ⟨s, hs⟩ := Ly.sup_or HEr.out HI.out HFi.out.symm; have HQ : Hid (Ly.methQ cs x.name nm = Ly.methQ cs s nm) := hide (Ly.methQ_super HE.out (Ly.own_at HI.out) HFi.out.symm hfn hs); have HSu : Hid (Hr.superQ cs x.name = some s) := hide (by rw [Hr.superQ_at HEr.out (Ly.own_at HI.out)]; exact hs)
         clear HNo hfn hs; have HSp := Super_any cs _ x.name w5 (HT.out _ (HW.out _ HB5.out)) (HP.out _ (HW.out _ HB5.out)); rw [<- HNb.out, HSu.out] at HSp; simp only [Hr.pairS] at HSp; go_wp2_with fail; refine HSp.mono ?_; clear HSp; rintro e w6 ⟨rfl, hb6⟩; have HB6 := hide (HB5.out.trans (hb6.mono HB5.out.size)); have H6 := hide hb6; clear hb6 d0 d1 d2 d5; have d0 := (HCx.out w6 (H5.out.trans (H6.out.mono H5.out.size))).1; have hM := Method_any cs _ s nm w6 (HT.out _ (HW.out _ HB6.out)) (HP.out _ (HW.out _ HB6.out)) HLt.out; go_wp2_with fail; refine hM.mono ?_; clear hM; rintro e w7 ⟨hf, hb7⟩; obtain ⟨ms, hmv, rfl, hmx⟩ := hf.is; obtain ⟨n1q, b2q, b3q, a4q, m4q, c4q, k5q, s6q, l7q, a8q, m8q, c8q, a9q, m9q, c9q, rfl⟩ := hmv; rw [<- HQ.out] at hmx ⊢; rw [<- HOW.out, <- HY.out]; have hA8 : Below w7.heap.size w7 (w7.alloc (.cells #[.string n1q, .bool b2q, .bool b3q, .slice a4q m4q c4q, .int .i64 k5q, .string s6q, .int .i64 l7q, .slice a8q m8q c8q, .slice a9q m9q c9q] 39)) := (Below.refl _ _).alloc (Nat.le_refl _) _; have H8 := hide (H6.out.trans ((hb7.trans (hA8.mono hb7.size)).mono H6.out.size)); have HB8 := hide (HB5.out.trans (H8.out.mono HB5.out.size)); have HM8 := hide (hmx.on hA8); have hx8 := heap_alloc_new w7 (.cells #[.string n1q, .bool b2q, .bool b3q, .slice a4q m4q c4q, .int .i64 k5q, .string s6q, .int .i64 l7q, .slice a8q m8q c8q, .slice a9q m9q c9q] 39); clear hf hmx hA8 hb7 d0; obtain ⟨l0, l1, l2, l3, l4, l5, l6, l7', l8⟩ := HL9.out _ H8.out; have q0 := cell_box hx8 0; have q1 := cell_box hx8 1; have q2 := cell_box hx8 2; have q3 := cell_box hx8 3; have q4 := cell_box hx8 4; have q5 := cell_box hx8 5; have q6 := cell_box hx8 6; have q7 := cell_box hx8 7; have q8 := cell_box hx8 8
         have HLm : Hid (Pp.LtM (Ly.orM ((Ly.methQ cs x.name nm).map (·.2)))) := hide (Ly.or_light fun m hm => by
          cases hq : Ly.methQ cs x.name nm with
          | none => rw [hq] at hm; cases hm
          | some o => rw [hq] at hm; cases hm; exact Ly.meth_light HLt.out hq)
         clear hx8; go_wp2_with fail; generalize w7.alloc (.cells #[.string n1q, .bool b2q, .bool b3q, .slice a4q m4q c4q, .int .i64 k5q, .string s6q, .int .i64 l7q, .slice a8q m8q c8q, .slice a9q m9q c9q] 39) = w8 at *
         refine (Method_eq _ _ _ _ w8 (HM5.out.on H8.out) HM8.out HLm.out HLm.out).mono ?_; clear l0 l1 l2 l3 l4 l5 l6 l7' l8 q0 q1 q2 q3 q4 q5 q6 q7 q8; rintro e w9 ⟨his, hb9⟩; obtain rfl := eq_yes his rfl; have HB9 := hide (HB8.out.trans (hb9.mono HB8.out.size)); clear his hb9; have HWk := hide (lwakes_any w9 (HT.out _ (HW.out _ HB9.out))); go_wp2_with fail; refine HWk.out.mono ?_; rintro e w10 ⟨rfl, hb10⟩; have HB10 := hide (HB9.out.trans (hb10.mono HB9.out.size)); clear hb10; go_wp2_with fail; go_ret; exact ⟨rfl, HW.out _ HB10.out⟩
end Go.Proofs.YtjlappamkfjlkaaGreatDoor
