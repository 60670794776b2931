/- LayoutGrows: the walk. -/
import Derived.Test.YtjlappamkfjlkaaGreatDoorPkAv
import Derived.Test.YtjlappamkfjlkaaGreatDoorPkAg
import Derived.Test.YtjlappamkfjlkaaGreatDoorPkAy
import Derived.Test.YtjlappamkfjlkaaGreatDoorPkAn
import Derived.Deep.RegionHeld3
set_option maxRecDepth 100000
set_option maxHeartbeats 64000000
set_option linter.unusedVariables false
set_option linter.unusedSimpArgs false
namespace Go.Proofs.YtjlappamkfjlkaaGreatDoor
open Go.RowKit
theorem layoutGrows_walk (v : Value) (cs : List Pp.XCls) (at1 : Int) (w : World) (ht : TabS w) (h : ProgX w v cs) :
 Calls Tryz.prog 4 #[.agg #[v], .int .i64 at1] w fun e w' => e = .returned (.bool true) /\ Below w.heap.size w w' := by
 have HP := hide (fun wx (hb : Below w.heap.size w wx) => h.on hb); have HT := hide (fun wx (hb : Below w.heap.size w wx) => ht.below hb); obtain ⟨pa, pc, rfl, _⟩ := h.1.len; obtain ⟨n, hn'⟩ : ∃ n, n = cs.length := ⟨_, rfl⟩; have HN := hide hn'; rw [<- hn'] at HP ⊢; clear h ht hn'; have hx0 := hide (heap_alloc_new w (.cells #[.slice pa n pc] 24)); have HB0 := hide ((Below.refl w.heap.size w).alloc (Nat.le_refl _) (.cells #[.slice pa n pc] 24)); go_enter Tryz.func4, Tryz.ntmps4; go_wp2_with fail; generalize w.alloc (.cells #[.slice pa n pc] 24) = w0 at *
 have HC : Hid (∀ wx, Below w0.heap.size w0 wx -> wx.cell? ⟨w.heap.size, 0, none⟩ = some (.slice pa n pc)) := hide fun wx hb => cell_box ((hb.block _ (Ow.lt_of_blk hx0.out)).trans hx0.out) 0; have HW : Hid (∀ wx, Below w0.heap.size w0 wx -> Below w.heap.size w wx) := hide fun wx hb => HB0.out.trans (hb.mono HB0.out.size); clear hx0; refine (Heavy_any cs _ w0 (HP.out w0 HB0.out)).mono ?_; rintro e w1 ⟨⟨b, rfl, hlb⟩, hb1⟩; have HB1 := hide hb1; clear hb1; cases b with
 | true =>
   go_wp2_with fail; go_ret; exact ⟨rfl, HW.out _ HB1.out⟩
 | false =>
   have HLt := hide (hlb rfl); have d0 := HC.out w1 HB1.out; clear hlb; go_wp2_with fail; refine (RLayout_any cs _ w1 (HP.out _ (HW.out _ HB1.out)) HLt.out).mono ?_; rintro e w2 ⟨rfl, hb2⟩; have HB2 := hide (HB1.out.trans (hb2.mono HB1.out.size)); clear hb2 d0; have d0 := HC.out w2 HB2.out; by_cases he : Ly.layE cs ≠ 0
   · generalize Ly.layE cs = er at *
     have he' : (er != 0) = true := by simpa using he
     go_wp2_with fail; go_ret; exact ⟨rfl, HW.out _ HB2.out⟩
   have HE := hide (show Ly.layE cs = 0 by simpa using he)
   have HEr := hide (Ly.lay_err HE.out); rw [HE.out]; clear he; have hn14 : n <= 14 := by rw [HN.out]; exact HLt.out.1
   have hA := All_any cs _ w2 (HP.out _ (HW.out _ HB2.out)) HLt.out; go_wp2_with fail; refine hA.mono ?_; clear hA; rintro e w3 ⟨va, rfl, hol, hb3⟩; have HB3 := hide (HB2.out.trans (hb3.mono HB2.out.size)); clear hb3 d0; have d0 := HC.out w3 HB3.out; have HRa := hide (hol.row Ow.shp_cls fun _ _ h => h.x); obtain ⟨aa, ac, rfl⟩ := hol.shape; clear hol; have hml : (Hr.allL cs).length = 8 + n := by rw [Hr.all_len, HN.out]; rfl
   rw [hml] at HRa ⊢; obtain ⟨m, hm⟩ : ∃ m, m = 8 + n := ⟨_, rfl⟩; rw [<- hm] at HRa hml ⊢; have hm8 : 8 <= m := by omega
   have hm22 : (m : Int) <= 22 := by omega
   have hnz : ((m : Int) == 0) = false := by simp; omega
   have hwm : IntKind.u64.wrap (m : Int) = (m : Int) := by rw [IntKind.wrap_u64]; omega
   have hz0 : ¬ m = 0 := by omega
   obtain ⟨q, hq, hw⟩ := mod_at at1 m (by omega) (by omega)
   have hq' : (q : Int) < (m : Int) := by omega
   have hw' : IntKind.i64.wrap ((IntKind.u64.wrap at1).tmod (m : Int)) = (q : Int) := by rw [IntWalk.i64_left]; exact hw
   obtain ⟨x, hx⟩ : ∃ x, (Hr.allL cs)[q]? = some x := ⟨(Hr.allL cs)[q]'(by rw [hml]; exact hq), List.getElem?_eq_getElem _⟩
   obtain ⟨g, o, e, ys, hys, hc⟩ := Eq.row_at HRa.out hx; subst e; obtain ⟨ia, ic, fa, fc, ma, mc, rfl, _⟩ := cls_open hys; have HX : Hid (∀ wx, Below w3.heap.size w3 wx -> wx.cell? ⟨g, o + q * 6, none⟩ = some (.string ⟨x.name.toArray⟩) /\ wx.cell? ⟨g, o + q * 6 + 1, none⟩ = some (.bool x.iface) /\ wx.cell? ⟨g, o + q * 6 + 2, none⟩ = some (.string ⟨x.super.toArray⟩) /\ wx.cell? ⟨g, o + q * 6 + 3, none⟩ = some (.slice ia x.ifaces.length ic) /\ wx.cell? ⟨g, o + q * 6 + 4, none⟩ = some (.slice fa x.fields.length fc) /\ wx.cell? ⟨g, o + q * 6 + 5, none⟩ = some (.slice ma x.methods.length mc)) := hide fun wx hb => ⟨hc wx hb 0 _ rfl, hc wx hb 1 _ rfl, hc wx hb 2 _ rfl, hc wx hb 3 _ rfl, hc wx hb 4 _ rfl, hc wx hb 5 _ rfl⟩; have HI := hide hx; clear hc hx hys hw hml hm HRa; obtain ⟨nb, hnb⟩ : ∃ z : ByteArray, z = ⟨x.name.toArray⟩ := ⟨_, rfl⟩; obtain ⟨sb, hsb⟩ : ∃ z : ByteArray, z = ⟨x.super.toArray⟩ := ⟨_, rfl⟩; obtain ⟨fi, hfi⟩ : ∃ z, z = x.iface := ⟨_, rfl⟩; obtain ⟨ni, hni'⟩ : ∃ z, z = x.ifaces.length := ⟨_, rfl⟩; obtain ⟨nf, hnf⟩ : ∃ z, z = x.fields.length := ⟨_, rfl⟩; obtain ⟨nt, hnt⟩ : ∃ z, z = x.methods.length := ⟨_, rfl⟩; rw [<- hnb, <- hsb, <- hfi, <- hni', <- hnf, <- hnt] at HX; have HNb := hide hnb; have HFi := hide hfi; clear hnb hsb hfi hni' hnf hnt; obtain ⟨r0, r1, r2, r3, r4, r5⟩ := HX.out w3 (Below.refl _ _); have hA4 : Below w3.heap.size w3 (w3.alloc (.cells #[.string nb, .bool fi, .string sb, .slice ia ni ic, .slice fa nf fc, .slice ma nt mc] 59)) := (Below.refl _ _).alloc (Nat.le_refl _) _; have hx4 := heap_alloc_new w3 (.cells #[.string nb, .bool fi, .string sb, .slice ia ni ic, .slice fa nf fc, .slice ma nt mc] 59); have HB4 := hide (HB3.out.trans (hA4.mono HB3.out.size)); clear hA4 HX; have hS := Slots_any cs (.slice pa n pc) x.name (w3.alloc (.cells #[.string nb, .bool fi, .string sb, .slice ia ni ic, .slice fa nf fc, .slice ma nt mc] 59)) (HT.out _ (HW.out _ HB4.out)) (HP.out _ (HW.out _ HB4.out)) HLt.out; rw [<- HNb.out, Ly.slotsE_at HE.out HI.out, <- HFi.out] at hS; have d1 := HC.out _ HB4.out; go_wp2_with fail; clear r0 r1 r2 r3 r4 r5 d0; generalize w3.alloc (.cells #[.string nb, .bool fi, .string sb, .slice ia ni ic, .slice fa nf fc, .slice ma nt mc] 59) = w4 at *
   have HCx : Hid (∀ wx, Below w4.heap.size w4 wx -> wx.cell? ⟨w.heap.size, 0, none⟩ = some (.slice pa n pc) /\ wx.cell? ⟨w3.heap.size, 0, none⟩ = some (.string nb) /\ wx.cell? ⟨w3.heap.size, 1, none⟩ = some (.bool fi)) := hide fun wx hb => by
    have hbk := (hb.block _ (Ow.lt_of_blk hx4)).trans hx4; exact ⟨HC.out wx (HB4.out.trans (hb.mono HB4.out.size)), cell_box hbk 0, cell_box hbk 1⟩
   clear hx4; have d0 := (HCx.out w4 (Below.refl _ _)).2.1; go_wp2_with fail; refine hS.mono ?_; clear hS; rintro e w5 ⟨vs, rfl, hrs, hb5⟩; have H5 := hide hb5; have HB5 := hide (HB4.out.trans (hb5.mono HB4.out.size)); clear d0 d1 hb5; obtain ⟨d0, d1, d2⟩ := HCx.out w5 H5.out; cases fi with
   | true =>
     rw [Ly.slots_face HE.out HI.out HFi.out.symm] at hrs; obtain ⟨sa, sc, rfl, _⟩ := hrs.len; rw [show ([] : List Pp.Slt).length = 0 from rfl, if_pos rfl]
     clear hrs; go_wp2_with fail; have HWk := hide (lwakes_any w5 (HT.out _ (HW.out _ HB5.out))); go_wp2_with fail; refine HWk.out.mono ?_; rintro e wz ⟨rfl, hbz⟩; have HBz := hide (HB5.out.trans (hbz.mono HB5.out.size)); clear hbz; go_wp2_with fail; go_ret; exact ⟨rfl, HW.out _ HBz.out⟩
   | false =>
     have hfi := HFi.out.symm; have HSp : Hid (Hr.superQ cs x.name = Hr.superL x) := hide (Hr.superQ_at HEr.out HI.out); have hSu := Super_any cs (.slice pa n pc) x.name w5 (HT.out _ (HW.out _ HB5.out)) (HP.out _ (HW.out _ HB5.out)); rw [<- HNb.out, HSp.out] at hSu; rw [if_neg (by decide)]
     cases hs : Hr.superL x with
     | none =>
       rw [Ly.slots_none HE.out HI.out hfi hs] at hrs; rw [hs] at hSu; obtain ⟨sa, sc, rfl, _⟩ := hrs.len; simp only [Hr.pairS] at hSu; clear hrs; rw [show ([] : List Pp.Slt).length = 0 from rfl]
       go_wp2_with fail; refine hSu.mono ?_; clear hSu; rintro e w6 ⟨rfl, hb6⟩; have HB6 := hide (HB5.out.trans (hb6.mono HB5.out.size)); clear hb6 d0 d1 d2; go_wp2_with fail; have HWk := hide (lwakes_any w6 (HT.out _ (HW.out _ HB6.out))); go_wp2_with fail; refine HWk.out.mono ?_; rintro e wz ⟨rfl, hbz⟩; have HBz := hide (HB6.out.trans (hbz.mono HB6.out.size)); clear hbz; go_wp2_with fail; go_ret; exact ⟨rfl, HW.out _ HBz.out⟩
     | some s =>
       obtain ⟨up, hg⟩ := Ly.lay_grow HE.out; obtain ⟨q2, d, hd, hdn, hdi, _⟩ := Ly.super_place HE.out hg HI.out hs; have HSe : Hid (Ly.slotsE cs s = 0) := hide (by rw [<- hdn, Ly.slotsE_at HE.out hd, if_neg (by rw [hdi]; decide)])
       have HSl := hide (Ly.slots_super HE.out HI.out hfi hs); have HOw := hide (Ly.slots_owner HE.out HI.out hfi); have HOn := hide (Ly.slots_once HE.out HI.out hfi); have HSm := hide (Ly.slots_small HE.out HI.out); rw [hs] at hSu; simp only [Hr.pairS] at hSu; clear hg hd hdn hdi hs; generalize Ly.slotsQ cs x.name = sl at *
       obtain ⟨sa, sc, rfl, hsc⟩ := hrs.len; obtain ⟨ns, hns⟩ : ∃ z, z = sl.length := ⟨_, rfl⟩; rw [<- hns] at hrs hsc ⊢; have HNs := hide hns; have HRs := hide hrs; have HSc := hide hsc; have hnsi : (ns : Int) <= 100000 := by rw [hns]; have := HSm.out; omega
       clear hns hrs hsc; go_wp2_with fail; refine hSu.mono ?_; clear hSu; rintro e w6 ⟨rfl, hb6⟩; have HB6 := hide (HB5.out.trans (hb6.mono HB5.out.size)); have H6 := hide (H5.out.trans (hb6.mono H5.out.size)); have HR6 := hide (HRs.out.on hb6 fun _ _ h => h); clear hb6 d0 d1 d2; have d0 := (HCx.out w6 H6.out).1; have hS := Slots_any cs (.slice pa n pc) s w6 (HT.out _ (HW.out _ HB6.out)) (HP.out _ (HW.out _ HB6.out)) HLt.out; rw [HSe.out] at hS; go_wp2_with fail; refine hS.mono ?_; clear hS; rintro e w7 ⟨vy, rfl, hry, hb7⟩; have HB7 := hide (HB6.out.trans (hb7.mono HB6.out.size)); have H7 := hide (H6.out.trans (hb7.mono H6.out.size)); have HR7 := hide (HR6.out.on hb7 fun _ _ h => h); clear hb7 d0; generalize Ly.slotsQ cs s = sy at *
       have HOo := hide (Ly.own_owner (c := x) (st := false) (fs := x.fields)); generalize Pp.ownL x false x.fields = so at *
       obtain ⟨ya, yc, rfl, _⟩ := hry.len; obtain ⟨ms, hms⟩ : ∃ z, z = sy.length := ⟨_, rfl⟩; have hmn : ms <= ns := by rw [HNs.out, HSl.out, hms, List.length_append]; omega
       rw [<- hms] at hry ⊢
       have HRt : Hid (RowX w7 4 SltX (.slice sa ms sc) sy) := hide (by
        have h := HR7.out.take (k := ms) (by rw [<- HNs.out]; exact hmn)
        rwa [HSl.out, hms, List.take_left' rfl, <- hms] at h)
       have HRy := hide hry; have HMs := hide hms; have hl : sy.length <= 100000 := by rw [<- hms]; omega
       have HEq := hide (Slots_eq sy sy _ _ w7 HRt.out HRy.out hl hl); have hnl : ¬ ((ns : Int) < (ms : Int)) := by omega
       have hm1 : (ms : Int) <= (sc : Int) := by have := HSc.out; omega
       clear hry hms hl; go_wp2_with fail; refine HEq.out.mono ?_; clear HEq; rintro e w8 ⟨his, hb8⟩; obtain rfl := eq_yes his rfl; have HB8 := hide (HB7.out.trans (hb8.mono HB7.out.size)); have H8 := hide (H7.out.trans (hb8.mono H7.out.size)); have HR8 := hide (HR7.out.on hb8 fun _ _ h => h); clear his hb8 HRt HRy HR7 HR6 HRs
       have HUn : Hid (∀ t ∈ sl, ∀ wx, Below w8.heap.size w8 wx -> Calls Tryz.prog 28 #[.agg #[.slice pa n pc], .string nb, .string ⟨t.owner.toArray⟩] wx fun e w' => e = .returned (.bool true) /\ Below wx.heap.size wx w') := hide fun t ht wx hb => by
        rw [HNb.out]; have hbw := HB8.out.trans (hb.mono HB8.out.size); refine (Under_any cs _ x.name t.owner wx (HT.out _ (HW.out _ hbw)) (HP.out _ (HW.out _ hbw))).mono ?_; rintro e w' ⟨hy, hb'⟩; exact ⟨hy.t (HOw.out t ht), hb'⟩
       go_wp2_with fail
       go_loopw [13] (fun i wr => ∃ (j : Nat), j <= ns /\ i = .int .i64 j /\ Hid (Below w8.heap.size w8 wr)) (fun i _ => ns - (intOf i).toNat)
       case atStart => exact ⟨0, Nat.zero_le _, rfl, hide (Below.refl _ _)⟩
       case round =>
        obtain ⟨j, hjn, rfl, HBr⟩ := hrel; by_cases hjt : j < ns
        · obtain ⟨t, ht⟩ : ∃ t, sl[j]? = some t := ⟨sl[j]'(by rw [<- HNs.out]; exact hjt), List.getElem?_eq_getElem _⟩
          obtain ⟨gs, os, e, ts, wt, hct⟩ := Ow.row_at' HR8.out ht; subst e; obtain rfl : ts = _ := wt; have HUt := hide (HUn.out t (List.mem_of_getElem? ht))
          have HLate : Hid (ms <= j -> t.owner = x.name) := hide fun hge => by
           have h := ht; rw [HSl.out, List.getElem?_append_right (by rw [<- HMs.out]; exact hge)] at h
           exact HOo.out t (List.mem_of_getElem? h)
          obtain ⟨ob, hob⟩ : ∃ z : ByteArray, z = ⟨t.owner.toArray⟩ := ⟨_, rfl⟩; obtain ⟨nj, hnj⟩ : ∃ z, z = t.name := ⟨_, rfl⟩; rw [<- hob] at HUt
          have HS : Hid (∀ wx, Below w8.heap.size w8 wx -> wx.cell? ⟨w.heap.size, 0, none⟩ = some (.slice pa n pc) /\ wx.cell? ⟨w3.heap.size, 0, none⟩ = some (.string nb) /\ wx.cell? ⟨gs, os + j * 4, none⟩ = some (.string ob)) := hide fun wx hb => by
           have h := hct wx hb 0 _ rfl; rw [<- hob] at h; have h2 := HCx.out wx (H8.out.trans (hb.mono H8.out.size)); exact ⟨h2.1, h2.2.1, h⟩
          have HSj : Hid (∀ wx, Below w8.heap.size w8 wx -> wx.cell? ⟨gs, os + j * 4 + 1, none⟩ = some (.string ⟨nj.toArray⟩)) := hide fun wx hb => by
           have h := hct wx hb 1 _ rfl; rw [<- hnj] at h; exact h
          have HTj := hide ht; have HNj := hide hnj; have hjt' : (j : Int) < (ns : Int) := by omega
          have hDr : Hid (Below w8.heap.size w8 wr.drew) := hide (HBr.out.trans ((Below.drew (Below.refl _ _)).mono HBr.out.size)); have HRd : Hid (∀ wy, Below w8.heap.size w8 wy -> Below w8.heap.size w8 wy.drew) := hide fun wy hb => hb.trans ((Below.drew (Below.refl _ _)).mono hb.size); by_cases hge : ms <= j
          · have e : nb = ob := by rw [hob, HLate.out hge, HNb.out]
            subst e; have hg' : (ms : Int) <= (j : Int) := by omega
            clear ht hct hob hnj HLate; go_wp2_with fail; apply wp_once (R := fun wx => Below w8.heap.size w8 wx)
            · go_region_held3 (fun wx => wx.cell? ⟨w.heap.size, 0, none⟩ = some (.slice pa n pc) /\ wx.cell? ⟨w3.heap.size, 0, none⟩ = some (.string nb) /\ wx.cell? ⟨gs, os + j * 4, none⟩ = some (.string nb)) (first | with_reducible exact HS.out _ hDr.out | with_reducible exact HS.out _ HB9.out | (trace_state; fail))
               (first
                 | (go_at_call 28
                    refine (HUt.out _ hDr.out).mono ?_; rintro e w9 ⟨rfl, hb9⟩; have HB9 : Hid (Below w8.heap.size w8 w9) := hide (hDr.out.trans (hb9.mono hDr.out.size))
                    clear hb9))
              all_goals exact ⟨rfl, rfl, HB9.out⟩
            intro w9 hb9; have HB9 := hide hb9; clear hb9; go_wp2_with fail
            go_loopw [14] (fun i wq => ∃ (k : Nat), k <= j /\ i = .int .i64 k /\ Hid (Below w8.heap.size w8 wq)) (fun i _ => j - (intOf i).toNat)
            case atStart => exact ⟨0, Nat.zero_le _, rfl, HB9⟩
            case round =>
             obtain ⟨k, hkj, rfl, HBq⟩ := hrel; by_cases hkt : k < j
             · obtain ⟨u, hu⟩ : ∃ u, sl[k]? = some u := ⟨sl[k]'(by rw [<- HNs.out]; omega), List.getElem?_eq_getElem _⟩
               obtain ⟨nk, hnk⟩ : ∃ z, z = u.name := ⟨_, rfl⟩
               have hne2 : (nj == nk) = false := by
                rw [HNj.out, hnk]
                simpa using Ly.once_at HOn.out HTj.out hu (by omega)
               have HS2 : Hid (∀ wx, Below w8.heap.size w8 wx -> wx.cell? ⟨gs, os + j * 4 + 1, none⟩ = some (.string ⟨nj.toArray⟩) /\ wx.cell? ⟨gs, os + k * 4 + 1, none⟩ = some (.string ⟨nk.toArray⟩)) := hide fun wx hb => ⟨HSj.out wx hb, by
                obtain ⟨gs', os', e, ts, wt, hct⟩ := Ow.row_at' HR8.out hu; cases e; obtain rfl : ts = _ := wt; have h := hct wx hb 1 _ rfl; rw [<- hnk] at h
                exact h⟩
               have hkt' : (k : Int) < (j : Int) := by omega
               have hkn : (k : Int) < (ns : Int) := by omega
               have HDq := hide (HRd.out _ HBq.out); clear hu hnk; go_wp2_with fail; apply wp_once (R := fun wx => wx = wr.drew)
               · go_region_held3 (fun wx => wx.cell? ⟨gs, os + j * 4 + 1, none⟩ = some (.string ⟨nj.toArray⟩) /\ wx.cell? ⟨gs, os + k * 4 + 1, none⟩ = some (.string ⟨nk.toArray⟩)) (first | with_reducible exact HS2.out _ HDq.out | (trace_state; fail)) (first | fail)
                 all_goals exact ⟨rfl, rfl, rfl⟩
               rintro _ rfl; go_wp2_with fail
               go_roundw
               case rel => exact ⟨k + 1, by omega, by go_num, HDq⟩
               case measure => simp [intOf]; omega
             · have hkl : ¬ ((k : Int) < (j : Int)) := by omega
               go_wp2_with fail
               go_roundw
               case rel => first | exact ⟨j + 1, by omega, by go_num, HBq⟩ | exact ⟨j + 1, by omega, by omega⟩ | exact ⟨j + 1, by omega, by go_num⟩
               case measure => simp [intOf]; omega
          · have hg' : ¬ (ms : Int) <= (j : Int) := by omega
            clear ht hct hob hnj HLate; go_wp2_with fail; apply wp_once (R := fun wx => Below w8.heap.size w8 wx)
            · refine wp_region_noPanic ?_
              refine wp_region_held_drew (S := fun wx => wx.cell? ⟨w.heap.size, 0, none⟩ = some (.slice pa n pc) /\ wx.cell? ⟨w3.heap.size, 0, none⟩ = some (.string nb) /\ wx.cell? ⟨gs, os + j * 4, none⟩ = some (.string ob)) (by kernel_rfl) (HS.out _ hDr.out) (fun hHeld => ?_)
              refine wpAnyH_take (i := 0) (oi := { dst := some 109, op := Op.load 24 (Operand.tmp 2), type := 24, pos := "law.go:92", after := #[], guard := none }) (v := ?_) rfl (by kernel_rfl) (by kernel_rfl) (by kernel_rfl) (fun _ _ _ h => h) (Or.inl ⟨by rfl, ?_⟩) (by assumption) ?_
              rotate_left
              · (intro w hSw; (try dsimp only at hSw); go_simp; (try with_reducible rfl))
              try simp only [Act.put, List.setIfInBounds_toArray, List.set_cons_zero, List.set_cons_succ]
              refine wpAnyH_take (i := 1) (oi := { dst := some 110, op := Op.fieldAddr 59 (Operand.tmp 6) 0, type := 0, pos := "law.go:92", after := #[], guard := none }) (v := ?_) rfl (by kernel_rfl) (by kernel_rfl) (by kernel_rfl) (fun _ _ _ h => h) (Or.inl ⟨by rfl, ?_⟩) (by assumption) ?_
              rotate_left
              · (intro w hSw; (try dsimp only at hSw); go_simp; (try with_reducible rfl))
              try simp only [Act.put, List.setIfInBounds_toArray, List.set_cons_zero, List.set_cons_succ]
              refine wpAnyH_take (i := 2) (oi := { dst := some 111, op := Op.load 9 (Operand.tmp 110), type := 9, pos := "law.go:92", after := #[{ on := 1, ground := Ground.data }], guard := none }) (v := ?_) rfl (by kernel_rfl) (by kernel_rfl) (by kernel_rfl) (fun _ _ _ h => h) (Or.inl ⟨by rfl, ?_⟩) (by assumption) ?_
              rotate_left
              · (intro w hSw; (try dsimp only at hSw); go_simp; (try with_reducible rfl))
              try simp only [Act.put, List.setIfInBounds_toArray, List.set_cons_zero, List.set_cons_succ]
              refine wpAnyH_take (i := 3) (oi := { dst := some 112, op := Op.move (Operand.tmp 7), type := 29, pos := "law.go:92", after := #[], guard := none }) (v := ?_) rfl (by kernel_rfl) (by kernel_rfl) (by kernel_rfl) (fun _ _ _ h => h) (Or.inl ⟨by rfl, ?_⟩) (by assumption) ?_
              rotate_left
              · (intro w hSw; (try dsimp only at hSw); go_simp; (try with_reducible rfl))
              try simp only [Act.put, List.setIfInBounds_toArray, List.set_cons_zero, List.set_cons_succ]
              refine wpAnyH_take (i := 4) (oi := { dst := some 113, op := Op.move (Operand.tmp 13), type := 3, pos := "law.go:92", after := #[], guard := none }) (v := ?_) rfl (by kernel_rfl) (by kernel_rfl) (by kernel_rfl) (fun _ _ _ h => h) (Or.inl ⟨by rfl, ?_⟩) (by assumption) ?_
              rotate_left
              · (intro w hSw; (try dsimp only at hSw); go_simp; (try with_reducible rfl))
              try simp only [Act.put, List.setIfInBounds_toArray, List.set_cons_zero, List.set_cons_succ]
              refine wpAnyH_take (i := 5) (oi := { dst := some 114, op := Op.indexAddr 29 (Operand.tmp 112) (Operand.tmp 113), type := 0, pos := "law.go:92", after := #[{ on := 3, ground := Ground.data }, { on := 4, ground := Ground.data }], guard := none }) (v := ?_) rfl (by kernel_rfl) (by kernel_rfl) (by kernel_rfl) (fun _ _ _ h => h) (Or.inl ⟨by rfl, ?_⟩) (by assumption) ?_
              rotate_left
              · (intro w hSw; (try dsimp only at hSw); go_simp; (try with_reducible rfl))
              try simp only [Act.put, List.setIfInBounds_toArray, List.set_cons_zero, List.set_cons_succ]
              refine wpAnyH_take (i := 6) (oi := { dst := some 115, op := Op.fieldAddr 64 (Operand.tmp 114) 0, type := 0, pos := "law.go:92", after := #[{ on := 5, ground := Ground.data }], guard := none }) (v := ?_) rfl (by kernel_rfl) (by kernel_rfl) (by kernel_rfl) (fun _ _ _ h => h) (Or.inl ⟨by rfl, ?_⟩) (by assumption) ?_
              rotate_left
              · (intro w hSw; (try dsimp only at hSw); go_simp; (try with_reducible rfl))
              try simp only [Act.put, List.setIfInBounds_toArray, List.set_cons_zero, List.set_cons_succ]
              refine wpAnyH_take (i := 7) (oi := { dst := some 116, op := Op.load 9 (Operand.tmp 115), type := 9, pos := "law.go:92", after := #[{ on := 6, ground := Ground.data }], guard := none }) (v := ?_) rfl (by kernel_rfl) (by kernel_rfl) (by kernel_rfl) (fun _ _ _ h => h) (Or.inl ⟨by rfl, ?_⟩) (by assumption) ?_
              rotate_left
              · (intro w hSw; (try dsimp only at hSw); go_simp; (try with_reducible rfl))
              try simp only [Act.put, List.setIfInBounds_toArray, List.set_cons_zero, List.set_cons_succ]
              refine wpAnyH_ready (rs := [8]) (by kernel_rfl) (by simp) ?_
              refine AllReadyH.cons (o := { dst := some 117, op := Op.call { callee := Callee.value (Operand.func 28), args := #[Operand.tmp 109, Operand.tmp 111, Operand.tmp 116], argTypes := #[24, 9, 9] }, type := 4, pos := "law.go:92", after := #[{ on := 0, ground := Ground.data }, { on := 2, ground := Ground.data }, { on := 7, ground := Ground.data }], guard := none }) rfl (fun K hK => ?_) AllReadyH.nil
              go_simp
              refine (HUt.out _ hDr.out).mono ?_; rintro e w9 ⟨rfl, hb9⟩; have HB9 : Hid (Below w8.heap.size w8 w9) := hide (hDr.out.trans (hb9.mono hDr.out.size)); clear hb9; go_wp2_with fail; refine hK.out _ _ (HS.out _ HB9.out) (fun hHeld2 => ?_); clear hK K hHeld
              try simp only [Act.put, List.setIfInBounds_toArray, List.set_cons_zero, List.set_cons_succ]
              refine wpAnyH_take (i := 9) (oi := { dst := some 118, op := Op.unOp UnOp.not 4 (Operand.tmp 117), type := 4, pos := "law.go:92", after := #[{ on := 8, ground := Ground.data }], guard := none }) (v := ?_) rfl (by kernel_rfl) (by kernel_rfl) (by kernel_rfl) (fun _ _ _ h => h) (Or.inl ⟨by rfl, ?_⟩) (by assumption) ?_
              rotate_left
              · (intro w hSw; (try dsimp only at hSw); go_simp; (try with_reducible rfl))
              try simp only [Act.put, List.setIfInBounds_toArray, List.set_cons_zero, List.set_cons_succ]
              refine wpAnyH_take (i := 10) (oi := { dst := some 119, op := Op.move (Operand.tmp 118), type := 4, pos := "law.go:92", after := #[{ on := 9, ground := Ground.data }, { on := 8, ground := Ground.chain }], guard := none }) (v := ?_) rfl (by kernel_rfl) (by kernel_rfl) (by kernel_rfl) (fun _ _ _ h => h) (Or.inl ⟨by rfl, ?_⟩) (by assumption) ?_
              rotate_left
              · (intro w hSw; (try dsimp only at hSw); go_simp; (try with_reducible rfl))
              try simp only [Act.put, List.setIfInBounds_toArray, List.set_cons_zero, List.set_cons_succ]
              refine wpAnyH_take (i := 11) (oi := { dst := some 120, op := Op.move (Operand.tmp 13), type := 3, pos := "law.go:92", after := #[{ on := 10, ground := Ground.guard }], guard := some (10, false) }) (v := ?_) rfl (by kernel_rfl) (by kernel_rfl) (by kernel_rfl) (fun _ _ _ h => h) (Or.inl ⟨by rfl, ?_⟩) (by assumption) ?_
              rotate_left
              · (intro w hSw; (try dsimp only at hSw); go_simp; (try with_reducible rfl))
              try simp only [Act.put, List.setIfInBounds_toArray, List.set_cons_zero, List.set_cons_succ]
              refine wpAnyH_take (i := 12) (oi := { dst := some 121, op := Op.move (Operand.tmp 11), type := 29, pos := "law.go:92", after := #[{ on := 10, ground := Ground.guard }], guard := some (10, false) }) (v := ?_) rfl (by kernel_rfl) (by kernel_rfl) (by kernel_rfl) (fun _ _ _ h => h) (Or.inl ⟨by rfl, ?_⟩) (by assumption) ?_
              rotate_left
              · (intro w hSw; (try dsimp only at hSw); go_simp; (try with_reducible rfl))
              try simp only [Act.put, List.setIfInBounds_toArray, List.set_cons_zero, List.set_cons_succ]
              refine wpAnyH_take (i := 13) (oi := { dst := some 122, op := Op.call { callee := Callee.builtin Builtin.len, args := #[Operand.tmp 121], argTypes := #[29] }, type := 3, pos := "law.go:92", after := #[{ on := 12, ground := Ground.data }, { on := 10, ground := Ground.guard }], guard := some (10, false) }) (v := ?_) rfl (by kernel_rfl) (by kernel_rfl) (by kernel_rfl) (fun _ _ _ h => h) (Or.inl ⟨by rfl, ?_⟩) (by assumption) ?_
              rotate_left
              · (intro w hSw; (try dsimp only at hSw); go_simp; (try with_reducible rfl))
              try simp only [Act.put, List.setIfInBounds_toArray, List.set_cons_zero, List.set_cons_succ]
              refine wpAnyH_take (i := 14) (oi := { dst := some 123, op := Op.binOp BinOp.geq 3 (Operand.tmp 120) (Operand.tmp 122) 3, type := 4, pos := "law.go:92", after := #[{ on := 11, ground := Ground.data }, { on := 13, ground := Ground.data }, { on := 10, ground := Ground.guard }], guard := some (10, false) }) (v := ?_) rfl (by kernel_rfl) (by kernel_rfl) (by kernel_rfl) (fun _ _ _ h => h) (Or.inl ⟨by rfl, ?_⟩) (by assumption) ?_
              rotate_left
              · (intro w hSw; (try dsimp only at hSw); go_simp; (try with_reducible rfl))
              try simp only [Act.put, List.setIfInBounds_toArray, List.set_cons_zero, List.set_cons_succ]
              refine wpAnyH_take (i := 15) (oi := { dst := some 124, op := Op.move (Operand.tmp 123), type := 4, pos := "law.go:92", after := #[{ on := 14, ground := Ground.data }, { on := 10, ground := Ground.chain }, { on := 10, ground := Ground.guard }], guard := some (10, false) }) (v := ?_) rfl (by kernel_rfl) (by kernel_rfl) (by kernel_rfl) (fun _ _ _ h => h) (Or.inl ⟨by rfl, ?_⟩) (by assumption) ?_
              rotate_left
              · (intro w hSw; (try dsimp only at hSw); go_simp; (try with_reducible rfl))
              try simp only [Act.put, List.setIfInBounds_toArray, List.set_cons_zero, List.set_cons_succ]
              refine wpAnyH_take (i := 16) (oi := { dst := some 125, op := Op.move (Operand.tmp 7), type := 29, pos := "law.go:92", after := #[{ on := 15, ground := Ground.guard }], guard := some (15, true) }) (v := undef) rfl (by kernel_rfl) (by kernel_rfl) (by kernel_rfl) (fun _ _ _ h => h) (Or.inr ⟨by rfl, rfl⟩) (by assumption) ?_
              try simp only [Act.put, List.setIfInBounds_toArray, List.set_cons_zero, List.set_cons_succ]
              refine wpAnyH_take (i := 17) (oi := { dst := some 126, op := Op.move (Operand.tmp 13), type := 3, pos := "law.go:92", after := #[{ on := 15, ground := Ground.guard }], guard := some (15, true) }) (v := undef) rfl (by kernel_rfl) (by kernel_rfl) (by kernel_rfl) (fun _ _ _ h => h) (Or.inr ⟨by rfl, rfl⟩) (by assumption) ?_
              try simp only [Act.put, List.setIfInBounds_toArray, List.set_cons_zero, List.set_cons_succ]
              refine wpAnyH_take (i := 18) (oi := { dst := some 127, op := Op.indexAddr 29 (Operand.tmp 125) (Operand.tmp 126), type := 0, pos := "law.go:92", after := #[{ on := 16, ground := Ground.data }, { on := 17, ground := Ground.data }, { on := 15, ground := Ground.guard }], guard := some (15, true) }) (v := undef) rfl (by kernel_rfl) (by kernel_rfl) (by kernel_rfl) (fun _ _ _ h => h) (Or.inr ⟨by rfl, rfl⟩) (by assumption) ?_
              try simp only [Act.put, List.setIfInBounds_toArray, List.set_cons_zero, List.set_cons_succ]
              refine wpAnyH_take (i := 19) (oi := { dst := some 128, op := Op.fieldAddr 64 (Operand.tmp 127) 0, type := 0, pos := "law.go:92", after := #[{ on := 18, ground := Ground.data }, { on := 15, ground := Ground.guard }], guard := some (15, true) }) (v := undef) rfl (by kernel_rfl) (by kernel_rfl) (by kernel_rfl) (fun _ _ _ h => h) (Or.inr ⟨by rfl, rfl⟩) (by assumption) ?_
              try simp only [Act.put, List.setIfInBounds_toArray, List.set_cons_zero, List.set_cons_succ]
              refine wpAnyH_take (i := 20) (oi := { dst := some 129, op := Op.load 9 (Operand.tmp 128), type := 9, pos := "law.go:92", after := #[{ on := 19, ground := Ground.data }, { on := 15, ground := Ground.guard }], guard := some (15, true) }) (v := undef) rfl (by kernel_rfl) (by kernel_rfl) (by kernel_rfl) (fun _ _ _ h => h) (Or.inr ⟨by rfl, rfl⟩) (by assumption) ?_
              try simp only [Act.put, List.setIfInBounds_toArray, List.set_cons_zero, List.set_cons_succ]
              refine wpAnyH_take (i := 21) (oi := { dst := some 130, op := Op.fieldAddr 59 (Operand.tmp 6) 0, type := 0, pos := "law.go:92", after := #[{ on := 15, ground := Ground.guard }], guard := some (15, true) }) (v := undef) rfl (by kernel_rfl) (by kernel_rfl) (by kernel_rfl) (fun _ _ _ h => h) (Or.inr ⟨by rfl, rfl⟩) (by assumption) ?_
              try simp only [Act.put, List.setIfInBounds_toArray, List.set_cons_zero, List.set_cons_succ]
              refine wpAnyH_take (i := 22) (oi := { dst := some 131, op := Op.load 9 (Operand.tmp 130), type := 9, pos := "law.go:92", after := #[{ on := 21, ground := Ground.data }, { on := 15, ground := Ground.guard }], guard := some (15, true) }) (v := undef) rfl (by kernel_rfl) (by kernel_rfl) (by kernel_rfl) (fun _ _ _ h => h) (Or.inr ⟨by rfl, rfl⟩) (by assumption) ?_
              try simp only [Act.put, List.setIfInBounds_toArray, List.set_cons_zero, List.set_cons_succ]
              refine wpAnyH_take (i := 23) (oi := { dst := some 132, op := Op.binOp BinOp.neq 9 (Operand.tmp 129) (Operand.tmp 131) 9, type := 4, pos := "law.go:92", after := #[{ on := 20, ground := Ground.data }, { on := 22, ground := Ground.data }, { on := 15, ground := Ground.guard }], guard := some (15, true) }) (v := undef) rfl (by kernel_rfl) (by kernel_rfl) (by kernel_rfl) (fun _ _ _ h => h) (Or.inr ⟨by rfl, rfl⟩) (by assumption) ?_
              try simp only [Act.put, List.setIfInBounds_toArray, List.set_cons_zero, List.set_cons_succ]
              refine wpAnyH_take (i := 24) (oi := { dst := some 133, op := Op.pick (Operand.tmp 124) (Operand.tmp 132) (Operand.const (Value.bool false)), type := 4, pos := "law.go:92", after := #[{ on := 15, ground := Ground.data }, { on := 23, ground := Ground.data }, { on := 10, ground := Ground.guard }], guard := some (10, false) }) (v := ?_) rfl (by kernel_rfl) (by kernel_rfl) (by kernel_rfl) (fun _ _ _ h => h) (Or.inl ⟨by rfl, ?_⟩) (by assumption) ?_
              rotate_left
              · (intro w hSw; (try dsimp only at hSw); go_simp; (try with_reducible rfl))
              try simp only [Act.put, List.setIfInBounds_toArray, List.set_cons_zero, List.set_cons_succ]
              refine wpAnyH_take (i := 25) (oi := { dst := some 134, op := Op.pick (Operand.tmp 119) (Operand.const (Value.bool true)) (Operand.tmp 133), type := 4, pos := "law.go:92", after := #[{ on := 10, ground := Ground.data }, { on := 24, ground := Ground.data }], guard := none }) (v := ?_) rfl (by kernel_rfl) (by kernel_rfl) (by kernel_rfl) (fun _ _ _ h => h) (Or.inl ⟨by rfl, ?_⟩) (by assumption) ?_
              rotate_left
              · (intro w hSw; (try dsimp only at hSw); go_simp; (try with_reducible rfl))
              try simp only [Act.put, List.setIfInBounds_toArray, List.set_cons_zero, List.set_cons_succ]
              refine wpAnyH_done (by kernel_rfl) ?_ _
              refine NoPanic.normal ?_; exact ⟨rfl, rfl, HB9.out⟩
            intro w9 hb9; have HB9 := hide hb9; clear hb9; go_wp2_with fail
            go_loopw [14] (fun i wq => ∃ (k : Nat), k <= j /\ i = .int .i64 k /\ Hid (Below w8.heap.size w8 wq)) (fun i _ => j - (intOf i).toNat)
            case atStart => exact ⟨0, Nat.zero_le _, rfl, HB9⟩
            case round =>
             obtain ⟨k, hkj, rfl, HBq⟩ := hrel; by_cases hkt : k < j
             · obtain ⟨u, hu⟩ : ∃ u, sl[k]? = some u := ⟨sl[k]'(by rw [<- HNs.out]; omega), List.getElem?_eq_getElem _⟩
               obtain ⟨nk, hnk⟩ : ∃ z, z = u.name := ⟨_, rfl⟩
               have hne2 : (nj == nk) = false := by
                rw [HNj.out, hnk]
                simpa using Ly.once_at HOn.out HTj.out hu (by omega)
               have HS2 : Hid (∀ wx, Below w8.heap.size w8 wx -> wx.cell? ⟨gs, os + j * 4 + 1, none⟩ = some (.string ⟨nj.toArray⟩) /\ wx.cell? ⟨gs, os + k * 4 + 1, none⟩ = some (.string ⟨nk.toArray⟩)) := hide fun wx hb => ⟨HSj.out wx hb, by
                obtain ⟨gs', os', e, ts, wt, hct⟩ := Ow.row_at' HR8.out hu; cases e; obtain rfl : ts = _ := wt; have h := hct wx hb 1 _ rfl; rw [<- hnk] at h
                exact h⟩
               have hkt' : (k : Int) < (j : Int) := by omega
               have hkn : (k : Int) < (ns : Int) := by omega
               have HDq := hide (HRd.out _ HBq.out); clear hu hnk; go_wp2_with fail; apply wp_once (R := fun wx => wx = wr.drew)
               · go_region_held3 (fun wx => wx.cell? ⟨gs, os + j * 4 + 1, none⟩ = some (.string ⟨nj.toArray⟩) /\ wx.cell? ⟨gs, os + k * 4 + 1, none⟩ = some (.string ⟨nk.toArray⟩)) (first | with_reducible exact HS2.out _ HDq.out | (trace_state; fail)) (first | fail)
                 all_goals exact ⟨rfl, rfl, rfl⟩
               rintro _ rfl; go_wp2_with fail
               go_roundw
               case rel => exact ⟨k + 1, by omega, by go_num, HDq⟩
               case measure => simp [intOf]; omega
             · have hkl : ¬ ((k : Int) < (j : Int)) := by omega
               go_wp2_with fail
               go_roundw
               case rel => first | exact ⟨j + 1, by omega, by go_num, HBq⟩ | exact ⟨j + 1, by omega, by omega⟩ | exact ⟨j + 1, by omega, by go_num⟩
               case measure => simp [intOf]; omega
        · have hjl : ¬ ((j : Int) < (ns : Int)) := by omega
          have HBe := hide (HB8.out.trans (HBr.out.mono HB8.out.size)); go_wp2_with fail; have HWk := hide (lwakes_any wr (HT.out _ (HW.out _ HBe.out))); go_wp2_with fail; refine HWk.out.mono ?_; rintro e wz ⟨rfl, hbz⟩; have HBz := hide (HBe.out.trans (hbz.mono HBe.out.size)); clear hbz; go_wp2_with fail; go_ret; exact ⟨rfl, HW.out _ HBz.out⟩
end Go.Proofs.YtjlappamkfjlkaaGreatDoor
