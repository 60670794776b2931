/- LayoutStatics: the walk. -/
import Derived.Test.YtjlappamkfjlkaaGreatDoorPkAv
import Derived.Test.YtjlappamkfjlkaaGreatDoorPkAy
import Derived.Test.YtjlappamkfjlkaaGreatDoorPkAn
import Derived.Deep.RegionHeld3
set_option maxRecDepth 100000
set_option maxHeartbeats 64000000
set_option linter.unusedVariables false
set_option linter.unusedSimpArgs false
namespace Go.Proofs.YtjlappamkfjlkaaGreatDoor
open Go.RowKit
theorem layoutStatics_walk (v : Value) (cs : List Pp.XCls) (w : World) (ht : TabS w) (h : ProgX w v cs) :
 Calls Tryz.prog 8 #[.agg #[v]] w fun e w' => e = .returned (.bool true) /\ Below w.heap.size w w' := by
 have HP := hide (fun wx (hb : Below w.heap.size w wx) => h.on hb); have HT := hide (fun wx (hb : Below w.heap.size w wx) => ht.below hb); obtain ⟨pa, pc, rfl, _⟩ := h.1.len; obtain ⟨n, hn'⟩ : ∃ n, n = cs.length := ⟨_, rfl⟩; have HN := hide hn'; rw [<- hn'] at HP ⊢; clear h ht hn'; have hx0 := hide (heap_alloc_new w (.cells #[.slice pa n pc] 24)); have HB0 := hide ((Below.refl w.heap.size w).alloc (Nat.le_refl _) (.cells #[.slice pa n pc] 24)); go_enter Tryz.func8, Tryz.ntmps8; go_wp2_with fail; generalize w.alloc (.cells #[.slice pa n pc] 24) = w0 at *
 have HC : Hid (∀ wx, Below w0.heap.size w0 wx -> wx.cell? ⟨w.heap.size, 0, none⟩ = some (.slice pa n pc)) := hide fun wx hb => cell_box ((hb.block _ (Ow.lt_of_blk hx0.out)).trans hx0.out) 0; have HW : Hid (∀ wx, Below w0.heap.size w0 wx -> Below w.heap.size w wx) := hide fun wx hb => HB0.out.trans (hb.mono HB0.out.size); clear hx0; refine (Heavy_any cs _ w0 (HP.out w0 HB0.out)).mono ?_; rintro e w1 ⟨⟨b, rfl, hlb⟩, hb1⟩; have HB1 := hide hb1; clear hb1; cases b with
 | true =>
   go_wp2_with fail; go_ret; exact ⟨rfl, HW.out _ HB1.out⟩
 | false =>
   have HLt := hide (hlb rfl); have d0 := HC.out w1 HB1.out; clear hlb; go_wp2_with fail; refine (RLayout_any cs _ w1 (HP.out _ (HW.out _ HB1.out)) HLt.out).mono ?_; rintro e w2 ⟨rfl, hb2⟩; have HB2 := hide (HB1.out.trans (hb2.mono HB1.out.size)); clear hb2 d0; have d0 := HC.out w2 HB2.out; by_cases he : Ly.layE cs ≠ 0
   · generalize Ly.layE cs = er at *
     have he' : (er != 0) = true := by simpa using he
     go_wp2_with fail; go_ret; exact ⟨rfl, HW.out _ HB2.out⟩
   have HE := hide (show Ly.layE cs = 0 by simpa using he)
   have HEr := hide (Ly.lay_err HE.out); rw [HE.out]; clear he; have hn14 : n <= 14 := by rw [HN.out]; exact HLt.out.1
   have hS := Statics_any cs _ w2 (HT.out _ (HW.out _ HB2.out)) (HP.out _ (HW.out _ HB2.out)) HLt.out; rw [HE.out] at hS; go_wp2_with fail; refine hS.mono ?_; clear hS; rintro e w3 ⟨vl, rfl, hrl, hb3⟩; obtain ⟨la, lc, rfl, _⟩ := hrl.len; obtain ⟨nl, hnl⟩ : ∃ z, z = (Ly.staticsQ cs).length := ⟨_, rfl⟩; rw [<- hnl] at hrl ⊢; have HRl := hide hrl; have HB3 := hide (HB2.out.trans (hb3.mono HB2.out.size)); clear hb3 hrl hnl d0; have hn14i : (n : Int) <= 14 := by omega
   obtain ⟨j0, hj, hj0, hj1, hj2⟩ := Ow.info_of' Ow.i_slot; go_wp2_with fail
   go_loopw [5, 6] (fun l i wr => ∃ (k : Nat) (qa : Option Addr) (qc ln : Nat), k <= n /\ i = .int .i64 k /\ l = .slice qa ln qc /\ ln = ((cs.take k).flatMap Ly.statC).length /\ Hid (Below w3.heap.size w3 wr) /\ Hid (Ow.OwnX wr w3.heap.size 64 4 SltX (.slice qa ln qc) ((cs.take k).flatMap Ly.statC))) (fun _ i _ => n - (intOf i).toNat)
   case atStart => exact ⟨0, none, 0, 0, Nat.zero_le _, rfl, rfl, rfl, hide (Below.refl _ _), hide (Ow.OwnX.nil _ _ _ _ _)⟩
   case round =>
    obtain ⟨k, qa, qc, ln, hk, rfl, rfl, hln, HBr, HO⟩ := hrel; have HLn := hide hln; clear hln; have d0 := HC.out wr (HB3.out.trans (HBr.out.mono HB3.out.size)); by_cases hlt : k < n
    · obtain ⟨x, hx⟩ : ∃ x, cs[k]? = some x := ⟨cs[k]'(by rw [<- HN.out]; exact hlt), List.getElem?_eq_getElem _⟩
      obtain ⟨g, o, e, ys, hys, hc⟩ := Eq.row_at (HP.out _ (HW.out _ HB3.out)).1 hx; subst e; obtain ⟨ia, ic, fa, fc, ma, mc, rfl, _, x2, _⟩ := cls_open hys; have HRf := hide x2; have HX : Hid (∀ wx, Below w3.heap.size w3 wx -> wx.cell? ⟨g, o + k * 6, none⟩ = some (.string ⟨x.name.toArray⟩) /\ wx.cell? ⟨g, o + k * 6 + 1, none⟩ = some (.bool x.iface) /\ wx.cell? ⟨g, o + k * 6 + 2, none⟩ = some (.string ⟨x.super.toArray⟩) /\ wx.cell? ⟨g, o + k * 6 + 3, none⟩ = some (.slice ia x.ifaces.length ic) /\ wx.cell? ⟨g, o + k * 6 + 4, none⟩ = some (.slice fa x.fields.length fc) /\ wx.cell? ⟨g, o + k * 6 + 5, none⟩ = some (.slice ma x.methods.length mc)) := hide fun wx hb => ⟨hc wx hb 0 _ rfl, hc wx hb 1 _ rfl, hc wx hb 2 _ rfl, hc wx hb 3 _ rfl, hc wx hb 4 _ rfl, hc wx hb 5 _ rfl⟩; have HI := hide hx; have HAcc := hide (Ly.stat_snoc hx); have HAl := hide (Ly.stat_len HLt.out k); have HFl := hide ((Ly.light_cls HLt.out (List.mem_of_getElem? (Ly.own_at hx))).1.1); clear hc hx hys x2; obtain ⟨nb, hnb⟩ : ∃ z : ByteArray, z = ⟨x.name.toArray⟩ := ⟨_, rfl⟩; obtain ⟨sb, hsb⟩ : ∃ z : ByteArray, z = ⟨x.super.toArray⟩ := ⟨_, rfl⟩; obtain ⟨fi, hfi⟩ : ∃ z, z = x.iface := ⟨_, rfl⟩; obtain ⟨ni, hni'⟩ : ∃ z, z = x.ifaces.length := ⟨_, rfl⟩; obtain ⟨nf, hnf⟩ : ∃ z, z = x.fields.length := ⟨_, rfl⟩; obtain ⟨nt, hnt⟩ : ∃ z, z = x.methods.length := ⟨_, rfl⟩; rw [<- hnb, <- hsb, <- hfi, <- hni', <- hnf, <- hnt] at HX; rw [<- hnf] at HRf HFl; have HNb := hide hnb; have HFi := hide hfi; have HNf := hide hnf; clear hnb hsb hfi hni' hnf hnt; have hnfi : (nf : Int) <= 14 := by have := HFl.out; omega
      generalize (cs.take k).flatMap Ly.statC = acc at *
      obtain ⟨r0, r1, r2, r3, r4, r5⟩ := HX.out wr HBr.out; have hlt' : (k : Int) < (n : Int) := by omega
      have hA4 : Below wr.heap.size wr (wr.alloc (.cells #[.string nb, .bool fi, .string sb, .slice ia ni ic, .slice fa nf fc, .slice ma nt mc] 59)) := (Below.refl _ _).alloc (Nat.le_refl _) _; have hx4 := heap_alloc_new wr (.cells #[.string nb, .bool fi, .string sb, .slice ia ni ic, .slice fa nf fc, .slice ma nt mc] 59); have HB4 := hide (HBr.out.trans (hA4.mono HBr.out.size)); have HO4 := hide (HO.out.on hA4 fun _ _ h => h); clear hA4; go_wp2_with fail; clear r0 r1 r2 r3 r4 r5 d0; generalize wr.alloc (.cells #[.string nb, .bool fi, .string sb, .slice ia ni ic, .slice fa nf fc, .slice ma nt mc] 59) = w4 at *
      have HZ : Hid (∀ wx, Ow.Kx 64 w4 wx -> wx.cell? ⟨wr.heap.size, 0, none⟩ = some (.string nb) /\ wx.cell? ⟨wr.heap.size, 1, none⟩ = some (.bool fi) /\ wx.cell? ⟨wr.heap.size, 4, none⟩ = some (.slice fa nf fc)) := hide fun wx hk => by
       have hbk := hk.blk _ _ _ _ hx4 (by decide)
       exact ⟨cell_box hbk 0, cell_box hbk 1, cell_box hbk 4⟩
      clear hx4 HO; generalize wr.heap.size = bx at *
      go_loopw [5, 8, 9] (fun l m i wq => ∃ (j mm : Nat) (qa : Option Addr) (qc ln : Nat), j <= nf /\ i = .int .i64 j /\ m = .int .i64 mm /\ mm <= j /\ l = .slice qa ln qc /\ Hid (mm = (Pp.ownL x false (x.fields.take j)).length) /\ Hid (ln = (acc ++ Pp.ownL x true (x.fields.take j)).length) /\ Hid (Below w3.heap.size w3 wq) /\ Hid (Ow.Kx 64 w4 wq) /\ Hid (Ow.OwnX wq w3.heap.size 64 4 SltX (.slice qa ln qc) (acc ++ Pp.ownL x true (x.fields.take j)))) (fun _ _ i _ => nf - (intOf i).toNat)
      case atStart => exact ⟨0, 0, qa, qc, ln, Nat.zero_le _, rfl, rfl, Nat.zero_le _, rfl, hide (by rw [Ly.own_take0]; rfl), hide (by rw [Ly.own_take0, List.append_nil]; exact HLn.out), HB4, hide (Ow.Kx.refl _ _), by rw [Ly.own_take0, List.append_nil]; exact HO4⟩
      case round =>
       obtain ⟨j, mm, qa, qc, ln, hjn, rfl, rfl, hmj, rfl, HMm, HLq, HBq, HKq, HO⟩ := hrel; obtain ⟨z0, z1, z4⟩ := HZ.out wr HKq.out; by_cases hjt : j < nf
       · obtain ⟨f, hf⟩ : ∃ f, x.fields[j]? = some f := ⟨x.fields[j]'(by rw [<- HNf.out]; exact hjt), List.getElem?_eq_getElem _⟩
         obtain ⟨gf, of, e, fs, wf, hcf⟩ := Ow.row_at' HRf.out hf; subst e; have HT1 := hide (Ly.own_step (st := true) hf); have HT0 := hide (Ly.own_step (st := false) hf); obtain ⟨fnm, ⟨fk, ftn⟩, fst⟩ := f; obtain ⟨rfl, _⟩ := wf; have r0 := hcf wr HBq.out 0 _ rfl; have r1 := hcf wr HBq.out 1 _ rfl; have r2 := hcf wr HBq.out 2 _ rfl; have r3 := hcf wr HBq.out 3 _ rfl; rw [Nat.add_zero] at r0; dsimp only at r0 r1 r2 r3 HT0 HT1; have hjt' : (j : Int) < (nf : Int) := by omega
         clear hf hcf; cases fst with
         | true =>
           have HT1' : Hid (Pp.ownL x true (x.fields.take (j + 1)) = Pp.ownL x true (x.fields.take j) ++ [⟨x.name, fnm, ⟨fk, ftn⟩⟩]) := hide (by rw [HT1.out, if_pos rfl])
           have HT0' : Hid (Pp.ownL x false (x.fields.take (j + 1)) = Pp.ownL x false (x.fields.take j)) := hide (by rw [HT0.out, if_neg (by decide), List.append_nil])
           obtain ⟨fb, hfb⟩ : ∃ z : ByteArray, z = ⟨fnm.toArray⟩ := ⟨_, rfl⟩; obtain ⟨tb, htb⟩ : ∃ z : ByteArray, z = ⟨ftn.toArray⟩ := ⟨_, rfl⟩; rw [<- hfb] at r0; rw [<- htb] at r2; have hB2 : Below wr.heap.size wr (wr.alloc (.cells #[.string nb, .string fb, .int .i64 fk, .string tb] 64)).drew := ((Below.refl _ _).alloc (Nat.le_refl _) _).drew; have HO2 := hide (HO.out.on hB2 fun _ _ h => h)
           have HR2 : Hid (RowX (wr.alloc (.cells #[.string nb, .string fb, .int .i64 fk, .string tb] 64)).drew 4 SltX (.slice (some ⟨wr.heap.size, 0, none⟩) 1 1) [⟨x.name, fnm, ⟨fk, ftn⟩⟩]) := hide (by
            rw [hfb, htb, HNb.out]; have h := Ow.row_one' (w := wr) (t := 64) (sz := 4) (P := SltX) (x := ⟨x.name, fnm, ⟨fk, ftn⟩⟩) (ys := [.string ⟨x.name.toArray⟩, .string ⟨fnm.toArray⟩, .int .i64 fk, .string ⟨ftn.toArray⟩]) rfl
            exact h.on (Below.drew (Below.refl _ _)) fun _ _ h => h)
           have HB2q := hide (HBq.out.trans (hB2.mono HBq.out.size)); have HK2 := hide (HKq.out.trans (Ow.Kx.below hB2))
           have hll : (acc ++ Pp.ownL x true (x.fields.take j)).length + [(⟨x.name, fnm, ⟨fk, ftn⟩⟩ : Pp.Slt)].length <= 1000000 := by
            rw [List.length_append]; have h1 := Pp.ownL_len x true (x.fields.take j); rw [List.length_take] at h1; have h2 := HAl.out; have h3 := HFl.out; simp only [List.length_cons, List.length_nil]; omega
           clear hB2 hfb htb HT0 HT1 HO; go_wp2_with fail
           go_region_law (first
            | (refine Ow.step_app rfl (.tmp 50) (.tmp 66) 29 rfl Tryz.underlying29 hj hj0 hj1 hj2 (by decide) shp_slt (by first | rfl | simp [Act.eval, Act.put]) HO2.out (by first | rfl | simp [Act.eval, Act.put]) HR2.out hll (by decide) HB2q.out.size ?_
               intro v5 w5 ho5 hg5; have HB5 := hide (HB2q.out.trans (Ow.bel_grown HO2.out HB2q.out.size hg5)); have HK5 := hide (HK2.out.trans (Ow.kx_grown HO2.out hg5)); have HO5 := hide ho5; obtain ⟨xa, xc, hv5⟩ := ho5.shape; obtain ⟨n5, hn5⟩ : ∃ q, q = ((acc ++ Pp.ownL x true (x.fields.take j)) ++ [(⟨x.name, fnm, ⟨fk, ftn⟩⟩ : Pp.Slt)]).length := ⟨_, rfl⟩; rw [<- hn5] at hv5; have HN5 := hide hn5; clear ho5 hg5 HO2 HR2 HB2q HK2 hn5
               subst hv5))
           all_goals
            go_wp2_with fail
            go_roundw
            case rel => exact ⟨j + 1, mm, xa, xc, n5, by omega, by go_num, rfl, by omega, rfl, hide (by rw [HT0'.out]; exact HMm.out), hide (by rw [HT1'.out, <- List.append_assoc]; exact HN5.out), HB5, HK5, by rw [HT1'.out, <- List.append_assoc]; exact HO5⟩
            case measure => simp [intOf]; omega
         | false =>
           have HT1' : Hid (Pp.ownL x true (x.fields.take (j + 1)) = Pp.ownL x true (x.fields.take j)) := hide (by rw [HT1.out, if_neg (by decide), List.append_nil])
           have HT0' : Hid ((Pp.ownL x false (x.fields.take (j + 1))).length = (Pp.ownL x false (x.fields.take j)).length + 1) := hide (by rw [HT0.out, if_pos rfl, List.length_append]; rfl)
           clear HT0 HT1 r0 r1 r2; have hmi : (mm : Int) <= 14 := by omega
           go_wp2_with fail
           go_roundw
           case rel => exact ⟨j + 1, mm + 1, qa, qc, ln, by omega, by go_num, by go_num, by omega, rfl, hide (by rw [HT0'.out, <- HMm.out]), hide (by rw [HT1'.out]; exact HLq.out), HBq, HKq, by rw [HT1'.out]; exact HO⟩
           case measure => simp [intOf]; omega
       · have hjl : ¬ ((j : Int) < (nf : Int)) := by omega
         have hje : x.fields.length <= j := by rw [<- HNf.out]; omega
         rw [Ly.own_end' hje] at HMm HLq HO; rw [<- HAcc.out] at HLq HO; cases fi with
         | true =>
           go_wp2_with fail
           go_roundw
           case rel => exact ⟨k + 1, qa, qc, ln, by omega, by go_num, rfl, HLq.out, HBq, HO⟩
           case measure => simp [intOf]; omega
         | false =>
           have hmi : (mm : Int) <= 14 := by omega
           have HBw := hide (HB3.out.trans (HBq.out.mono HB3.out.size)); have hS := Slots_any cs _ x.name wr (HT.out _ (HW.out _ HBw.out)) (HP.out _ (HW.out _ HBw.out)) HLt.out; rw [<- HNb.out, Ly.slotsE_at HE.out (Ly.own_at HI.out), if_neg (by rw [<- HFi.out]; decide)] at hS
           have d0 := HC.out wr HBw.out; have HCt := hide (Ly.slots_count HE.out HI.out HFi.out.symm); go_wp2_with fail; refine hS.mono ?_; clear hS d0 z0 z1 z4; rintro e w6 ⟨vs, rfl, hrs, hb6⟩; obtain ⟨sa, sc, rfl, _⟩ := hrs.len; have HRs := hide hrs; have HB6 := hide (HBq.out.trans (hb6.mono HBq.out.size)); have HK6 := hide (HKq.out.trans (Ow.Kx.below hb6)); have HO6 := hide (HO.out.on hb6 fun _ _ h => h); clear hrs hb6; have HSm := hide (Ly.slots_small HE.out (Ly.own_at HI.out)); generalize Ly.slotsQ cs x.name = sl at *
           obtain ⟨ns, hns⟩ : ∃ z, z = sl.length := ⟨_, rfl⟩; rw [<- hns] at HRs ⊢; have HNs := hide hns
           have hmn : ¬ ((ns : Int) < (mm : Int)) := by
            have h1 := List.length_filter_le (fun t : Pp.Slt => t.owner == x.name) sl; have h2 := HCt.out; have h3 := HMm.out; omega
           have hns1 : (ns : Int) <= 100000 := by rw [hns]; have := HSm.out; omega
           clear hns; go_wp2_with fail
           go_loopw [8, 12] (fun m i wz => ∃ (j mm : Nat), j <= ns /\ i = .int .i64 j /\ m = .int .i64 mm /\ mm <= 14 /\ Hid (mm + ((sl.take j).filter fun t : Pp.Slt => t.owner == x.name).length = (Pp.ownL x false x.fields).length) /\ Hid (Below w6.heap.size w6 wz)) (fun _ i _ => ns - (intOf i).toNat)
           case atStart => exact ⟨0, mm, Nat.zero_le _, rfl, rfl, by omega, hide (by rw [HMm.out]; rfl), hide (Below.refl _ _)⟩
           case round =>
            obtain ⟨j, mm, hjs, rfl, rfl, hm14, HCj, HBz⟩ := hrel; by_cases hjt : j < ns
            · obtain ⟨t, ht⟩ : ∃ t, sl[j]? = some t := ⟨sl[j]'(by rw [<- HNs.out]; exact hjt), List.getElem?_eq_getElem _⟩
              obtain ⟨gs, os, e, ts, wt, hct⟩ := Ow.row_at' HRs.out ht; subst e; obtain rfl : ts = _ := wt; have HStp := hide (Ly.filt_step (p := fun t : Pp.Slt => t.owner == x.name) ht)
              have HGe : Hid (((sl.take (j + 1)).filter fun t : Pp.Slt => t.owner == x.name).length <= (Pp.ownL x false x.fields).length) := hide (by
               rw [<- HCt.out]
               exact ((List.take_sublist _ _).filter _).length_le)
              obtain ⟨ob, hob⟩ : ∃ z : ByteArray, z = ⟨t.owner.toArray⟩ := ⟨_, rfl⟩
              have HS : Hid (∀ wx, Below w6.heap.size w6 wx -> wx.cell? ⟨gs, os + j * 4, none⟩ = some (.string ob) /\ wx.cell? ⟨bx, 0, none⟩ = some (.string nb)) := hide fun wx hb => by
               have h := hct wx hb 0 _ rfl; rw [<- hob] at h; exact ⟨h, (HZ.out wx (HK6.out.trans (Ow.Kx.below hb))).1⟩
              have hjt' : (j : Int) < (ns : Int) := by omega
              have hDr : Hid (Below w6.heap.size w6 wr.drew) := hide (HBz.out.trans ((Below.drew (Below.refl _ _)).mono HBz.out.size)); clear ht hct; by_cases ho : t.owner = x.name
              · have e : nb = ob := by rw [hob, ho, HNb.out]
                subst e; have hst := HStp.out; simp only [ho, beq_self_eq_true, if_true] at hst; have h1 := HCj.out; have h2 := HGe.out; have hm1 : 1 <= mm := by omega
                have hmi : (1 : Int) <= (mm : Int) := by omega
                have hmi2 : (mm : Int) <= 14 := by omega
                have HC2 : Hid (mm - 1 + ((sl.take (j + 1)).filter fun t : Pp.Slt => t.owner == x.name).length = (Pp.ownL x false x.fields).length) := hide (by omega)
                clear hst h1 h2 hob; go_wp2_with fail; apply wp_once (R := fun wx => wx = wr.drew)
                · go_region_held3 (fun wx => wx.cell? ⟨gs, os + j * 4, none⟩ = some (.string nb) /\ wx.cell? ⟨bx, 0, none⟩ = some (.string nb)) (first | with_reducible exact HS.out _ hDr.out | (trace_state; fail)) (first | fail)
                  all_goals exact ⟨rfl, rfl, rfl⟩
                rintro _ rfl; go_wp2_with fail
                go_roundw
                case rel => exact ⟨j + 1, mm - 1, by omega, by go_num, by go_num, by omega, HC2, hDr⟩
                case measure => simp [intOf]; omega
              · have hst := HStp.out
                simp only [beq_eq_false_iff_ne.2 ho, if_neg, Bool.false_eq_true, if_false, Nat.add_zero] at hst; have HC2 : Hid (mm + ((sl.take (j + 1)).filter fun t : Pp.Slt => t.owner == x.name).length = (Pp.ownL x false x.fields).length) := hide (by rw [hst]; exact HCj.out)
                rw [hob, HNb.out] at HS; clear hst hob; obtain ⟨tw, htw⟩ : ∃ z, z = t.owner := ⟨_, rfl⟩; obtain ⟨xw, hxw⟩ : ∃ z, z = x.name := ⟨_, rfl⟩; rw [<- htw, <- hxw] at HS ho; have hno2 : (tw == xw) = false := by simpa using ho
                clear htw hxw; go_wp2_with fail; apply wp_once (R := fun wx => wx = wr.drew)
                · go_region_held3 (fun wx => wx.cell? ⟨gs, os + j * 4, none⟩ = some (.string ⟨tw.toArray⟩) /\ wx.cell? ⟨bx, 0, none⟩ = some (.string ⟨xw.toArray⟩)) (first | with_reducible exact HS.out _ hDr.out | (trace_state; fail)) (first | fail)
                  all_goals exact ⟨rfl, rfl, rfl⟩
                rintro _ rfl; go_wp2_with fail
                go_roundw
                case rel => exact ⟨j + 1, mm, by omega, by go_num, rfl, by omega, HC2, hDr⟩
                case measure => simp [intOf]; omega
            · have hjl : ¬ ((j : Int) < (ns : Int)) := by omega
              have hm0 : mm = 0 := by
               have h1 := HCj.out; rw [Ly.filt_end (by rw [<- HNs.out]; omega), HCt.out] at h1
               omega
              subst hm0; go_wp2_with fail
              go_roundw
              case rel => exact ⟨k + 1, qa, qc, ln, by omega, by go_num, rfl, HLq.out, hide (HB6.out.trans (HBz.out.mono HB6.out.size)), hide (HO6.out.on HBz.out fun _ _ h => h)⟩
              case measure => simp [intOf]; omega
    · have hnl : ¬ ((k : Int) < (n : Int)) := by omega
      have hke : cs.length <= k := by rw [<- HN.out]; omega
      rw [Ly.stat_end hke] at HLn HO; have HBw := hide (HB3.out.trans (HBr.out.mono HB3.out.size)); have HAl := hide (Ly.stat_len HLt.out cs.length); rw [List.take_length] at HAl; have HSe := hide (Slots_eq (Ly.staticsQ cs) (cs.flatMap Ly.statC) _ _ wr (HRl.out.on HBr.out fun _ _ h => h) (HO.out.row shp_slt fun _ _ h => h) (by rw [Ly.statics_own HE.out]; have := HAl.out; omega) (by have := HAl.out; omega))
      go_wp2_with fail; refine HSe.out.mono ?_; rintro e w9 ⟨his, hb9⟩; obtain rfl := eq_yes his (Ly.statics_own HE.out); have HB9 := hide (HBw.out.trans (hb9.mono HBw.out.size)); clear his hb9; have HWk := hide (lwakes_any w9 (HT.out _ (HW.out _ HB9.out))); go_wp2_with fail; refine HWk.out.mono ?_; rintro e w10 ⟨rfl, hb10⟩; have HB10 := hide (HB9.out.trans (hb10.mono HB9.out.size)); clear hb10; go_wp2_with fail; go_ret; exact ⟨rfl, HW.out _ HB10.out⟩
end Go.Proofs.YtjlappamkfjlkaaGreatDoor
