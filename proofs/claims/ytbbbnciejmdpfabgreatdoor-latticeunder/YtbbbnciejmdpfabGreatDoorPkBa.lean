/- What the laws of this seat lean on: 1 texts. -/
import Derived.Test.YtbbbnciejmdpfabGreatDoorPkAz
set_option maxRecDepth 100000
set_option maxHeartbeats 64000000
set_option linter.unusedVariables false
set_option linter.unusedSimpArgs false
namespace Go.Proofs.YtbbbnciejmdpfabGreatDoor
open Go.RowKit
theorem fx_ten (b : Nat) (w : World) (u0 u1 u2 u3 u4 u5 u6 u7 u8 u9 : Value) : Fx (fun k => k = b) w ((((((((((w.setCell ⟨b, 0, none⟩ u0).setCell ⟨b, 1, none⟩ u1).setCell ⟨b, 2, none⟩ u2).setCell ⟨b, 3, none⟩ u3).setCell ⟨b, 4, none⟩ u4).setCell ⟨b, 5, none⟩ u5).setCell ⟨b, 6, none⟩ u6).setCell ⟨b, 7, none⟩ u7).setCell ⟨b, 8, none⟩ u8).setCell ⟨b, 9, none⟩ u9) := by
 iterate 10 refine fx_put (S := fun k => k = b) ?_ rfl _ _
 exact Fx.refl _ _
theorem set_t0 (z0 z1 z2 z3 z4 z5 z6 z7 z8 z9 u0 u1 u2 u3 u4 u5 u6 u7 u8 u9 : Value) : (#[z0, z1, z2, z3, z4, z5, z6, z7, z8, z9]).setIfInBounds 0 u0 = #[u0, z1, z2, z3, z4, z5, z6, z7, z8, z9] := rfl
theorem set_t1 (z0 z1 z2 z3 z4 z5 z6 z7 z8 z9 u0 u1 u2 u3 u4 u5 u6 u7 u8 u9 : Value) : (#[u0, z1, z2, z3, z4, z5, z6, z7, z8, z9]).setIfInBounds 1 u1 = #[u0, u1, z2, z3, z4, z5, z6, z7, z8, z9] := rfl
theorem set_t2 (z0 z1 z2 z3 z4 z5 z6 z7 z8 z9 u0 u1 u2 u3 u4 u5 u6 u7 u8 u9 : Value) : (#[u0, u1, z2, z3, z4, z5, z6, z7, z8, z9]).setIfInBounds 2 u2 = #[u0, u1, u2, z3, z4, z5, z6, z7, z8, z9] := rfl
theorem set_t3 (z0 z1 z2 z3 z4 z5 z6 z7 z8 z9 u0 u1 u2 u3 u4 u5 u6 u7 u8 u9 : Value) : (#[u0, u1, u2, z3, z4, z5, z6, z7, z8, z9]).setIfInBounds 3 u3 = #[u0, u1, u2, u3, z4, z5, z6, z7, z8, z9] := rfl
theorem set_t4 (z0 z1 z2 z3 z4 z5 z6 z7 z8 z9 u0 u1 u2 u3 u4 u5 u6 u7 u8 u9 : Value) : (#[u0, u1, u2, u3, z4, z5, z6, z7, z8, z9]).setIfInBounds 4 u4 = #[u0, u1, u2, u3, u4, z5, z6, z7, z8, z9] := rfl
theorem set_t5 (z0 z1 z2 z3 z4 z5 z6 z7 z8 z9 u0 u1 u2 u3 u4 u5 u6 u7 u8 u9 : Value) : (#[u0, u1, u2, u3, u4, z5, z6, z7, z8, z9]).setIfInBounds 5 u5 = #[u0, u1, u2, u3, u4, u5, z6, z7, z8, z9] := rfl
theorem set_t6 (z0 z1 z2 z3 z4 z5 z6 z7 z8 z9 u0 u1 u2 u3 u4 u5 u6 u7 u8 u9 : Value) : (#[u0, u1, u2, u3, u4, u5, z6, z7, z8, z9]).setIfInBounds 6 u6 = #[u0, u1, u2, u3, u4, u5, u6, z7, z8, z9] := rfl
theorem set_t7 (z0 z1 z2 z3 z4 z5 z6 z7 z8 z9 u0 u1 u2 u3 u4 u5 u6 u7 u8 u9 : Value) : (#[u0, u1, u2, u3, u4, u5, u6, z7, z8, z9]).setIfInBounds 7 u7 = #[u0, u1, u2, u3, u4, u5, u6, u7, z8, z9] := rfl
theorem set_t8 (z0 z1 z2 z3 z4 z5 z6 z7 z8 z9 u0 u1 u2 u3 u4 u5 u6 u7 u8 u9 : Value) : (#[u0, u1, u2, u3, u4, u5, u6, u7, z8, z9]).setIfInBounds 8 u8 = #[u0, u1, u2, u3, u4, u5, u6, u7, u8, z9] := rfl
theorem set_t9 (z0 z1 z2 z3 z4 z5 z6 z7 z8 z9 u0 u1 u2 u3 u4 u5 u6 u7 u8 u9 : Value) : (#[u0, u1, u2, u3, u4, u5, u6, u7, u8, z9]).setIfInBounds 9 u9 = #[u0, u1, u2, u3, u4, u5, u6, u7, u8, u9] := rfl
theorem blk_ten {b : Nat} {w : World} {z0 z1 z2 z3 z4 z5 z6 z7 z8 z9 : Value} {t : TypeId} (h : w.heap[b]? = some (.cells #[z0, z1, z2, z3, z4, z5, z6, z7, z8, z9] t (0, 0))) (u0 u1 u2 u3 u4 u5 u6 u7 u8 u9 : Value) : ((((((((((w.setCell ⟨b, 0, none⟩ u0).setCell ⟨b, 1, none⟩ u1).setCell ⟨b, 2, none⟩ u2).setCell ⟨b, 3, none⟩ u3).setCell ⟨b, 4, none⟩ u4).setCell ⟨b, 5, none⟩ u5).setCell ⟨b, 6, none⟩ u6).setCell ⟨b, 7, none⟩ u7).setCell ⟨b, 8, none⟩ u8).setCell ⟨b, 9, none⟩ u9).heap[b]? = some (.cells #[u0, u1, u2, u3, u4, u5, u6, u7, u8, u9] t (0, 0)) := by
 have h0 := put_blk (k := 0) h u0; rw [set_t0 z0 z1 z2 z3 z4 z5 z6 z7 z8 z9 u0 u1 u2 u3 u4 u5 u6 u7 u8 u9] at h0; have h1 := put_blk (k := 1) h0 u1; rw [set_t1 z0 z1 z2 z3 z4 z5 z6 z7 z8 z9 u0 u1 u2 u3 u4 u5 u6 u7 u8 u9] at h1; have h2 := put_blk (k := 2) h1 u2; rw [set_t2 z0 z1 z2 z3 z4 z5 z6 z7 z8 z9 u0 u1 u2 u3 u4 u5 u6 u7 u8 u9] at h2; have h3 := put_blk (k := 3) h2 u3; rw [set_t3 z0 z1 z2 z3 z4 z5 z6 z7 z8 z9 u0 u1 u2 u3 u4 u5 u6 u7 u8 u9] at h3; have h4 := put_blk (k := 4) h3 u4; rw [set_t4 z0 z1 z2 z3 z4 z5 z6 z7 z8 z9 u0 u1 u2 u3 u4 u5 u6 u7 u8 u9] at h4; have h5 := put_blk (k := 5) h4 u5; rw [set_t5 z0 z1 z2 z3 z4 z5 z6 z7 z8 z9 u0 u1 u2 u3 u4 u5 u6 u7 u8 u9] at h5; have h6 := put_blk (k := 6) h5 u6; rw [set_t6 z0 z1 z2 z3 z4 z5 z6 z7 z8 z9 u0 u1 u2 u3 u4 u5 u6 u7 u8 u9] at h6; have h7 := put_blk (k := 7) h6 u7; rw [set_t7 z0 z1 z2 z3 z4 z5 z6 z7 z8 z9 u0 u1 u2 u3 u4 u5 u6 u7 u8 u9] at h7; have h8 := put_blk (k := 8) h7 u8; rw [set_t8 z0 z1 z2 z3 z4 z5 z6 z7 z8 z9 u0 u1 u2 u3 u4 u5 u6 u7 u8 u9] at h8; have h9 := put_blk (k := 9) h8 u9; rw [set_t9 z0 z1 z2 z3 z4 z5 z6 z7 z8 z9 u0 u1 u2 u3 u4 u5 u6 u7 u8 u9] at h9; exact h9
theorem superFault_any (N : Net) (l : List Pp.XCls) (bs : List Nat) (hok : NetOk N l bs) (v : Value) (b : Nat) (hb : N.T b) (w0 w : World) (A : Nat -> Prop) (h : Rdy N w0 w A) (hv : ∃ a n c, v = .slice a n c) :
 Calls Tryz.prog 83 #[v, .pointer (some ⟨b, 0, none⟩)] w fun e w' => e = .returned (.int .i64 (Ly.supF N b)) /\ Rdy N w0 w' A /\ Fx N.T w w' := by
 have HOk := hide hok; have HTb := hide hb; have HRdy := hide h; have HC6 := hide (fun wx (hx : Rdy N w0 wx A) => (hx.cls hb).elim fun cs h => h.elim fun ys h => h.2.2.2); obtain ⟨cs, ys, hcs, hcl, hys, c6⟩ := h.cls hb; obtain ⟨ia, ic, fa, fc, ma, mc, rfl, _, xf, xm⟩ := cls_open hcl; have HC45 := hide (fun wx (hx : Rdy N w0 wx A) => (hx.cls hb)); obtain ⟨va, vn, vc, rfl⟩ := hv; obtain ⟨r, hr⟩ : ∃ r, r = Ly.supF N b := ⟨_, rfl⟩; have HR := hide hr; rw [<- hr]; clear hr HC45; unfold Ly.supF at HR; cases hs : N.sup b with
 | none =>
   rw [hs] at HR c6; have HQ : Hid (r = 0) := hide HR.out; simp only [Option.map_none] at c6; clear HR hs hcl hys hcs xf xm h hb hok HC6; go_enter Tryz.func83, Tryz.ntmps83; go_wp2_with fail; go_ret; exact ⟨by rw [HQ.out]; rfl, HRdy.out, Fx.refl _ _⟩
 | some s =>
   have hTs := (hok.good.sup b s hb hs).1; have HTs := hide hTs; rw [hs] at HR c6 HC6; simp only [Option.map_some] at c6 HC6; have c4 := hys 4 _ rfl; have HR1 : Hid (r = if (N.cl b).fields.any (Ly.clashF N s) = true then 6 else if (N.cl b).methods.any (Ly.clashM N s) = true then 8 else 0) := hide HR.out
   have HXf := hide xf; have HXm := hide xm; have HPm := hide (hok.pars b hb)
   have HC5 : Hid (∀ wx, Rdy N w0 wx A -> ∃ ma mc, wx.cell? ⟨b, 5, none⟩ = some (.slice ma (N.cl b).methods.length mc) /\ RowX w0 9 (MthX w0) (.slice ma (N.cl b).methods.length mc) (N.cl b).methods) := hide fun wx hx => by
    obtain ⟨cs', ys', _, hcl', hys', _⟩ := hx.cls hb; obtain ⟨_, _, _, _, ma', mc', rfl, _, _, xm'⟩ := cls_open hcl'; exact ⟨ma', mc', hys' 5 _ rfl, xm'⟩
   have HTlt := hide (fun wx (hx : Rdy N w0 wx A) k hk => (hx.2.2.1 k hk).2); obtain ⟨nf, hnf⟩ : ∃ q, q = (N.cl b).fields.length := ⟨_, rfl⟩; obtain ⟨nm, hnm⟩ : ∃ q, q = (N.cl b).methods.length := ⟨_, rfl⟩; have HNf := hide hnf; have HNm := hide hnm; have hf1 : (nf : Int) <= 100 := by have := hok.small.flds b hb; omega
   have hm1 : (nm : Int) <= 100 := by have := hok.small.mths b hb; omega
   rw [<- hnf] at HXf c4; rw [<- hnm] at HC5; clear HR hs hcl hys hcs xf xm h hb hok hTs hnf hnm HXm; go_enter Tryz.func83, Tryz.ntmps83; go_wp2_with fail
   go_loopw [22] (fun i wr => ∃ k : Nat, k <= nf /\ i = .int .i64 k /\ Hid (Rdy N w0 wr A) /\ Hid (Fx N.T w wr) /\ Hid (((N.cl b).fields.take k).any (Ly.clashF N s) = false)) (fun i _ => nf - (intOf i).toNat)
   case atStart => exact ⟨0, Nat.zero_le _, rfl, HRdy, hide (Fx.refl _ _), hide (by simp)⟩
   case round =>
    obtain ⟨k, hk, rfl, HQr, HF, HZ⟩ := hrel; by_cases hlt : k < nf
    · obtain ⟨x, hx⟩ : ∃ x, (N.cl b).fields[k]? = some x := ⟨(N.cl b).fields[k]'(by rw [<- HNf.out]; exact hlt), List.getElem?_eq_getElem _⟩
      obtain ⟨g, o, rfl, ys, wf, hc⟩ := Ow.row_at' HXf.out hx; have hG := hide (hc _ HQr.out.1); have HSt := hide (fun hp => HR1.out.trans (if_pos (Ly.any_stop (p := Ly.clashF N s) hx hp))); have HTk := hide (fun hp => Ly.any_take (p := Ly.clashF N s) HZ.out hx hp); clear hc hx HZ; obtain ⟨rfl, _⟩ := wf; have r0 := hG.out 0 _ rfl; have r1 := hG.out 1 _ rfl; have r2 := hG.out 2 _ rfl; have r3 := hG.out 3 _ rfl; rw [Nat.add_zero] at r0; clear hG; have hlt' : (k : Int) < (nf : Int) := by omega
      have hcf : Ly.clashF N s x = (!x.stat && Ly.slotP N s x.name) := rfl; rw [hcf] at HSt HTk; clear hcf; obtain ⟨fs, hfs⟩ : ∃ q, q = x.stat := ⟨_, rfl⟩; rw [<- hfs] at r3 HSt HTk; clear hfs; have hA := (Below.refl wr.heap.size wr).alloc (Nat.le_refl _) (.cells #[.string ⟨x.name.toArray⟩, .int .i64 x.ty.kind, .string ⟨x.ty.name.toArray⟩, .bool fs] 43); have hbx := heap_alloc_new wr (.cells #[.string ⟨x.name.toArray⟩, .int .i64 x.ty.kind, .string ⟨x.ty.name.toArray⟩, .bool fs] 43); have HA := hide hA; have HBx := hide hbx; have HQA := hide (HQr.out.on hA); have HFA := hide (HF.out.trans (Fx.below (S := N.T) hA)); have HQd := hide ((HQr.out.on hA).on (Below.drew (Below.refl _ _))); have HNt : Hid (¬ N.T wr.heap.size) := hide fun hk => Nat.lt_irrefl _ (HTlt.out wr HQr.out _ hk); have hszA := Ow.lt_of_blk hbx; have HFd := hide ((HF.out.trans (Fx.below hA)).trans (Fx.below (Below.drew (Below.refl _ _)))); have HCx := hide (HC6.out _ (HQr.out.on hA)); have b0 := cell_box hbx 0; have b3 := cell_box hbx 3; clear hA hbx; cases fs with
      | true =>
        have HT' := hide (HTk.out rfl); clear HSt HTk HCx; go_wp2_with fail
        go_quiet (fail)
        go_wp2_with fail
        go_roundw
        case rel => exact ⟨k + 1, by omega, by go_num, hide (HQA.out.on (below_drewN (Below.refl _ _) _)), hide (HFA.out.trans (Fx.below (below_drewN (Below.refl _ _) _))), HT'⟩
        case measure => simp [intOf]; omega
      | false =>
        have HSl := hide (hasSlot_any N HOk.out.good HOk.out.small w0 s HTs.out x.name _ A HQd.out); have HSt1 : Hid (Ly.slotP N s x.name = true -> r = 6) := hide fun h => HSt.out (by rw [h]; rfl)
        have HTk1 : Hid (Ly.slotP N s x.name = false -> ((N.cl b).fields.take (k + 1)).any (Ly.clashF N s) = false) := hide fun h => HTk.out (by rw [h]; rfl)
        generalize Ly.slotP N s x.name = sp at HSl HSt1 HTk1; clear HSt HTk; go_wp2_with fail; generalize wr.alloc (.cells #[.string ⟨x.name.toArray⟩, .int .i64 x.ty.kind, .string ⟨x.ty.name.toArray⟩, .bool false] 43) = wB at *
        have HS3 : Hid (wB.drew.cell? ⟨wr.heap.size, 3, none⟩ = some (.bool false) /\ wB.drew.cell? ⟨b, 6, none⟩ = some (.pointer (some ⟨s, 0, none⟩)) /\ wB.drew.cell? ⟨wr.heap.size, 0, none⟩ = some (.string ⟨x.name.toArray⟩)) := hide ⟨by rw [World.cell?_drew]; exact b3, by rw [World.cell?_drew]; exact HCx.out, by rw [World.cell?_drew]; exact b0⟩
        go_region_held3 (fun wz => wz.cell? ⟨wr.heap.size, 3, none⟩ = some (.bool false) /\ wz.cell? ⟨b, 6, none⟩ = some (.pointer (some ⟨s, 0, none⟩)) /\ wz.cell? ⟨wr.heap.size, 0, none⟩ = some (.string ⟨x.name.toArray⟩)) (exact HS3.out)
         (first
           | (go_at_call 95
              refine HSl.out.mono ?_; rintro e w5 ⟨rfl, hr5, hf5⟩; have HQ5 := hide hr5; have HF5 := hide (HFd.out.trans hf5); have hbk := cell_of_blk (k := 0) (hf5.blk wr.heap.size hszA HNt.out); have hbk3 := cell_of_blk (k := 3) (hf5.blk wr.heap.size hszA HNt.out); have HS3 := hide (And.intro (hbk3.trans HS3.out.1) (And.intro (HC6.out w5 hr5) (hbk.trans HS3.out.2.2)))
              clear hr5 hf5 hbk hbk3)
           | fail)
        cases sp with
        | true =>
          have HRes := hide (HSt1.out rfl); clear HSt1 HTk1; go_wp2_with fail; go_ret; exact ⟨by rw [HRes.out]; rfl, HQ5.out, HF5.out⟩
        | false =>
          have HT' := hide (HTk1.out rfl); clear HSt1 HTk1; go_wp2_with fail
          go_roundw
          case rel => exact ⟨k + 1, by omega, by go_num, HQ5, HF5, HT'⟩
          case measure => simp [intOf]; omega
    · have HR2 : Hid (r = if (N.cl b).methods.any (Ly.clashM N s) = true then 8 else 0) := hide (by
       have h1 := Ly.any_end HZ.out (by rw [<- HNf.out]; omega)
       rw [HR1.out, if_neg (by rw [h1]; decide)])
      have hnl : ¬ ((k : Int) < (nf : Int)) := by omega
      obtain ⟨ma, mc, c5, xm⟩ := HC5.out wr HQr.out; have HXm := hide xm; clear HZ xm; go_wp2_with fail
      go_loopw [45] (fun i wr => ∃ j : Nat, j <= nm /\ i = .int .i64 j /\ Hid (Rdy N w0 wr A) /\ Hid (Fx N.T w wr) /\ Hid (((N.cl b).methods.take j).any (Ly.clashM N s) = false)) (fun i _ => nm - (intOf i).toNat)
      case atStart => exact ⟨0, Nat.zero_le _, rfl, HQr, HF, hide (by simp)⟩
      case round =>
       clear HQr HF c5; obtain ⟨j, hj, rfl, HQr, HF, HZ⟩ := hrel; by_cases hlt : j < nm
       · obtain ⟨m, hx⟩ : ∃ m, (N.cl b).methods[j]? = some m := ⟨(N.cl b).methods[j]'(by rw [<- HNm.out]; exact hlt), List.getElem?_eq_getElem _⟩
         obtain ⟨g, o, rfl, ys, wf, hc⟩ := Ow.row_at' HXm.out hx; have hG := hide (hc _ HQr.out.1); have hmp := HPm.out m (List.mem_of_getElem? hx); have HSt := hide (fun hp => HR2.out.trans (if_pos (Ly.any_stop (p := Ly.clashM N s) hx hp))); have HTk := hide (fun hp => Ly.any_take (p := Ly.clashM N s) HZ.out hx hp); have HMf := hide wf; obtain ⟨vp, vc', vk, rfl, x1, x2, x3, _⟩ := wf; obtain ⟨xa1, xd1, rfl, _⟩ := x1.len; obtain ⟨xa2, xd2, rfl, _⟩ := x2.len; obtain ⟨xa3, xd3, rfl, _⟩ := x3.len; clear hc hx x1 x2 x3 HZ; simp only [mthXL] at HMf; have r0 := hG.out 0 _ rfl; have r1 := hG.out 1 _ rfl; have r2 := hG.out 2 _ rfl; have r3 := hG.out 3 _ rfl; have r4 := hG.out 4 _ rfl; have r5 := hG.out 5 _ rfl; have r6 := hG.out 6 _ rfl; have r7 := hG.out 7 _ rfl; have r8 := hG.out 8 _ rfl; rw [Nat.add_zero] at r0; clear hG; have hlt' : (j : Int) < (nm : Int) := by omega
         have HMe := hide (fun wx A' (hx : Rdy N w0 wx A') => method_any N HOk.out.good HOk.out.small w0 s HTs.out m.name wx A' hx); have HAl := hide (fun (o : Pp.Bs × Pp.XMth) (zs : List Value) (wx : World) (hw : Below w0.heap.size w0 wx) (hz : MthX w0 o.2 zs) (hl : o.2.params.length <= 100) => alike_any o.2 m zs _ wx (hz.on hw) (HMf.out.on hw) (by omega) (by omega))
         have HOp := hide (fun o (ho : Ly.methP N s m.name = some o) => HOk.out.mtp HTs.out ho); obtain ⟨cl, hcl⟩ : ∃ q, q = Ly.clashM N s m := ⟨_, rfl⟩; have HCl := hide hcl; unfold Ly.clashM at HCl; rw [<- hcl] at HSt HTk; clear hcl HMf; generalize Ly.methP N s m.name = res at *
         generalize (⟨m.name.toArray⟩ : ByteArray) = NB at *
         generalize (⟨m.ret.name.toArray⟩ : ByteArray) = rn at *
         obtain ⟨st, hst⟩ : ∃ q, q = m.stat := ⟨_, rfl⟩; rw [<- hst] at HCl HAl r1; clear hst; generalize m.abst = ab at *
         generalize m.ret.kind = rk at *
         generalize m.locals = lo at *
         generalize m.params.length = n1 at *
         generalize m.code.length = n2 at *
         generalize m.catches.length = n3 at *
         have hA := (Below.refl wr.heap.size wr).alloc (Nat.le_refl _) (.cells #[.string NB, .bool st, .bool ab, .slice xa1 n1 xd1, .int .i64 rk, .string rn, .int .i64 lo, .slice xa2 n2 xd2, .slice xa3 n3 xd3] 48); have hbx := heap_alloc_new wr (.cells #[.string NB, .bool st, .bool ab, .slice xa1 n1 xd1, .int .i64 rk, .string rn, .int .i64 lo, .slice xa2 n2 xd2, .slice xa3 n3 xd3] 48); have HQA := hide (HQr.out.on hA); have HFA := hide (HF.out.trans (Fx.below (S := N.T) hA)); have HCx := HC6.out _ HQA.out; have b0 := cell_box hbx 0; have HBx := hide hbx; have HNt : Hid (¬ N.T wr.heap.size) := hide fun hk => Nat.lt_irrefl _ (HTlt.out wr HQr.out _ hk); clear hA hbx; go_wp2_with fail; generalize wr.alloc (.cells #[.string NB, .bool st, .bool ab, .slice xa1 n1 xd1, .int .i64 rk, .string rn, .int .i64 lo, .slice xa2 n2 xd2, .slice xa3 n3 xd3] 48) = wB at *
         have hszB := Ow.lt_of_blk HBx.out; have hD : Below wB.heap.size wB wB.drew := Below.drew (Below.refl _ _); have hDa : Below wB.heap.size wB (wB.alloc (.cells #[.string ⟨#[]⟩, .string ⟨#[]⟩, .bool false, .bool false, .slice none 0 0, .int .i64 0, .string ⟨#[]⟩, .int .i64 0, .slice none 0 0, .slice none 0 0] 150)).drew := Below.drew ((Below.refl _ _).alloc (Nat.le_refl _) _); have c6a : (wB.alloc (.cells #[.string ⟨#[]⟩, .string ⟨#[]⟩, .bool false, .bool false, .slice none 0 0, .int .i64 0, .string ⟨#[]⟩, .int .i64 0, .slice none 0 0, .slice none 0 0] 150)).cell? ⟨b, 6, none⟩ = some (.pointer (some ⟨s, 0, none⟩)) := (hDa.cell (p := ⟨b, 6, none⟩) (by exact HTlt.out wB HQA.out b HTb.out)).trans HCx
         have b0a : (wB.alloc (.cells #[.string ⟨#[]⟩, .string ⟨#[]⟩, .bool false, .bool false, .slice none 0 0, .int .i64 0, .string ⟨#[]⟩, .int .i64 0, .slice none 0 0, .slice none 0 0] 150)).cell? ⟨wr.heap.size, 0, none⟩ = some (.string NB) := (hDa.cell (p := ⟨wr.heap.size, 0, none⟩) hszB).trans b0
         have hEnd2 : ∀ w5, Rdy N w0 w5 A -> Fx N.T wB.drew w5 -> ∀ w3, Fx (fun k => k = w5.heap.size) w5 w3 -> Rdy N w0 w3 A /\ Fx N.T w w3 := fun w5 h1 h2 w3 h3 => by
          have hb : Below w5.heap.size w5 w3 := ⟨h3.bel.os, h3.bel.tape, h3.bel.output, h3.bel.size, fun k hk => h3.blk k hk (fun e => by omega)⟩
          exact ⟨h1.on hb, ((HFA.out.trans (Fx.below hD)).trans h2).trans (Fx.below hb)⟩
         have hEnd1 : ∀ w5, Rdy N w0 w5 (fun k => A k \/ k = wB.heap.size) -> Fx N.T (wB.alloc (.cells #[.string ⟨#[]⟩, .string ⟨#[]⟩, .bool false, .bool false, .slice none 0 0, .int .i64 0, .string ⟨#[]⟩, .int .i64 0, .slice none 0 0, .slice none 0 0] 150)).drew w5 -> ∀ w3, Fx (fun k => k = wB.heap.size) w5 w3 -> Rdy N w0 w3 A /\ Fx N.T w w3 := fun w5 h1 h2 w3 h3 => by
          refine ⟨(h1.put h3 fun k hk => .inr hk).less fun k hk => .inl hk, HFA.out.bel.trans ((hDa.mono (Nat.zero_le _)).trans (h2.bel.trans h3.bel)), fun k hk hn => ?_⟩; have hk1 : k < wB.heap.size := Nat.lt_of_lt_of_le hk HFA.out.size; have e1 := HFA.out.blk k hk hn; have e2 := hDa.block k hk1; have e3 := h2.blk k (Nat.lt_of_lt_of_le hk1 hDa.size) hn; have e4 := h3.blk k (Nat.lt_of_lt_of_le (Nat.lt_of_lt_of_le hk1 hDa.size) h2.size) (fun e => by omega)
          exact e4.trans (e3.trans (e2.trans e1))
         have hRd : Rdy N w0 wB.drew A := HQA.out.on hD; have hRa : Rdy N w0 (wB.alloc (.cells #[.string ⟨#[]⟩, .string ⟨#[]⟩, .bool false, .bool false, .slice none 0 0, .int .i64 0, .string ⟨#[]⟩, .int .i64 0, .slice none 0 0, .slice none 0 0] 150)).drew (fun k => A k \/ k = wB.heap.size) := (HQA.out.alloc _).on (Below.drew (Below.refl _ _)); have hMa := HMe.out _ _ hRd; have hMb := HMe.out _ _ hRa; have hZa : (wB.alloc (.cells #[.string ⟨#[]⟩, .string ⟨#[]⟩, .bool false, .bool false, .slice none 0 0, .int .i64 0, .string ⟨#[]⟩, .int .i64 0, .slice none 0 0, .slice none 0 0] 150)).drew.heap[wB.heap.size]? = some (.cells #[.string ⟨#[]⟩, .string ⟨#[]⟩, .bool false, .bool false, .slice none 0 0, .int .i64 0, .string ⟨#[]⟩, .int .i64 0, .slice none 0 0, .slice none 0 0] 150 (0, 0)) := heap_alloc_new wB (.cells #[.string ⟨#[]⟩, .string ⟨#[]⟩, .bool false, .bool false, .slice none 0 0, .int .i64 0, .string ⟨#[]⟩, .int .i64 0, .slice none 0 0, .slice none 0 0] 150); have hNb : ¬ N.T wB.heap.size := fun hk => Nat.lt_irrefl _ (HTlt.out wB HQA.out _ hk); have hmbd : ∀ w5, Fx N.T wB.drew w5 -> w5.heap[wr.heap.size]? = some (.cells #[.string NB, .bool st, .bool ab, .slice xa1 n1 xd1, .int .i64 rk, .string rn, .int .i64 lo, .slice xa2 n2 xd2, .slice xa3 n3 xd3] 48 (0, 0)) := fun w5 h2 => ((h2.blk _ (Nat.lt_of_lt_of_le hszB hD.size) HNt.out).trans (hD.block _ hszB)).trans HBx.out; have hmba : ∀ w5, Fx N.T (wB.alloc (.cells #[.string ⟨#[]⟩, .string ⟨#[]⟩, .bool false, .bool false, .slice none 0 0, .int .i64 0, .string ⟨#[]⟩, .int .i64 0, .slice none 0 0, .slice none 0 0] 150)).drew w5 -> w5.heap[wr.heap.size]? = some (.cells #[.string NB, .bool st, .bool ab, .slice xa1 n1 xd1, .int .i64 rk, .string rn, .int .i64 lo, .slice xa2 n2 xd2, .slice xa3 n3 xd3] 48 (0, 0)) := fun w5 h2 => ((h2.blk _ (Nat.lt_of_lt_of_le hszB hDa.size) HNt.out).trans (hDa.block _ hszB)).trans HBx.out; have hboa : ∀ w5, Fx N.T (wB.alloc (.cells #[.string ⟨#[]⟩, .string ⟨#[]⟩, .bool false, .bool false, .slice none 0 0, .int .i64 0, .string ⟨#[]⟩, .int .i64 0, .slice none 0 0, .slice none 0 0] 150)).drew w5 -> w5.heap[wB.heap.size]? = some (.cells #[.string ⟨#[]⟩, .string ⟨#[]⟩, .bool false, .bool false, .slice none 0 0, .int .i64 0, .string ⟨#[]⟩, .int .i64 0, .slice none 0 0, .slice none 0 0] 150 (0, 0)) := fun w5 h2 => (h2.blk _ (Ow.lt_of_blk hZa) hNb).trans hZa; have hmo : wr.heap.size ≠ wB.heap.size := Nat.ne_of_lt hszB; clear HMe r0 r1 r2 r3 r4 r5 r6 r7 r8 hRd hRa hZa hNb HQA HFA hD hDa HBx HNt HQr HF; cases res with
         | none =>
           have HMa : Hid (Calls Tryz.prog 96 #[.pointer (some ⟨s, 0, none⟩), .string NB] wB.drew fun e w5 => e = .returned (.tuple #[.agg #[.string ⟨#[]⟩, .string ⟨#[]⟩, .bool false, .bool false, .slice none 0 0, .int .i64 0, .string ⟨#[]⟩, .int .i64 0, .slice none 0 0, .slice none 0 0], .bool false]) /\ ∀ w3, Fx (fun k => k = w5.heap.size) w5 w3 -> Rdy N w0 w3 A /\ Fx N.T w w3) := hide (hMa.mono fun e w5 h => by
            obtain ⟨⟨zs, rfl, _, h2⟩, h3, h4⟩ := h; have := h2 rfl; subst this
            exact ⟨rfl, hEnd2 w5 h3 h4⟩)
           have HMb : Hid (Calls Tryz.prog 96 #[.pointer (some ⟨s, 0, none⟩), .string NB] (wB.alloc (.cells #[.string ⟨#[]⟩, .string ⟨#[]⟩, .bool false, .bool false, .slice none 0 0, .int .i64 0, .string ⟨#[]⟩, .int .i64 0, .slice none 0 0, .slice none 0 0] 150)).drew fun e w5 => e = .returned (.tuple #[.agg #[.string ⟨#[]⟩, .string ⟨#[]⟩, .bool false, .bool false, .slice none 0 0, .int .i64 0, .string ⟨#[]⟩, .int .i64 0, .slice none 0 0, .slice none 0 0], .bool false]) /\ (∀ w3, Fx (fun k => k = wB.heap.size) w5 w3 -> Rdy N w0 w3 A /\ Fx N.T w w3) /\ w5.heap[wB.heap.size]? = some (.cells #[.string ⟨#[]⟩, .string ⟨#[]⟩, .bool false, .bool false, .slice none 0 0, .int .i64 0, .string ⟨#[]⟩, .int .i64 0, .slice none 0 0, .slice none 0 0] 150 (0, 0))) := hide (hMb.mono fun e w5 h => by
            obtain ⟨⟨zs, rfl, _, h2⟩, h3, h4⟩ := h; have := h2 rfl; subst this
            exact ⟨rfl, hEnd1 w5 h3 h4, hboa w5 h4⟩)
           have HT' := hide (HTk.out HCl.out); clear hMa hMb hEnd1 hEnd2 hmbd hmba hboa HSt HTk HCl HOp HAl
           go_region_law (first
            | (go_simp
               with_reducible refine HMa.out.mono ?_
               rintro e w5 ⟨rfl, hend⟩; have HEnd := hide hend
               clear hend)
            | (go_simp
               with_reducible refine HMb.out.mono ?_
               rintro e w5 ⟨rfl, hend, hbo⟩; have HEnd := hide hend; have HBo := hide hbo; have f0 := Ow.fzl_blk hbo 0; have q0 := cell_box hbo 0; have f1 := Ow.fzl_blk hbo 1; have q1 := cell_box hbo 1; have f2 := Ow.fzl_blk hbo 2; have q2 := cell_box hbo 2; have f3 := Ow.fzl_blk hbo 3; have q3 := cell_box hbo 3; have f4 := Ow.fzl_blk hbo 4; have q4 := cell_box hbo 4; have f5 := Ow.fzl_blk hbo 5; have q5 := cell_box hbo 5; have f6 := Ow.fzl_blk hbo 6; have q6 := cell_box hbo 6; have f7 := Ow.fzl_blk hbo 7; have q7 := cell_box hbo 7; have f8 := Ow.fzl_blk hbo 8; have q8 := cell_box hbo 8; have f9 := Ow.fzl_blk hbo 9; have q9 := cell_box hbo 9
               clear hend hbo)
            | fail)
           all_goals go_wp2_with fail
           all_goals go_roundw
           all_goals first
            | (have _h := HBo
               exact ⟨j + 1, by omega, by go_num, hide (HEnd.out _ (fx_ten wB.heap.size w5 _ _ _ _ _ _ _ _ _ _)).1, hide (HEnd.out _ (fx_ten wB.heap.size w5 _ _ _ _ _ _ _ _ _ _)).2, HT'⟩)
            | exact ⟨j + 1, by omega, by go_num, hide (HEnd.out _ (Fx.below ((Below.refl _ _).alloc (Nat.le_refl _) _))).1, hide (HEnd.out _ (Fx.below ((Below.refl _ _).alloc (Nat.le_refl _) _))).2, HT'⟩
            | (simp [intOf]; omega)
         | some o =>
           have hol := HOp.out o rfl; have hcl2 : cl = (o.2.stat != st || !Ly.alikeB o.2 m) := HCl.out
           have hAl2 := HAl.out o
           have hF : ∀ e, FoundO w0 (some o) e -> ∃ va1 vd1 va2 vd2 va3 vd3, e = .returned (.tuple #[.agg #[.string ⟨o.1.toArray⟩, .string ⟨o.2.name.toArray⟩, .bool o.2.stat, .bool o.2.abst, .slice va1 o.2.params.length vd1, .int .i64 o.2.ret.kind, .string ⟨o.2.ret.name.toArray⟩, .int .i64 o.2.locals, .slice va2 o.2.code.length vd2, .slice va3 o.2.catches.length vd3], .bool true]) /\ MthX w0 o.2 [.string ⟨o.2.name.toArray⟩, .bool o.2.stat, .bool o.2.abst, .slice va1 o.2.params.length vd1, .int .i64 o.2.ret.kind, .string ⟨o.2.ret.name.toArray⟩, .int .i64 o.2.locals, .slice va2 o.2.code.length vd2, .slice va3 o.2.catches.length vd3] := by
            rintro e ⟨zs, rfl, h1, _⟩; obtain ⟨_, rfl, ho⟩ := h1 o rfl; have ho2 := ho; obtain ⟨vp, vc', vk, rfl, y1, y2, y3, _⟩ := ho; obtain ⟨va1, vd1, rfl, _⟩ := y1.len; obtain ⟨va2, vd2, rfl, _⟩ := y2.len; obtain ⟨va3, vd3, rfl, _⟩ := y3.len; exact ⟨va1, vd1, va2, vd2, va3, vd3, rfl, ho2⟩
           clear HAl HOp HCl; generalize (⟨o.1.toArray⟩ : ByteArray) = OW at *
           generalize (⟨o.2.name.toArray⟩ : ByteArray) = ON at *
           generalize (⟨o.2.ret.name.toArray⟩ : ByteArray) = OR at *
           generalize o.2.stat = os at *
           generalize o.2.abst = oa at *
           generalize o.2.ret.kind = ok' at *
           generalize o.2.locals = ol at *
           generalize o.2.code.length = o2 at *
           generalize o.2.catches.length = o3 at *
           have hAl3 := hAl2; obtain ⟨o1, ho1⟩ : ∃ q, q = o.2.params.length := ⟨_, rfl⟩; rw [<- ho1] at hF; have HAl4 := hide (fun zs wx hw hz => hAl3 zs wx hw hz hol); have HCl2 := hide hcl2; obtain ⟨al, hal⟩ : ∃ q, q = Ly.alikeB o.2 m := ⟨_, rfl⟩; rw [<- hal] at HAl4 HCl2; have HMa : Hid (Calls Tryz.prog 96 #[.pointer (some ⟨s, 0, none⟩), .string NB] wB.drew fun e w5 => (∃ va1 vd1 va2 vd2 va3 vd3, e = .returned (.tuple #[.agg #[.string OW, .string ON, .bool os, .bool oa, .slice va1 o1 vd1, .int .i64 ok', .string OR, .int .i64 ol, .slice va2 o2 vd2, .slice va3 o3 vd3], .bool true]) /\ MthX w0 o.2 [.string ON, .bool os, .bool oa, .slice va1 o1 vd1, .int .i64 ok', .string OR, .int .i64 ol, .slice va2 o2 vd2, .slice va3 o3 vd3]) /\ (∀ w3, Fx (fun k => k = w5.heap.size) w5 w3 -> Rdy N w0 w3 A /\ Fx N.T w w3) /\ w5.heap[wr.heap.size]? = some (.cells #[.string NB, .bool st, .bool ab, .slice xa1 n1 xd1, .int .i64 rk, .string rn, .int .i64 lo, .slice xa2 n2 xd2, .slice xa3 n3 xd3] 48 (0, 0))) := hide (hMa.mono fun e w5 h => ⟨hF e h.1, hEnd2 w5 h.2.1 h.2.2, hmbd w5 h.2.2⟩); have HMb : Hid (Calls Tryz.prog 96 #[.pointer (some ⟨s, 0, none⟩), .string NB] (wB.alloc (.cells #[.string ⟨#[]⟩, .string ⟨#[]⟩, .bool false, .bool false, .slice none 0 0, .int .i64 0, .string ⟨#[]⟩, .int .i64 0, .slice none 0 0, .slice none 0 0] 150)).drew fun e w5 => (∃ va1 vd1 va2 vd2 va3 vd3, e = .returned (.tuple #[.agg #[.string OW, .string ON, .bool os, .bool oa, .slice va1 o1 vd1, .int .i64 ok', .string OR, .int .i64 ol, .slice va2 o2 vd2, .slice va3 o3 vd3], .bool true]) /\ MthX w0 o.2 [.string ON, .bool os, .bool oa, .slice va1 o1 vd1, .int .i64 ok', .string OR, .int .i64 ol, .slice va2 o2 vd2, .slice va3 o3 vd3]) /\ (∀ w3, Fx (fun k => k = wB.heap.size) w5 w3 -> Rdy N w0 w3 A /\ Fx N.T w w3) /\ w5.heap[wr.heap.size]? = some (.cells #[.string NB, .bool st, .bool ab, .slice xa1 n1 xd1, .int .i64 rk, .string rn, .int .i64 lo, .slice xa2 n2 xd2, .slice xa3 n3 xd3] 48 (0, 0)) /\ w5.heap[wB.heap.size]? = some (.cells #[.string ⟨#[]⟩, .string ⟨#[]⟩, .bool false, .bool false, .slice none 0 0, .int .i64 0, .string ⟨#[]⟩, .int .i64 0, .slice none 0 0, .slice none 0 0] 150 (0, 0))) := hide (hMb.mono fun e w5 h => ⟨hF e h.1, hEnd1 w5 h.2.1 h.2.2, hmba w5 h.2.2, hboa w5 h.2.2⟩); clear hMa hMb hEnd1 hEnd2 hmbd hmba hboa hF hAl2 hAl3 hcl2 hol hal ho1
           go_region_law (first
            | (go_simp
               with_reducible refine HMa.out.mono ?_
               rintro e w5 ⟨⟨va1, vd1, va2, vd2, va3, vd3, rfl, hmx⟩, hend, hmb⟩; have HEnd := hide hend; have HMx := hide hmx; have HMb5 := hide hmb
               clear hend hmx hmb)
            | (go_simp
               with_reducible refine HMb.out.mono ?_
               rintro e w5 ⟨⟨va1, vd1, va2, vd2, va3, vd3, rfl, hmx⟩, hend, hmb, hbo⟩; have HEnd := hide hend; have HMx := hide hmx; have HMb5 := hide hmb; have HBo := hide hbo; have f0 := Ow.fzl_blk hbo 0; have q0 := cell_box hbo 0; have f1 := Ow.fzl_blk hbo 1; have q1 := cell_box hbo 1; have f2 := Ow.fzl_blk hbo 2; have q2 := cell_box hbo 2; have f3 := Ow.fzl_blk hbo 3; have q3 := cell_box hbo 3; have f4 := Ow.fzl_blk hbo 4; have q4 := cell_box hbo 4; have f5 := Ow.fzl_blk hbo 5; have q5 := cell_box hbo 5; have f6 := Ow.fzl_blk hbo 6; have q6 := cell_box hbo 6; have f7 := Ow.fzl_blk hbo 7; have q7 := cell_box hbo 7; have f8 := Ow.fzl_blk hbo 8; have q8 := cell_box hbo 8; have f9 := Ow.fzl_blk hbo 9; have q9 := cell_box hbo 9
               clear hend hmx hmb hbo)
            | fail)
           all_goals first
            | (have hBo := HBo.out
               have hWx : ∃ W, W = ((((((((((w5.setCell ⟨wB.heap.size, 0, none⟩ (.string OW)).setCell ⟨wB.heap.size, 1, none⟩ (.string ON)).setCell ⟨wB.heap.size, 2, none⟩ (.bool os)).setCell ⟨wB.heap.size, 3, none⟩ (.bool oa)).setCell ⟨wB.heap.size, 4, none⟩ (.slice va1 o1 vd1)).setCell ⟨wB.heap.size, 5, none⟩ (.int .i64 ok')).setCell ⟨wB.heap.size, 6, none⟩ (.string OR)).setCell ⟨wB.heap.size, 7, none⟩ (.int .i64 ol)).setCell ⟨wB.heap.size, 8, none⟩ (.slice va2 o2 vd2)).setCell ⟨wB.heap.size, 9, none⟩ (.slice va3 o3 vd3)) /\ W.heap[wB.heap.size]? = some (.cells #[.string OW, .string ON, .bool os, .bool oa, .slice va1 o1 vd1, .int .i64 ok', .string OR, .int .i64 ol, .slice va2 o2 vd2, .slice va3 o3 vd3] 150 (0, 0)) /\ W.heap[wr.heap.size]? = some (.cells #[.string NB, .bool st, .bool ab, .slice xa1 n1 xd1, .int .i64 rk, .string rn, .int .i64 lo, .slice xa2 n2 xd2, .slice xa3 n3 xd3] 48 (0, 0)) /\ Rdy N w0 W A /\ Fx N.T w W :=
                ⟨_, rfl, blk_ten hBo (.string OW) (.string ON) (.bool os) (.bool oa) (.slice va1 o1 vd1) (.int .i64 ok') (.string OR) (.int .i64 ol) (.slice va2 o2 vd2) (.slice va3 o3 vd3), ((fx_ten wB.heap.size w5 (.string OW) (.string ON) (.bool os) (.bool oa) (.slice va1 o1 vd1) (.int .i64 ok') (.string OR) (.int .i64 ol) (.slice va2 o2 vd2) (.slice va3 o3 vd3)).blk wr.heap.size (Ow.lt_of_blk HMb5.out) hmo).trans HMb5.out, HEnd.out _ (fx_ten wB.heap.size w5 (.string OW) (.string ON) (.bool os) (.bool oa) (.slice va1 o1 vd1) (.int .i64 ok') (.string OR) (.int .i64 ol) (.slice va2 o2 vd2) (.slice va3 o3 vd3))⟩
               obtain ⟨W, hW, hWb, hWm, hWE⟩ := hWx; rw [<- hW]
               clear hBo HBo f0 f1 f2 f3 f4 f5 f6 f7 f8 f9 q0 q1 q2 q3 q4 q5 q6 q7 q8 q9 hW)
            | (have hWl := (Below.refl w5.heap.size w5).alloc (Nat.le_refl _) (.cells #[.string OW, .string ON, .bool os, .bool oa, .slice va1 o1 vd1, .int .i64 ok', .string OR, .int .i64 ol, .slice va2 o2 vd2, .slice va3 o3 vd3] 150)
               have hWx : ∃ W, W = w5.alloc (.cells #[.string OW, .string ON, .bool os, .bool oa, .slice va1 o1 vd1, .int .i64 ok', .string OR, .int .i64 ol, .slice va2 o2 vd2, .slice va3 o3 vd3] 150) /\ W.heap[w5.heap.size]? = some (.cells #[.string OW, .string ON, .bool os, .bool oa, .slice va1 o1 vd1, .int .i64 ok', .string OR, .int .i64 ol, .slice va2 o2 vd2, .slice va3 o3 vd3] 150 (0, 0)) /\ W.heap[wr.heap.size]? = some (.cells #[.string NB, .bool st, .bool ab, .slice xa1 n1 xd1, .int .i64 rk, .string rn, .int .i64 lo, .slice xa2 n2 xd2, .slice xa3 n3 xd3] 48 (0, 0)) /\ Rdy N w0 W A /\ Fx N.T w W :=
                ⟨_, rfl, heap_alloc_new w5 _, (hWl.block wr.heap.size (Ow.lt_of_blk HMb5.out)).trans HMb5.out, HEnd.out _ (Fx.below (S := fun k => k = w5.heap.size) hWl)⟩
               obtain ⟨W, hW, hWb, hWm, hWE⟩ := hWx; rw [<- hW]
               clear hWl hW)
           all_goals
            have m0 := cell_box hWm 0; have m1 := cell_box hWm 1; have m2 := cell_box hWm 2; have m3 := cell_box hWm 3; have m4 := cell_box hWm 4; have m5 := cell_box hWm 5; have m6 := cell_box hWm 6; have m7 := cell_box hWm 7; have m8 := cell_box hWm 8; have n1' := cell_box hWb 1; have n2' := cell_box hWb 2; have n3' := cell_box hWb 3; have n4' := cell_box hWb 4; have n5' := cell_box hWb 5; have n6' := cell_box hWb 6; have n7' := cell_box hWb 7; have n8' := cell_box hWb 8; have n9' := cell_box hWb 9; have HWE := hide hWE; clear hWb hWm hWE HEnd HMb5
           all_goals cases os <;> cases st
           all_goals first
            | (have HRes := hide (HSt.out (by rw [HCl2.out]; rfl))
               clear HSt HTk HCl2 HAl4 HMx; go_wp2_with fail; go_ret
               exact ⟨by rw [HRes.out]; rfl, HWE.out⟩)
            | (have HAc := hide (HAl4.out _ W HWE.out.1.1 HMx.out)
               have HCl3 : Hid (cl = !al) := hide (by rw [HCl2.out]; rfl)
               clear HCl2 HAl4 HMx; go_wp2_with fail; refine HAc.out.mono ?_; rintro e w7 ⟨rfl, hb7⟩; have HQ7 := hide (HWE.out.1.on hb7); have HF7 := hide (HWE.out.2.trans (Fx.below hb7)); clear HAc hb7 HWE; cases al with
               | true =>
                 have HT' := hide (HTk.out HCl3.out); clear HSt HTk HCl3; go_wp2_with fail
                 go_roundw
                 case rel => exact ⟨j + 1, by omega, by go_num, HQ7, HF7, HT'⟩
                 case measure => simp [intOf]; omega
               | false =>
                 have HRes := hide (HSt.out HCl3.out); clear HSt HTk HCl3; go_wp2_with fail; go_ret
                 exact ⟨by rw [HRes.out]; rfl, HQ7.out, HF7.out⟩)
       · have HQ : Hid (r = 0) := hide (by
          have h1 := Ly.any_end HZ.out (by rw [<- HNm.out]; omega)
          rw [HR2.out, if_neg (by rw [h1]; decide)])
         have hnl : ¬ ((j : Int) < (nm : Int)) := by omega
         clear HZ; go_wp2_with fail; go_ret; exact ⟨by rw [HQ.out]; rfl, HQr.out, HF.out⟩
end Go.Proofs.YtbbbnciejmdpfabGreatDoor
