/- What the laws of this seat lean on: 3 texts. -/
import Derived.Test.YtbbbnciejmdpfabGreatDoorPkAw
import Derived.Test.YtbbbnciejmdpfabGreatDoorPkAk
set_option maxRecDepth 100000
set_option maxHeartbeats 64000000
set_option linter.unusedVariables false
set_option linter.unusedSimpArgs false
namespace Go.Proofs.YtbbbnciejmdpfabGreatDoor
open Go.RowKit
namespace Ly
def fOk (f : Pp.Fld) : Bool := f.ty.kind != 1
theorem formed_head {c : Pp.XCls} (h : (c.iface && decide (0 < c.fields.length)) = true) : formedB c = false := by unfold formedB fldsOk; rw [h]; rfl
theorem formed_fld {c : Pp.XCls} (h : c.fields.all fOk = false) : formedB c = false := by
 unfold formedB fldsOk; show (_ && c.fields.all fOk && _) = false; rw [h]; simp
theorem formed_mth {c : Pp.XCls} (h : c.methods.all (mthOk c) = false) : formedB c = false := by unfold formedB; rw [h]; simp
theorem formed_ok {c : Pp.XCls} (h1 : (c.iface && decide (0 < c.fields.length)) = false) (h2 : c.fields.all fOk = true) (h3 : c.methods.all (mthOk c) = true) : formedB c = true := by
 unfold formedB fldsOk; show (_ && c.fields.all fOk && _) = true; rw [h1, h2, h3]
 rfl
theorem void_not (ps : List Pp.Ty) : (ps.all fun t => t.kind != 1) = !(ps.any fun t => t.kind == 1) := by
 induction ps with
 | nil => rfl
 | cons a l ih => rw [List.all_cons, List.any_cons, ih, Bool.not_or]; rfl
end Ly
theorem formed_any (c : Pp.XCls) (cs : List Value) (w : World) (h : ClsX w c cs) (hf : c.fields.length <= 100) (hm : c.methods.length <= 100) (hp : ∀ m ∈ c.methods, m.params.length <= 100) :
 Calls Tryz.prog 92 #[.agg cs.toArray] w fun e w' => e = .returned (.bool (Ly.formedB c)) /\ Below w.heap.size w w' := by
 obtain ⟨ia, ic, fa, fc, ma, mc, rfl, x1, x2, x3⟩ := cls_open h; have HRf := hide x2; have HRm := hide x3; have HPm := hide hp; clear x1 x2 x3 h hp; obtain ⟨r, hr⟩ : ∃ r, r = Ly.formedB c := ⟨_, rfl⟩; have HR := hide hr; rw [<- hr]; clear hr; obtain ⟨nf, hnf⟩ : ∃ q, q = c.fields.length := ⟨_, rfl⟩; obtain ⟨nm, hnm⟩ : ∃ q, q = c.methods.length := ⟨_, rfl⟩; obtain ⟨fi, hfi⟩ : ∃ q, q = c.iface := ⟨_, rfl⟩; have HNf := hide hnf; have HNm := hide hnm; have HFi := hide hfi; rw [<- hnf] at HRf hf ⊢; rw [<- hnm] at HRm hm ⊢; rw [<- hfi]; clear hnf hnm hfi; have hf1 : (nf : Int) <= 100 := by omega
 have hm1 : (nm : Int) <= 100 := by omega
 obtain ⟨NB, hNB⟩ : ∃ q : ByteArray, q = ⟨c.name.toArray⟩ := ⟨_, rfl⟩; rw [<- hNB]; clear hNB; generalize (⟨c.super.toArray⟩ : ByteArray) = SB; generalize c.ifaces.length = ni; have HB0 := hide ((Below.refl w.heap.size w).alloc (Nat.le_refl _) (.cells #[.string NB, .bool fi, .string SB, .slice ia ni ic, .slice fa nf fc, .slice ma nm mc] 33)); have HX0 := hide (heap_alloc_new w (.cells #[.string NB, .bool fi, .string SB, .slice ia ni ic, .slice fa nf fc, .slice ma nm mc] 33)); by_cases hh : (fi && decide (0 < nf)) = true
 · have HF : Hid (r = false) := hide (HR.out.trans (Ly.formed_head (by rw [<- HFi.out, <- HNf.out]; exact hh)))
   simp only [Bool.and_eq_true, decide_eq_true_eq] at hh; obtain ⟨h1, h2⟩ := hh; subst h1; have h2' : (0 : Int) < (nf : Int) := by omega
   go_enter Tryz.func92, Tryz.ntmps92; go_wp2_with fail; go_ret; exact ⟨by rw [HF.out]; rfl, HB0.out⟩
 have HH : Hid ((c.iface && decide (0 < c.fields.length)) = false) := hide (by rw [<- HFi.out, <- HNf.out]; simpa using hh)
 have hh2 : fi = true -> nf = 0 := by
  intro h1; rw [h1] at hh; simp at hh; omega
 clear hh; cases fi with
 | false =>
   go_enter Tryz.func92, Tryz.ntmps92; go_wp2_with fail; generalize w.alloc (.cells #[.string NB, .bool false, .string SB, .slice ia ni ic, .slice fa nf fc, .slice ma nm mc] 33) = wa at *
   go_loopw [18] (fun i wr => ∃ k : Nat, k <= nf /\ i = .int .i64 k /\ Hid (Below wa.heap.size wa wr) /\ Hid ((c.fields.take k).all Ly.fOk = true)) (fun i _ => nf - (intOf i).toNat)
   case atStart => exact ⟨0, Nat.zero_le _, rfl, hide (Below.refl _ _), hide (by simp)⟩
   case round =>
    obtain ⟨k, hk, rfl, HB, HA⟩ := hrel; have HBw := hide (HB0.out.trans (HB.out.mono HB0.out.size)); by_cases hlt : k < nf
    · obtain ⟨x, hx⟩ : ∃ x, c.fields[k]? = some x := ⟨c.fields[k]'(by rw [<- HNf.out]; exact hlt), List.getElem?_eq_getElem _⟩
      obtain ⟨g, o, rfl, ys, wf, hc⟩ := Ow.row_at' HRf.out hx; have hG := hide (hc wr HBw.out); have HS := hide (fun hp => Ly.formed_fld (Ly.all_stop (p := Ly.fOk) hx hp)); have HZ := hide (fun hp => Ly.all_take (p := Ly.fOk) HA.out hx hp); clear hc hx HA; obtain ⟨rfl, hl1, hl2⟩ := wf; have HV := hide (fun wx => isVoid_any x.ty [.int .i64 x.ty.kind, .string ⟨x.ty.name.toArray⟩] wx ⟨rfl, hl2⟩); obtain ⟨px, hpx⟩ : ∃ p, p = (x.ty.kind == 1) := ⟨_, rfl⟩; rw [<- hpx] at HV; have HNo : Hid (px = true -> r = false) := hide fun h => HR.out.trans (HS.out (by unfold Ly.fOk; rw [bne, <- hpx, h]; rfl))
      have HYe : Hid (px = false -> (c.fields.take (k + 1)).all Ly.fOk = true) := hide fun h => HZ.out (by unfold Ly.fOk; rw [bne, <- hpx, h]; rfl)
      clear hl1 hl2 HS HZ hpx; have r0 := hG.out 0 _ rfl; have r1 := hG.out 1 _ rfl; have r2 := hG.out 2 _ rfl; have r3 := hG.out 3 _ rfl; rw [Nat.add_zero] at r0; clear hG; have hlt' : (k : Int) < (nf : Int) := by omega
      have hA : Below wr.heap.size wr (wr.alloc (.cells #[.string ⟨x.name.toArray⟩, .int .i64 x.ty.kind, .string ⟨x.ty.name.toArray⟩, .bool x.stat] 43)) := (Below.refl _ _).alloc (Nat.le_refl _) _; have HBA := hide (HB.out.trans (hA.mono HB.out.size)); have hbx := heap_alloc_new wr (.cells #[.string ⟨x.name.toArray⟩, .int .i64 x.ty.kind, .string ⟨x.ty.name.toArray⟩, .bool x.stat] 43); have b0 := cell_box hbx 0; have b1 := cell_box hbx 1; have b2 := cell_box hbx 2; have b3 := cell_box hbx 3; clear hA hbx; go_wp2_with fail; refine (HV.out _).mono ?_; rintro e w5 ⟨rfl, hb5⟩; have HB5 := hide (HBA.out.trans (hb5.mono HBA.out.size)); clear HV hb5; cases px with
      | true =>
        have HF := hide (HNo.out rfl); clear HNo HYe; go_wp2_with fail; go_ret; exact ⟨by rw [HF.out]; rfl, HB0.out.trans (HB5.out.mono HB0.out.size)⟩
      | false =>
        have HY' := hide (HYe.out rfl); clear HNo HYe; go_wp2_with fail
        go_roundw
        case rel => exact ⟨k + 1, by omega, by go_num, HB5, HY'⟩
        case measure => simp [intOf]; omega
    · have HAll : Hid (c.fields.all Ly.fOk = true) := hide (Ly.all_end HA.out (by rw [<- HNf.out]; omega))
      have hnl : ¬ ((k : Int) < (nf : Int)) := by omega
      have hX1 := (HB.out.block _ (Ow.lt_of_blk HX0.out)).trans HX0.out; have c5 := cell_box hX1 5; clear hX1 HA; go_wp2_with fail
      go_loopw [29] (fun i wr => ∃ k : Nat, k <= nm /\ i = .int .i64 k /\ Hid (Below wa.heap.size wa wr) /\ Hid ((c.methods.take k).all (Ly.mthOk c) = true)) (fun i _ => nm - (intOf i).toNat)
      case atStart => exact ⟨0, Nat.zero_le _, rfl, HB, hide (by simp)⟩
      case round =>
       clear HB HBw c5; obtain ⟨k, hk, rfl, HB, HA⟩ := hrel; have HBw := hide (HB0.out.trans (HB.out.mono HB0.out.size)); by_cases hlt : k < nm
       · obtain ⟨m, hx⟩ : ∃ x, c.methods[k]? = some x := ⟨c.methods[k]'(by rw [<- HNm.out]; exact hlt), List.getElem?_eq_getElem _⟩
         obtain ⟨g, o, rfl, ys, wf, hc⟩ := Ow.row_at' HRm.out hx; have hG := hide (hc wr HBw.out); have HS := hide (fun hp => HR.out.trans (Ly.formed_mth (Ly.all_stop (p := Ly.mthOk c) hx hp))); have HZ := hide (fun hp => Ly.all_take (p := Ly.mthOk c) HA.out hx hp); have hmp := HPm.out m (List.mem_of_getElem? hx); clear hc hx HA; obtain ⟨vp, vc, vk, rfl, z1, z2, z3, _⟩ := wf; have HV := hide (fun wx (hb : Below wa.heap.size wa wx) => anyVoid_any m.params vp wx (z1.on (HB0.out.trans (hb.mono HB0.out.size)) fun _ _ h => h) (by omega))
         obtain ⟨ap, cp, rfl, _⟩ := z1.len; obtain ⟨ac, cc, rfl, _⟩ := z2.len; obtain ⟨ak, ck, rfl, _⟩ := z3.len; clear z1 z2 z3; obtain ⟨px, hpx⟩ : ∃ p, p = (m.params.any fun t => t.kind == 1) := ⟨_, rfl⟩; rw [<- hpx] at HV
         have hok : Ly.mthOk c m = (m.abst == false && (!(false && m.stat) && !px)) := by
          unfold Ly.mthOk; rw [Ly.void_not, <- hpx, <- HFi.out]
         have r0 := hG.out 0 _ rfl; have r1 := hG.out 1 _ rfl; have r2 := hG.out 2 _ rfl; have r3 := hG.out 3 _ rfl; have r4 := hG.out 4 _ rfl; have r5 := hG.out 5 _ rfl; have r6 := hG.out 6 _ rfl; have r7 := hG.out 7 _ rfl; have r8 := hG.out 8 _ rfl; rw [Nat.add_zero] at r0; obtain ⟨ms, hms⟩ : ∃ q, q = m.stat := ⟨_, rfl⟩; obtain ⟨mb, hmb⟩ : ∃ q, q = m.abst := ⟨_, rfl⟩; rw [<- hms, <- hmb] at hok; rw [<- hms] at r1; rw [<- hmb] at r2; have HNo : Hid ((mb == false && (!(false && ms) && !px)) = false -> r = false) := hide fun h => HS.out (hok.trans h); have HYe : Hid ((mb == false && (!(false && ms) && !px)) = true -> (c.methods.take (k + 1)).all (Ly.mthOk c) = true) := hide fun h => HZ.out (hok.trans h); clear hG HS HZ hpx hok hms hmb; have hlt' : (k : Int) < (nm : Int) := by omega
         have hA : Below wr.heap.size wr (wr.alloc (.cells #[.string ⟨m.name.toArray⟩, .bool ms, .bool mb, .slice ap m.params.length cp, .int .i64 m.ret.kind, .string ⟨m.ret.name.toArray⟩, .int .i64 m.locals, .slice ac m.code.length cc, .slice ak m.catches.length ck] 48)) := (Below.refl _ _).alloc (Nat.le_refl _) _; have HBA := hide (HB.out.trans (hA.mono HB.out.size)); have hbx := heap_alloc_new wr (.cells #[.string ⟨m.name.toArray⟩, .bool ms, .bool mb, .slice ap m.params.length cp, .int .i64 m.ret.kind, .string ⟨m.ret.name.toArray⟩, .int .i64 m.locals, .slice ac m.code.length cc, .slice ak m.catches.length ck] 48); have b1 := cell_box hbx 1; have b2 := cell_box hbx 2; have b3 := cell_box hbx 3; have hX1 := (HBA.out.block _ (Ow.lt_of_blk HX0.out)).trans HX0.out; have c1 := cell_box hX1 1; clear hA hbx hX1; cases mb with
         | true =>
           have HF : Hid (r = false) := hide (HNo.out (by simp))
           clear HNo HYe HV; go_wp2_with fail; go_ret; exact ⟨by rw [HF.out]; rfl, HB0.out.trans (HBA.out.mono HB0.out.size)⟩
         | false =>
           have HNo' : Hid (px = true -> r = false) := hide fun h => HNo.out (by simp [h])
           have HYe' : Hid (px = false -> (c.methods.take (k + 1)).all (Ly.mthOk c) = true) := hide fun h => HYe.out (by simp [h])
           clear HNo HYe; go_wp2_with fail; refine (HV.out _ HBA.out).mono ?_; rintro e w5 ⟨rfl, hb5⟩; have HB5 := hide (HBA.out.trans (hb5.mono HBA.out.size)); clear HV hb5; cases px with
           | true =>
             have HF := hide (HNo'.out rfl); clear HNo' HYe'; go_wp2_with fail; go_ret; exact ⟨by rw [HF.out]; rfl, HB0.out.trans (HB5.out.mono HB0.out.size)⟩
           | false =>
             have HY' := hide (HYe'.out rfl); clear HNo' HYe'; go_wp2_with fail
             go_roundw
             case rel => exact ⟨k + 1, by omega, by go_num, HB5, HY'⟩
             case measure => simp [intOf]; omega
       · have HF := hide (HR.out.trans (Ly.formed_ok HH.out HAll.out (Ly.all_end HA.out (by rw [<- HNm.out]; omega))))
         have hnl : ¬ ((k : Int) < (nm : Int)) := by omega
         clear HA; go_wp2_with fail; go_ret; exact ⟨by rw [HF.out]; rfl, HBw.out⟩
 | true =>
   have h0 := hh2 rfl; subst h0; have hn0 : ¬ (0 : Int) < ((0 : Nat) : Int) := by omega
   go_enter Tryz.func92, Tryz.ntmps92; go_wp2_with fail; generalize w.alloc (.cells #[.string NB, .bool true, .string SB, .slice ia ni ic, .slice fa 0 fc, .slice ma nm mc] 33) = wa at *
   go_loopw [18] (fun i wr => ∃ k : Nat, k <= 0 /\ i = .int .i64 k /\ Hid (Below wa.heap.size wa wr) /\ Hid ((c.fields.take k).all Ly.fOk = true)) (fun i _ => 0 - (intOf i).toNat)
   case atStart => exact ⟨0, Nat.zero_le _, rfl, hide (Below.refl _ _), hide (by simp)⟩
   case round =>
    obtain ⟨k, hk, rfl, HB, HA⟩ := hrel; have HBw := hide (HB0.out.trans (HB.out.mono HB0.out.size)); by_cases hlt : k < 0
    · exact absurd hlt (by omega)
    · have HAll : Hid (c.fields.all Ly.fOk = true) := hide (Ly.all_end HA.out (by rw [<- HNf.out]; omega))
      have hnl : ¬ ((k : Int) < ((0 : Nat) : Int)) := by omega
      have hX1 := (HB.out.block _ (Ow.lt_of_blk HX0.out)).trans HX0.out; have c5 := cell_box hX1 5; clear hX1 HA; go_wp2_with fail
      go_loopw [29] (fun i wr => ∃ k : Nat, k <= nm /\ i = .int .i64 k /\ Hid (Below wa.heap.size wa wr) /\ Hid ((c.methods.take k).all (Ly.mthOk c) = true)) (fun i _ => nm - (intOf i).toNat)
      case atStart => exact ⟨0, Nat.zero_le _, rfl, HB, hide (by simp)⟩
      case round =>
       clear HB HBw c5; obtain ⟨k, hk, rfl, HB, HA⟩ := hrel; have HBw := hide (HB0.out.trans (HB.out.mono HB0.out.size)); by_cases hlt : k < nm
       · obtain ⟨m, hx⟩ : ∃ x, c.methods[k]? = some x := ⟨c.methods[k]'(by rw [<- HNm.out]; exact hlt), List.getElem?_eq_getElem _⟩
         obtain ⟨g, o, rfl, ys, wf, hc⟩ := Ow.row_at' HRm.out hx; have hG := hide (hc wr HBw.out); have HS := hide (fun hp => HR.out.trans (Ly.formed_mth (Ly.all_stop (p := Ly.mthOk c) hx hp))); have HZ := hide (fun hp => Ly.all_take (p := Ly.mthOk c) HA.out hx hp); have hmp := HPm.out m (List.mem_of_getElem? hx); clear hc hx HA; obtain ⟨vp, vc, vk, rfl, z1, z2, z3, _⟩ := wf; have HV := hide (fun wx (hb : Below wa.heap.size wa wx) => anyVoid_any m.params vp wx (z1.on (HB0.out.trans (hb.mono HB0.out.size)) fun _ _ h => h) (by omega))
         obtain ⟨ap, cp, rfl, _⟩ := z1.len; obtain ⟨ac, cc, rfl, _⟩ := z2.len; obtain ⟨ak, ck, rfl, _⟩ := z3.len; clear z1 z2 z3; obtain ⟨px, hpx⟩ : ∃ p, p = (m.params.any fun t => t.kind == 1) := ⟨_, rfl⟩; rw [<- hpx] at HV
         have hok : Ly.mthOk c m = (m.abst == true && (!(true && m.stat) && !px)) := by
          unfold Ly.mthOk; rw [Ly.void_not, <- hpx, <- HFi.out]
         have r0 := hG.out 0 _ rfl; have r1 := hG.out 1 _ rfl; have r2 := hG.out 2 _ rfl; have r3 := hG.out 3 _ rfl; have r4 := hG.out 4 _ rfl; have r5 := hG.out 5 _ rfl; have r6 := hG.out 6 _ rfl; have r7 := hG.out 7 _ rfl; have r8 := hG.out 8 _ rfl; rw [Nat.add_zero] at r0; obtain ⟨ms, hms⟩ : ∃ q, q = m.stat := ⟨_, rfl⟩; obtain ⟨mb, hmb⟩ : ∃ q, q = m.abst := ⟨_, rfl⟩; rw [<- hms, <- hmb] at hok; rw [<- hms] at r1; rw [<- hmb] at r2; have HNo : Hid ((mb == true && (!(true && ms) && !px)) = false -> r = false) := hide fun h => HS.out (hok.trans h); have HYe : Hid ((mb == true && (!(true && ms) && !px)) = true -> (c.methods.take (k + 1)).all (Ly.mthOk c) = true) := hide fun h => HZ.out (hok.trans h); clear hG HS HZ hpx hok hms hmb; have hlt' : (k : Int) < (nm : Int) := by omega
         have hA : Below wr.heap.size wr (wr.alloc (.cells #[.string ⟨m.name.toArray⟩, .bool ms, .bool mb, .slice ap m.params.length cp, .int .i64 m.ret.kind, .string ⟨m.ret.name.toArray⟩, .int .i64 m.locals, .slice ac m.code.length cc, .slice ak m.catches.length ck] 48)) := (Below.refl _ _).alloc (Nat.le_refl _) _; have HBA := hide (HB.out.trans (hA.mono HB.out.size)); have hbx := heap_alloc_new wr (.cells #[.string ⟨m.name.toArray⟩, .bool ms, .bool mb, .slice ap m.params.length cp, .int .i64 m.ret.kind, .string ⟨m.ret.name.toArray⟩, .int .i64 m.locals, .slice ac m.code.length cc, .slice ak m.catches.length ck] 48); have b1 := cell_box hbx 1; have b2 := cell_box hbx 2; have b3 := cell_box hbx 3; have hX1 := (HBA.out.block _ (Ow.lt_of_blk HX0.out)).trans HX0.out; have c1 := cell_box hX1 1; clear hA hbx hX1; cases mb with
         | false =>
           have HF : Hid (r = false) := hide (HNo.out (by simp))
           clear HNo HYe HV; go_wp2_with fail; go_ret; exact ⟨by rw [HF.out]; rfl, HB0.out.trans (HBA.out.mono HB0.out.size)⟩
         | true =>
           cases ms with
           | true =>
             have HF : Hid (r = false) := hide (HNo.out (by simp))
             clear HNo HYe HV; go_wp2_with fail; go_ret; exact ⟨by rw [HF.out]; rfl, HB0.out.trans (HBA.out.mono HB0.out.size)⟩
           | false =>
             have HNo' : Hid (px = true -> r = false) := hide fun h => HNo.out (by simp [h])
             have HYe' : Hid (px = false -> (c.methods.take (k + 1)).all (Ly.mthOk c) = true) := hide fun h => HYe.out (by simp [h])
             clear HNo HYe; go_wp2_with fail; refine (HV.out _ HBA.out).mono ?_; rintro e w5 ⟨rfl, hb5⟩; have HB5 := hide (HBA.out.trans (hb5.mono HBA.out.size)); clear HV hb5; cases px with
             | true =>
               have HF := hide (HNo'.out rfl); clear HNo' HYe'; go_wp2_with fail; go_ret; exact ⟨by rw [HF.out]; rfl, HB0.out.trans (HB5.out.mono HB0.out.size)⟩
             | false =>
               have HY' := hide (HYe'.out rfl); clear HNo' HYe'; go_wp2_with fail
               go_roundw
               case rel => exact ⟨k + 1, by omega, by go_num, HB5, HY'⟩
               case measure => simp [intOf]; omega
       · have HF := hide (HR.out.trans (Ly.formed_ok HH.out HAll.out (Ly.all_end HA.out (by rw [<- HNm.out]; omega))))
         have hnl : ¬ ((k : Int) < (nm : Int)) := by omega
         clear HA; go_wp2_with fail; go_ret; exact ⟨by rw [HF.out]; rfl, HBw.out⟩
theorem known_any (l : List Pp.XCls) (bs : List Nat) (nm : Nat -> Pp.Bs) (v : Value) (c : Pp.XCls) (cs : List Value) (w : World) (hr : RowX w 1 PtrX v bs) (hn : bs.length <= 1000) (hb : ∀ b ∈ bs, b < w.heap.size) (hc : ∀ b ∈ bs, w.cell? ⟨b, 0, none⟩ = some (.string ⟨(nm b).toArray⟩))
 (hk : ∀ n, (bs.find? fun b => nm b == n).isSome = (Hr.placeL l n).isSome)
 (h : ClsX w c cs) (hf : c.fields.length <= 100) (hm : c.methods.length <= 100) (hp : ∀ m ∈ c.methods, m.params.length <= 100) :
 Calls Tryz.prog 94 #[v, .agg cs.toArray] w fun e w' => e = .returned (.bool (Ly.knownB l c)) /\ Below w.heap.size w w' := by
 have HT := hide (fun wx (hb : Below w.heap.size w wx) => typesOf_any c cs wx (h.on hb) hf hm hp); have HF := hide (fun wx (hb2 : Below w.heap.size w wx) (n : Pp.Bs) => tfind_any bs nm v n wx (hr.on hb2 fun _ _ h => h) hn fun b hm => (hb2.cell (by exact hb b hm)).trans (hc b hm))
 have HK := hide hk
 have HLen : Hid ((Ly.typesL c).length <= 100000) := hide (by
  have := Ly.accM_len (c := c) (k := c.methods.length) hf hm hp
  rwa [Ly.accM_end (Nat.le_refl _)] at this)
 obtain ⟨va, vc, rfl, _⟩ := hr.len; obtain ⟨ia, ic, fa, fc, ma, mc, rfl, _⟩ := cls_open h; clear h hr hc hb hk hf hm hp; obtain ⟨r, hr⟩ : ∃ r, r = Ly.knownB l c := ⟨_, rfl⟩; have HR := hide hr; rw [<- hr]; clear hr; generalize (⟨c.name.toArray⟩ : ByteArray) = NB at *
 generalize (⟨c.super.toArray⟩ : ByteArray) = SB at *
 generalize c.iface = fi at *
 generalize c.ifaces.length = ni at *
 generalize c.fields.length = nf at *
 generalize c.methods.length = nm' at *
 generalize bs.length = nb at *
 have HB0 := hide ((Below.refl w.heap.size w).alloc (Nat.le_refl _) (.cells #[.string NB, .bool fi, .string SB, .slice ia ni ic, .slice fa nf fc, .slice ma nm' mc] 33)); go_enter Tryz.func94, Tryz.ntmps94; go_wp2_with fail; generalize w.alloc (.cells #[.string NB, .bool fi, .string SB, .slice ia ni ic, .slice fa nf fc, .slice ma nm' mc] 33) = wa at *
 refine (HT.out wa HB0.out).mono ?_; rintro e w1 ⟨vt, rfl, ho1, hb1⟩; have HB1 := hide (HB0.out.trans (hb1.mono HB0.out.size)); have hrow := ho1.row shp_ty fun _ _ h => h; obtain ⟨ta, tc, hvt, _⟩ := hrow.len; obtain ⟨nt, hnt⟩ : ∃ q, q = (Ly.typesL c).length := ⟨_, rfl⟩; rw [<- hnt] at hvt HLen; subst hvt; have HNt := hide hnt; have HRow := hide hrow; have hl1 : (nt : Int) <= 100000 := by have := HLen.out; omega
 clear hnt hrow ho1 hb1 HT HLen; go_wp2_with fail
 go_loopw [12] (fun i wr => ∃ k : Nat, k <= nt /\ i = .int .i64 k /\ Hid (Below w1.heap.size w1 wr) /\ Hid (((Ly.typesL c).take k).all (Ly.knownT l) = true)) (fun i _ => nt - (intOf i).toNat)
 case atStart => exact ⟨0, Nat.zero_le _, rfl, hide (Below.refl _ _), hide (by simp)⟩
 case round =>
  obtain ⟨k, hk, rfl, HB, HA⟩ := hrel; have HBw := hide (HB1.out.trans (HB.out.mono HB1.out.size)); by_cases hlt : k < nt
  · obtain ⟨x, hx⟩ : ∃ x, (Ly.typesL c)[k]? = some x := ⟨(Ly.typesL c)[k]'(by rw [<- HNt.out]; exact hlt), List.getElem?_eq_getElem _⟩
    obtain ⟨g, o, rfl, ys, wf, hc⟩ := Ow.row_at' HRow.out hx; have hG := hide (hc wr HB.out); have HS := hide (fun hp => HR.out.trans (Ly.all_stop (p := Ly.knownT l) hx hp)); have HZ := hide (fun hp => Ly.all_take (p := Ly.knownT l) HA.out hx hp); clear hc hx HA; obtain ⟨rfl, hl2⟩ := wf; clear hl2; have r0 := hG.out 0 _ rfl; have r1 := hG.out 1 _ rfl; rw [Nat.add_zero] at r0; clear hG; have hlt' : (k : Int) < (nt : Int) := by omega
    have hA : Below wr.heap.size wr (wr.alloc (.cells #[.int .i64 x.kind, .string ⟨x.name.toArray⟩] 36)) := (Below.refl _ _).alloc (Nat.le_refl _) _; have HBA := hide (HB.out.trans (hA.mono HB.out.size)); have HBwA := hide (HBw.out.trans (hA.mono HBw.out.size)); have hbx := heap_alloc_new wr (.cells #[.int .i64 x.kind, .string ⟨x.name.toArray⟩] 36); have b0 := cell_box hbx 0; have b1 := cell_box hbx 1; clear hA hbx; by_cases hn : x.name = []
    · have HZ' := hide (HZ.out (by unfold Ly.knownT; rw [hn]; rfl))
      rw [hn] at r1 b0 b1 HBA HBwA; clear HZ HS hn; go_wp2_with fail
      go_roundw
      case rel => exact ⟨k + 1, by omega, by go_num, HBA, HZ'⟩
      case measure => simp [intOf]; omega
    · have hne : (x.name == []) = false := by simpa using hn
      have hkt : Ly.knownT l x = (bs.find? fun b => nm b == x.name).isSome := by unfold Ly.knownT; rw [hne, HK.out]; rfl
      have HCall := hide (HF.out _ HBwA.out x.name); rw [hkt] at HS HZ; generalize (bs.find? fun b => nm b == x.name) = res at *
      clear hkt; cases res with
      | none =>
        have HF' := hide (HS.out rfl); clear HZ HS; simp only [Option.map_none, Option.isSome_none] at HCall; go_wp2_with fail; refine HCall.out.mono ?_; rintro e w5 ⟨rfl, hw5⟩; have hw5' := hw5.symm; subst hw5'; clear HCall hw5; go_wp2_with fail; go_ret; exact ⟨by rw [HF'.out]; rfl, HBwA.out⟩
      | some b =>
        have HZ' := hide (HZ.out rfl); clear HZ HS; simp only [Option.map_some, Option.isSome_some] at HCall; go_wp2_with fail; refine HCall.out.mono ?_; rintro e w5 ⟨rfl, hw5⟩; have hw5' := hw5.symm; subst hw5'; clear HCall hw5; go_wp2_with fail
        go_roundw
        case rel => exact ⟨k + 1, by omega, by go_num, HBA, HZ'⟩
        case measure => simp [intOf]; omega
  · have HF := hide (HR.out.trans (Ly.all_end HA.out (by rw [<- HNt.out]; omega)))
    have hnl : ¬ ((k : Int) < (nt : Int)) := by omega
    clear HA; go_wp2_with fail; go_ret; exact ⟨by rw [HF.out]; rfl, HBw.out⟩
theorem put_at {b : Nat} {w x : World} (h : Below b w x) (k : Nat) (u : Value) : Below b w (x.setCell ⟨b, k, none⟩ u) := h.setCell (p := ⟨b, k, none⟩) (Nat.le_refl _) u
def zeroO : List Value := [.string ⟨#[]⟩, .string ⟨#[]⟩, .bool false, .bool false, .slice none 0 0, .int .i64 0, .string ⟨#[]⟩, .int .i64 0, .slice none 0 0, .slice none 0 0]
def FoundO (w0 : World) (r : Option (Pp.Bs × Pp.XMth)) (e : Ending) : Prop := ∃ zs, e = .returned (.tuple #[.agg zs.toArray, .bool r.isSome]) /\ (∀ o, r = some o -> PMt w0 o zs) /\ (r = none -> zs = zeroO)
theorem FoundO.yes {w0 : World} {r : Option (Pp.Bs × Pp.XMth)} {o : Pp.Bs × Pp.XMth} {zs : List Value} (h : r = some o) (hp : PMt w0 o zs) : FoundO w0 r (.returned (.tuple #[.agg zs.toArray, .bool true])) := by
 subst h; exact ⟨zs, rfl, fun o' e => by injection e with e; exact e ▸ hp, fun e => by cases e⟩
theorem FoundO.no {w0 : World} {r : Option (Pp.Bs × Pp.XMth)} (h : r = none) : FoundO w0 r (.returned (.tuple #[.agg zeroO.toArray, .bool false])) := by
 subst h; exact ⟨zeroO, rfl, fun o' e => by (cases e), fun _ => rfl⟩
theorem findO_any (w0 : World) (l : List (Pp.Bs × Pp.XMth)) (v : Value) (n : Pp.Bs) (w : World) (h : RowX w 10 (PMt w0) v l) (hn : l.length <= 100000) :
 Calls Tryz.prog 115 #[v, .string ⟨n.toArray⟩] w fun e w' => FoundO w0 (l.find? fun o => o.2.name == n) e /\ Below w.heap.size w w' := by
 have HR := hide h; obtain ⟨a, c, rfl, _⟩ := h.len; clear h; obtain ⟨m, hm⟩ : ∃ q, q = l.length := ⟨_, rfl⟩; have HN := hide hm; rw [<- hm] at HR hn ⊢; clear hm; have hm1 : (m : Int) <= 100000 := by omega
 have hb0 := (Below.refl w.heap.size w).alloc (Nat.le_refl _) (.cells zeroO.toArray 150); have hx0 := heap_alloc_new w (.cells zeroO.toArray 150); have HB0 := hide hb0; go_enter Tryz.func115, Tryz.ntmps115; go_wp2_with fail; have HX0 : Hid ((w.alloc (.cells zeroO.toArray 150)).heap[w.heap.size]? = some (.cells zeroO.toArray 150 (0, 0))) := hide hx0; simp only [zeroO, List.toArray] at HX0 HB0; generalize w.alloc (.cells #[.string ⟨#[]⟩, .string ⟨#[]⟩, .bool false, .bool false, .slice none 0 0, .int .i64 0, .string ⟨#[]⟩, .int .i64 0, .slice none 0 0, .slice none 0 0] 150) = wa at *
 clear hb0 hx0
 go_loopw [10] (fun i wr => ∃ k : Nat, k <= m /\ i = .int .i64 k /\ Hid (Below wa.heap.size wa wr) /\ Hid ((l.take k).any (fun o => o.2.name == n) = false)) (fun i _ => m - (intOf i).toNat)
 case atStart => exact ⟨0, Nat.zero_le _, rfl, hide (Below.refl _ _), hide (by simp)⟩
 case round =>
  obtain ⟨k, hk, rfl, HB, HNo⟩ := hrel; have HX1 := hide ((HB.out.block _ (Ow.lt_of_blk HX0.out)).trans HX0.out); have HBw := hide (HB0.out.trans (HB.out.mono HB0.out.size)); by_cases hlt : k < m
  · obtain ⟨x, hx⟩ : ∃ x, l[k]? = some x := ⟨l[k]'(by rw [<- HN.out]; exact hlt), List.getElem?_eq_getElem _⟩
    obtain ⟨g, o, rfl, ys, wf, hc⟩ := Ow.row_at' HR.out hx; have HWf := hide wf; obtain ⟨_, rfl, vp, vc, vk, rfl, x1, x2, x3, _⟩ := wf; obtain ⟨va1, vd1, rfl, _⟩ := x1.len; obtain ⟨va2, vd2, rfl, _⟩ := x2.len; obtain ⟨va3, vd3, rfl, _⟩ := x3.len; clear x1 x2 x3; have HY := hide (fun hp => Ly.find_take (p := fun o : Pp.Bs × Pp.XMth => o.2.name == n) HNo.out hx hp); have HZ := hide (fun hp => Ly.any_take (p := fun o : Pp.Bs × Pp.XMth => o.2.name == n) HNo.out hx hp); have HE := hide (fun hk => Ly.find_end (p := fun o : Pp.Bs × Pp.XMth => o.2.name == n) (k := k) HNo.out hk); clear hx HNo; have r0 := hc wr HBw.out 0 _ rfl; have r1 := hc wr HBw.out 1 _ rfl; have r2 := hc wr HBw.out 2 _ rfl; have r3 := hc wr HBw.out 3 _ rfl; have r4 := hc wr HBw.out 4 _ rfl; have r5 := hc wr HBw.out 5 _ rfl; have r6 := hc wr HBw.out 6 _ rfl; have r7 := hc wr HBw.out 7 _ rfl; have r8 := hc wr HBw.out 8 _ rfl; have r9 := hc wr HBw.out 9 _ rfl; rw [Nat.add_zero] at r0; obtain ⟨ow, mth⟩ := x; dsimp only at r0 r1 r2 r3 r4 r5 r6 r7 r8 r9 HY HZ HWf; simp only [mthXL] at HWf; clear hc; have hlt' : (k : Int) < (m : Int) := by omega
    obtain ⟨mb, hmb⟩ : ∃ q : ByteArray, q = ⟨mth.name.toArray⟩ := ⟨_, rfl⟩; obtain ⟨mr, hmr⟩ : ∃ q : ByteArray, q = ⟨mth.ret.name.toArray⟩ := ⟨_, rfl⟩; rw [<- hmb] at r1 HWf; rw [<- hmr] at r6 HWf; clear hmr; obtain ⟨ms, hms⟩ : ∃ q, q = mth.stat := ⟨_, rfl⟩; obtain ⟨ma, hma⟩ : ∃ q, q = mth.abst := ⟨_, rfl⟩; obtain ⟨mk, hmk⟩ : ∃ q, q = mth.ret.kind := ⟨_, rfl⟩; obtain ⟨ml, hml⟩ : ∃ q, q = mth.locals := ⟨_, rfl⟩; obtain ⟨n1, hn1⟩ : ∃ q, q = mth.params.length := ⟨_, rfl⟩; obtain ⟨n2, hn2⟩ : ∃ q, q = mth.code.length := ⟨_, rfl⟩; obtain ⟨n3, hn3⟩ : ∃ q, q = mth.catches.length := ⟨_, rfl⟩; rw [<- hms] at r2 HWf; rw [<- hma] at r3 HWf; rw [<- hn1] at r4 HWf; rw [<- hmk] at r5 HWf; rw [<- hml] at r7 HWf; rw [<- hn2] at r8 HWf; rw [<- hn3] at r9 HWf; clear hms hma hmk hml hn1 hn2 hn3; have hA : Below wr.heap.size wr (wr.alloc (.cells #[.string ⟨ow.toArray⟩, .string mb, .bool ms, .bool ma, .slice va1 n1 vd1, .int .i64 mk, .string mr, .int .i64 ml, .slice va2 n2 vd2, .slice va3 n3 vd3] 150)) := (Below.refl _ _).alloc (Nat.le_refl _) _; have HBA := hide (HB.out.trans (hA.mono HB.out.size)); have HBwA := hide (HBw.out.trans (hA.mono HBw.out.size)); have HX2 := hide ((hA.block _ (Ow.lt_of_blk HX1.out)).trans HX1.out); have hbx := heap_alloc_new wr (.cells #[.string ⟨ow.toArray⟩, .string mb, .bool ms, .bool ma, .slice va1 n1 vd1, .int .i64 mk, .string mr, .int .i64 ml, .slice va2 n2 vd2, .slice va3 n3 vd3] 150); have b0 := cell_box hbx 0; have b1 := cell_box hbx 1; have b2 := cell_box hbx 2; have b3 := cell_box hbx 3; have b4 := cell_box hbx 4; have b5 := cell_box hbx 5; have b6 := cell_box hbx 6; have b7 := cell_box hbx 7; have b8 := cell_box hbx 8; have b9 := cell_box hbx 9; clear hA hbx; by_cases hb : mth.name = n
    · have HF := hide (HY.out (by simp [hb]))
      rw [hb] at hmb; subst hmb; clear hb HY HZ HE; have f0 := Ow.fzl_blk HX2.out 0; have f1 := Ow.fzl_blk HX2.out 1; have f2 := Ow.fzl_blk HX2.out 2; have f3 := Ow.fzl_blk HX2.out 3; have f4 := Ow.fzl_blk HX2.out 4; have f5 := Ow.fzl_blk HX2.out 5; have f6 := Ow.fzl_blk HX2.out 6; have f7 := Ow.fzl_blk HX2.out 7; have f8 := Ow.fzl_blk HX2.out 8; have f9 := Ow.fzl_blk HX2.out 9; have q0 := cell_box HX2.out 0; have q1 := cell_box HX2.out 1; have q2 := cell_box HX2.out 2; have q3 := cell_box HX2.out 3; have q4 := cell_box HX2.out 4; have q5 := cell_box HX2.out 5; have q6 := cell_box HX2.out 6; have q7 := cell_box HX2.out 7; have q8 := cell_box HX2.out 8; have q9 := cell_box HX2.out 9; go_wp2_with fail; refine bodyPost_ret (v := .tuple #[.agg #[.string ⟨ow.toArray⟩, .string ⟨n.toArray⟩, .bool ms, .bool ma, .slice va1 n1 vd1, .int .i64 mk, .string mr, .int .i64 ml, .slice va2 n2 vd2, .slice va3 n3 vd3], .bool true]) (by simp [results, Tryz.results115, go_sem, *]) rfl ?_
      refine ⟨FoundO.yes HF.out HWf.out, ?_⟩
      iterate 10 refine put_at ?_ _ _
      exact HBwA.out
    · have hne : (mth.name == n) = false := by simp [hb]
      have HZ' := hide (HZ.out hne); clear hb HY HZ HE HX2; subst hmb; generalize mth.name = y0 at *
      go_wp2_with fail
      go_roundw
      case rel => exact ⟨k + 1, by omega, by go_num, HBA, HZ'⟩
      case measure => simp [intOf]; omega
  · have HF := hide (Ly.find_end (p := fun o : Pp.Bs × Pp.XMth => o.2.name == n) HNo.out (by rw [<- HN.out]; omega))
    have hnl : ¬ ((k : Int) < (m : Int)) := by omega
    clear HNo; have f0 := Ow.fzl_blk HX1.out 0; have f1 := Ow.fzl_blk HX1.out 1; have f2 := Ow.fzl_blk HX1.out 2; have f3 := Ow.fzl_blk HX1.out 3; have f4 := Ow.fzl_blk HX1.out 4; have f5 := Ow.fzl_blk HX1.out 5; have f6 := Ow.fzl_blk HX1.out 6; have f7 := Ow.fzl_blk HX1.out 7; have f8 := Ow.fzl_blk HX1.out 8; have f9 := Ow.fzl_blk HX1.out 9; have q0 := cell_box HX1.out 0; have q1 := cell_box HX1.out 1; have q2 := cell_box HX1.out 2; have q3 := cell_box HX1.out 3; have q4 := cell_box HX1.out 4; have q5 := cell_box HX1.out 5; have q6 := cell_box HX1.out 6; have q7 := cell_box HX1.out 7; have q8 := cell_box HX1.out 8; have q9 := cell_box HX1.out 9; go_wp2_with fail; refine bodyPost_ret (v := .tuple #[.agg zeroO.toArray, .bool false]) (by simp [results, Tryz.results115, go_sem, zeroO, *]) rfl ?_
    refine ⟨FoundO.no HF.out, ?_⟩
    iterate 10 refine put_at ?_ _ _
    exact HBw.out
end Go.Proofs.YtbbbnciejmdpfabGreatDoor
