/- What the laws of this seat lean on: 7 texts. -/
import Derived.Test.YtjlappamkfjlkabGreatDoorPkAj
import Derived.Test.YtjlappamkfjlkabGreatDoorPkAe
import Derived.Test.YtjlappamkfjlkabGreatDoorPkAa
import Derived.BigQuiet
import Derived.Deep.QuietTactic
import Derived.WalkSmall
set_option maxRecDepth 100000
set_option maxHeartbeats 64000000
set_option linter.unusedVariables false
set_option linter.unusedSimpArgs false
namespace Go.Proofs.YtjlappamkfjlkabGreatDoor
open Go.RowKit
namespace Ly
def fOk (f : Pp.Fld) : Bool := f.ty.kind != 1
theorem formed_head {c : Pp.XCls} (h : (c.iface && decide (0 < c.fields.length)) = true) : formedB c = false := by unfold formedB fldsOk; rw [h]; rfl
theorem formed_fld {c : Pp.XCls} (h : c.fields.all fOk = false) : formedB c = false := by
 unfold formedB fldsOk; show (_ && c.fields.all fOk && _) = false; rw [h]; simp
theorem formed_mth {c : Pp.XCls} (h : c.methods.all (mthOk c) = false) : formedB c = false := by unfold formedB; rw [h]; simp
theorem formed_ok {c : Pp.XCls} (h1 : (c.iface && decide (0 < c.fields.length)) = false) (h2 : c.fields.all fOk = true) (h3 : c.methods.all (mthOk c) = true) : formedB c = true := by
 unfold formedB fldsOk; show (_ && c.fields.all fOk && _) = true; rw [h1, h2, h3]
 rfl
theorem void_not (ps : List Pp.Ty) : (ps.all fun t => t.kind != 1) = !(ps.any fun t => t.kind == 1) := by
 induction ps with
 | nil => rfl
 | cons a l ih => rw [List.all_cons, List.any_cons, ih, Bool.not_or]; rfl
end Ly
theorem formed_any (c : Pp.XCls) (cs : List Value) (w : World) (h : ClsX w c cs) (hf : c.fields.length <= 100) (hm : c.methods.length <= 100) (hp : ∀ m ∈ c.methods, m.params.length <= 100) :
 Calls Tryz.prog 42 #[.agg cs.toArray] w fun e w' => e = .returned (.bool (Ly.formedB c)) /\ Below w.heap.size w w' := by
 obtain ⟨ia, ic, fa, fc, ma, mc, rfl, x1, x2, x3⟩ := cls_open h; have HRf := hide x2; have HRm := hide x3; have HPm := hide hp; clear x1 x2 x3 h hp; obtain ⟨r, hr⟩ : ∃ r, r = Ly.formedB c := ⟨_, rfl⟩; have HR := hide hr; rw [<- hr]; clear hr; obtain ⟨nf, hnf⟩ : ∃ q, q = c.fields.length := ⟨_, rfl⟩; obtain ⟨nm, hnm⟩ : ∃ q, q = c.methods.length := ⟨_, rfl⟩; obtain ⟨fi, hfi⟩ : ∃ q, q = c.iface := ⟨_, rfl⟩; have HNf := hide hnf; have HNm := hide hnm; have HFi := hide hfi; rw [<- hnf] at HRf hf ⊢; rw [<- hnm] at HRm hm ⊢; rw [<- hfi]; clear hnf hnm hfi; have hf1 : (nf : Int) <= 100 := by omega
 have hm1 : (nm : Int) <= 100 := by omega
 obtain ⟨NB, hNB⟩ : ∃ q : ByteArray, q = ⟨c.name.toArray⟩ := ⟨_, rfl⟩; rw [<- hNB]; clear hNB; generalize (⟨c.super.toArray⟩ : ByteArray) = SB; generalize c.ifaces.length = ni; have HB0 := hide ((Below.refl w.heap.size w).alloc (Nat.le_refl _) (.cells #[.string NB, .bool fi, .string SB, .slice ia ni ic, .slice fa nf fc, .slice ma nm mc] 36)); have HX0 := hide (heap_alloc_new w (.cells #[.string NB, .bool fi, .string SB, .slice ia ni ic, .slice fa nf fc, .slice ma nm mc] 36)); by_cases hh : (fi && decide (0 < nf)) = true
 · have HF : Hid (r = false) := hide (HR.out.trans (Ly.formed_head (by rw [<- HFi.out, <- HNf.out]; exact hh)))
   simp only [Bool.and_eq_true, decide_eq_true_eq] at hh; obtain ⟨h1, h2⟩ := hh; subst h1; have h2' : (0 : Int) < (nf : Int) := by omega
   go_enter Tryz.func42, Tryz.ntmps42; go_wp2_with fail; go_ret; exact ⟨by rw [HF.out]; rfl, HB0.out⟩
 have HH : Hid ((c.iface && decide (0 < c.fields.length)) = false) := hide (by rw [<- HFi.out, <- HNf.out]; simpa using hh)
 have hh2 : fi = true -> nf = 0 := by
  intro h1; rw [h1] at hh; simp at hh; omega
 clear hh; cases fi with
 | false =>
   go_enter Tryz.func42, Tryz.ntmps42; go_wp2_with fail; generalize w.alloc (.cells #[.string NB, .bool false, .string SB, .slice ia ni ic, .slice fa nf fc, .slice ma nm mc] 36) = wa at *
   go_loopw [18] (fun i wr => ∃ k : Nat, k <= nf /\ i = .int .i64 k /\ Hid (Below wa.heap.size wa wr) /\ Hid ((c.fields.take k).all Ly.fOk = true)) (fun i _ => nf - (intOf i).toNat)
   case atStart => exact ⟨0, Nat.zero_le _, rfl, hide (Below.refl _ _), hide (by simp)⟩
   case round =>
    obtain ⟨k, hk, rfl, HB, HA⟩ := hrel; have HBw := hide (HB0.out.trans (HB.out.mono HB0.out.size)); by_cases hlt : k < nf
    · obtain ⟨x, hx⟩ : ∃ x, c.fields[k]? = some x := ⟨c.fields[k]'(by rw [<- HNf.out]; exact hlt), List.getElem?_eq_getElem _⟩
      obtain ⟨g, o, rfl, ys, wf, hc⟩ := Ow.row_at' HRf.out hx; have hG := hide (hc wr HBw.out); have HS := hide (fun hp => Ly.formed_fld (Ly.all_stop (p := Ly.fOk) hx hp)); have HZ := hide (fun hp => Ly.all_take (p := Ly.fOk) HA.out hx hp); clear hc hx HA; obtain ⟨rfl, hl1, hl2⟩ := wf; have HV := hide (fun wx => isVoid_any x.ty [.int .i64 x.ty.kind, .string ⟨x.ty.name.toArray⟩] wx ⟨rfl, hl2⟩); obtain ⟨px, hpx⟩ : ∃ p, p = (x.ty.kind == 1) := ⟨_, rfl⟩; rw [<- hpx] at HV; have HNo : Hid (px = true -> r = false) := hide fun h => HR.out.trans (HS.out (by unfold Ly.fOk; rw [bne, <- hpx, h]; rfl))
      have HYe : Hid (px = false -> (c.fields.take (k + 1)).all Ly.fOk = true) := hide fun h => HZ.out (by unfold Ly.fOk; rw [bne, <- hpx, h]; rfl)
      clear hl1 hl2 HS HZ hpx; have r0 := hG.out 0 _ rfl; have r1 := hG.out 1 _ rfl; have r2 := hG.out 2 _ rfl; have r3 := hG.out 3 _ rfl; rw [Nat.add_zero] at r0; clear hG; have hlt' : (k : Int) < (nf : Int) := by omega
      have hA : Below wr.heap.size wr (wr.alloc (.cells #[.string ⟨x.name.toArray⟩, .int .i64 x.ty.kind, .string ⟨x.ty.name.toArray⟩, .bool x.stat] 88)) := (Below.refl _ _).alloc (Nat.le_refl _) _; have HBA := hide (HB.out.trans (hA.mono HB.out.size)); have hbx := heap_alloc_new wr (.cells #[.string ⟨x.name.toArray⟩, .int .i64 x.ty.kind, .string ⟨x.ty.name.toArray⟩, .bool x.stat] 88); have b0 := cell_box hbx 0; have b1 := cell_box hbx 1; have b2 := cell_box hbx 2; have b3 := cell_box hbx 3; clear hA hbx; go_wp2_with fail; refine (HV.out _).mono ?_; rintro e w5 ⟨rfl, hb5⟩; have HB5 := hide (HBA.out.trans (hb5.mono HBA.out.size)); clear HV hb5; cases px with
      | true =>
        have HF := hide (HNo.out rfl); clear HNo HYe; go_wp2_with fail; go_ret; exact ⟨by rw [HF.out]; rfl, HB0.out.trans (HB5.out.mono HB0.out.size)⟩
      | false =>
        have HY' := hide (HYe.out rfl); clear HNo HYe; go_wp2_with fail
        go_roundw
        case rel => exact ⟨k + 1, by omega, by go_num, HB5, HY'⟩
        case measure => simp [intOf]; omega
    · have HAll : Hid (c.fields.all Ly.fOk = true) := hide (Ly.all_end HA.out (by rw [<- HNf.out]; omega))
      have hnl : ¬ ((k : Int) < (nf : Int)) := by omega
      have hX1 := (HB.out.block _ (Ow.lt_of_blk HX0.out)).trans HX0.out; have c5 := cell_box hX1 5; clear hX1 HA; go_wp2_with fail
      go_loopw [29] (fun i wr => ∃ k : Nat, k <= nm /\ i = .int .i64 k /\ Hid (Below wa.heap.size wa wr) /\ Hid ((c.methods.take k).all (Ly.mthOk c) = true)) (fun i _ => nm - (intOf i).toNat)
      case atStart => exact ⟨0, Nat.zero_le _, rfl, HB, hide (by simp)⟩
      case round =>
       clear HB HBw c5; obtain ⟨k, hk, rfl, HB, HA⟩ := hrel; have HBw := hide (HB0.out.trans (HB.out.mono HB0.out.size)); by_cases hlt : k < nm
       · obtain ⟨m, hx⟩ : ∃ x, c.methods[k]? = some x := ⟨c.methods[k]'(by rw [<- HNm.out]; exact hlt), List.getElem?_eq_getElem _⟩
         obtain ⟨g, o, rfl, ys, wf, hc⟩ := Ow.row_at' HRm.out hx; have hG := hide (hc wr HBw.out); have HS := hide (fun hp => HR.out.trans (Ly.formed_mth (Ly.all_stop (p := Ly.mthOk c) hx hp))); have HZ := hide (fun hp => Ly.all_take (p := Ly.mthOk c) HA.out hx hp); have hmp := HPm.out m (List.mem_of_getElem? hx); clear hc hx HA; obtain ⟨vp, vc, vk, rfl, z1, z2, z3, _⟩ := wf; have HV := hide (fun wx (hb : Below wa.heap.size wa wx) => anyVoid_any m.params vp wx (z1.on (HB0.out.trans (hb.mono HB0.out.size)) fun _ _ h => h) (by omega))
         obtain ⟨ap, cp, rfl, _⟩ := z1.len; obtain ⟨ac, cc, rfl, _⟩ := z2.len; obtain ⟨ak, ck, rfl, _⟩ := z3.len; clear z1 z2 z3; obtain ⟨px, hpx⟩ : ∃ p, p = (m.params.any fun t => t.kind == 1) := ⟨_, rfl⟩; rw [<- hpx] at HV
         have hok : Ly.mthOk c m = (m.abst == false && (!(false && m.stat) && !px)) := by
          unfold Ly.mthOk; rw [Ly.void_not, <- hpx, <- HFi.out]
         have r0 := hG.out 0 _ rfl; have r1 := hG.out 1 _ rfl; have r2 := hG.out 2 _ rfl; have r3 := hG.out 3 _ rfl; have r4 := hG.out 4 _ rfl; have r5 := hG.out 5 _ rfl; have r6 := hG.out 6 _ rfl; have r7 := hG.out 7 _ rfl; have r8 := hG.out 8 _ rfl; rw [Nat.add_zero] at r0; obtain ⟨ms, hms⟩ : ∃ q, q = m.stat := ⟨_, rfl⟩; obtain ⟨mb, hmb⟩ : ∃ q, q = m.abst := ⟨_, rfl⟩; rw [<- hms, <- hmb] at hok; rw [<- hms] at r1; rw [<- hmb] at r2; have HNo : Hid ((mb == false && (!(false && ms) && !px)) = false -> r = false) := hide fun h => HS.out (hok.trans h); have HYe : Hid ((mb == false && (!(false && ms) && !px)) = true -> (c.methods.take (k + 1)).all (Ly.mthOk c) = true) := hide fun h => HZ.out (hok.trans h); clear hG HS HZ hpx hok hms hmb; have hlt' : (k : Int) < (nm : Int) := by omega
         have hA : Below wr.heap.size wr (wr.alloc (.cells #[.string ⟨m.name.toArray⟩, .bool ms, .bool mb, .slice ap m.params.length cp, .int .i64 m.ret.kind, .string ⟨m.ret.name.toArray⟩, .int .i64 m.locals, .slice ac m.code.length cc, .slice ak m.catches.length ck] 29)) := (Below.refl _ _).alloc (Nat.le_refl _) _; have HBA := hide (HB.out.trans (hA.mono HB.out.size)); have hbx := heap_alloc_new wr (.cells #[.string ⟨m.name.toArray⟩, .bool ms, .bool mb, .slice ap m.params.length cp, .int .i64 m.ret.kind, .string ⟨m.ret.name.toArray⟩, .int .i64 m.locals, .slice ac m.code.length cc, .slice ak m.catches.length ck] 29); have b1 := cell_box hbx 1; have b2 := cell_box hbx 2; have b3 := cell_box hbx 3; have hX1 := (HBA.out.block _ (Ow.lt_of_blk HX0.out)).trans HX0.out; have c1 := cell_box hX1 1; clear hA hbx hX1; cases mb with
         | true =>
           have HF : Hid (r = false) := hide (HNo.out (by simp))
           clear HNo HYe HV; go_wp2_with fail; go_ret; exact ⟨by rw [HF.out]; rfl, HB0.out.trans (HBA.out.mono HB0.out.size)⟩
         | false =>
           have HNo' : Hid (px = true -> r = false) := hide fun h => HNo.out (by simp [h])
           have HYe' : Hid (px = false -> (c.methods.take (k + 1)).all (Ly.mthOk c) = true) := hide fun h => HYe.out (by simp [h])
           clear HNo HYe; go_wp2_with fail; refine (HV.out _ HBA.out).mono ?_; rintro e w5 ⟨rfl, hb5⟩; have HB5 := hide (HBA.out.trans (hb5.mono HBA.out.size)); clear HV hb5; cases px with
           | true =>
             have HF := hide (HNo'.out rfl); clear HNo' HYe'; go_wp2_with fail; go_ret; exact ⟨by rw [HF.out]; rfl, HB0.out.trans (HB5.out.mono HB0.out.size)⟩
           | false =>
             have HY' := hide (HYe'.out rfl); clear HNo' HYe'; go_wp2_with fail
             go_roundw
             case rel => exact ⟨k + 1, by omega, by go_num, HB5, HY'⟩
             case measure => simp [intOf]; omega
       · have HF := hide (HR.out.trans (Ly.formed_ok HH.out HAll.out (Ly.all_end HA.out (by rw [<- HNm.out]; omega))))
         have hnl : ¬ ((k : Int) < (nm : Int)) := by omega
         clear HA; go_wp2_with fail; go_ret; exact ⟨by rw [HF.out]; rfl, HBw.out⟩
 | true =>
   have h0 := hh2 rfl; subst h0; have hn0 : ¬ (0 : Int) < ((0 : Nat) : Int) := by omega
   go_enter Tryz.func42, Tryz.ntmps42; go_wp2_with fail; generalize w.alloc (.cells #[.string NB, .bool true, .string SB, .slice ia ni ic, .slice fa 0 fc, .slice ma nm mc] 36) = wa at *
   go_loopw [18] (fun i wr => ∃ k : Nat, k <= 0 /\ i = .int .i64 k /\ Hid (Below wa.heap.size wa wr) /\ Hid ((c.fields.take k).all Ly.fOk = true)) (fun i _ => 0 - (intOf i).toNat)
   case atStart => exact ⟨0, Nat.zero_le _, rfl, hide (Below.refl _ _), hide (by simp)⟩
   case round =>
    obtain ⟨k, hk, rfl, HB, HA⟩ := hrel; have HBw := hide (HB0.out.trans (HB.out.mono HB0.out.size)); by_cases hlt : k < 0
    · exact absurd hlt (by omega)
    · have HAll : Hid (c.fields.all Ly.fOk = true) := hide (Ly.all_end HA.out (by rw [<- HNf.out]; omega))
      have hnl : ¬ ((k : Int) < ((0 : Nat) : Int)) := by omega
      have hX1 := (HB.out.block _ (Ow.lt_of_blk HX0.out)).trans HX0.out; have c5 := cell_box hX1 5; clear hX1 HA; go_wp2_with fail
      go_loopw [29] (fun i wr => ∃ k : Nat, k <= nm /\ i = .int .i64 k /\ Hid (Below wa.heap.size wa wr) /\ Hid ((c.methods.take k).all (Ly.mthOk c) = true)) (fun i _ => nm - (intOf i).toNat)
      case atStart => exact ⟨0, Nat.zero_le _, rfl, HB, hide (by simp)⟩
      case round =>
       clear HB HBw c5; obtain ⟨k, hk, rfl, HB, HA⟩ := hrel; have HBw := hide (HB0.out.trans (HB.out.mono HB0.out.size)); by_cases hlt : k < nm
       · obtain ⟨m, hx⟩ : ∃ x, c.methods[k]? = some x := ⟨c.methods[k]'(by rw [<- HNm.out]; exact hlt), List.getElem?_eq_getElem _⟩
         obtain ⟨g, o, rfl, ys, wf, hc⟩ := Ow.row_at' HRm.out hx; have hG := hide (hc wr HBw.out); have HS := hide (fun hp => HR.out.trans (Ly.formed_mth (Ly.all_stop (p := Ly.mthOk c) hx hp))); have HZ := hide (fun hp => Ly.all_take (p := Ly.mthOk c) HA.out hx hp); have hmp := HPm.out m (List.mem_of_getElem? hx); clear hc hx HA; obtain ⟨vp, vc, vk, rfl, z1, z2, z3, _⟩ := wf; have HV := hide (fun wx (hb : Below wa.heap.size wa wx) => anyVoid_any m.params vp wx (z1.on (HB0.out.trans (hb.mono HB0.out.size)) fun _ _ h => h) (by omega))
         obtain ⟨ap, cp, rfl, _⟩ := z1.len; obtain ⟨ac, cc, rfl, _⟩ := z2.len; obtain ⟨ak, ck, rfl, _⟩ := z3.len; clear z1 z2 z3; obtain ⟨px, hpx⟩ : ∃ p, p = (m.params.any fun t => t.kind == 1) := ⟨_, rfl⟩; rw [<- hpx] at HV
         have hok : Ly.mthOk c m = (m.abst == true && (!(true && m.stat) && !px)) := by
          unfold Ly.mthOk; rw [Ly.void_not, <- hpx, <- HFi.out]
         have r0 := hG.out 0 _ rfl; have r1 := hG.out 1 _ rfl; have r2 := hG.out 2 _ rfl; have r3 := hG.out 3 _ rfl; have r4 := hG.out 4 _ rfl; have r5 := hG.out 5 _ rfl; have r6 := hG.out 6 _ rfl; have r7 := hG.out 7 _ rfl; have r8 := hG.out 8 _ rfl; rw [Nat.add_zero] at r0; obtain ⟨ms, hms⟩ : ∃ q, q = m.stat := ⟨_, rfl⟩; obtain ⟨mb, hmb⟩ : ∃ q, q = m.abst := ⟨_, rfl⟩; rw [<- hms, <- hmb] at hok; rw [<- hms] at r1; rw [<- hmb] at r2; have HNo : Hid ((mb == true && (!(true && ms) && !px)) = false -> r = false) := hide fun h => HS.out (hok.trans h); have HYe : Hid ((mb == true && (!(true && ms) && !px)) = true -> (c.methods.take (k + 1)).all (Ly.mthOk c) = true) := hide fun h => HZ.out (hok.trans h); clear hG HS HZ hpx hok hms hmb; have hlt' : (k : Int) < (nm : Int) := by omega
         have hA : Below wr.heap.size wr (wr.alloc (.cells #[.string ⟨m.name.toArray⟩, .bool ms, .bool mb, .slice ap m.params.length cp, .int .i64 m.ret.kind, .string ⟨m.ret.name.toArray⟩, .int .i64 m.locals, .slice ac m.code.length cc, .slice ak m.catches.length ck] 29)) := (Below.refl _ _).alloc (Nat.le_refl _) _; have HBA := hide (HB.out.trans (hA.mono HB.out.size)); have hbx := heap_alloc_new wr (.cells #[.string ⟨m.name.toArray⟩, .bool ms, .bool mb, .slice ap m.params.length cp, .int .i64 m.ret.kind, .string ⟨m.ret.name.toArray⟩, .int .i64 m.locals, .slice ac m.code.length cc, .slice ak m.catches.length ck] 29); have b1 := cell_box hbx 1; have b2 := cell_box hbx 2; have b3 := cell_box hbx 3; have hX1 := (HBA.out.block _ (Ow.lt_of_blk HX0.out)).trans HX0.out; have c1 := cell_box hX1 1; clear hA hbx hX1; cases mb with
         | false =>
           have HF : Hid (r = false) := hide (HNo.out (by simp))
           clear HNo HYe HV; go_wp2_with fail; go_ret; exact ⟨by rw [HF.out]; rfl, HB0.out.trans (HBA.out.mono HB0.out.size)⟩
         | true =>
           cases ms with
           | true =>
             have HF : Hid (r = false) := hide (HNo.out (by simp))
             clear HNo HYe HV; go_wp2_with fail; go_ret; exact ⟨by rw [HF.out]; rfl, HB0.out.trans (HBA.out.mono HB0.out.size)⟩
           | false =>
             have HNo' : Hid (px = true -> r = false) := hide fun h => HNo.out (by simp [h])
             have HYe' : Hid (px = false -> (c.methods.take (k + 1)).all (Ly.mthOk c) = true) := hide fun h => HYe.out (by simp [h])
             clear HNo HYe; go_wp2_with fail; refine (HV.out _ HBA.out).mono ?_; rintro e w5 ⟨rfl, hb5⟩; have HB5 := hide (HBA.out.trans (hb5.mono HBA.out.size)); clear HV hb5; cases px with
             | true =>
               have HF := hide (HNo'.out rfl); clear HNo' HYe'; go_wp2_with fail; go_ret; exact ⟨by rw [HF.out]; rfl, HB0.out.trans (HB5.out.mono HB0.out.size)⟩
             | false =>
               have HY' := hide (HYe'.out rfl); clear HNo' HYe'; go_wp2_with fail
               go_roundw
               case rel => exact ⟨k + 1, by omega, by go_num, HB5, HY'⟩
               case measure => simp [intOf]; omega
       · have HF := hide (HR.out.trans (Ly.formed_ok HH.out HAll.out (Ly.all_end HA.out (by rw [<- HNm.out]; omega))))
         have hnl : ¬ ((k : Int) < (nm : Int)) := by omega
         clear HA; go_wp2_with fail; go_ret; exact ⟨by rw [HF.out]; rfl, HBw.out⟩
theorem known_any (l : List Pp.XCls) (bs : List Nat) (nm : Nat -> Pp.Bs) (v : Value) (c : Pp.XCls) (cs : List Value) (w : World) (hr : RowX w 1 PtrX v bs) (hn : bs.length <= 1000) (hb : ∀ b ∈ bs, b < w.heap.size) (hc : ∀ b ∈ bs, w.cell? ⟨b, 0, none⟩ = some (.string ⟨(nm b).toArray⟩))
 (hk : ∀ n, (bs.find? fun b => nm b == n).isSome = (Hr.placeL l n).isSome)
 (h : ClsX w c cs) (hf : c.fields.length <= 100) (hm : c.methods.length <= 100) (hp : ∀ m ∈ c.methods, m.params.length <= 100) :
 Calls Tryz.prog 44 #[v, .agg cs.toArray] w fun e w' => e = .returned (.bool (Ly.knownB l c)) /\ Below w.heap.size w w' := by
 have HT := hide (fun wx (hb : Below w.heap.size w wx) => typesOf_any c cs wx (h.on hb) hf hm hp); have HF := hide (fun wx (hb2 : Below w.heap.size w wx) (n : Pp.Bs) => tfind_any bs nm v n wx (hr.on hb2 fun _ _ h => h) hn fun b hm => (hb2.cell (by exact hb b hm)).trans (hc b hm))
 have HK := hide hk
 have HLen : Hid ((Ly.typesL c).length <= 100000) := hide (by
  have := Ly.accM_len (c := c) (k := c.methods.length) hf hm hp
  rwa [Ly.accM_end (Nat.le_refl _)] at this)
 obtain ⟨va, vc, rfl, _⟩ := hr.len; obtain ⟨ia, ic, fa, fc, ma, mc, rfl, _⟩ := cls_open h; clear h hr hc hb hk hf hm hp; obtain ⟨r, hr⟩ : ∃ r, r = Ly.knownB l c := ⟨_, rfl⟩; have HR := hide hr; rw [<- hr]; clear hr; generalize (⟨c.name.toArray⟩ : ByteArray) = NB at *
 generalize (⟨c.super.toArray⟩ : ByteArray) = SB at *
 generalize c.iface = fi at *
 generalize c.ifaces.length = ni at *
 generalize c.fields.length = nf at *
 generalize c.methods.length = nm' at *
 generalize bs.length = nb at *
 have HB0 := hide ((Below.refl w.heap.size w).alloc (Nat.le_refl _) (.cells #[.string NB, .bool fi, .string SB, .slice ia ni ic, .slice fa nf fc, .slice ma nm' mc] 36)); go_enter Tryz.func44, Tryz.ntmps44; go_wp2_with fail; generalize w.alloc (.cells #[.string NB, .bool fi, .string SB, .slice ia ni ic, .slice fa nf fc, .slice ma nm' mc] 36) = wa at *
 refine (HT.out wa HB0.out).mono ?_; rintro e w1 ⟨vt, rfl, ho1, hb1⟩; have HB1 := hide (HB0.out.trans (hb1.mono HB0.out.size)); have hrow := ho1.row shp_ty fun _ _ h => h; obtain ⟨ta, tc, hvt, _⟩ := hrow.len; obtain ⟨nt, hnt⟩ : ∃ q, q = (Ly.typesL c).length := ⟨_, rfl⟩; rw [<- hnt] at hvt HLen; subst hvt; have HNt := hide hnt; have HRow := hide hrow; have hl1 : (nt : Int) <= 100000 := by have := HLen.out; omega
 clear hnt hrow ho1 hb1 HT HLen; go_wp2_with fail
 go_loopw [12] (fun i wr => ∃ k : Nat, k <= nt /\ i = .int .i64 k /\ Hid (Below w1.heap.size w1 wr) /\ Hid (((Ly.typesL c).take k).all (Ly.knownT l) = true)) (fun i _ => nt - (intOf i).toNat)
 case atStart => exact ⟨0, Nat.zero_le _, rfl, hide (Below.refl _ _), hide (by simp)⟩
 case round =>
  obtain ⟨k, hk, rfl, HB, HA⟩ := hrel; have HBw := hide (HB1.out.trans (HB.out.mono HB1.out.size)); by_cases hlt : k < nt
  · obtain ⟨x, hx⟩ : ∃ x, (Ly.typesL c)[k]? = some x := ⟨(Ly.typesL c)[k]'(by rw [<- HNt.out]; exact hlt), List.getElem?_eq_getElem _⟩
    obtain ⟨g, o, rfl, ys, wf, hc⟩ := Ow.row_at' HRow.out hx; have hG := hide (hc wr HB.out); have HS := hide (fun hp => HR.out.trans (Ly.all_stop (p := Ly.knownT l) hx hp)); have HZ := hide (fun hp => Ly.all_take (p := Ly.knownT l) HA.out hx hp); clear hc hx HA; obtain ⟨rfl, hl2⟩ := wf; clear hl2; have r0 := hG.out 0 _ rfl; have r1 := hG.out 1 _ rfl; rw [Nat.add_zero] at r0; clear hG; have hlt' : (k : Int) < (nt : Int) := by omega
    have hA : Below wr.heap.size wr (wr.alloc (.cells #[.int .i64 x.kind, .string ⟨x.name.toArray⟩] 23)) := (Below.refl _ _).alloc (Nat.le_refl _) _; have HBA := hide (HB.out.trans (hA.mono HB.out.size)); have HBwA := hide (HBw.out.trans (hA.mono HBw.out.size)); have hbx := heap_alloc_new wr (.cells #[.int .i64 x.kind, .string ⟨x.name.toArray⟩] 23); have b0 := cell_box hbx 0; have b1 := cell_box hbx 1; clear hA hbx; by_cases hn : x.name = []
    · have HZ' := hide (HZ.out (by unfold Ly.knownT; rw [hn]; rfl))
      rw [hn] at r1 b0 b1 HBA HBwA; clear HZ HS hn; go_wp2_with fail
      go_roundw
      case rel => exact ⟨k + 1, by omega, by go_num, HBA, HZ'⟩
      case measure => simp [intOf]; omega
    · have hne : (x.name == []) = false := by simpa using hn
      have hkt : Ly.knownT l x = (bs.find? fun b => nm b == x.name).isSome := by unfold Ly.knownT; rw [hne, HK.out]; rfl
      have HCall := hide (HF.out _ HBwA.out x.name); rw [hkt] at HS HZ; generalize (bs.find? fun b => nm b == x.name) = res at *
      clear hkt; cases res with
      | none =>
        have HF' := hide (HS.out rfl); clear HZ HS; simp only [Option.map_none, Option.isSome_none] at HCall; go_wp2_with fail; refine HCall.out.mono ?_; rintro e w5 ⟨rfl, hw5⟩; have hw5' := hw5.symm; subst hw5'; clear HCall hw5; go_wp2_with fail; go_ret; exact ⟨by rw [HF'.out]; rfl, HBwA.out⟩
      | some b =>
        have HZ' := hide (HZ.out rfl); clear HZ HS; simp only [Option.map_some, Option.isSome_some] at HCall; go_wp2_with fail; refine HCall.out.mono ?_; rintro e w5 ⟨rfl, hw5⟩; have hw5' := hw5.symm; subst hw5'; clear HCall hw5; go_wp2_with fail
        go_roundw
        case rel => exact ⟨k + 1, by omega, by go_num, HBA, HZ'⟩
        case measure => simp [intOf]; omega
  · have HF := hide (HR.out.trans (Ly.all_end HA.out (by rw [<- HNt.out]; omega)))
    have hnl : ¬ ((k : Int) < (nt : Int)) := by omega
    clear HA; go_wp2_with fail; go_ret; exact ⟨by rw [HF.out]; rfl, HBw.out⟩
theorem put_at {b : Nat} {w x : World} (h : Below b w x) (k : Nat) (u : Value) : Below b w (x.setCell ⟨b, k, none⟩ u) := h.setCell (p := ⟨b, k, none⟩) (Nat.le_refl _) u
def zeroO : List Value := [.string ⟨#[]⟩, .string ⟨#[]⟩, .bool false, .bool false, .slice none 0 0, .int .i64 0, .string ⟨#[]⟩, .int .i64 0, .slice none 0 0, .slice none 0 0]
def FoundO (w0 : World) (r : Option (Pp.Bs × Pp.XMth)) (e : Ending) : Prop := ∃ zs, e = .returned (.tuple #[.agg zs.toArray, .bool r.isSome]) /\ (∀ o, r = some o -> PMt w0 o zs) /\ (r = none -> zs = zeroO)
theorem FoundO.yes {w0 : World} {r : Option (Pp.Bs × Pp.XMth)} {o : Pp.Bs × Pp.XMth} {zs : List Value} (h : r = some o) (hp : PMt w0 o zs) : FoundO w0 r (.returned (.tuple #[.agg zs.toArray, .bool true])) := by
 subst h; exact ⟨zs, rfl, fun o' e => by injection e with e; exact e ▸ hp, fun e => by cases e⟩
theorem FoundO.no {w0 : World} {r : Option (Pp.Bs × Pp.XMth)} (h : r = none) : FoundO w0 r (.returned (.tuple #[.agg zeroO.toArray, .bool false])) := by
 subst h; exact ⟨zeroO, rfl, fun o' e => by (cases e), fun _ => rfl⟩
theorem findO_any (w0 : World) (l : List (Pp.Bs × Pp.XMth)) (v : Value) (n : Pp.Bs) (w : World) (h : RowX w 10 (PMt w0) v l) (hn : l.length <= 100000) :
 Calls Tryz.prog 20 #[v, .string ⟨n.toArray⟩] w fun e w' => FoundO w0 (l.find? fun o => o.2.name == n) e /\ Below w.heap.size w w' := by
 have HR := hide h; obtain ⟨a, c, rfl, _⟩ := h.len; clear h; obtain ⟨m, hm⟩ : ∃ q, q = l.length := ⟨_, rfl⟩; have HN := hide hm; rw [<- hm] at HR hn ⊢; clear hm; have hm1 : (m : Int) <= 100000 := by omega
 have hb0 := (Below.refl w.heap.size w).alloc (Nat.le_refl _) (.cells zeroO.toArray 55); have hx0 := heap_alloc_new w (.cells zeroO.toArray 55); have HB0 := hide hb0; go_enter Tryz.func20, Tryz.ntmps20; go_wp2_with fail; have HX0 : Hid ((w.alloc (.cells zeroO.toArray 55)).heap[w.heap.size]? = some (.cells zeroO.toArray 55 (0, 0))) := hide hx0; simp only [zeroO, List.toArray] at HX0 HB0; generalize w.alloc (.cells #[.string ⟨#[]⟩, .string ⟨#[]⟩, .bool false, .bool false, .slice none 0 0, .int .i64 0, .string ⟨#[]⟩, .int .i64 0, .slice none 0 0, .slice none 0 0] 55) = wa at *
 clear hb0 hx0
 go_loopw [10] (fun i wr => ∃ k : Nat, k <= m /\ i = .int .i64 k /\ Hid (Below wa.heap.size wa wr) /\ Hid ((l.take k).any (fun o => o.2.name == n) = false)) (fun i _ => m - (intOf i).toNat)
 case atStart => exact ⟨0, Nat.zero_le _, rfl, hide (Below.refl _ _), hide (by simp)⟩
 case round =>
  obtain ⟨k, hk, rfl, HB, HNo⟩ := hrel; have HX1 := hide ((HB.out.block _ (Ow.lt_of_blk HX0.out)).trans HX0.out); have HBw := hide (HB0.out.trans (HB.out.mono HB0.out.size)); by_cases hlt : k < m
  · obtain ⟨x, hx⟩ : ∃ x, l[k]? = some x := ⟨l[k]'(by rw [<- HN.out]; exact hlt), List.getElem?_eq_getElem _⟩
    obtain ⟨g, o, rfl, ys, wf, hc⟩ := Ow.row_at' HR.out hx; have HWf := hide wf; obtain ⟨_, rfl, vp, vc, vk, rfl, x1, x2, x3, _⟩ := wf; obtain ⟨va1, vd1, rfl, _⟩ := x1.len; obtain ⟨va2, vd2, rfl, _⟩ := x2.len; obtain ⟨va3, vd3, rfl, _⟩ := x3.len; clear x1 x2 x3; have HY := hide (fun hp => Ly.find_take (p := fun o : Pp.Bs × Pp.XMth => o.2.name == n) HNo.out hx hp); have HZ := hide (fun hp => Ly.any_take (p := fun o : Pp.Bs × Pp.XMth => o.2.name == n) HNo.out hx hp); have HE := hide (fun hk => Ly.find_end (p := fun o : Pp.Bs × Pp.XMth => o.2.name == n) (k := k) HNo.out hk); clear hx HNo; have r0 := hc wr HBw.out 0 _ rfl; have r1 := hc wr HBw.out 1 _ rfl; have r2 := hc wr HBw.out 2 _ rfl; have r3 := hc wr HBw.out 3 _ rfl; have r4 := hc wr HBw.out 4 _ rfl; have r5 := hc wr HBw.out 5 _ rfl; have r6 := hc wr HBw.out 6 _ rfl; have r7 := hc wr HBw.out 7 _ rfl; have r8 := hc wr HBw.out 8 _ rfl; have r9 := hc wr HBw.out 9 _ rfl; rw [Nat.add_zero] at r0; obtain ⟨ow, mth⟩ := x; dsimp only at r0 r1 r2 r3 r4 r5 r6 r7 r8 r9 HY HZ HWf; simp only [mthXL] at HWf; clear hc; have hlt' : (k : Int) < (m : Int) := by omega
    obtain ⟨mb, hmb⟩ : ∃ q : ByteArray, q = ⟨mth.name.toArray⟩ := ⟨_, rfl⟩; obtain ⟨mr, hmr⟩ : ∃ q : ByteArray, q = ⟨mth.ret.name.toArray⟩ := ⟨_, rfl⟩; rw [<- hmb] at r1 HWf; rw [<- hmr] at r6 HWf; clear hmr; obtain ⟨ms, hms⟩ : ∃ q, q = mth.stat := ⟨_, rfl⟩; obtain ⟨ma, hma⟩ : ∃ q, q = mth.abst := ⟨_, rfl⟩; obtain ⟨mk, hmk⟩ : ∃ q, q = mth.ret.kind := ⟨_, rfl⟩; obtain ⟨ml, hml⟩ : ∃ q, q = mth.locals := ⟨_, rfl⟩; obtain ⟨n1, hn1⟩ : ∃ q, q = mth.params.length := ⟨_, rfl⟩; obtain ⟨n2, hn2⟩ : ∃ q, q = mth.code.length := ⟨_, rfl⟩; obtain ⟨n3, hn3⟩ : ∃ q, q = mth.catches.length := ⟨_, rfl⟩; rw [<- hms] at r2 HWf; rw [<- hma] at r3 HWf; rw [<- hn1] at r4 HWf; rw [<- hmk] at r5 HWf; rw [<- hml] at r7 HWf; rw [<- hn2] at r8 HWf; rw [<- hn3] at r9 HWf; clear hms hma hmk hml hn1 hn2 hn3; have hA : Below wr.heap.size wr (wr.alloc (.cells #[.string ⟨ow.toArray⟩, .string mb, .bool ms, .bool ma, .slice va1 n1 vd1, .int .i64 mk, .string mr, .int .i64 ml, .slice va2 n2 vd2, .slice va3 n3 vd3] 55)) := (Below.refl _ _).alloc (Nat.le_refl _) _; have HBA := hide (HB.out.trans (hA.mono HB.out.size)); have HBwA := hide (HBw.out.trans (hA.mono HBw.out.size)); have HX2 := hide ((hA.block _ (Ow.lt_of_blk HX1.out)).trans HX1.out); have hbx := heap_alloc_new wr (.cells #[.string ⟨ow.toArray⟩, .string mb, .bool ms, .bool ma, .slice va1 n1 vd1, .int .i64 mk, .string mr, .int .i64 ml, .slice va2 n2 vd2, .slice va3 n3 vd3] 55); have b0 := cell_box hbx 0; have b1 := cell_box hbx 1; have b2 := cell_box hbx 2; have b3 := cell_box hbx 3; have b4 := cell_box hbx 4; have b5 := cell_box hbx 5; have b6 := cell_box hbx 6; have b7 := cell_box hbx 7; have b8 := cell_box hbx 8; have b9 := cell_box hbx 9; clear hA hbx; by_cases hb : mth.name = n
    · have HF := hide (HY.out (by simp [hb]))
      rw [hb] at hmb; subst hmb; clear hb HY HZ HE; have f0 := Ow.fzl_blk HX2.out 0; have f1 := Ow.fzl_blk HX2.out 1; have f2 := Ow.fzl_blk HX2.out 2; have f3 := Ow.fzl_blk HX2.out 3; have f4 := Ow.fzl_blk HX2.out 4; have f5 := Ow.fzl_blk HX2.out 5; have f6 := Ow.fzl_blk HX2.out 6; have f7 := Ow.fzl_blk HX2.out 7; have f8 := Ow.fzl_blk HX2.out 8; have f9 := Ow.fzl_blk HX2.out 9; have q0 := cell_box HX2.out 0; have q1 := cell_box HX2.out 1; have q2 := cell_box HX2.out 2; have q3 := cell_box HX2.out 3; have q4 := cell_box HX2.out 4; have q5 := cell_box HX2.out 5; have q6 := cell_box HX2.out 6; have q7 := cell_box HX2.out 7; have q8 := cell_box HX2.out 8; have q9 := cell_box HX2.out 9; go_wp2_with fail; refine bodyPost_ret (v := .tuple #[.agg #[.string ⟨ow.toArray⟩, .string ⟨n.toArray⟩, .bool ms, .bool ma, .slice va1 n1 vd1, .int .i64 mk, .string mr, .int .i64 ml, .slice va2 n2 vd2, .slice va3 n3 vd3], .bool true]) (by simp [results, Tryz.results20, go_sem, *]) rfl ?_
      refine ⟨FoundO.yes HF.out HWf.out, ?_⟩
      iterate 10 refine put_at ?_ _ _
      exact HBwA.out
    · have hne : (mth.name == n) = false := by simp [hb]
      have HZ' := hide (HZ.out hne); clear hb HY HZ HE HX2; subst hmb; generalize mth.name = y0 at *
      go_wp2_with fail
      go_roundw
      case rel => exact ⟨k + 1, by omega, by go_num, HBA, HZ'⟩
      case measure => simp [intOf]; omega
  · have HF := hide (Ly.find_end (p := fun o : Pp.Bs × Pp.XMth => o.2.name == n) HNo.out (by rw [<- HN.out]; omega))
    have hnl : ¬ ((k : Int) < (m : Int)) := by omega
    clear HNo; have f0 := Ow.fzl_blk HX1.out 0; have f1 := Ow.fzl_blk HX1.out 1; have f2 := Ow.fzl_blk HX1.out 2; have f3 := Ow.fzl_blk HX1.out 3; have f4 := Ow.fzl_blk HX1.out 4; have f5 := Ow.fzl_blk HX1.out 5; have f6 := Ow.fzl_blk HX1.out 6; have f7 := Ow.fzl_blk HX1.out 7; have f8 := Ow.fzl_blk HX1.out 8; have f9 := Ow.fzl_blk HX1.out 9; have q0 := cell_box HX1.out 0; have q1 := cell_box HX1.out 1; have q2 := cell_box HX1.out 2; have q3 := cell_box HX1.out 3; have q4 := cell_box HX1.out 4; have q5 := cell_box HX1.out 5; have q6 := cell_box HX1.out 6; have q7 := cell_box HX1.out 7; have q8 := cell_box HX1.out 8; have q9 := cell_box HX1.out 9; go_wp2_with fail; refine bodyPost_ret (v := .tuple #[.agg zeroO.toArray, .bool false]) (by simp [results, Tryz.results20, go_sem, zeroO, *]) rfl ?_
    refine ⟨FoundO.no HF.out, ?_⟩
    iterate 10 refine put_at ?_ _ _
    exact HBw.out
theorem fx_put {S : Nat -> Prop} {b : Nat} {w x : World} (h : Fx S w x) (hb : S b) (k : Nat) (u : Value) : Fx S w (x.setCell ⟨b, k, none⟩ u) := h.trans (Fx.set hb u)
theorem method_any (N : Net) (hG : N.Good) (hN : N.Small) (w0 : World) (x : Nat) (hT : N.T x) (n : Pp.Bs) (w : World) (A : Nat -> Prop) (h : Rdy N w0 w A) :
 Calls Tryz.prog 10 #[.pointer (some ⟨x, 0, none⟩), .string ⟨n.toArray⟩] w fun e w' => FoundO w0 (Ly.methP N x n) e /\ Rdy N w0 w' A /\ Fx N.T w w' := by
 have HM := hide (made_rdy N hG hN w0 x hT _ _ (h.alloc (.cells #[.string ⟨#[]⟩, .string ⟨#[]⟩, .bool false, .bool false, .slice none 0 0, .int .i64 0, .string ⟨#[]⟩, .int .i64 0, .slice none 0 0, .slice none 0 0] 55))); have HMt := hide (hN.mt x hT); have hfa : Fx (fun k => k = w.heap.size) w (w.alloc (.cells #[.string ⟨#[]⟩, .string ⟨#[]⟩, .bool false, .bool false, .slice none 0 0, .int .i64 0, .string ⟨#[]⟩, .int .i64 0, .slice none 0 0, .slice none 0 0] 55)) := Fx.alloc _ _ _; have HFa := hide hfa; have HX0 := hide (heap_alloc_new w (.cells #[.string ⟨#[]⟩, .string ⟨#[]⟩, .bool false, .bool false, .slice none 0 0, .int .i64 0, .string ⟨#[]⟩, .int .i64 0, .slice none 0 0, .slice none 0 0] 55)); have HnT : Hid (∀ k, N.T k -> k ≠ w.heap.size) := hide fun k hk e => by have := (h.2.2.1 k hk).2; omega
 have HLs : Hid (∀ k, k < w.heap.size -> k ≠ w.heap.size) := hide fun k hk e => by omega
 clear h hT hG hN hfa; go_enter Tryz.func10, Tryz.ntmps10; go_wp2_with fail; generalize w.alloc (.cells #[.string ⟨#[]⟩, .string ⟨#[]⟩, .bool false, .bool false, .slice none 0 0, .int .i64 0, .string ⟨#[]⟩, .int .i64 0, .slice none 0 0, .slice none 0 0] 55) = wa at *
 refine HM.out.mono ?_; rintro e w1 ⟨rfl, hr1, hf1, cs, hcs, vs, vm, va, _, e12, _, _, hm2, _⟩; have HR1 := hide hr1; have HF1 := hide hf1; have HX1 := hide ((hf1.blk _ (Ow.lt_of_blk HX0.out) fun hk => HnT.out _ hk rfl).trans HX0.out); have HFind := hide (findO_any w0 (N.mt x) vm n w1 hm2.row HMt.out); obtain ⟨ma, mc, rfl, _⟩ := hm2.row.len; have c12 := (cell_box hcs 12).trans e12; clear HM hr1 hf1 hcs e12 hm2 HX0; go_wp2_with fail; refine HFind.out.mono ?_; rintro e w2 ⟨⟨zs, rfl, hz1, hz2⟩, hb2⟩; have HR2 := hide (HR1.out.on hb2); have HF2 := hide (HF1.out.trans (Fx.below hb2)); have HX2 := hide ((hb2.block _ (Ow.lt_of_blk HX1.out)).trans HX1.out); have hres : (N.mt x).find? (fun o => o.2.name == n) = Ly.methP N x n := rfl; rw [hres] at hz1 hz2 ⊢
 have HEnd : Hid (∀ w3, Fx (fun k => k = w.heap.size) w2 w3 -> Rdy N w0 w3 A /\ Fx N.T w w3) := hide fun w3 hf => by
  refine ⟨(HR2.out.put hf fun k hk => .inr hk).less fun k hk => .inl hk, ((HFa.out.trans (hf.bel.size |> fun _ => Fx.refl _ _)).bel.trans (HF2.out.bel.trans hf.bel)), fun k hk hn => ?_⟩
  have h1 := HFa.out.blk k hk (HLs.out k hk); have h2 := HF2.out.blk k (Nat.lt_of_lt_of_le hk HFa.out.size) hn; have h3 := hf.blk k (Nat.lt_of_lt_of_le (Nat.lt_of_lt_of_le hk HFa.out.size) HF2.out.size) (HLs.out k hk); exact h3.trans (h2.trans h1)
 clear HR1 HF1 HX1 HFind hb2 hres c12 HR2 HF2 HFa HnT HLs; have HZ1 := hide hz1; have HZ2 := hide hz2; clear hz1 hz2; cases hm : Ly.methP N x n with
 | none =>
   have hzs := HZ2.out hm; subst hzs; clear HZ1 HZ2; simp only [zeroO, List.toArray]; have HMp := hide hm; clear hm; have f0 := Ow.fzl_blk HX2.out 0; have f1 := Ow.fzl_blk HX2.out 1; have f2 := Ow.fzl_blk HX2.out 2; have f3 := Ow.fzl_blk HX2.out 3; have f4 := Ow.fzl_blk HX2.out 4; have f5 := Ow.fzl_blk HX2.out 5; have f6 := Ow.fzl_blk HX2.out 6; have f7 := Ow.fzl_blk HX2.out 7; have f8 := Ow.fzl_blk HX2.out 8; have f9 := Ow.fzl_blk HX2.out 9; have q0 := cell_box HX2.out 0; have q1 := cell_box HX2.out 1; have q2 := cell_box HX2.out 2; have q3 := cell_box HX2.out 3; have q4 := cell_box HX2.out 4; have q5 := cell_box HX2.out 5; have q6 := cell_box HX2.out 6; have q7 := cell_box HX2.out 7; have q8 := cell_box HX2.out 8; have q9 := cell_box HX2.out 9; go_wp2_with fail; refine bodyPost_ret (v := .tuple #[.agg zeroO.toArray, .bool false]) (by simp [results, Tryz.results10, go_sem, zeroO, *]) rfl ?_
   refine ⟨FoundO.no HMp.out, HEnd.out _ ?_⟩
   iterate 10 refine fx_put (S := fun k => k = w.heap.size) ?_ rfl _ _
   exact Fx.refl _ _
 | some o =>
   have HO := hide (HZ1.out o hm); have ho := HZ1.out o hm; obtain ⟨_, rfl, vp, vc, vk, rfl, x1, x2, x3, _⟩ := ho; obtain ⟨va1, vd1, rfl, _⟩ := x1.len; obtain ⟨va2, vd2, rfl, _⟩ := x2.len; obtain ⟨va3, vd3, rfl, _⟩ := x3.len; clear x1 x2 x3 HZ1 HZ2; simp only [mthXL, List.toArray] at HO ⊢; have HMp := hide hm; clear hm; have f0 := Ow.fzl_blk HX2.out 0; have f1 := Ow.fzl_blk HX2.out 1; have f2 := Ow.fzl_blk HX2.out 2; have f3 := Ow.fzl_blk HX2.out 3; have f4 := Ow.fzl_blk HX2.out 4; have f5 := Ow.fzl_blk HX2.out 5; have f6 := Ow.fzl_blk HX2.out 6; have f7 := Ow.fzl_blk HX2.out 7; have f8 := Ow.fzl_blk HX2.out 8; have f9 := Ow.fzl_blk HX2.out 9; have q0 := cell_box HX2.out 0; have q1 := cell_box HX2.out 1; have q2 := cell_box HX2.out 2; have q3 := cell_box HX2.out 3; have q4 := cell_box HX2.out 4; have q5 := cell_box HX2.out 5; have q6 := cell_box HX2.out 6; have q7 := cell_box HX2.out 7; have q8 := cell_box HX2.out 8; have q9 := cell_box HX2.out 9; go_wp2_with fail; refine bodyPost_ret (v := .tuple #[.agg #[.string ⟨o.1.toArray⟩, .string ⟨o.2.name.toArray⟩, .bool o.2.stat, .bool o.2.abst, .slice va1 o.2.params.length vd1, .int .i64 o.2.ret.kind, .string ⟨o.2.ret.name.toArray⟩, .int .i64 o.2.locals, .slice va2 o.2.code.length vd2, .slice va3 o.2.catches.length vd3], .bool true]) (by simp [results, Tryz.results10, go_sem, *]) rfl ?_
   refine ⟨FoundO.yes HMp.out HO.out, HEnd.out _ ?_⟩
   iterate 10 refine fx_put (S := fun k => k = w.heap.size) ?_ rfl _ _
   exact Fx.refl _ _
theorem hasSlot_any (N : Net) (hG : N.Good) (hN : N.Small) (w0 : World) (x : Nat) (hT : N.T x) (n : Pp.Bs) (w : World) (A : Nat -> Prop) (h : Rdy N w0 w A) :
 Calls Tryz.prog 45 #[.pointer (some ⟨x, 0, none⟩), .string ⟨n.toArray⟩] w fun e w' => e = .returned (.bool (Ly.slotP N x n)) /\ Rdy N w0 w' A /\ Fx N.T w w' := by
 have hb0 := (Below.refl w.heap.size w).alloc (Nat.le_refl _) (.cells #[.string ⟨n.toArray⟩] 9); have HM := hide (made_rdy N hG hN w0 x hT _ _ (h.on hb0)); have HSl := hide (hN.sl x hT); have HFa := hide (Fx.below (S := N.T) hb0); have HX0 := hide (heap_alloc_new w (.cells #[.string ⟨n.toArray⟩] 9)); have HnT : Hid (∀ k, N.T k -> k ≠ w.heap.size) := hide fun k hk e => by have := (h.2.2.1 k hk).2; omega
 clear h hT hG hN hb0; have hmf : ∀ (fn : Fn) (first cap : Array Value) (w : World), (Instr.makeFunc fn first cap).run Tryz.prog w = .ok (.func fn first cap) w := fun _ _ _ _ => rfl
 go_enter Tryz.func45, Tryz.ntmps45; go_wp2_with fail; generalize w.alloc (.cells #[.string ⟨n.toArray⟩] 9) = wa at *
 refine HM.out.mono ?_; rintro e w1 ⟨rfl, hr1, hf1, cs, hcs, vs, vm, va, e11, _, _, hm1, _, _⟩; have HR1 := hide hr1; have HF1 := hide (HFa.out.trans hf1); have HX1 := hide ((hf1.blk _ (Ow.lt_of_blk HX0.out) fun hk => HnT.out _ hk rfl).trans HX0.out); have HCf := hide (cfSl_any (N.sl x) vs ⟨w.heap.size, 0, none⟩ (fun s => s.name == n) w1 hm1.row HSl.out fun s ys _ hp wx hb => hs1_any s ys ⟨w.heap.size, 0, none⟩ n wx hp ((cell_box ((hb.block _ (Ow.lt_of_blk HX1.out)).trans HX1.out) 0).trans rfl) (Nat.lt_of_lt_of_le (Ow.lt_of_blk HX1.out) hb.size)); obtain ⟨ma, mc, rfl, _⟩ := hm1.row.len; have c11 := (cell_box hcs 11).trans e11; clear HM hr1 hf1 hcs e11 hm1 HX0 HX1 HFa HnT; go_wp2_with fail; refine HCf.out.mono ?_; rintro e w2 ⟨rfl, hb2⟩; have HR2 := hide (HR1.out.on hb2); have HF2 := hide (HF1.out.trans (Fx.below hb2)); clear HR1 HF1 HCf hb2 c11; go_wp2_with fail; go_ret; exact ⟨rfl, HR2.out, HF2.out⟩
namespace Eq
def Is {α : Type} (x y : α) (e : Ending) : Prop := ∃ b, e = .returned (.bool b) /\ (b = true ↔ x = y)
theorem yes {α : Type} {x y : α} (h : x = y) : Is x y (.returned (.bool true)) := ⟨true, rfl, ⟨fun _ => h, fun _ => rfl⟩⟩
theorem no {α : Type} {x y : α} (h : x ≠ y) : Is x y (.returned (.bool false)) := ⟨false, rfl, ⟨fun hh => absurd hh (by decide), fun e => absurd e h⟩⟩
theorem row_at {α : Type} {W : World} {sz : Nat} {P : α -> List Value -> Prop} {a : Option Addr} {n c : Nat} {l : List α} (h : RowX W sz P (.slice a n c) l) {k : Nat} {x : α} (hx : l[k]? = some x) : ∃ b o, a = some ⟨b, o, none⟩ /\ ∃ ys, P x ys /\ ∀ wx, Below W.heap.size W wx -> ∀ (j : Nat) (u : Value), ys[j]? = some u -> wx.cell? ⟨b, o + k * sz + j, none⟩ = some u := by
 obtain ⟨a', c', e, hc, h⟩ := h; injection e with e1 e2 e3; subst e1
 rcases h with rfl | ⟨b, o, rfl, hlt, hr⟩
 · simp at hx
 · obtain ⟨ys, h1, h2⟩ := hr k x hx
   exact ⟨b, o, rfl, ys, h1, fun wx hb j u hj => (hb.cell (by exact hlt)).trans (h2 j u hj)⟩
theorem take_step {α : Type} {l1 l2 : List α} {k : Nat} {x : α} (h : l1.take k = l2.take k) (h1 : l1[k]? = some x) (h2 : l2[k]? = some x) : l1.take (k + 1) = l2.take (k + 1) := by
 rw [List.take_add_one, List.take_add_one, h, h1, h2]
theorem take_end {α : Type} {l1 l2 : List α} {k : Nat} (h : l1.take k = l2.take k) (h1 : l1.length <= k) (h2 : l2.length <= k) : l1 = l2 := by
 rw [List.take_of_length_le h1, List.take_of_length_le h2] at h; exact h
theorem ne_at {α : Type} {l1 l2 : List α} {k : Nat} {x y : α} (h1 : l1[k]? = some x) (h2 : l2[k]? = some y) (h : x ≠ y) : l1 ≠ l2 := fun e => by
 rw [e, h2] at h1; injection h1 with h1; exact h h1.symm
end Eq
theorem eqTy_any (l1 l2 : List Pp.Ty) (v1 v2 : Value) (w : World) (h1 : RowX w 2 TyX v1 l1) (h2 : RowX w 2 TyX v2 l2) (n1 : l1.length <= 100000) (n2 : l2.length <= 100000) :
 Calls Tryz.prog 67 #[v1, v2] w fun e w' => Eq.Is l1 l2 e /\ Below w.heap.size w w' := by
 obtain ⟨a1, c1, rfl, _⟩ := h1.len; obtain ⟨a2, c2, rfl, _⟩ := h2.len; have H1 := hide h1; have H2 := hide h2; obtain ⟨m1, hm1⟩ : ∃ m, m = l1.length := ⟨_, rfl⟩; obtain ⟨m2, hm2⟩ : ∃ m, m = l2.length := ⟨_, rfl⟩; have HM1 := hide hm1; have HM2 := hide hm2; rw [<- hm1] at H1 n1 ⊢; rw [<- hm2] at H2 n2 ⊢; clear h1 h2 hm1 hm2; by_cases hne : m1 = m2
 · subst hne
   go_enter Tryz.func67, Tryz.ntmps67; go_wp2_with fail
   go_loopw [13] (fun i wr => ∃ k : Nat, k <= m1 /\ i = .int .i64 k /\ Below w.heap.size w wr /\ Hid (l1.take k = l2.take k)) (fun i _ => m1 - (intOf i).toNat)
   case atStart => exact ⟨0, Nat.zero_le _, rfl, Below.refl _ _, rfl⟩
   case round =>
    obtain ⟨k, hk, rfl, hbel, HT⟩ := hrel; by_cases hlt : k < m1
    · obtain ⟨x, hx⟩ : ∃ x, l1[k]? = some x := ⟨l1[k]'(by rw [<- HM1.out]; exact hlt), List.getElem?_eq_getElem _⟩
      obtain ⟨y, hy⟩ : ∃ y, l2[k]? = some y := ⟨l2[k]'(by rw [<- HM2.out]; exact hlt), List.getElem?_eq_getElem _⟩
      obtain ⟨g1, o1, rfl, ys1, e1, hc1⟩ := Eq.row_at H1.out hx; obtain ⟨g2, o2, rfl, ys2, e2, hc2⟩ := Eq.row_at H2.out hy; obtain rfl : ys1 = _ := e1.1; obtain rfl : ys2 = _ := e2.1; have r0 := hc1 wr hbel 0 _ rfl; have r1 := hc1 wr hbel 1 _ rfl; have s0 := hc2 wr hbel 0 _ rfl; have s1 := hc2 wr hbel 1 _ rfl; rw [Nat.add_zero] at r0 s0; have HX := hide hx; have HY := hide hy; clear hc1 hc2 hx hy e1 e2; have hlt' : (k : Int) < (m1 : Int) := by omega
      obtain ⟨kx, nx⟩ := x; obtain ⟨ky, ny⟩ := y; simp only at r0 r1 s0 s1; by_cases ek : kx = ky
      · subst ek
        by_cases en : nx = ny
        · subst en
          have HS := hide (Eq.take_step HT.out HX.out HY.out); generalize (⟨nx.toArray⟩ : ByteArray) = S at *
          go_wp2_with fail
          go_quiet (fail)
          go_wp2_with fail
          go_roundw
          case rel => exact ⟨k + 1, by omega, by go_num, by first | exact hbel | exact below_drewN hbel _, HS⟩
          case measure => simp [intOf]; omega
        · have HN := hide (Eq.ne_at HX.out HY.out (fun e => en (by injection e)))
          have en' : (nx == ny) = false := by simpa using en
          go_wp2_with fail
          go_quiet (fail)
          go_wp2_with fail; go_ret; exact ⟨Eq.no HN.out, by first | exact hbel | exact below_drewN hbel _⟩
      · have HN := hide (Eq.ne_at HX.out HY.out (fun e => ek (by injection e)))
        have ek' : (kx == ky) = false := by simpa using ek
        go_wp2_with fail
        go_quiet (fail)
        go_wp2_with fail; go_ret; exact ⟨Eq.no HN.out, by first | exact hbel | exact below_drewN hbel _⟩
    · have HE := hide (Eq.take_end HT.out (by rw [<- HM1.out]; omega) (by rw [<- HM2.out]; omega))
      go_wp2_with fail; go_ret; exact ⟨Eq.yes HE.out, hbel⟩
 · have hne' : ((m1 : Int) != (m2 : Int)) = true := by simp; omega
   have HN : Hid (l1 ≠ l2) := hide (fun e => hne (by rw [HM1.out, HM2.out, e]))
   go_enter Tryz.func67, Tryz.ntmps67; go_wp2_with fail; go_ret; exact ⟨Eq.no HN.out, Below.refl _ _⟩
theorem alike_any (p q : Pp.XMth) (ys1 ys2 : List Value) (w : World) (h1 : MthX w p ys1) (h2 : MthX w q ys2) (n1 : p.params.length <= 1000) (n2 : q.params.length <= 1000) :
 Calls Tryz.prog 46 #[.agg ys1.toArray, .agg ys2.toArray] w fun e w' => e = .returned (.bool (Ly.alikeB p q)) /\ Below w.heap.size w w' := by
 obtain ⟨vp, vc, vk, rfl, x1, x2, x3, _⟩ := h1; obtain ⟨up, uc, uk, rfl, y1, y2, y3, _⟩ := h2; have HE := hide (fun wx (hb : Below w.heap.size w wx) => eqTy_any p.params q.params vp up wx (x1.on hb fun _ _ h => h) (y1.on hb fun _ _ h => h) (by omega) (by omega))
 obtain ⟨va1, vd1, rfl, _⟩ := x1.len; obtain ⟨va2, vd2, rfl, _⟩ := x2.len; obtain ⟨va3, vd3, rfl, _⟩ := x3.len; obtain ⟨ua1, ud1, rfl, _⟩ := y1.len; obtain ⟨ua2, ud2, rfl, _⟩ := y2.len; obtain ⟨ua3, ud3, rfl, _⟩ := y3.len; clear x1 x2 x3 y1 y2 y3 n1 n2; obtain ⟨r, hr⟩ : ∃ r, r = Ly.alikeB p q := ⟨_, rfl⟩; have HR := hide (hr.trans (Bool.eq_iff_iff.2 (Iff.refl _))); have HI := hide (Ly.alikeB_iff p q); rw [<- hr] at HI ⊢; clear hr HR; obtain ⟨pn, ps, pa, pp, ⟨pk, pr⟩, pl, pc, px⟩ := p; obtain ⟨qn, qs, qa, qp, ⟨qk, qr⟩, ql, qc, qx⟩ := q; simp only [mthXL] at HE HI ⊢; generalize (⟨pn.toArray⟩ : ByteArray) = PN at *
 generalize (⟨qn.toArray⟩ : ByteArray) = QN at *
 have HB := hide (Ow.bel_alloc2 w (.cells #[.string PN, .bool ps, .bool pa, .slice va1 pp.length vd1, .int .i64 pk, .string ⟨pr.toArray⟩, .int .i64 pl, .slice va2 pc.length vd2, .slice va3 px.length vd3] 29) (.cells #[.string QN, .bool qs, .bool qa, .slice ua1 qp.length ud1, .int .i64 qk, .string ⟨qr.toArray⟩, .int .i64 ql, .slice ua2 qc.length ud2, .slice ua3 qx.length ud3] 29)); have hx1 := hide (Ow.blk_alloc2a w (.cells #[.string PN, .bool ps, .bool pa, .slice va1 pp.length vd1, .int .i64 pk, .string ⟨pr.toArray⟩, .int .i64 pl, .slice va2 pc.length vd2, .slice va3 px.length vd3] 29) (.cells #[.string QN, .bool qs, .bool qa, .slice ua1 qp.length ud1, .int .i64 qk, .string ⟨qr.toArray⟩, .int .i64 ql, .slice ua2 qc.length ud2, .slice ua3 qx.length ud3] 29)); have hx2 := hide (Ow.blk_alloc2b w (.cells #[.string PN, .bool ps, .bool pa, .slice va1 pp.length vd1, .int .i64 pk, .string ⟨pr.toArray⟩, .int .i64 pl, .slice va2 pc.length vd2, .slice va3 px.length vd3] 29) (.cells #[.string QN, .bool qs, .bool qa, .slice ua1 qp.length ud1, .int .i64 qk, .string ⟨qr.toArray⟩, .int .i64 ql, .slice ua2 qc.length ud2, .slice ua3 qx.length ud3] 29)); go_enter Tryz.func46, Tryz.ntmps46; go_wp2_with fail; generalize (w.alloc (.cells #[.string PN, .bool ps, .bool pa, .slice va1 pp.length vd1, .int .i64 pk, .string ⟨pr.toArray⟩, .int .i64 pl, .slice va2 pc.length vd2, .slice va3 px.length vd3] 29)).alloc (.cells #[.string QN, .bool qs, .bool qa, .slice ua1 qp.length ud1, .int .i64 qk, .string ⟨qr.toArray⟩, .int .i64 ql, .slice ua2 qc.length ud2, .slice ua3 qx.length ud3] 29) = wa at *
 refine (HE.out wa HB.out).mono ?_; rintro e w1 ⟨⟨b, rfl, hb⟩, hb1⟩; have HB1 := hide (HB.out.trans (hb1.mono HB.out.size)); have HX1 := (hb1.block _ (Ow.lt_of_blk hx1.out)).trans hx1.out; have HX2 := (hb1.block _ (Ow.lt_of_blk hx2.out)).trans hx2.out; have HQ := hide hb; clear hx1 hx2 HE hb hb1; cases b with
 | false =>
   have HF : Hid (r = false) := hide (by
    cases r with
    | false => rfl
    | true => exact absurd (HQ.out.2 (HI.out.1 rfl).1) (by decide))
   clear HQ HI HX1 HX2; go_wp2_with fail; go_ret; exact ⟨by rw [HF.out]; rfl, HB1.out⟩
 | true =>
   have HP := hide (HQ.out.1 rfl); have c4 := cell_box HX1 4; have c5 := cell_box HX1 5; have d4 := cell_box HX2 4; have d5 := cell_box HX2 5; clear HQ HX1 HX2; by_cases ek : pk = qk
   · by_cases en : pr = qr
     · have HF := hide (HI.out.2 ⟨HP.out, by rw [ek, en]⟩)
       subst ek en; clear HI HP; generalize (⟨pr.toArray⟩ : ByteArray) = S at *
       go_wp2_with fail; go_ret; exact ⟨by rw [HF.out]; simp, HB1.out⟩
     · have HF : Hid (r = false) := hide (by
        cases r with
        | false => rfl
        | true => have h := (HI.out.1 rfl).2; injection h with _ h; exact absurd h en)
       have en' : (pr == qr) = false := by simpa using en
       clear HI HP; go_wp2_with fail; go_ret; exact ⟨by rw [HF.out]; simp [en], HB1.out⟩
   · have HF : Hid (r = false) := hide (by
      cases r with
      | false => rfl
      | true => have h := (HI.out.1 rfl).2; injection h with h _; exact absurd h ek)
     have ek' : (pk == qk) = false := by simpa using ek
     clear HI HP; go_wp2_with fail; go_ret; exact ⟨by rw [HF.out]; simp [ek], HB1.out⟩
structure NetOk (N : Net) (l : List Pp.XCls) (bs : List Nat) : Prop where
 good : N.Good
 small : N.Small
 mem : ∀ b, N.T b ↔ b ∈ bs
 len : bs.length <= 1000
 find : ∀ n, (bs.find? fun b => (N.cl b).name == n).isSome = (Hr.placeL l n).isSome
 pars : ∀ b, N.T b -> ∀ m ∈ (N.cl b).methods, m.params.length <= 100
theorem Rdy.cls {N : Net} {w0 w : World} {A : Nat -> Prop} (h : Rdy N w0 w A) {b : Nat} (hb : N.T b) : ∃ cs ys, w.heap[b]? = some (.cells cs 84 (0, 0)) /\ ClsX w0 (N.cl b) ys /\ (∀ (j : Nat) (u : Value), ys[j]? = some u -> w.cell? ⟨b, j, none⟩ = some u) /\ w.cell? ⟨b, 6, none⟩ = some (.pointer ((N.sup b).map fun s => ⟨s, 0, none⟩)) := by
 obtain ⟨cs, h1, h2, ⟨ys, h3, h4⟩, h6, _⟩ := h.head hb; exact ⟨cs, ys, h1, h3, fun j u hu => (cell_box h1 j).trans (h4 j u hu), (cell_box h1 6).trans h6⟩
theorem Rdy.name {N : Net} {w0 w : World} {A : Nat -> Prop} (h : Rdy N w0 w A) {b : Nat} (hb : N.T b) : w.cell? ⟨b, 0, none⟩ = some (.string ⟨(N.cl b).name.toArray⟩) := by
 obtain ⟨cs, ys, h1, h2, h3, _⟩ := h.cls hb; obtain ⟨_, _, _, _, _, _, rfl, _⟩ := cls_open h2; exact h3 0 _ rfl
theorem memberFault_any (N : Net) (l : List Pp.XCls) (bs : List Nat) (v : Value) (b : Nat) (w0 w : World) (A : Nat -> Prop) (hok : NetOk N l bs) (hrdy : Rdy N w0 w A) (hrow : RowX w 1 PtrX v bs) (hb : N.T b) :
 Calls Tryz.prog 27 #[v, .pointer (some ⟨b, 0, none⟩)] w fun e w' => e = .returned (.int .i64 (Ly.memF l (N.cl b))) /\ Below w.heap.size w w' := by
 obtain ⟨cs, ys, hcs, hcl, hys, _⟩ := hrdy.cls hb; have hclw := hcl.on hrdy.1; have hlb := Ow.lt_of_blk hcs; have hf := hok.small.flds b hb; have hm := hok.small.mths b hb; have hp := hok.pars b hb; have HF := hide (fun wx (hx : Below w.heap.size w wx) => formed_any (N.cl b) ys wx (hclw.on hx) hf hm hp); have HT := hide (fun wx (hx : Below w.heap.size w wx) => ltwice_any (N.cl b) ys wx (hclw.on hx) hf hm)
 have HK := hide (fun wx (hx : Below w.heap.size w wx) => known_any l bs (fun b => (N.cl b).name) v (N.cl b) ys wx (hrow.on hx fun _ _ h => h) hok.len (fun q hq => Nat.lt_of_lt_of_le (hrdy.2.2.1 q ((hok.mem q).2 hq)).2 hx.size)
  (fun q hq => (hx.cell (by exact (hrdy.2.2.1 q ((hok.mem q).2 hq)).2)).trans (hrdy.name ((hok.mem q).2 hq))) hok.find (hclw.on hx) hf hm hp)
 have HC := hide (fun wx (hx : Below w.heap.size w wx) (j : Nat) (u : Value) (hu : ys[j]? = some u) => (hx.cell (p := ⟨b, j, none⟩) hlb).trans (hys j u hu)); obtain ⟨va, vc, rfl, _⟩ := hrow.len; obtain ⟨ia, ic, fa, fc, ma, mc, rfl, _⟩ := cls_open hcl; obtain ⟨r, hr⟩ : ∃ r, r = Ly.memF l (N.cl b) := ⟨_, rfl⟩; have HR := hide hr; rw [<- hr]; clear hr hcl hclw hys hcs hrow hrdy hok hb hf hm hp hlb; unfold Ly.memF at HR; generalize (⟨(N.cl b).name.toArray⟩ : ByteArray) = NB at *
 generalize (⟨(N.cl b).super.toArray⟩ : ByteArray) = SB at *
 generalize (N.cl b).iface = fi at *
 generalize (N.cl b).ifaces.length = ni at *
 generalize (N.cl b).fields.length = nf at *
 generalize (N.cl b).methods.length = nm' at *
 generalize bs.length = nb at *
 have c0 := HC.out w (Below.refl _ _) 0 _ rfl; have c1 := HC.out w (Below.refl _ _) 1 _ rfl; have c2 := HC.out w (Below.refl _ _) 2 _ rfl; have c3 := HC.out w (Below.refl _ _) 3 _ rfl; have c4 := HC.out w (Below.refl _ _) 4 _ rfl; have c5 := HC.out w (Below.refl _ _) 5 _ rfl; go_enter Tryz.func27, Tryz.ntmps27; go_wp2_with fail; refine (HF.out w (Below.refl _ _)).mono ?_; rintro e w1 ⟨rfl, hb1⟩; have HB1 := hide hb1; clear HF hb1; cases hfo : Ly.formedB (N.cl b) with
 | false =>
   have HQ : Hid (r = 4) := hide (by rw [HR.out, if_neg (by rw [hfo]; decide)])
   clear HR hfo; go_wp2_with fail; go_ret; exact ⟨by rw [HQ.out]; rfl, HB1.out⟩
 | true =>
   have HR1 : Hid (r = if Ly.twiceB (N.cl b) = true then 6 else if Ly.knownB l (N.cl b) = true then 0 else 5) := hide (by rw [HR.out, if_pos hfo])
   have d0 := HC.out w1 HB1.out 0 _ rfl; have d1 := HC.out w1 HB1.out 1 _ rfl; have d2 := HC.out w1 HB1.out 2 _ rfl; have d3 := HC.out w1 HB1.out 3 _ rfl; have d4 := HC.out w1 HB1.out 4 _ rfl; have d5 := HC.out w1 HB1.out 5 _ rfl; clear HR hfo; go_wp2_with fail; refine (HT.out w1 HB1.out).mono ?_; rintro e w2 ⟨⟨t, rfl, ht⟩, hb2⟩; have HB2 := hide (HB1.out.trans (hb2.mono HB1.out.size)); have HTw := hide ht; clear HT hb2 ht; cases t with
   | true =>
     have HQ : Hid (r = 6) := hide (by rw [HR1.out, if_pos ((Ly.twiceB_iff _).2 (HTw.out.1 rfl))])
     clear HR1 HTw; go_wp2_with fail; go_ret; exact ⟨by rw [HQ.out]; rfl, HB2.out⟩
   | false =>
     have HR2 : Hid (r = if Ly.knownB l (N.cl b) = true then 0 else 5) := hide (by rw [HR1.out, if_neg fun h => by have := HTw.out.2 ((Ly.twiceB_iff _).1 h); cases this])
     have e0 := HC.out w2 HB2.out 0 _ rfl; have e1 := HC.out w2 HB2.out 1 _ rfl; have e2 := HC.out w2 HB2.out 2 _ rfl; have e3 := HC.out w2 HB2.out 3 _ rfl; have e4 := HC.out w2 HB2.out 4 _ rfl; have e5 := HC.out w2 HB2.out 5 _ rfl; clear HR1 HTw; go_wp2_with fail; refine (HK.out w2 HB2.out).mono ?_; rintro e w3 ⟨rfl, hb3⟩; have HB3 := hide (HB2.out.trans (hb3.mono HB2.out.size)); clear HK hb3; cases hkn : Ly.knownB l (N.cl b) with
     | true =>
       have HQ : Hid (r = 0) := hide (by rw [HR2.out, if_pos hkn])
       clear HR2 hkn; go_wp2_with fail; go_ret; exact ⟨by rw [HQ.out]; rfl, HB3.out⟩
     | false =>
       have HQ : Hid (r = 5) := hide (by rw [HR2.out, if_neg (by rw [hkn]; decide)])
       clear HR2 hkn; go_wp2_with fail; go_ret; exact ⟨by rw [HQ.out]; rfl, HB3.out⟩
end Go.Proofs.YtjlappamkfjlkabGreatDoor
