/- What the laws of this seat lean on: 2 texts. -/
import Derived.Test.YtbbbnciejmdpfabGreatDoorPkBg
import Derived.Test.YtbbbnciejmdpfabGreatDoorPkBm
import Derived.Test.YtbbbnciejmdpfabGreatDoorPkAy
set_option maxRecDepth 100000
set_option maxHeartbeats 64000000
set_option linter.unusedVariables false
set_option linter.unusedSimpArgs false
namespace Go.Proofs.YtbbbnciejmdpfabGreatDoor
open Go.RowKit
namespace Ly
def ownP (ms : List Pp.XMth) (nm : Pp.Bs) : Option Nat := ms.findIdx? fun m => m.name == nm
def ownI : Option Nat -> Int
 | none => -1
 | some k => k
theorem own_take {ms : List Pp.XMth} {nm : Pp.Bs} {k : Nat} {m : Pp.XMth} (h : (ms.take k).any (fun m => m.name == nm) = false) (hx : ms[k]? = some m) (hp : m.name = nm) : ownP ms nm = some k := by
 unfold ownP; have hlt := (List.getElem?_eq_some_iff.1 hx).1; have hm : ms[k] = m := by simpa [List.getElem?_eq_getElem hlt] using hx
 rw [List.findIdx?_eq_some_iff_getElem]; refine ⟨hlt, by rw [hm, hp]; simp, fun j hj => ?_⟩
 have h1 := List.any_eq_false.1 h (ms[j]) (List.mem_iff_getElem.2 ⟨j, by rw [List.length_take]; omega, by rw [List.getElem_take]⟩)
 simpa using h1
theorem own_end {ms : List Pp.XMth} {nm : Pp.Bs} (h : ms.any (fun m => m.name == nm) = false) : ownP ms nm = none := by
 unfold ownP; rw [List.findIdx?_eq_none_iff]; intro m hm; have := List.any_eq_false.1 h m hm
 simpa using this
end Ly
theorem own_any (c : Pp.XCls) (cs : List Value) (n : Pp.Bs) (w : World) (h : ClsX w c cs) (hm : c.methods.length <= 100) :
 Calls Tryz.prog 33 #[.agg cs.toArray, .string ⟨n.toArray⟩] w fun e w' => e = .returned (.int .i64 (Ly.ownI (Ly.ownP c.methods n))) /\ Below w.heap.size w w' := by
 obtain ⟨ia, ic, fa, fc, ma, mc, rfl, _, _, x3⟩ := cls_open h; have HRm := hide x3; clear x3 h; obtain ⟨nm, hnm⟩ : ∃ q, q = c.methods.length := ⟨_, rfl⟩; have HNm := hide hnm; rw [<- hnm] at HRm hm ⊢; clear hnm; have hm1 : (nm : Int) <= 100 := by omega
 obtain ⟨r, hr⟩ : ∃ r, r = Ly.ownI (Ly.ownP c.methods n) := ⟨_, rfl⟩; have HR := hide hr; rw [<- hr]; clear hr; generalize (⟨c.name.toArray⟩ : ByteArray) = NB; generalize (⟨c.super.toArray⟩ : ByteArray) = SB; generalize c.iface = fi; generalize c.ifaces.length = ni; generalize c.fields.length = nf; have HB0 := hide ((Below.refl w.heap.size w).alloc (Nat.le_refl _) (.cells #[.string NB, .bool fi, .string SB, .slice ia ni ic, .slice fa nf fc, .slice ma nm mc] 33)); have HX0 := hide (heap_alloc_new w (.cells #[.string NB, .bool fi, .string SB, .slice ia ni ic, .slice fa nf fc, .slice ma nm mc] 33)); go_enter Tryz.func33, Tryz.ntmps33; go_wp2_with fail; have c5 := cell_box HX0.out 5; generalize w.alloc (.cells #[.string NB, .bool fi, .string SB, .slice ia ni ic, .slice fa nf fc, .slice ma nm mc] 33) = wa at *
 go_loop [5] (fun i => ∃ k : Nat, k <= nm /\ i = .int .i64 k /\ Hid ((c.methods.take k).any (fun m => m.name == n) = false)) (fun i => nm - (intOf i).toNat)
 case atStart => exact ⟨0, Nat.zero_le _, rfl, hide (by simp)⟩
 case round =>
  obtain ⟨k, hk, rfl, HNo⟩ := hrel; by_cases hlt : k < nm
  · obtain ⟨x, hx⟩ : ∃ x, c.methods[k]? = some x := ⟨c.methods[k]'(by rw [<- HNm.out]; exact hlt), List.getElem?_eq_getElem _⟩
    obtain ⟨g, o, rfl, ys, wf, hc⟩ := Ow.row_at' HRm.out hx; obtain ⟨vp, vc, vk, rfl, _⟩ := wf; have r0 := hc wa HB0.out 0 _ rfl; rw [Nat.add_zero] at r0; have hlt' : (k : Int) < (nm : Int) := by omega
    by_cases hn : x.name = n
    · have HF : Hid (r = (k : Int)) := hide (by rw [HR.out, Ly.own_take HNo.out hx hn]; rfl)
      rw [hn] at r0; clear hx hn hc HNo; go_wp2_with fail; go_ret; exact ⟨by rw [HF.out]; rfl, HB0.out⟩
    · have hne : (x.name == n) = false := by simp [hn]
      have HNo2 := hide (Ly.any_take (p := fun m : Pp.XMth => m.name == n) HNo.out hx hne); clear hx hn hc HNo; generalize x.name = y0 at *
      go_wp2_with fail
      go_round
      case rel => exact ⟨k + 1, by omega, by go_num, HNo2⟩
      case measure => simp [intOf]; omega
  · have HF : Hid (r = -1) := hide (by rw [HR.out, Ly.own_end (Ly.any_end HNo.out (by rw [<- HNm.out]; omega))]; rfl)
    have hnl : ¬ ((k : Int) < (nm : Int)) := by omega
    clear HNo; go_wp2_with fail; go_ret; exact ⟨by rw [HF.out]; rfl, HB0.out⟩
theorem named_any (l : List Pp.XCls) (v : Value) (t : Pp.Ty) (ts : List Value) (w : World) (h : RowX w 6 (ClsX w) v l) (hl : l.length <= 1000) (ht : TyX t ts) :
 Calls Tryz.prog 34 #[v, .agg ts.toArray] w fun e w' => e = .returned (.bool (Ly.namedG l t)) /\ Below w.heap.size w w' := by
 have HAt := hide (fun wx (hb : Below w.heap.size w wx) => RAt_any l v t.name wx (h.on hb fun _ _ h => h.on hb) (by unfold maxLen; omega))
 obtain ⟨va, vc, rfl, _⟩ := h.len; obtain ⟨rfl, _⟩ := ht; simp only [tyL]; obtain ⟨r, hr⟩ : ∃ r, r = Ly.namedG l t := ⟨_, rfl⟩; have HR := hide hr; rw [<- hr]; unfold Ly.namedG at HR; clear hr h hl; obtain ⟨tk, tn⟩ := t; dsimp only at HAt HR ⊢; generalize Hr.placeL l tn = res at *
 generalize (⟨tn.toArray⟩ : ByteArray) = TN at *
 generalize l.length = n at *
 have HB0 := hide ((Below.refl w.heap.size w).alloc (Nat.le_refl _) (.cells #[.int .i64 tk, .string TN] 36)); by_cases h3 : tk = 3
 · subst h3
   have HR2 : Hid (r = res.isSome) := hide HR.out; clear HR; go_enter Tryz.func34, Tryz.ntmps34; go_wp2_with fail; refine (HAt.out _ HB0.out).mono ?_; rintro e w1 ⟨rfl, hb1⟩; have HB1 := hide (HB0.out.trans (hb1.mono HB0.out.size)); clear HAt hb1; cases res with
   | none =>
     have HF : Hid (r = false) := hide HR2.out; clear HR2; simp only [Hr.placeI]; go_wp2_with fail; go_ret; exact ⟨by rw [HF.out]; rfl, HB1.out⟩
   | some k =>
     have HF : Hid (r = true) := hide HR2.out; have hk0 : (0 : Int) <= (k : Int) := by omega
     clear HR2; simp only [Hr.placeI]; go_wp2_with fail; go_ret; exact ⟨by rw [HF.out]; rfl, HB1.out⟩
 · by_cases h5 : tk = 5
   · subst h5
     have HR2 : Hid (r = res.isSome) := hide HR.out; clear HR h3; go_enter Tryz.func34, Tryz.ntmps34; go_wp2_with fail; refine (HAt.out _ HB0.out).mono ?_; rintro e w1 ⟨rfl, hb1⟩; have HB1 := hide (HB0.out.trans (hb1.mono HB0.out.size)); clear HAt hb1; cases res with
     | none =>
       have HF : Hid (r = false) := hide HR2.out; clear HR2; simp only [Hr.placeI]; go_wp2_with fail; go_ret; exact ⟨by rw [HF.out]; rfl, HB1.out⟩
     | some k =>
       have HF : Hid (r = true) := hide HR2.out; have hk0 : (0 : Int) <= (k : Int) := by omega
       clear HR2; simp only [Hr.placeI]; go_wp2_with fail; go_ret; exact ⟨by rw [HF.out]; rfl, HB1.out⟩
   · have e3 : (tk != 3) = true := by simpa using h3
     have e5 : (tk != 5) = true := by simpa using h5
     have HF : Hid (r = true) := hide (by rw [HR.out, e3, e5]; rfl)
     clear HR HAt; go_enter Tryz.func34, Tryz.ntmps34; go_wp2_with fail; go_ret; exact ⟨by rw [HF.out]; rfl, HB0.out⟩
theorem ralike_any (p q : Pp.XMth) (ys1 ys2 : List Value) (w : World) (h1 : MthX w p ys1) (h2 : MthX w q ys2) (n1 : p.params.length <= 1000) (n2 : q.params.length <= 1000) :
 Calls Tryz.prog 37 #[.agg ys1.toArray, .agg ys2.toArray] w fun e w' => e = .returned (.bool (Ly.alikeB p q)) /\ Below w.heap.size w w' := by
 obtain ⟨vp, vc, vk, rfl, x1, x2, x3, _⟩ := h1; obtain ⟨up, uc, uk, rfl, y1, y2, y3, _⟩ := h2; have HE := hide (fun wx (hb : Below w.heap.size w wx) => Types_eq p.params q.params vp up wx (x1.on hb fun _ _ h => h) (y1.on hb fun _ _ h => h) (by omega) (by omega))
 obtain ⟨va1, vd1, rfl, _⟩ := x1.len; obtain ⟨va2, vd2, rfl, _⟩ := x2.len; obtain ⟨va3, vd3, rfl, _⟩ := x3.len; obtain ⟨ua1, ud1, rfl, _⟩ := y1.len; obtain ⟨ua2, ud2, rfl, _⟩ := y2.len; obtain ⟨ua3, ud3, rfl, _⟩ := y3.len; clear x1 x2 x3 y1 y2 y3 n1 n2; obtain ⟨r, hr⟩ : ∃ r, r = Ly.alikeB p q := ⟨_, rfl⟩; have HR := hide (hr.trans (Bool.eq_iff_iff.2 (Iff.refl _))); have HI := hide (Ly.alikeB_iff p q); rw [<- hr] at HI ⊢; clear hr HR; obtain ⟨pn, ps, pa, pp, ⟨pk, pr⟩, pl, pc, px⟩ := p; obtain ⟨qn, qs, qa, qp, ⟨qk, qr⟩, ql, qc, qx⟩ := q; simp only [mthXL] at HE HI ⊢; generalize (⟨pn.toArray⟩ : ByteArray) = PN at *
 generalize (⟨qn.toArray⟩ : ByteArray) = QN at *
 have HB := hide (Ow.bel_alloc2 w (.cells #[.string PN, .bool ps, .bool pa, .slice va1 pp.length vd1, .int .i64 pk, .string ⟨pr.toArray⟩, .int .i64 pl, .slice va2 pc.length vd2, .slice va3 px.length vd3] 48) (.cells #[.string QN, .bool qs, .bool qa, .slice ua1 qp.length ud1, .int .i64 qk, .string ⟨qr.toArray⟩, .int .i64 ql, .slice ua2 qc.length ud2, .slice ua3 qx.length ud3] 48)); have hx1 := hide (Ow.blk_alloc2a w (.cells #[.string PN, .bool ps, .bool pa, .slice va1 pp.length vd1, .int .i64 pk, .string ⟨pr.toArray⟩, .int .i64 pl, .slice va2 pc.length vd2, .slice va3 px.length vd3] 48) (.cells #[.string QN, .bool qs, .bool qa, .slice ua1 qp.length ud1, .int .i64 qk, .string ⟨qr.toArray⟩, .int .i64 ql, .slice ua2 qc.length ud2, .slice ua3 qx.length ud3] 48)); have hx2 := hide (Ow.blk_alloc2b w (.cells #[.string PN, .bool ps, .bool pa, .slice va1 pp.length vd1, .int .i64 pk, .string ⟨pr.toArray⟩, .int .i64 pl, .slice va2 pc.length vd2, .slice va3 px.length vd3] 48) (.cells #[.string QN, .bool qs, .bool qa, .slice ua1 qp.length ud1, .int .i64 qk, .string ⟨qr.toArray⟩, .int .i64 ql, .slice ua2 qc.length ud2, .slice ua3 qx.length ud3] 48)); go_enter Tryz.func37, Tryz.ntmps37; go_wp2_with fail; generalize (w.alloc (.cells #[.string PN, .bool ps, .bool pa, .slice va1 pp.length vd1, .int .i64 pk, .string ⟨pr.toArray⟩, .int .i64 pl, .slice va2 pc.length vd2, .slice va3 px.length vd3] 48)).alloc (.cells #[.string QN, .bool qs, .bool qa, .slice ua1 qp.length ud1, .int .i64 qk, .string ⟨qr.toArray⟩, .int .i64 ql, .slice ua2 qc.length ud2, .slice ua3 qx.length ud3] 48) = wa at *
 refine (HE.out wa HB.out).mono ?_; rintro e w1 ⟨⟨b, rfl, hb⟩, hb1⟩; have HB1 := hide (HB.out.trans (hb1.mono HB.out.size)); have HX1 := (hb1.block _ (Ow.lt_of_blk hx1.out)).trans hx1.out; have HX2 := (hb1.block _ (Ow.lt_of_blk hx2.out)).trans hx2.out; have HQ := hide hb; clear hx1 hx2 HE hb hb1; cases b with
 | false =>
   have HF : Hid (r = false) := hide (by
    cases r with
    | false => rfl
    | true => exact absurd (HQ.out.2 (HI.out.1 rfl).1) (by decide))
   clear HQ HI HX1 HX2; go_wp2_with fail; go_ret; exact ⟨by rw [HF.out]; rfl, HB1.out⟩
 | true =>
   have HP := hide (HQ.out.1 rfl); have c4 := cell_box HX1 4; have c5 := cell_box HX1 5; have d4 := cell_box HX2 4; have d5 := cell_box HX2 5; clear HQ HX1 HX2; by_cases ek : pk = qk
   · by_cases en : pr = qr
     · have HF := hide (HI.out.2 ⟨HP.out, by rw [ek, en]⟩)
       subst ek en; clear HI HP; generalize (⟨pr.toArray⟩ : ByteArray) = S at *
       go_wp2_with fail; go_ret; exact ⟨by rw [HF.out]; simp, HB1.out⟩
     · have HF : Hid (r = false) := hide (by
        cases r with
        | false => rfl
        | true => have h := (HI.out.1 rfl).2; injection h with _ h; exact absurd h en)
       have en' : (pr == qr) = false := by simpa using en
       clear HI HP; go_wp2_with fail; go_ret; exact ⟨by rw [HF.out]; simp [en], HB1.out⟩
   · have HF : Hid (r = false) := hide (by
      cases r with
      | false => rfl
      | true => have h := (HI.out.1 rfl).2; injection h with h _; exact absurd h ek)
     have ek' : (pk == qk) = false := by simpa using ek
     clear HI HP; go_wp2_with fail; go_ret; exact ⟨by rw [HF.out]; simp [ek], HB1.out⟩
def Ly.mea (l : List Pp.XCls) (up : List (List Nat)) : Value -> Nat
 | .string s => match Hr.placeL l s.data.toList with
   | some q => Ly.rkP up q + 1
   | none => 0
 | _ => 0
theorem shp_clsw (w : World) : Ow.Shp (ClsX w) 6 := by
 rintro x ys h; obtain ⟨_, _, _, _, _, _, rfl, _⟩ := cls_open h; refine ⟨rfl, ?_⟩; intro u hu; simp at hu
 rcases hu with rfl | rfl | rfl | rfl | rfl | rfl <;> rfl
theorem row_any {cs : List Pp.XCls} {up : List (List Nat)} (he : Hr.errL cs = 0) (hg : Hr.growL (Hr.allL cs) (Hr.allL cs) = some up) (v : Value) (n : Pp.Bs) (k : Nat) (hk : Hr.placeL (Hr.allL cs) n = some k) (wp w : World) (hwp : Below wp.heap.size wp w) (h : RowX wp 6 (ClsX wp) v (Hr.allL cs)) :
 Calls Tryz.prog 56 #[v, .string ⟨n.toArray⟩] w fun e w' => ∃ v', e = .returned v' /\ Ow.OwnX w' w.heap.size 33 6 (ClsX wp) v' ((Ly.rowP (Hr.allL cs) up k).map (Ly.clP (Hr.allL cs))) /\ Below w.heap.size w w' := by
 have HRw := hide h; have HE := hide he; have HG := hide hg
 have hlen : (Hr.allL cs).length <= 18 := by
  have h1 := ((Pp.eachB_iff cs 10 Pp.clsB).1 (Hr.err_zero he).1).1; have h2 := Hr.all_len cs; have h3 : Hr.base.length = 8 := rfl; omega
 have HAt := hide (fun wx (hb : Below w.heap.size w wx) (s : Pp.Bs) => RAt_any (Hr.allL cs) v s wx (h.on (hwp.trans (hb.mono hwp.size)) fun _ _ h => h.on (hwp.trans (hb.mono hwp.size))) (by unfold maxLen; omega))
 have HWp := hide hwp; obtain ⟨va, vc, rfl, _⟩ := h.len; obtain ⟨nn, hnn⟩ : ∃ q, q = (Hr.allL cs).length := ⟨_, rfl⟩; have HN := hide hnn; rw [<- hnn] at HRw HAt hlen ⊢; have HK := hide hk
 have hkl : k < (Hr.allL cs).length := by
  obtain ⟨c, h1, _⟩ := Hr.placeL_lt hk; exact (List.getElem?_eq_some_iff.1 h1).1
 have HLen := hide (Ly.row_len he hg hkl); have HNil := hide (Ly.place_nil (Hr.err_zero he).1); clear h he hg hk hnn hkl hwp; obtain ⟨j0, hj, hj0, hj1, hj2⟩ := Ow.info_of Ow.i_cls; go_enter Tryz.func56, Tryz.ntmps56; go_wp2_with fail
 go_loopw [1, 5] (fun nv ov wr => ∃ (s : Pp.Bs) (la : Option Addr) (lc ln : Nat) (done : List Nat), nv = .string ⟨s.toArray⟩ /\ ov = .slice la ln lc /\ Hid (ln = done.length) /\ Hid (Below w.heap.size w wr) /\ Hid (Ow.OwnX wr w.heap.size 33 6 (ClsX wp) (.slice la ln lc) (done.map (Ly.clP (Hr.allL cs)))) /\
  Hid ((s = [] /\ done = Ly.rowP (Hr.allL cs) up k) \/ ∃ q, Hr.placeL (Hr.allL cs) s = some q /\ done ++ Ly.rowP (Hr.allL cs) up q = Ly.rowP (Hr.allL cs) up k)) (fun nv _ _ => Ly.mea (Hr.allL cs) up nv)
 case atStart => exact ⟨n, none, 0, 0, [], rfl, rfl, hide rfl, hide (Below.refl _ _), hide (Ow.OwnX.nil _ _ _ _ _), hide (.inr ⟨k, HK.out, rfl⟩)⟩
 case round =>
  obtain ⟨s, la, lc, ln, done, rfl, rfl, HLn, HB, HO, HS⟩ := hrel; by_cases hs : s = []
  · have HDn : Hid (done = Ly.rowP (Hr.allL cs) up k) := hide (by
     rcases HS.out with h | ⟨q, h1, _⟩
     · exact h.2
     · rw [hs, HNil.out] at h1; cases h1)
    subst hs; go_wp2_with fail; go_ret; refine ⟨_, rfl, ?_, HB.out⟩; rw [<- HDn.out]; exact HO.out
  · obtain ⟨q, hq, hdone⟩ : ∃ q, Hr.placeL (Hr.allL cs) s = some q /\ done ++ Ly.rowP (Hr.allL cs) up q = Ly.rowP (Hr.allL cs) up k := by
     rcases HS.out with h | h
     · exact absurd h.1 hs
     · exact h
    have hqn : q < nn := by
     obtain ⟨c, h1, _⟩ := Hr.placeL_lt hq; rw [HN.out]; exact (List.getElem?_eq_some_iff.1 h1).1
    have hql : q < (Hr.allL cs).length := by rw [<- HN.out]; exact hqn
    have hx := Ly.at_of hql; have HCl : Hid (∃ x, x = Ly.clP (Hr.allL cs) q) := hide ⟨_, rfl⟩; obtain ⟨x, hxe⟩ := HCl.out; rw [<- hxe] at hx; have HXe := hide hxe; obtain ⟨g, o, rfl, ys, wf, hc⟩ := Ow.row_at' HRw.out hx; have HWf := hide wf; have hG := hide (fun wx (hb : Below w.heap.size w wx) => hc wx (HWp.out.trans (hb.mono HWp.out.size))); obtain ⟨ia, ic, fa, fc, ma, mc, rfl, _⟩ := cls_open wf; have HAc := HAt.out wr HB.out s; rw [hq] at HAc; have HAc := hide HAc; simp only [Hr.placeI] at HAc
    -- what comes behind
    have HNx : Hid ((Hr.superS x = [] /\ done ++ [q] = Ly.rowP (Hr.allL cs) up k) \/ ∃ q', Hr.placeL (Hr.allL cs) (Hr.superS x) = some q' /\ (done ++ [q]) ++ Ly.rowP (Hr.allL cs) up q' = Ly.rowP (Hr.allL cs) up k) := hide (by
     cases hsl : Hr.superL (Ly.clP (Hr.allL cs) q) with
     | none =>
       left; rw [Ly.row_none HE.out HG.out hsl] at hdone; refine ⟨?_, hdone⟩; unfold Hr.superS; rw [hxe, hsl]
       rfl
     | some z =>
       right; obtain ⟨q', e1, _⟩ := Ly.super_at HE.out HG.out hql hsl; rw [Ly.row_some HE.out HG.out hql hsl e1] at hdone; refine ⟨q', ?_, by rw [List.append_assoc]; exact hdone⟩
       unfold Hr.superS; rw [hxe, hsl]
       exact e1)
    have HMe : Hid (Ly.mea (Hr.allL cs) up (.string ⟨(Hr.superS x).toArray⟩) < Ly.mea (Hr.allL cs) up (.string ⟨s.toArray⟩)) := hide (by
     show (match Hr.placeL (Hr.allL cs) (Hr.superS x) with | some q => Ly.rkP up q + 1 | none => 0) < (match Hr.placeL (Hr.allL cs) s with | some q => Ly.rkP up q + 1 | none => 0)
     rw [hq]; cases hsl : Hr.superL (Ly.clP (Hr.allL cs) q) with
     | none =>
       have : Hr.superS x = [] := by unfold Hr.superS; rw [hxe, hsl]; rfl
       rw [this, HNil.out]; show 0 < Ly.rkP up q + 1; omega
     | some z =>
       obtain ⟨q', e1, _, _, _, e3⟩ := Ly.super_at HE.out HG.out hql hsl; have : Hr.superS x = z := by unfold Hr.superS; rw [hxe, hsl]; rfl
       rw [this, e1]; show Ly.rkP up q' + 1 < Ly.rkP up q + 1
       omega)
    have HDl : Hid (done.length <= 19) := hide (by
     have h1 := congrArg List.length hdone; rw [List.length_append] at h1; have := HLen.out
     omega)
    have hne : (s == []) = false := by simpa using hs
    have hqi : (q : Int) < (nn : Int) := by omega
    have hni : (nn : Int) <= 18 := by omega
    clear HS hs hx wf hc HCl hql hdone hq hxe; go_wp2_with fail; refine HAc.out.mono ?_; rintro e w1 ⟨rfl, hb1⟩; have HB1 := hide (HB.out.trans (hb1.mono HB.out.size)); have r0 := hG.out w1 HB1.out 0 _ rfl; have r1 := hG.out w1 HB1.out 1 _ rfl; have r2 := hG.out w1 HB1.out 2 _ rfl; have r3 := hG.out w1 HB1.out 3 _ rfl; have r4 := hG.out w1 HB1.out 4 _ rfl; have r5 := hG.out w1 HB1.out 5 _ rfl; rw [Nat.add_zero] at r0; have HO1 := hide (HO.out.on hb1 fun _ _ h => h); have hA : Below w1.heap.size w1 (w1.alloc (.cells #[.string ⟨x.name.toArray⟩, .bool x.iface, .string ⟨x.super.toArray⟩, .slice ia x.ifaces.length ic, .slice fa x.fields.length fc, .slice ma x.methods.length mc] 33)) := (Below.refl _ _).alloc (Nat.le_refl _) _; have hA2 : Below w1.heap.size w1 ((w1.alloc (.cells #[.string ⟨x.name.toArray⟩, .bool x.iface, .string ⟨x.super.toArray⟩, .slice ia x.ifaces.length ic, .slice fa x.fields.length fc, .slice ma x.methods.length mc] 33)).alloc (.cells #[.string ⟨x.name.toArray⟩, .bool x.iface, .string ⟨x.super.toArray⟩, .slice ia x.ifaces.length ic, .slice fa x.fields.length fc, .slice ma x.methods.length mc] 33)) := Ow.bel_alloc2 _ _ _; have hbx := heap_alloc_new w1 (.cells #[.string ⟨x.name.toArray⟩, .bool x.iface, .string ⟨x.super.toArray⟩, .slice ia x.ifaces.length ic, .slice fa x.fields.length fc, .slice ma x.methods.length mc] 33); have b0 := cell_box hbx 0; have b1 := cell_box hbx 1; have b2 := cell_box hbx 2; have b3 := cell_box hbx 3; have b4 := cell_box hbx 4; have b5 := cell_box hbx 5; have HX2 := hide (Ow.blk_alloc2a w1 (.cells #[.string ⟨x.name.toArray⟩, .bool x.iface, .string ⟨x.super.toArray⟩, .slice ia x.ifaces.length ic, .slice fa x.fields.length fc, .slice ma x.methods.length mc] 33) (.cells #[.string ⟨x.name.toArray⟩, .bool x.iface, .string ⟨x.super.toArray⟩, .slice ia x.ifaces.length ic, .slice fa x.fields.length fc, .slice ma x.methods.length mc] 33)); have HO2 := hide (HO1.out.on hA2 fun _ _ h => h); have HR2 : Hid (RowX ((w1.alloc (.cells #[.string ⟨x.name.toArray⟩, .bool x.iface, .string ⟨x.super.toArray⟩, .slice ia x.ifaces.length ic, .slice fa x.fields.length fc, .slice ma x.methods.length mc] 33)).alloc (.cells #[.string ⟨x.name.toArray⟩, .bool x.iface, .string ⟨x.super.toArray⟩, .slice ia x.ifaces.length ic, .slice fa x.fields.length fc, .slice ma x.methods.length mc] 33)) 6 (ClsX wp) (.slice (some ⟨(w1.alloc (.cells #[.string ⟨x.name.toArray⟩, .bool x.iface, .string ⟨x.super.toArray⟩, .slice ia x.ifaces.length ic, .slice fa x.fields.length fc, .slice ma x.methods.length mc] 33)).heap.size, 0, none⟩) 1 1) [x]) := hide (Ow.row_one' (P := ClsX wp) (x := x) HWf.out); have HB2 := hide (HB1.out.trans (hA2.mono HB1.out.size)); have hll : done.length <= 19 := HDl.out; have HOl := hide (fun kk (hk : (Value.slice la ln lc).ownBlock = some kk) => (own_lt HO1.out hk).1); clear HAc hb1 hA hA2 hbx HO HO1
    go_wp2_with (at_builtin; refine Ow.wpList_app rfl (.tmp 15) (.tmp 17) 22 rfl Tryz.underlying22 hj hj0 hj1 hj2 (by decide) (shp_clsw wp) (by first | rfl | simp [Act.eval, Act.put]) HO2.out (by first | rfl | simp [Act.eval, Act.put]) HR2.out (by simp; omega) (by decide) HB2.out.size ?_)
    intro v5 w5 ho5 hg5; have HB5 := hide (HB2.out.trans (Ow.bel_grown HO2.out HB2.out.size hg5)); have hX5 := (hg5.block w1.heap.size (Ow.lt_of_blk HX2.out) (fun e => absurd (HOl.out _ e.symm) (Nat.lt_irrefl _))).trans HX2.out; have p0 := cell_box hX5 0; have p1 := cell_box hX5 1; have p2 := cell_box hX5 2; have p3 := cell_box hX5 3; have p4 := cell_box hX5 4; have p5 := cell_box hX5 5; have HSu := hide (RSuper_any x _ w5 (HWf.out.on (HWp.out.trans (HB5.out.mono HWp.out.size)))); have HO5 : Hid (Ow.OwnX w5 w.heap.size 33 6 (ClsX wp) v5 ((done ++ [q]).map (Ly.clP (Hr.allL cs)))) := hide (by rw [List.map_append, List.map_cons, List.map_nil, <- HXe.out]; exact ho5)
    obtain ⟨xa, xc, hv5⟩ := HO5.out.shape; have hn5 : ((done ++ [q]).map (Ly.clP (Hr.allL cs))).length = (done ++ [q]).length := List.length_map ..; rw [hn5] at hv5; obtain ⟨n5, hn6⟩ : ∃ y, y = (done ++ [q]).length := ⟨_, rfl⟩; rw [<- hn6] at hv5; have HN6 := hide hn6; clear hn5 ho5 hg5 hX5 HO2 HR2 HB2 HX2 b0 b1 b2 b3 b4 b5 hn6; subst hv5; go_wp2_with fail; refine HSu.out.mono ?_; rintro e w6 ⟨rfl, hb6⟩; have HB6 := hide (HB5.out.trans (hb6.mono HB5.out.size)); have HO6 := hide (HO5.out.on hb6 fun _ _ h => h); clear HSu hb6; go_wp2_with fail
    go_roundw
    case rel => exact ⟨Hr.superS x, xa, xc, n5, done ++ [q], rfl, rfl, HN6, HB6, HO6, HNx⟩
    case measure => exact HMe.out
end Go.Proofs.YtbbbnciejmdpfabGreatDoor
