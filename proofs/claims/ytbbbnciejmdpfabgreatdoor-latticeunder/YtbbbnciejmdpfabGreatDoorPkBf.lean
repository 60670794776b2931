/- What the laws of this seat lean on: 4 texts. -/
import Derived.Test.YtbbbnciejmdpfabGreatDoorPkAu
import Derived.Test.YtbbbnciejmdpfabGreatDoorPkBe
import Derived.Test.YtbbbnciejmdpfabGreatDoorPkBc
import Derived.Test.YtbbbnciejmdpfabGreatDoorPkAl
set_option maxRecDepth 100000
set_option maxHeartbeats 64000000
set_option linter.unusedVariables false
set_option linter.unusedSimpArgs false
namespace Go.Proofs.YtbbbnciejmdpfabGreatDoor
open Go.RowKit
theorem Super_any (cs : List Pp.XCls) (v : Value) (nm : Pp.Bs) (w : World) (ht : TabS w) (h : ProgX w v cs) :
 Calls Tryz.prog 77 #[.agg #[v], .string ⟨nm.toArray⟩] w fun e w' => e = .returned (.tuple #[.string ⟨(Hr.pairS (Hr.superQ cs nm)).1.toArray⟩, .bool (Hr.pairS (Hr.superQ cs nm)).2]) /\ Below w.heap.size w w' := by
 have HG := hide (fun wx (hb : Below w.heap.size w wx) => look_any cs v nm w wx (ht.below hb) hb h); obtain ⟨pa, pc, rfl, _⟩ := h.1.len; clear h ht; generalize cs.length = n at *
 have HB0 := hide ((Below.refl w.heap.size w).alloc (Nat.le_refl _) (.cells #[.slice pa n pc] 24)); cases hl : Hr.lookL cs nm with
 | none =>
   have HQ : Hid (Hr.superQ cs nm = none) := hide (by unfold Hr.superQ; rw [hl])
   rw [hl] at HG; simp only [Hr.pairP] at HG; rw [HQ.out]; clear hl HQ; generalize (⟨nm.toArray⟩ : ByteArray) = nb at *
   go_enter Tryz.func77, Tryz.ntmps77; go_wp2_with fail; refine (HG.out _ HB0.out).mono ?_; rintro e w1 ⟨⟨a1, n1, c1, a2, n2, c2, rfl, _⟩, hb1⟩; have HB1 := hide (HB0.out.trans (hb1.mono HB0.out.size)); clear hb1 HG HB0; go_wp2_with fail; go_ret2; exact ⟨rfl, HB1.out.alloc HB1.out.size _⟩
 | some k =>
   obtain ⟨he, hp⟩ := Hr.lookL_some hl; obtain ⟨c, hc, -⟩ := Hr.placeL_lt hp; have HQ : Hid (Hr.superQ cs nm = Hr.superL c) := hide (by unfold Hr.superQ; rw [hl]; simp only [hc])
   have HE := hide he; have HCc := hide hc; rw [hl] at HG; simp only [Hr.pairP] at HG; rw [HQ.out]; clear hl HQ he hp hc; generalize (⟨nm.toArray⟩ : ByteArray) = nb at *
   go_enter Tryz.func77, Tryz.ntmps77; go_wp2_with fail; refine (HG.out _ HB0.out).mono ?_; rintro e w1 ⟨⟨a1, n1, c1, a2, n2, c2, rfl, htr⟩, hb1⟩; obtain ⟨up, htr⟩ := htr HE.out; have HB1 := hide (HB0.out.trans (hb1.mono HB0.out.size)); have HTx := hide (htr.x HB1.out)
   obtain ⟨m, hm⟩ : ∃ m, m = n1 /\ n1 = (Hr.allL cs).length := by
    obtain ⟨_, _, hsh⟩ := htr.all.shape; injection hsh with _ hsh2 _; exact ⟨n1, rfl, hsh2⟩
   have hkm : k < n1 := by rw [hm.2]; exact (List.getElem?_eq_some_iff.1 HCc.out).1
   have hm1 : n1 <= 1000 := by rw [hm.2]; exact htr.top
   clear hm htr; obtain ⟨g1, o1, eg1, ys1, w1', hc1⟩ := Hr.row_at HTx.out.all HCc.out; subst eg1; have HAl := hide ((Below.refl w1.heap.size w1).alloc (Nat.le_refl _) (.cells #[.slice (some ⟨g1, o1, none⟩) n1 c1, .slice a2 n2 c2] 60)); have HS := hide (fun wx (hb : Below w1.heap.size w1 wx) => superOf_any c ys1 wx (w1'.on hb)); have HCx := hide (hc1 _ HAl.out); obtain ⟨va1, vd1, va2, vd2, va3, vd3, rfl⟩ := Hr.at_c w1'; have r0 := HCx.out 0 _ rfl; have r1 := HCx.out 1 _ rfl; have r2 := HCx.out 2 _ rfl; have r3 := HCx.out 3 _ rfl; have r4 := HCx.out 4 _ rfl; have r5 := HCx.out 5 _ rfl; rw [Nat.add_zero] at r0; have hkm' : (k : Int) < (n1 : Int) := by omega
   have hm1' : (n1 : Int) <= 1000 := by omega
   clear hb1 HG HB0 hc1 w1' HCx HTx; go_wp2_with fail; refine (HS.out _ HAl.out).mono ?_; rintro e w5 ⟨rfl, hb5⟩; have HB5 := hide (HB1.out.trans ((HAl.out.trans (hb5.mono HAl.out.size)).mono HB1.out.size)); clear hb5 r0 r1 r2 r3 r4 r5 HS; go_wp2_with fail; go_ret2; exact ⟨rfl, HB5.out⟩
theorem Under_any (cs : List Pp.XCls) (v : Value) (a b : Pp.Bs) (w : World) (ht : TabS w) (h : ProgX w v cs) :
 Calls Tryz.prog 9 #[.agg #[v], .string ⟨a.toArray⟩, .string ⟨b.toArray⟩] w fun e w' => Hr.Yes (Hr.underQ cs a b) e /\ Below w.heap.size w w' := by
 have HG := hide (fun wx (hb : Below w.heap.size w wx) => look_any cs v a w wx (ht.below hb) hb h); obtain ⟨pa, pc, rfl, _⟩ := h.1.len; clear h ht; generalize cs.length = n at *
 have HB0 := hide ((Below.refl w.heap.size w).alloc (Nat.le_refl _) (.cells #[.slice pa n pc] 24)); cases hl : Hr.lookL cs a with
 | none =>
   have HQ : Hid (¬ Hr.underQ cs a b) := hide (by
    rintro ⟨up, i, j, he, _, hp, _⟩; rw [Hr.lookL_yes he, hp] at hl
    cases hl)
   rw [hl] at HG; simp only [Hr.pairP] at HG; clear hl; generalize (⟨a.toArray⟩ : ByteArray) = nb at *
   go_enter Tryz.func9, Tryz.ntmps9; go_wp2_with fail; refine (HG.out _ HB0.out).mono ?_; rintro e w1 ⟨⟨a1, n1, c1, a2, n2, c2, rfl, _⟩, hb1⟩; have HB1 := hide (HB0.out.trans (hb1.mono HB0.out.size)); clear hb1 HG HB0; go_wp2_with fail; go_ret; exact ⟨.no HQ.out, HB1.out.alloc HB1.out.size _⟩
 | some k =>
   obtain ⟨he, hp⟩ := Hr.lookL_some hl; obtain ⟨c, hc, -⟩ := Hr.placeL_lt hp; have HE := hide he; have HPA := hide hp; have HCc := hide hc; rw [hl] at HG; simp only [Hr.pairP] at HG; clear hl he hp hc; generalize (⟨a.toArray⟩ : ByteArray) = nb at *
   go_enter Tryz.func9, Tryz.ntmps9; go_wp2_with fail; refine (HG.out _ HB0.out).mono ?_; rintro e w1 ⟨⟨a1, n1, c1, a2, n2, c2, rfl, htr⟩, hb1⟩; obtain ⟨up, htr⟩ := htr HE.out; have HB1 := hide (HB0.out.trans (hb1.mono HB0.out.size)); have HTx := hide (htr.x HB1.out)
   obtain ⟨m, hm⟩ : ∃ m, m = n1 /\ n1 = (Hr.allL cs).length := by
    obtain ⟨_, _, hsh⟩ := htr.all.shape; injection hsh with _ hsh2 _; exact ⟨n1, rfl, hsh2⟩
   have hkm : k < n1 := by rw [hm.2]; exact (List.getElem?_eq_some_iff.1 HCc.out).1
   have HNL := hide hm.2; have HAl := hide ((Below.refl w1.heap.size w1).alloc (Nat.le_refl _) (.cells #[.slice a1 n1 c1, .slice a2 n2 c2] 60)); have HPl := hide (fun wx (hb : Below w1.heap.size w1 wx) => place_any (Hr.allL cs) (.slice a1 n1 c1) b wx (HTx.out.all.on hb fun _ _ h => h.on hb) (by have := htr.top; unfold maxLen; omega))
   have HUn := hide (fun wx (hb : Below w1.heap.size w1 wx) (hi : Nat) (h2 : hi < n1) => under_any n1 a1 c1 up (.slice a2 n2 c2) k hi wx ((by have := HTx.out.ups.on hb; rw [<- HNL.out] at this; exact this)) hkm h2)
   clear hm htr hb1 HG HB0; cases hpb : Hr.placeL (Hr.allL cs) b with
   | none =>
     have HQ : Hid (¬ Hr.underQ cs a b) := hide (by
      rintro ⟨up, i, j, he, _, _, hp, _⟩; rw [hpb] at hp
      cases hp)
     rw [hpb] at HPl; simp only [Hr.pairP] at HPl; clear hpb; generalize (⟨b.toArray⟩ : ByteArray) = bb at *
     go_wp2_with fail; refine (HPl.out _ HAl.out).mono ?_; rintro e w5 ⟨rfl, hb5⟩; have HB5 := hide (HB1.out.trans ((HAl.out.trans (hb5.mono HAl.out.size)).mono HB1.out.size)); clear hb5 HPl HUn; go_wp2_with fail; go_ret; exact ⟨.no HQ.out, HB5.out⟩
   | some j =>
     have hj : j < n1 := by
      obtain ⟨d, hd, -⟩ := Hr.placeL_lt hpb; rw [HNL.out]; exact (List.getElem?_eq_some_iff.1 hd).1
     have HQ : Hid (Hr.underQ cs a b ↔ (k = j \/ j = 0 \/ Hr.Far up k j)) := hide (by
      constructor
      · rintro ⟨up', i', j', _, hg, h1, h2, h3⟩
        rw [HPA.out] at h1; cases h1; rw [hpb] at h2; cases h2; rw [HTx.out.grw] at hg; cases hg; exact h3
      · intro h3
        exact ⟨up, k, j, HE.out, HTx.out.grw, HPA.out, hpb, h3⟩)
     rw [hpb] at HPl; simp only [Hr.pairP] at HPl; clear hpb; generalize (⟨b.toArray⟩ : ByteArray) = bb at *
     go_wp2_with fail; refine (HPl.out _ HAl.out).mono ?_; rintro e w5 ⟨rfl, hb5⟩; have HA5 := hide (HAl.out.trans (hb5.mono HAl.out.size)); have HB5 := hide (HB1.out.trans (HA5.out.mono HB1.out.size)); have HX5 := hide ((hb5.block w1.heap.size (by simp)).trans (heap_alloc_new w1 (.cells #[.slice a1 n1 c1, .slice a2 n2 c2] 60)))
     have s0 := cell_box HX5.out 0; have s1 := cell_box HX5.out 1; clear hb5 HPl; go_wp2_with fail; refine (HUn.out _ HA5.out j hj).mono ?_; rintro e w6 ⟨⟨y, rfl, hy⟩, hb6⟩; have HY := hide hy; have HB6 := hide (HB5.out.trans (hb6.mono HB5.out.size)); clear hy hb6 s0 s1; go_wp2_with fail; go_ret; exact ⟨⟨_, rfl, by first | rw [HY.out, HQ.out] | (simp only [Bool.true_and]; rw [HY.out, HQ.out])⟩, HB6.out⟩
theorem All_any (cs : List Pp.XCls) (v : Value) (w : World) (h : ProgX w v cs) (hl : Pp.Light cs) :
 Calls Tryz.prog 6 #[.agg #[v]] w fun e w' => ∃ v', e = .returned v' /\ Ow.OwnX w' w.heap.size 33 6 (Ow.ClsO w' w.heap.size) v' (Hr.allL cs) /\ Below w.heap.size w w' := by
 have HR := hide h.1; have HLc := hide hl.2; have hn := hl.1; obtain ⟨pa, pc, rfl, _⟩ := h.1.len; obtain ⟨n, hn'⟩ : ∃ n, n = cs.length := ⟨_, rfl⟩; have HN := hide hn'; rw [<- hn'] at HR hn ⊢; clear h hl hn'; obtain ⟨j0, hj, hj0, hj1, hj2⟩ := Ow.info_of Ow.i_cls; have hx0 := hide (heap_alloc_new w (.cells #[.slice pa n pc] 24)); have HB0 := hide ((Below.refl w.heap.size w).alloc (Nat.le_refl _) (.cells #[.slice pa n pc] 24)); go_enter Tryz.func6, Tryz.ntmps6; go_wp2_with fail; generalize w.alloc (.cells #[.slice pa n pc] 24) = w0 at *
 refine (standing_any w0).mono ?_; rintro e w1 ⟨v1, rfl, ho1, hb1⟩; have c0 := cell_box ((hb1.block _ (Ow.lt_of_blk hx0.out)).trans hx0.out) 0; have HB1 := hide (HB0.out.trans (hb1.mono HB0.out.size))
 have HO1 : Hid (Ow.OwnX w1 w.heap.size 33 6 (Ow.ClsO w1 w.heap.size) v1 (Hr.base ++ cs.take 0)) := hide (by
  rw [List.take_zero, List.append_nil]
  exact ho1.low HB0.out.size fun _ _ h => h.o _ _)
 clear ho1 hb1 hx0 HB0; go_wp2_with fail; clear c0
 go_loopw [3, 10] (fun lv i wr => ∃ (k : Nat) (acc : List Pp.XCls), k <= n /\ i = .int .i64 k /\ Hid (Below w.heap.size w wr) /\ Hid (Ow.OwnX wr w.heap.size 33 6 (Ow.ClsO wr w.heap.size) lv acc) /\ Hid (acc = Hr.base ++ cs.take k)) (fun lv i _ => n - (intOf i).toNat)
 case atStart => exact ⟨0, _, Nat.zero_le _, rfl, HB1, HO1, hide rfl⟩
 case round =>
  obtain ⟨k, acc, hk, rfl, HBr, HO, HAc⟩ := hrel; clear HB1 HO1; obtain ⟨la, lc, rfl⟩ := HO.out.shape; by_cases hlt : k < n
  · obtain ⟨x, hx⟩ : ∃ x, cs[k]? = some x := ⟨cs[k]'(by rw [<- HN.out]; exact hlt), List.getElem?_eq_getElem _⟩
    obtain ⟨g1, o1, eg1, ys1, w1', hc1⟩ := Hr.row_at HR.out hx; subst eg1; have HCx := hide (hc1 wr HBr.out); have HM := hide (fun wy (hb : Below wr.heap.size wr wy) => copyClass_any x ys1 wy (w1'.on (HBr.out.trans (hb.mono HBr.out.size))) (HLc.out x (List.mem_of_getElem? hx))); have HTk : Hid (acc ++ [x] = Hr.base ++ cs.take (k + 1)) := hide (by rw [HAc.out, List.take_add_one, hx, List.append_assoc]; rfl)
    have HLn : Hid (acc.length <= 22) := hide (by rw [HAc.out, List.length_append, List.length_take]; show 8 + _ <= 22; omega)
    obtain ⟨va1, vd1, va2, vd2, va3, vd3, rfl⟩ := Hr.at_c w1'; have r0 := HCx.out 0 _ rfl; have r1 := HCx.out 1 _ rfl; have r2 := HCx.out 2 _ rfl; have r3 := HCx.out 3 _ rfl; have r4 := HCx.out 4 _ rfl; have r5 := HCx.out 5 _ rfl; rw [Nat.add_zero] at r0; have hlt' : (k : Int) < (n : Int) := by omega
    have hn1 : (n : Int) <= 14 := by omega
    have HAl := hide ((Below.refl wr.heap.size wr).alloc (Nat.le_refl _) (.cells #[.string ⟨x.name.toArray⟩, .bool x.iface, .string ⟨x.super.toArray⟩, .slice va1 x.ifaces.length vd1, .slice va2 x.fields.length vd2, .slice va3 x.methods.length vd3] 33)); clear hc1 HCx hx w1' HAc; go_wp2_with fail; refine (HM.out _ HAl.out).mono ?_; rintro e w9 ⟨ys', rfl, ho9, hb9⟩; obtain ⟨wp, wc, wk, rfl, q1, q2, q3, q4⟩ := ho9; have hMO : Ow.ClsO w9 w.heap.size x (clsXL x wp wc wk) := Ow.ClsO.on ⟨wp, wc, wk, rfl, q1, q2, q3, q4⟩ (Below.refl _ _) (Nat.le_trans HBr.out.size HAl.out.size); have hB9 := HAl.out.trans (hb9.mono HAl.out.size); have hA : Below wr.heap.size wr (w9.alloc (.cells (clsXL x wp wc wk).toArray 33)) := hB9.trans (((Below.refl _ _).alloc (Nat.le_refl _) _).mono hB9.size); have HR1 : Hid (RowX (w9.alloc (.cells (clsXL x wp wc wk).toArray 33)) 6 (Ow.ClsO (w9.alloc (.cells (clsXL x wp wc wk).toArray 33)) w.heap.size) (.slice (some ⟨w9.heap.size, 0, none⟩) 1 1) [x]) := hide (Hr.row_one (heap_alloc_new w9 _) (hMO.on ((Below.refl _ _).alloc (Nat.le_refl _) _) (Nat.le_refl _))); have HO1 : Hid (Ow.OwnX (w9.alloc (.cells (clsXL x wp wc wk).toArray 33)) w.heap.size 33 6 (Ow.ClsO (w9.alloc (.cells (clsXL x wp wc wk).toArray 33)) w.heap.size) (.slice la acc.length lc) acc) := hide (HO.out.on hA fun _ _ h => h.on hA (Nat.le_refl _)); have HA := hide (HBr.out.trans (hA.mono HBr.out.size)); obtain ⟨ua1, ud1, rfl⟩ := q1.shape; obtain ⟨ua2, ud2, rfl⟩ := q2.shape; obtain ⟨ua3, ud3, rfl⟩ := q3.shape; clear hMO q1 q2 q3 q4 hb9 hB9 hA HM r0 r1 r2 r3 r4 r5; simp only [clsXL] at HR1 HO1 HA ⊢
    go_wp2_with (at_builtin; refine Ow.wpList_app rfl (.tmp 14) (.tmp 17) 22 rfl Tryz.underlying22 hj hj0 hj1 hj2 (by decide) Ow.shp_cls rfl HO1.out rfl HR1.out ?c1 (by decide) HA.out.size ?_)
    case c1 => have := HLn.out; simp; omega
    · intro v' w10 hown hgrow
      have hkx := Ow.kx_grown HO1.out hgrow; have HB10 := hide (HA.out.trans (Ow.bel_grown HO1.out HA.out.size hgrow)); have HO10 : Hid (Ow.OwnX w10 w.heap.size 33 6 (Ow.ClsO w10 w.heap.size) v' (acc ++ [x])) := hide (hown.low (Nat.le_refl _) fun _ _ h => h.kx hkx (by decide) (by decide) (by decide) (by decide) (by decide) (by decide))
      clear hown hgrow hkx HO1 HR1 HA; go_wp2_with fail
      go_roundw
      case rel => first | exact ⟨k + 1, acc ++ [x], by omega, by go_num, HB10, HO10, HTk⟩ | ((repeat apply Exists.intro); exact ⟨⟨k + 1, acc ++ [x], by omega, by go_num, HB10, HO10, HTk⟩, rfl⟩)
      case measure => simp [intOf]; omega
  · have HE : Hid (acc = Hr.allL cs) := hide (by rw [HAc.out, List.take_of_length_le (by rw [<- HN.out]; omega)]; rfl)
    have hnl : ¬ ((k : Int) < (n : Int)) := by omega
    go_wp2_with fail; go_ret; rw [<- HE.out]; exact ⟨_, rfl, HO.out, HBr.out⟩
namespace Ly
open Pp Hr
theorem mth_pars {m : XMth} (h : mthB m = true) : m.params.length <= 4 := by
 simp only [mthB, Bool.and_eq_true, eachB_iff] at h; exact h.2.1.1
theorem all_pars {cs : List XCls} (h : progB cs = true) {k : Nat} {c : XCls} (hc : (allL cs)[k]? = some c) : ∀ m ∈ c.methods, m.params.length <= 4 := by
 rcases List.mem_append.1 (List.mem_of_getElem? hc) with hm | hm
 · revert c
   have : ∀ c ∈ base, c.methods = [] := by decide
   intro c _ hm m hx; rw [this c hm] at hx; cases hx
 · intro m hx
   exact mth_pars ((cls_parts (prog_all h hm)).2.2.2.2.2.2 m hx)
theorem bs_range {bs : List Nat} {n : Nat} (h : bs.length = n) : (List.range n).map (bs.getD · 0) = bs := by
 apply List.ext_getElem?; intro i; rw [List.getElem?_map]; by_cases hi : i < n
 · rw [List.getElem?_range hi, getD_at (by omega)]
   rfl
 · rw [List.getElem?_eq_none (by simp; omega), List.getElem?_eq_none (by omega)]
   rfl
theorem ifs_map (l : List XCls) (bs : List Nat) (k : Nat) : (ifsP l k).map (bs.getD · 0) = ifsB l bs (clP l k).ifaces := by
 unfold ifsP ifsB; rw [List.map_filterMap]
 rfl
theorem netOk {cs : List XCls} {up : List (List Nat)} {bs : List Nat} (he : errL cs = 0) (hg : growL (allL cs) (allL cs) = some up) (hn : bs.Nodup) (hl : bs.length = (allL cs).length) : NetOk (bnet (allL cs) up bs) (allL cs) bs := by
 have hi := bnet_img (l := allL cs) up hn hl; have hG := pnet_good he hg; have hp := (err_zero he).1
 have hlen : (allL cs).length <= 18 := by
  have h1 := ((eachB_iff cs 10 clsB).1 hp).1; have h2 := all_len cs; have h3 : base.length = 8 := rfl; omega
 refine ⟨hi.good hG, hi.small hG (pnet_small he hg), fun b => Iff.rfl, by omega, fun n => ?_, fun b hb m hm => ?_⟩
 · have h1 := find_place hn hl n
   show (bs.find? fun b => nmF (allL cs) bs b == n).isSome = _; rw [h1]; unfold placeB; cases placeL (allL cs) n <;> rfl
 · obtain ⟨k, hk, rfl⟩ := (hi.T b).1 hb
   rw [hi.cl k hk] at hm; exact Nat.le_trans (all_pars hp (at_of hk) m hm) (by decide)
theorem check_bs {cs : List XCls} {up : List (List Nat)} {bs : List Nat} (he : errL cs = 0) (hg : growL (allL cs) (allL cs) = some up) (hn : bs.Nodup) (hl : bs.length = (allL cs).length) : checkF (bnet (allL cs) up bs) (allL cs) bs = layE cs := by
 have hi := bnet_img (l := allL cs) up hn hl; have h1 := hi.checkF (pnet_good he hg) (allL cs) (List.range (allL cs).length) (fun x hx => List.mem_range.1 hx); rw [bs_range hl] at h1; unfold layE; rw [if_pos he, hg]; exact h1
end Ly
theorem rdy_of {l : List Pp.XCls} {up : List (List Nat)} {bs : List Nat} {w w' : World} (hn : bs.Nodup) (hl : bs.length = l.length) (hlow : ∀ b ∈ bs, w.heap.size <= b) (hb : Below w.heap.size w w') (ht : Tabs1 w w' l bs l.length) : Rdy (Ly.bnet l up bs) w w' (fun _ => False) := by
 refine ⟨hb, ⟨fun _ => False, fun b hT => ?_⟩, fun k hk => ⟨hlow k hk, ?_⟩, fun _ h => h.elim⟩
 · have hT : b ∈ bs := hT
   obtain ⟨j, hj⟩ := List.getElem?_of_mem hT; have hlt := (List.getElem?_eq_some_iff.1 hj).1
   have hb0 : bs.getD j 0 = b := by
    have := Ly.getD_at hlt; rw [hj] at this; injection this with this; exact this.symm
   have hix : bs.idxOf b = j := by rw [<- hb0]; exact Ly.idx_get hn hlt
   have hc := Ly.at_of (l := l) (k := j) (by omega)
   obtain ⟨ia, ic, fa, fc, ma, mc, vs, h1, h2, h3⟩ := ht.tied j _ b (by omega) hc hj
   have hcl : (Ly.bnet l up bs).cl b = Ly.clP l j := by show Ly.clP l (bs.idxOf b) = _; rw [hix]
   have hsup : (Ly.bnet l up bs).sup b = Ly.placeB l bs (Ly.clP l j).super := by show (Ly.supP l (bs.idxOf b)).map _ = _; rw [hix]; rfl
   have hifs : (Ly.bnet l up bs).ifs b = Ly.ifsB l bs (Ly.clP l j).ifaces := by show (Ly.ifsP l (bs.idxOf b)).map _ = _; rw [hix]; exact Ly.ifs_map l bs j
   refine ⟨_, h1, ⟨rfl, ⟨[.string ⟨(Ly.clP l j).name.toArray⟩, .bool (Ly.clP l j).iface, .string ⟨(Ly.clP l j).super.toArray⟩, .slice ia (Ly.clP l j).ifaces.length ic, .slice fa (Ly.clP l j).fields.length fc, .slice ma (Ly.clP l j).methods.length mc], by rw [hcl]; exact h2, fun i u hu => ?_⟩, ?_, vs, rfl, ?_⟩, rfl, rfl, fun h => h.elim, fun _ => ⟨rfl, rfl, rfl, rfl⟩⟩
   · have hi6 := (List.getElem?_eq_some_iff.1 hu).1
     have hi6 : i < 6 := hi6; have h6 : i = 0 \/ i = 1 \/ i = 2 \/ i = 3 \/ i = 4 \/ i = 5 := by omega
     rcases h6 with rfl | rfl | rfl | rfl | rfl | rfl <;> exact hu
   · rw [hsup]; rfl
   · rw [hifs]
     exact h3.sub fun k _ hk => hk.elim id False.elim
 · obtain ⟨⟨cs, h1⟩, _⟩ := ht.all hl hn hk
   exact Ow.lt_of_blk h1
def TabsOk (cs : List Pp.XCls) (base : Nat) (w : World) (v : Value) : Prop := ∃ up bs w0, Hr.errL cs = 0 /\ Hr.growL (Hr.allL cs) (Hr.allL cs) = some up /\ bs.Nodup /\ bs.length = (Hr.allL cs).length /\ base <= w0.heap.size /\ Rdy (Ly.bnet (Hr.allL cs) up bs) w0 w (fun _ => False) /\ Stb (fun k => k ∈ bs) w 1 PtrX v bs
theorem tablesOf_any (cs : List Pp.XCls) (v : Value) (w : World) (ht : TabS w) (h : ProgX w v cs) (hl : Pp.Light cs) :
 Calls Tryz.prog 59 #[.agg #[v]] w fun e w' => ∃ v', e = .returned (.tuple #[v', .int .i64 (Ly.layE cs)]) /\ (Ly.layE cs = 0 -> TabsOk cs w.heap.size w' v') /\ (Ly.layE cs ≠ 0 -> v' = .slice none 0 0) /\ Below w.heap.size w w' := by
 have HC := hide (fun wx (hb : Below w.heap.size w wx) => hCheck_any cs v wx (ht.below hb) (h.on hb)); have HA := hide (fun wx (hb : Below w.heap.size w wx) => All_any cs v wx (h.on hb) hl); obtain ⟨pa, pc, rfl, _⟩ := h.1.len; clear h ht hl; generalize cs.length = n at *
 have hx0 := heap_alloc_new w (.cells #[.slice pa n pc] 24); have HX0 := hide hx0; have HB0 := hide ((Below.refl w.heap.size w).alloc (Nat.le_refl _) (.cells #[.slice pa n pc] 24)); have c0 := cell_box hx0 0; clear hx0; go_enter Tryz.func59, Tryz.ntmps59; go_wp2_with fail; generalize w.alloc (.cells #[.slice pa n pc] 24) = wa at *
 refine (HC.out wa HB0.out).mono ?_; rintro e w1 ⟨rfl, hb1⟩; have HB1 := hide (HB0.out.trans (hb1.mono HB0.out.size)); have hX1 := (hb1.block _ (Ow.lt_of_blk HX0.out)).trans HX0.out; clear HC hb1 HX0 c0; by_cases he : Hr.errL cs = 0
 · have HE := hide he
   obtain ⟨hp, ho, up, hg, _⟩ := Hr.err_zero he; have HG := hide hg; have HP := hide hp; have c0 := cell_box hX1 0; rw [he]; clear hX1 he hp ho hg; go_wp2_with fail; refine (HA.out w1 HB1.out).mono ?_; rintro e w2 ⟨va, rfl, ho2, hb2⟩; have HB2 := hide (HB1.out.trans (hb2.mono HB1.out.size)); have hrow : RowX w2 6 (ClsX w2) va (Hr.allL cs) := ho2.row Ow.shp_cls fun _ _ h => h.x
   have HBind := hide (bind_any (Hr.allL cs) va w2 hrow (by
    have h1 := ((Pp.eachB_iff cs 10 Pp.clsB).1 HP.out).1; have h2 := Hr.all_len cs; have h3 : Hr.base.length = 8 := rfl
    omega) fun c hc => by
     obtain ⟨k, hk⟩ := List.getElem?_of_mem hc; refine ⟨Nat.le_trans (Ly.all_facts HP.out hk).2.2.1 (by decide), fun y hy => ?_⟩
     have hkl := (List.getElem?_eq_some_iff.1 hk).1; obtain ⟨j, hj, _⟩ := Ly.ifs_all HG.out hkl (y := y) (by rw [Ly.clP_at hk]; exact hy)
     rw [hj]
     rfl)
   obtain ⟨xa, xc, rfl, _⟩ := hrow.len; clear HA hb2 ho2 hrow c0; go_wp2_with fail; refine HBind.out.mono ?_; rintro e w3 ⟨vb, rfl, bs, hnd, hlen, hlow, hb3, hst, htb⟩; have HB3 := hide (HB2.out.trans (hb3.mono HB2.out.size)); have HRd := hide (rdy_of (up := up) hnd hlen hlow hb3 htb); have HOk := hide (Ly.netOk HE.out HG.out hnd hlen); have HSt := hide hst; have HChk := hide (check_any _ (Hr.allL cs) bs HOk.out vb w2 w3 (fun _ => False) HRd.out (hst.sub fun k _ hk => hk.elim id False.elim)); rw [Ly.check_bs HE.out HG.out hnd hlen] at HChk; have HNd := hide hnd; have HLn := hide hlen; have HLow := hide hlow; have HS2 := hide HB2.out.size; obtain ⟨ba, bc, rfl, _⟩ := hst.row.len; clear HBind hb3 hst htb hnd hlen hlow; go_wp2_with fail; refine HChk.out.mono ?_; rintro e w4 ⟨rfl, hr4, hf4⟩; have HB4 := hide (below_fx HB3.out hf4 fun k hk => Nat.le_trans HS2.out (HLow.out k hk)); have HT4 : Hid (TabsOk cs w.heap.size w4 (.slice ba bs.length bc)) := hide ⟨up, bs, w2, HE.out, HG.out, HNd.out, HLn.out, HS2.out, hr4, HSt.out.on (hf4.mono fun k _ hk => hk) fun _ _ h => h⟩; clear HChk hr4 hf4; by_cases h0 : Ly.layE cs = 0
   · rw [h0]
     have H0 := hide h0; clear h0; go_wp2_with fail; refine bodyPost_ret (v := .tuple #[.slice ba bs.length bc, .int .i64 0]) (by simp [results, Tryz.results59, go_sem]) rfl ?_
     exact ⟨_, by rw [H0.out], fun _ => HT4.out, fun h => absurd H0.out h, HB4.out⟩
   · have h0' : (Ly.layE cs != 0) = true := by simpa using h0
     have H0 := hide h0; clear h0; go_wp2_with fail; refine bodyPost_ret (v := .tuple #[.slice none 0 0, .int .i64 (Ly.layE cs)]) (by simp [results, Tryz.results59, go_sem]) rfl ?_
     exact ⟨_, rfl, fun h => absurd h H0.out, fun _ => rfl, HB4.out⟩
 · have HL : Hid (Ly.layE cs = Hr.errL cs) := hide (by unfold Ly.layE; rw [if_neg he])
   have he' : (Hr.errL cs != 0) = true := by simpa using he
   have HE := hide he; clear he hX1; go_wp2_with fail; refine bodyPost_ret (v := .tuple #[.slice none 0 0, .int .i64 (Hr.errL cs)]) (by simp [results, Tryz.results59, go_sem]) rfl ?_
   rw [HL.out]; exact ⟨_, rfl, fun h => absurd h HE.out, fun _ => rfl, HB1.out⟩
theorem lCheck_any (cs : List Pp.XCls) (v : Value) (w : World) (ht : TabS w) (h : ProgX w v cs) (hl : Pp.Light cs) :
 Calls Tryz.prog 44 #[.agg #[v]] w fun e w' => e = .returned (.int .i64 (Ly.layE cs)) /\ Below w.heap.size w w' := by
 have HC := hide (fun wx (hb : Below w.heap.size w wx) => tablesOf_any cs v wx (ht.below hb) (h.on hb) hl); obtain ⟨pa, pc, rfl, _⟩ := h.1.len; clear h ht hl; generalize cs.length = n at *
 have HB0 := hide ((Below.refl w.heap.size w).alloc (Nat.le_refl _) (.cells #[.slice pa n pc] 24)); go_enter Tryz.func44, Tryz.ntmps44; go_wp2_with fail; generalize w.alloc (.cells #[.slice pa n pc] 24) = wa at *
 refine (HC.out wa HB0.out).mono ?_; rintro e w1 ⟨v', rfl, _, _, hb1⟩; have HB1 := hide (HB0.out.trans (hb1.mono HB0.out.size)); clear HC hb1; go_wp2_with fail; go_ret; exact ⟨rfl, HB1.out⟩
namespace Hr
def placeI : Option Nat -> Int
 | none => -1
 | some k => k
def superS (c : Pp.XCls) : Pp.Bs := (superL c).getD []
theorem superL_ne {c : Pp.XCls} {s : Pp.Bs} (h : superL c = some s) : s ≠ [] := by
 unfold superL at h
 split at h
 · cases h
 · split at h
   · cases h; decide
   · cases h; assumption
theorem superS_nil {c : Pp.XCls} (h : superS c = []) : superL c = none := by
 cases hs : superL c with
 | none => rfl
 | some s => unfold superS at h; rw [hs] at h; exact absurd h (superL_ne hs)
theorem superS_ne {c : Pp.XCls} (h : superS c ≠ []) : superL c = some (superS c) := by
 cases hs : superL c with
 | none => unfold superS at h; rw [hs] at h; exact absurd rfl h
 | some s => unfold superS; rw [hs]; rfl
end Hr
theorem RAt_any (l : List Pp.XCls) (v : Value) (n : Pp.Bs) (w : World) (h : RowX w 6 (ClsX w) v l) (hlen : l.length <= maxLen) :
 Calls Tryz.prog 27 #[v, .string ⟨n.toArray⟩] w fun e w' => e = .returned (.int .i64 (Hr.placeI (Hr.placeL l n))) /\ Below w.heap.size w w' := by
 obtain ⟨pa, pc, rfl, _⟩ := h.len; have H := hide h; obtain ⟨m, hm⟩ : ∃ m, m = l.length := ⟨_, rfl⟩; have HM := hide hm; rw [<- hm] at H hlen ⊢; clear h hm; have hmx : (m : Int) <= 9223372036854775807 := by unfold maxLen at hlen; omega
 go_enter Tryz.func27, Tryz.ntmps27; go_wp2_with fail
 go_loopw [5] (fun i wr => ∃ k : Nat, k <= m /\ i = .int .i64 k /\ Below w.heap.size w wr /\ Hid (∀ (j : Nat) (d : Pp.XCls), j < k -> l[j]? = some d -> d.name ≠ n)) (fun i _ => m - (intOf i).toNat)
 case atStart => exact ⟨0, by omega, rfl, Below.refl _ _, hide fun j d hj => absurd hj (Nat.not_lt_zero _)⟩
 case round =>
  obtain ⟨k, hk, rfl, hbw, hp⟩ := hrel; by_cases hlt : k < m
  · obtain ⟨x, hx⟩ : ∃ x, l[k]? = some x := ⟨l[k]'(by rw [<- HM.out]; exact hlt), List.getElem?_eq_getElem _⟩
    obtain ⟨g1, o1, rfl, ys1, w1', hc1⟩ := Hr.row_at H.out hx; have hG := hide (hc1 wr hbw); clear hc1; obtain ⟨vp, vc, vk, rfl, -⟩ := w1'; have r0 := hG.out 0 _ rfl; rw [Nat.add_zero] at r0; clear hG; have hlt' : (k : Int) < (m : Int) := by omega
    by_cases hn : x.name = n
    · have hr := hide (Hr.placeL_at hx hn hp.out)
      rw [hn] at r0; clear hx hn; generalize (⟨n.toArray⟩ : ByteArray) = y0 at *
      go_wp2_with fail; go_ret; rw [hr.out]; exact ⟨rfl, hbw⟩
    · have hne : (x.name == n) = false := by simp [hn]
      have hr : Hid (∀ (j : Nat) (d : Pp.XCls), j < k + 1 -> l[j]? = some d -> d.name ≠ n) := hide fun j d hj hd => by
       rcases Nat.lt_or_eq_of_le (Nat.le_of_lt_succ hj) with h | rfl
       · exact hp.out j d h hd
       · rw [hx] at hd; cases hd; exact hn
      clear hx hn hp; generalize x.name = y0 at *
      go_wp2_with fail
      go_roundw
      case rel => exact ⟨k + 1, by omega, by go_num, hbw, hr⟩
      case measure => simp [intOf]; omega
  · have hr : Hid (Hr.placeL l n = none) := hide (Hr.placeL_none.2 fun j d hd => hp.out j d (by have := (List.getElem?_eq_some_iff.1 hd).1; have := HM.out; omega) hd)
    go_wp2_with fail; go_ret; rw [hr.out]; exact ⟨rfl, hbw⟩
theorem has_any (l : List Pp.Bs) (v : Value) (n : Pp.Bs) (w : World) (h : RowX w 1 StrX v l) (hlen : l.length <= maxLen) :
 Calls Tryz.prog 30 #[v, .string ⟨n.toArray⟩] w fun e w' => e = .returned (.bool (decide (n ∈ l))) /\ Below w.heap.size w w' := by
 obtain ⟨pa, pc, rfl, _⟩ := h.len; have H := hide h; obtain ⟨m, hm⟩ : ∃ m, m = l.length := ⟨_, rfl⟩; have HM := hide hm; rw [<- hm] at H hlen ⊢; clear h hm; have hmx : (m : Int) <= 9223372036854775807 := by unfold maxLen at hlen; omega
 obtain ⟨b, hb⟩ : ∃ b, b = decide (n ∈ l) := ⟨_, rfl⟩; have HB := hide hb; rw [<- hb]; clear hb; go_enter Tryz.func30, Tryz.ntmps30; go_wp2_with fail
 go_loopw [5] (fun i wr => ∃ k : Nat, k <= m /\ i = .int .i64 k /\ Below w.heap.size w wr /\ Hid (n ∉ l.take k)) (fun i _ => m - (intOf i).toNat)
 case atStart => exact ⟨0, by omega, rfl, Below.refl _ _, hide (by simp)⟩
 case round =>
  obtain ⟨k, hk, rfl, hbw, hp⟩ := hrel; by_cases hlt : k < m
  · obtain ⟨x, hx⟩ : ∃ x, l[k]? = some x := ⟨l[k]'(by rw [<- HM.out]; exact hlt), List.getElem?_eq_getElem _⟩
    obtain ⟨g1, o1, rfl, ys1, w1', hc1⟩ := Hr.row_at H.out hx; obtain rfl : ys1 = _ := w1'.1; have r0 := hc1 wr hbw 0 _ rfl; rw [Nat.add_zero, Nat.mul_one] at r0; have hlt' : (k : Int) < (m : Int) := by omega
    clear hc1 w1'; by_cases hn : x = n
    · have hr : Hid (b = true) := hide (by rw [HB.out, decide_eq_true_eq, <- hn]; exact List.mem_of_getElem? hx)
      rw [hn] at r0; clear hx hn; generalize (⟨n.toArray⟩ : ByteArray) = y0 at *
      go_wp2_with fail; go_ret; rw [hr.out]; exact ⟨rfl, hbw⟩
    · have hne : (x == n) = false := by simp [hn]
      have hr : Hid (n ∉ l.take (k + 1)) := hide (by
       rw [List.take_add_one, hx, List.mem_append]; rintro (h | h)
       · exact hp.out h
       · simp at h; exact hn h.symm)
      clear hx hn hp; go_wp2_with fail
      go_roundw
      case rel => exact ⟨k + 1, by omega, by go_num, hbw, hr⟩
      case measure => simp [intOf]; omega
  · have hr : Hid (b = false) := hide (by
     have := hp.out; rw [List.take_of_length_le (by rw [<- HM.out]; omega)] at this
     rw [HB.out]; simpa using this)
    go_wp2_with fail; go_ret; rw [hr.out]; exact ⟨rfl, hbw⟩
theorem RSuper_any (c : Pp.XCls) (ys : List Value) (w : World) (h : ClsX w c ys) :
 Calls Tryz.prog 28 #[.agg ys.toArray] w fun e w' => e = .returned (.string ⟨(Hr.superS c).toArray⟩) /\ Below w.heap.size w w' := by
 obtain ⟨vp, vc, vk, rfl, p1, i1, k1, z1⟩ := h; clear p1 i1 k1; simp only [clsXL, List.toArray]; by_cases hi : c.iface = true
 · have hr : Hid (Hr.superS c = []) := hide (by simp [Hr.superS, Hr.superL, hi])
   rw [hi]; generalize (⟨c.name.toArray⟩ : ByteArray) = y0; generalize (⟨c.super.toArray⟩ : ByteArray) = y2; rw [hr.out]; go_enter Tryz.func28, Tryz.ntmps28; go_wp2; go_ret; exact ⟨rfl, (Below.refl _ _).alloc (Nat.le_refl _) _⟩
 · have hi' : c.iface = false := by simpa using hi
   by_cases hn : c.name = Hr.objN
   · have hr : Hid (Hr.superS c = []) := hide (by simp [Hr.superS, Hr.superL, hn])
     rw [hi', hn, hr.out]; generalize (⟨c.super.toArray⟩ : ByteArray) = y2; go_enter Tryz.func28, Tryz.ntmps28; go_wp2; go_ret; exact ⟨rfl, (Below.refl _ _).alloc (Nat.le_refl _) _⟩
   · have hne : (c.name == Hr.objN) = false := by simp [hn]
     simp only [Hr.objN] at hne; by_cases hs : c.super = []
     · have hr : Hid (Hr.superS c = Hr.objN) := hide (by simp [Hr.superS, Hr.superL, hn, hi', hs])
       rw [hi', hs, hr.out]; generalize c.name = y0 at *
       go_enter Tryz.func28, Tryz.ntmps28; go_wp2; go_ret; exact ⟨rfl, (Below.refl _ _).alloc (Nat.le_refl _) _⟩
     · have hse : (c.super == []) = false := by simp [hs]
       have hr : Hid (Hr.superS c = c.super) := hide (by simp [Hr.superS, Hr.superL, hn, hi', hs])
       rw [hi', hr.out]; clear hr hs hn; generalize c.name = y0 at *
       generalize c.super = y2 at *
       go_enter Tryz.func28, Tryz.ntmps28; go_wp2; go_ret; exact ⟨rfl, (Below.refl _ _).alloc (Nat.le_refl _) _⟩
end Go.Proofs.YtbbbnciejmdpfabGreatDoor
