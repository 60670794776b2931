/- What the laws of this seat lean on: 1 texts. -/
import Derived.Test.YtbbbnciejmdpfabGreatDoorPkAl
import Derived.Test.YtbbbnciejmdpfabGreatDoorPkAd
set_option maxRecDepth 100000
set_option maxHeartbeats 64000000
set_option linter.unusedVariables false
set_option linter.unusedSimpArgs false
namespace Go.Proofs.YtbbbnciejmdpfabGreatDoor
open Go.RowKit
namespace Hr
def IntX (n : Nat) (ys : List Value) : Prop := ys = [.int .i64 n]
theorem shp_int : Ow.Shp IntX 1 := by rintro x ys rfl; exact ⟨rfl, by intro u hu; simp at hu; subst hu; rfl⟩
theorem i_int : (Tryz.prog.info? 3).map (fun i => (i.zero.map (fun z => z.cells.size), i.size, i.bytes)) = some (some 1, 1, 8) := by kernel_rfl
theorem row_one {α : Type} {W : World} {sz : Nat} {P : α -> List Value -> Prop} {x : α} {c : Array Value} {t : TypeId} {f : Nat × Nat} {b : Nat} (hb : W.heap[b]? = some (.cells c t f)) (hx : P x c.toList) : RowX W sz P (.slice (some ⟨b, 0, none⟩) 1 1) [x] := by
 refine ⟨_, _, rfl, by simp, .inr ⟨b, 0, rfl, Ow.lt_of_blk hb, fun k y hk => ?_⟩⟩
 cases k with
 | succ k => simp at hk
 | zero =>
   simp at hk; subst hk; refine ⟨_, hx, fun j u hj => ?_⟩; simp only [Nat.zero_mul, Nat.zero_add]; rw [cell_box hb]
   simpa using hj
theorem at_c {W : World} {c : Pp.XCls} {ys : List Value} (h : ClsX W c ys) : ∃ va1 vd1 va2 vd2 va3 vd3, ys = [.string ⟨c.name.toArray⟩, .bool c.iface, .string ⟨c.super.toArray⟩, .slice va1 c.ifaces.length vd1, .slice va2 c.fields.length vd2, .slice va3 c.methods.length vd3] := by
 obtain ⟨vp, vc, vk, rfl, p1, i1, k1, z1⟩ := h; obtain ⟨va1, vd1, rfl, _⟩ := p1.len; obtain ⟨va2, vd2, rfl, _⟩ := i1.len; obtain ⟨va3, vd3, rfl, _⟩ := k1.len; exact ⟨va1, vd1, va2, vd2, va3, vd3, rfl⟩
theorem upL_some {l : List Pp.XCls} {b : Bool} {n : Pp.Bs} {k : Nat} {c : Pp.XCls} (hp : placeL l n = some k) (hc : l[k]? = some c) : upL l b n = if c.iface = b then some k else none := by
 unfold upL; rw [hp]; simp only [hc]
theorem upL_none {l : List Pp.XCls} {b : Bool} {n : Pp.Bs} (hp : placeL l n = none) : upL l b n = none := by
 unfold upL; rw [hp]
end Hr
theorem ups_any (l : List Pp.XCls) (v : Value) (c : Pp.XCls) (ys : List Value) (w : World) (h : RowX w 6 (ClsX w) v l) (hlen : l.length <= 1000) (hc : ClsX w c ys) (hi : c.ifaces.length <= 1000) :
 Calls Tryz.prog 63 #[v, .agg ys.toArray] w fun e w' => (∃ v', e = .returned (.tuple #[v', .bool (Hr.upsL l c).isSome]) /\ Ow.OwnX w' w.heap.size 3 1 Hr.IntX v' ((Hr.upsL l c).getD [])) /\ Below w.heap.size w w' := by
 have HS := hide (fun wx (hb : Below w.heap.size w wx) => superOf_any c ys wx (hc.on hb)); have HP := hide (fun (n : Pp.Bs) wx (hb : Below w.heap.size w wx) => place_any l v n wx (h.on hb fun _ _ h => h.on hb) (by unfold maxLen; omega))
 have HI := hide hc; obtain ⟨va1, vd1, va2, vd2, va3, vd3, rfl⟩ := Hr.at_c hc; obtain ⟨ux1, ux2, ux3, hux, hii, _⟩ := hc; simp only [clsXL, List.cons.injEq, and_true, true_and] at hux; obtain ⟨rfl, rfl, rfl⟩ := hux; have HN := hide hii; clear hii; have H := hide h; obtain ⟨i0, hi1, hz0, hz1, hz2⟩ := Ow.info_of Hr.i_int; obtain ⟨pa, pc, rfl, _⟩ := h.len; obtain ⟨m, hm⟩ : ∃ m, m = l.length := ⟨_, rfl⟩; have HM := hide hm; rw [<- hm] at H HP hlen ⊢; clear h hm; obtain ⟨q, hq⟩ : ∃ q, q = c.ifaces.length := ⟨_, rfl⟩; have HQ := hide hq; rw [<- hq] at HS HN hi ⊢; clear hq HI; have hx0 := heap_alloc_new w (.cells #[.string ⟨c.name.toArray⟩, .bool c.iface, .string ⟨c.super.toArray⟩, .slice va1 q vd1, .slice va2 c.fields.length vd2, .slice va3 c.methods.length vd3] 33); have HB0 := hide ((Below.refl w.heap.size w).alloc (Nat.le_refl _) (.cells #[.string ⟨c.name.toArray⟩, .bool c.iface, .string ⟨c.super.toArray⟩, .slice va1 q vd1, .slice va2 c.fields.length vd2, .slice va3 c.methods.length vd3] 33)); cases hs : Hr.superL c with
 | none =>
   have hS : Hid (Hr.supL l c = some []) := hide (by unfold Hr.supL; rw [hs])
   rw [hs] at HS; simp only [Hr.pairS] at HS; clear hs; have HX0 := hide hx0; clear hx0; go_enter Tryz.func63, Tryz.ntmps63; go_wp2_with fail; have hx0 := HX0.out; generalize w.alloc (.cells #[.string ⟨c.name.toArray⟩, .bool c.iface, .string ⟨c.super.toArray⟩, .slice va1 q vd1, .slice va2 c.fields.length vd2, .slice va3 c.methods.length vd3] 33) = w0 at *
   have HC : Hid (∀ wx, Below w0.heap.size w0 wx -> ∀ k : Nat, wx.cell? ⟨w.heap.size, k, none⟩ = #[.string ⟨c.name.toArray⟩, .bool c.iface, .string ⟨c.super.toArray⟩, .slice va1 q vd1, .slice va2 c.fields.length vd2, .slice va3 c.methods.length vd3][k]?) := hide fun wx hb k => cell_box ((hb.block w.heap.size (Ow.lt_of_blk hx0)).trans hx0) k; clear hx0 HX0; refine (HS.out w0 HB0.out).mono ?_; rintro e w1 ⟨rfl, hb1⟩; have HW := hide hb1; obtain ⟨s0, hs0⟩ : ∃ s : List Nat, s = [] := ⟨_, rfl⟩; have HO : Hid (Ow.OwnX w1 w0.heap.size 3 1 Hr.IntX (.slice none 0 0) s0) := hide (by rw [hs0]; exact Ow.OwnX.nil _ _ _ _ _)
   rw [<- hs0] at hS; have HSl : Hid (s0.length <= 1) := hide (by simp [hs0])
   clear hs0 hb1 HS; have e3 := HC.out w1 HW.out 3; simp at e3; go_wp2_with fail
   go_loopw [6, 43] (fun lv i wr => ∃ (k : Nat) (r acc : List Nat), k <= q /\ i = .int .i64 k /\ Hid (Below w0.heap.size w0 wr) /\ Hid (Ow.OwnX wr w0.heap.size 3 1 Hr.IntX lv acc) /\ Hid (Hr.ifsL l (c.ifaces.take k) = some r) /\ Hid (r.length = k) /\ Hid (acc = s0 ++ r)) (fun lv i _ => q - (intOf i).toNat)
   case atStart => exact ⟨0, [], s0, Nat.zero_le _, rfl, HW, HO, hide rfl, hide rfl, hide (by simp)⟩
   case round =>
    obtain ⟨k, r, acc, hk, rfl, HBr, HOr, HF, hrk, hacc⟩ := hrel; have hmax : (q : Int) <= 1000 := by omega
    have HBw := hide (HB0.out.trans (HBr.out.mono HB0.out.size)); obtain ⟨la, lc, rfl⟩ := HOr.out.shape; by_cases hlt : k < q
    · obtain ⟨x, hx⟩ : ∃ x, c.ifaces[k]? = some x := ⟨c.ifaces[k]'(by rw [<- HQ.out]; exact hlt), List.getElem?_eq_getElem _⟩
      obtain ⟨g1, o1, rfl, ys1, ⟨rfl, _⟩, hc1⟩ := Hr.row_at HN.out hx; have r0 := hc1 wr HBw.out 0 _ rfl; simp only [Nat.mul_one, Nat.add_zero] at r0; clear hc1; have HPx := hide (HP.out x); have HST := hide (Hr.ifsL_step (l := l) hx); have hlt' : (k : Int) < (q : Int) := by omega
      cases hp : Hr.placeL l x with
      | none =>
        have HR : Hid (Hr.upsL l c = none) := hide (by
         have h1 := HST.out; rw [HF.out, Hr.upL_none hp] at h1; have h2 := Hr.ifsL_take h1
         unfold Hr.upsL; rw [hS.out]; simp only; rw [h2]; rfl)
        rw [hp] at HPx; simp only [Hr.pairP] at HPx; clear hp hx HST HF; generalize (⟨x.toArray⟩ : ByteArray) = xb at *
        go_wp2_with fail; refine (HPx.out _ HBw.out).mono ?_; rintro e w5 ⟨rfl, hb5⟩; have HB5 := hide (HBw.out.trans (hb5.mono HBw.out.size)); clear hb5 HPx; go_wp2_with fail; refine bodyPost_ret (v := .tuple #[.slice none 0 0, .bool false]) (by simp [results, Tryz.results63, go_sem]) rfl ?_
        rw [HR.out]; exact ⟨⟨_, rfl, Ow.OwnX.nil _ _ _ _ _⟩, HB5.out⟩
      | some j =>
        obtain ⟨d, hd, _⟩ := Hr.placeL_lt hp; have hjm : j < m := by rw [HM.out]; exact (List.getElem?_eq_some_iff.1 hd).1
        have HU := hide (Hr.upL_some (b := true) hp hd); obtain ⟨g2, o2, eg2, ys2, w2', hc2⟩ := Hr.row_at H.out hd; cases eg2; rw [hp] at HPx; simp only [Hr.pairP] at HPx
        have HD1 : Hid (∀ wx, Below w.heap.size w wx -> wx.cell? ⟨g2, o2 + j * 6 + 1, none⟩ = some (.bool d.iface)) := hide fun wx hb => by
         obtain ⟨_, _, _, _, _, _, rfl⟩ := Hr.at_c w2'; exact hc2 wx hb 1 _ rfl
        have HDa : Hid (∀ wx, Below w.heap.size w wx -> ∃ va1 vd1 va2 vd2 va3 vd3, wx.cell? ⟨g2, o2 + j * 6, none⟩ = some (.string ⟨d.name.toArray⟩) /\ wx.cell? ⟨g2, o2 + j * 6 + 1, none⟩ = some (.bool d.iface) /\ wx.cell? ⟨g2, o2 + j * 6 + 2, none⟩ = some (.string ⟨d.super.toArray⟩) /\ wx.cell? ⟨g2, o2 + j * 6 + 3, none⟩ = some (.slice va1 d.ifaces.length vd1) /\ wx.cell? ⟨g2, o2 + j * 6 + 4, none⟩ = some (.slice va2 d.fields.length vd2) /\ wx.cell? ⟨g2, o2 + j * 6 + 5, none⟩ = some (.slice va3 d.methods.length vd3)) := hide fun wx hb => by
         obtain ⟨va1, vd1, va2, vd2, va3, vd3, rfl⟩ := Hr.at_c w2'; exact ⟨va1, vd1, va2, vd2, va3, vd3, hc2 wx hb 0 _ rfl, hc2 wx hb 1 _ rfl, hc2 wx hb 2 _ rfl, hc2 wx hb 3 _ rfl, hc2 wx hb 4 _ rfl, hc2 wx hb 5 _ rfl⟩
        clear hc2 w2' hp hd hx; generalize (⟨x.toArray⟩ : ByteArray) = xb at *
        have hjm' : (j : Int) < (m : Int) := by omega
        have hm1 : (m : Int) <= 1000 := by omega
        by_cases hif : d.iface = true
        · have HR : Hid (Hr.ifsL l (c.ifaces.take (k + 1)) = some (r ++ [j])) := hide (by rw [HST.out, HF.out, HU.out, hif]; rfl)
          rw [hif] at HD1 HDa; clear HST HF HU; go_wp2_with fail; refine (HPx.out _ HBw.out).mono ?_; rintro e w5 ⟨rfl, hb5⟩; have HB5 := hide (HBr.out.trans (hb5.mono HBr.out.size)); have HO5 := hide (HOr.out.on hb5 fun _ _ h => h); have d1 := HD1.out w5 (HBw.out.trans (hb5.mono HBw.out.size)); clear hb5 HPx HBw HBr HOr
          go_wp2_with (at_builtin; refine Ow.wpList_app rfl (.tmp 63) (.tmp 65) 110 rfl Tryz.underlying110 hi1 hz0 hz1 hz2 (by decide) Hr.shp_int rfl ((HO5.out).on ((Below.refl _ _).alloc (Nat.le_refl _) (.cells #[.int .i64 j] 3)) fun _ _ h => h) rfl (Hr.row_one (sz := 1) (heap_alloc_new w5 (.cells #[.int .i64 j] 3)) rfl) ?c1 (by decide) ?c2 ?_)
          case c1 => have := HSl.out; have := hrk.out; have := hacc.out; subst this; simp; omega
          case c2 => simp; have := HB5.out.size; omega
          · intro v' w10 hown hgrow
            have hb10 := Ow.bel_grown ((HO5.out).on ((Below.refl _ _).alloc (Nat.le_refl _) (.cells #[.int .i64 j] 3)) fun _ _ h => h) (by simp; have := HB5.out.size; omega) hgrow
            have HB10 := hide ((HB5.out.trans ((Below.refl _ _).alloc HB5.out.size _)).trans hb10); have HO10 := hide hown; clear hown hgrow hb10 HB5 HO5 d1; go_wp2_with fail
            go_roundw
            case rel => first | exact ⟨k + 1, r ++ [j], acc ++ [j], by omega, by go_num, HB10, HO10, HR, hide (by have := hrk.out; simp; omega), hide (by rw [hacc.out, List.append_assoc])⟩ | ((repeat apply Exists.intro); exact ⟨⟨k + 1, r ++ [j], acc ++ [j], by omega, by go_num, HB10, HO10, HR, hide (by have := hrk.out; simp; omega), hide (by rw [hacc.out, List.append_assoc])⟩, rfl⟩)
            case measure => simp [intOf]; omega
        · have hif' : d.iface = false := by simpa using hif
          have HR : Hid (Hr.upsL l c = none) := hide (by
           have h1 := HST.out; rw [HF.out, HU.out, if_neg hif] at h1; have h2 := Hr.ifsL_take h1
           unfold Hr.upsL; rw [hS.out]; simp only; rw [h2]; rfl)
          rw [hif'] at HD1 HDa; clear HST HF HU; go_wp2_with fail; refine (HPx.out _ HBw.out).mono ?_; rintro e w5 ⟨rfl, hb5⟩; have HB5 := hide (HBw.out.trans (hb5.mono HBw.out.size)); have d1 := HD1.out w5 (HBw.out.trans (hb5.mono HBw.out.size)); clear hb5 HPx HBw HBr HOr; go_wp2_with fail; refine bodyPost_ret (v := .tuple #[.slice none 0 0, .bool false]) (by simp [results, Tryz.results63, go_sem]) rfl ?_
          rw [HR.out]; exact ⟨⟨_, rfl, Ow.OwnX.nil _ _ _ _ _⟩, HB5.out⟩
    · have HR : Hid (Hr.upsL l c = some (s0 ++ r)) := hide (by
       have h1 := HF.out; rw [List.take_of_length_le (by rw [<- HQ.out]; omega)] at h1
       unfold Hr.upsL; rw [hS.out]; simp only; rw [h1]; rfl)
      have hnl : ¬ ((k : Int) < (q : Int)) := by omega
      clear HF; go_wp2_with fail; refine bodyPost_ret (v := .tuple #[.slice la acc.length lc, .bool true]) (by simp [results, Tryz.results63, go_sem]) rfl ?_
      rw [HR.out, <- hacc.out]; exact ⟨⟨_, rfl, HOr.out.low HB0.out.size fun _ _ h => h⟩, HBw.out⟩
 | some n =>
   rw [hs] at HS; simp only [Hr.pairS] at HS; have HX0 := hide hx0; clear hx0; have HPx := hide (HP.out n); cases hp : Hr.placeL l n with
   | none =>
     have HR : Hid (Hr.upsL l c = none) := hide (by unfold Hr.upsL Hr.supL; rw [hs]; simp only; rw [Hr.upL_none hp]; rfl)
     rw [hp] at HPx; simp only [Hr.pairP] at HPx; clear hp hs; generalize (⟨n.toArray⟩ : ByteArray) = nb at *
     go_enter Tryz.func63, Tryz.ntmps63; go_wp2_with fail; generalize w.alloc (.cells #[.string ⟨c.name.toArray⟩, .bool c.iface, .string ⟨c.super.toArray⟩, .slice va1 q vd1, .slice va2 c.fields.length vd2, .slice va3 c.methods.length vd3] 33) = w0 at *
     refine (HS.out w0 HB0.out).mono ?_; rintro e w1 ⟨rfl, hb1⟩; have HB1 := hide (HB0.out.trans (hb1.mono HB0.out.size)); clear hb1; go_wp2_with fail; refine (HPx.out w1 HB1.out).mono ?_; rintro e w5 ⟨rfl, hb5⟩; have HB5 := hide (HB1.out.trans (hb5.mono HB1.out.size)); clear hb5 HPx; go_wp2_with fail; refine bodyPost_ret (v := .tuple #[.slice none 0 0, .bool false]) (by simp [results, Tryz.results63, go_sem]) rfl ?_
     rw [HR.out]; exact ⟨⟨_, rfl, Ow.OwnX.nil _ _ _ _ _⟩, HB5.out⟩
   | some j =>
     obtain ⟨d, hd, _⟩ := Hr.placeL_lt hp; have hjm : j < m := by rw [HM.out]; exact (List.getElem?_eq_some_iff.1 hd).1
     have HU := hide (Hr.upL_some (b := false) hp hd); have HSS := hide hs; obtain ⟨g2, o2, eg2, ys2, w2', hc2⟩ := Hr.row_at H.out hd; subst eg2; rw [hp] at HPx; simp only [Hr.pairP] at HPx
     have HD1 : Hid (∀ wx, Below w.heap.size w wx -> wx.cell? ⟨g2, o2 + j * 6 + 1, none⟩ = some (.bool d.iface)) := hide fun wx hb => by
      obtain ⟨_, _, _, _, _, _, rfl⟩ := Hr.at_c w2'; exact hc2 wx hb 1 _ rfl
     clear hc2 w2' hp hd hs; generalize (⟨n.toArray⟩ : ByteArray) = nb at *
     have hjm' : (j : Int) < (m : Int) := by omega
     have hm1 : (m : Int) <= 1000 := by omega
     by_cases hif : d.iface = true
     · have HR : Hid (Hr.upsL l c = none) := hide (by unfold Hr.upsL Hr.supL; rw [HSS.out]; simp only; rw [HU.out, hif]; rfl)
       rw [hif] at HD1; clear HU HSS; go_enter Tryz.func63, Tryz.ntmps63; go_wp2_with fail; generalize w.alloc (.cells #[.string ⟨c.name.toArray⟩, .bool c.iface, .string ⟨c.super.toArray⟩, .slice va1 q vd1, .slice va2 c.fields.length vd2, .slice va3 c.methods.length vd3] 33) = w0 at *
       refine (HS.out w0 HB0.out).mono ?_; rintro e w1 ⟨rfl, hb1⟩; have HB1 := hide (HB0.out.trans (hb1.mono HB0.out.size)); clear hb1; go_wp2_with fail; refine (HPx.out w1 HB1.out).mono ?_; rintro e w5 ⟨rfl, hb5⟩; have HB5 := hide (HB1.out.trans (hb5.mono HB1.out.size)); have d1 := HD1.out w5 HB5.out; clear hb5 HPx; go_wp2_with fail; refine bodyPost_ret (v := .tuple #[.slice none 0 0, .bool false]) (by simp [results, Tryz.results63, go_sem]) rfl ?_
       rw [HR.out]; exact ⟨⟨_, rfl, Ow.OwnX.nil _ _ _ _ _⟩, HB5.out⟩
     · have hif' : d.iface = false := by simpa using hif
       obtain ⟨s0, hs0⟩ : ∃ s : List Nat, s = [j] := ⟨_, rfl⟩; have hS : Hid (Hr.supL l c = some s0) := hide (by unfold Hr.supL; rw [HSS.out]; simp only; rw [HU.out, hif', hs0]; rfl)
       rw [hif'] at HD1; clear HU HSS; go_enter Tryz.func63, Tryz.ntmps63; go_wp2_with fail; have hx0 := HX0.out; generalize w.alloc (.cells #[.string ⟨c.name.toArray⟩, .bool c.iface, .string ⟨c.super.toArray⟩, .slice va1 q vd1, .slice va2 c.fields.length vd2, .slice va3 c.methods.length vd3] 33) = w0 at *
       have HC : Hid (∀ wx, Below w0.heap.size w0 wx -> ∀ k : Nat, wx.cell? ⟨w.heap.size, k, none⟩ = #[.string ⟨c.name.toArray⟩, .bool c.iface, .string ⟨c.super.toArray⟩, .slice va1 q vd1, .slice va2 c.fields.length vd2, .slice va3 c.methods.length vd3][k]?) := hide fun wx hb k => cell_box ((hb.block w.heap.size (Ow.lt_of_blk hx0)).trans hx0) k; clear hx0 HX0; refine (HS.out w0 HB0.out).mono ?_; rintro e w1 ⟨rfl, hb1⟩; have HB1 := hide hb1; have HB1' := hide (HB0.out.trans (hb1.mono HB0.out.size)); clear hb1; go_wp2_with fail; refine (HPx.out w1 HB1'.out).mono ?_; rintro e w5 ⟨rfl, hb5⟩; have HB5 := hide (HB1.out.trans (hb5.mono HB1.out.size)); have d1 := HD1.out w5 (HB1'.out.trans (hb5.mono HB1'.out.size)); clear hb5 HPx HB1 HB1' HS HD1
       go_wp2_with (at_builtin; refine Ow.wpList_app rfl (.tmp 36) (.tmp 38) 110 rfl Tryz.underlying110 hi1 hz0 hz1 hz2 (by decide) Hr.shp_int rfl (Ow.OwnX.nil _ w0.heap.size _ _ _) rfl (Hr.row_one (sz := 1) (heap_alloc_new w5 (.cells #[.int .i64 j] 3)) rfl) ?c1 (by decide) ?c2 ?_)
       case c1 => simp
       case c2 => simp; have := HB5.out.size; omega
       · intro v' w10 hown hgrow
         have hb10 := Ow.bel_grown (Ow.OwnX.nil (w5.alloc (.cells #[.int .i64 j] 3)) w0.heap.size 3 1 Hr.IntX) (by simp; have := HB5.out.size; omega) hgrow
         have HW := hide ((HB5.out.trans ((Below.refl _ _).alloc HB5.out.size _)).trans hb10); have HO : Hid (Ow.OwnX w10 w0.heap.size 3 1 Hr.IntX v' s0) := hide (by rw [hs0]; exact hown)
         have HSl : Hid (s0.length <= 1) := hide (by simp [hs0])
         obtain ⟨wa, wc, rfl⟩ := hown.shape; clear hown hgrow hb10 HB5 d1 hs0 hif hif' hjm hjm'; have e3 := HC.out w10 HW.out 3; simp at e3; go_wp2_with fail
         go_loopw [6, 43] (fun lv i wr => ∃ (k : Nat) (r acc : List Nat), k <= q /\ i = .int .i64 k /\ Hid (Below w0.heap.size w0 wr) /\ Hid (Ow.OwnX wr w0.heap.size 3 1 Hr.IntX lv acc) /\ Hid (Hr.ifsL l (c.ifaces.take k) = some r) /\ Hid (r.length = k) /\ Hid (acc = s0 ++ r)) (fun lv i _ => q - (intOf i).toNat)
         case atStart => exact ⟨0, [], s0, Nat.zero_le _, rfl, HW, HO, hide rfl, hide rfl, hide (by simp)⟩
         case round =>
          obtain ⟨k, r, acc, hk, rfl, HBr, HOr, HF, hrk, hacc⟩ := hrel; have hmax : (q : Int) <= 1000 := by omega
          have HBw := hide (HB0.out.trans (HBr.out.mono HB0.out.size)); obtain ⟨la, lc, rfl⟩ := HOr.out.shape; by_cases hlt : k < q
          · obtain ⟨x, hx⟩ : ∃ x, c.ifaces[k]? = some x := ⟨c.ifaces[k]'(by rw [<- HQ.out]; exact hlt), List.getElem?_eq_getElem _⟩
            obtain ⟨g1, o1, rfl, ys1, ⟨rfl, _⟩, hc1⟩ := Hr.row_at HN.out hx; have r0 := hc1 wr HBw.out 0 _ rfl; simp only [Nat.mul_one, Nat.add_zero] at r0; clear hc1; have HPx := hide (HP.out x); have HST := hide (Hr.ifsL_step (l := l) hx); have hlt' : (k : Int) < (q : Int) := by omega
            cases hp : Hr.placeL l x with
            | none =>
              have HR : Hid (Hr.upsL l c = none) := hide (by
               have h1 := HST.out; rw [HF.out, Hr.upL_none hp] at h1; have h2 := Hr.ifsL_take h1
               unfold Hr.upsL; rw [hS.out]; simp only; rw [h2]; rfl)
              rw [hp] at HPx; simp only [Hr.pairP] at HPx; clear hp hx HST HF; generalize (⟨x.toArray⟩ : ByteArray) = xb at *
              go_wp2_with fail; refine (HPx.out _ HBw.out).mono ?_; rintro e w5 ⟨rfl, hb5⟩; have HB5 := hide (HBw.out.trans (hb5.mono HBw.out.size)); clear hb5 HPx; go_wp2_with fail; refine bodyPost_ret (v := .tuple #[.slice none 0 0, .bool false]) (by simp [results, Tryz.results63, go_sem]) rfl ?_
              rw [HR.out]; exact ⟨⟨_, rfl, Ow.OwnX.nil _ _ _ _ _⟩, HB5.out⟩
            | some j =>
              obtain ⟨d, hd, _⟩ := Hr.placeL_lt hp; have hjm : j < m := by rw [HM.out]; exact (List.getElem?_eq_some_iff.1 hd).1
              have HU := hide (Hr.upL_some (b := true) hp hd); obtain ⟨g2, o2, eg2, ys2, w2', hc2⟩ := Hr.row_at H.out hd; cases eg2; rw [hp] at HPx; simp only [Hr.pairP] at HPx
              have HD1 : Hid (∀ wx, Below w.heap.size w wx -> wx.cell? ⟨g2, o2 + j * 6 + 1, none⟩ = some (.bool d.iface)) := hide fun wx hb => by
               obtain ⟨_, _, _, _, _, _, rfl⟩ := Hr.at_c w2'; exact hc2 wx hb 1 _ rfl
              have HDa : Hid (∀ wx, Below w.heap.size w wx -> ∃ va1 vd1 va2 vd2 va3 vd3, wx.cell? ⟨g2, o2 + j * 6, none⟩ = some (.string ⟨d.name.toArray⟩) /\ wx.cell? ⟨g2, o2 + j * 6 + 1, none⟩ = some (.bool d.iface) /\ wx.cell? ⟨g2, o2 + j * 6 + 2, none⟩ = some (.string ⟨d.super.toArray⟩) /\ wx.cell? ⟨g2, o2 + j * 6 + 3, none⟩ = some (.slice va1 d.ifaces.length vd1) /\ wx.cell? ⟨g2, o2 + j * 6 + 4, none⟩ = some (.slice va2 d.fields.length vd2) /\ wx.cell? ⟨g2, o2 + j * 6 + 5, none⟩ = some (.slice va3 d.methods.length vd3)) := hide fun wx hb => by
               obtain ⟨va1, vd1, va2, vd2, va3, vd3, rfl⟩ := Hr.at_c w2'; exact ⟨va1, vd1, va2, vd2, va3, vd3, hc2 wx hb 0 _ rfl, hc2 wx hb 1 _ rfl, hc2 wx hb 2 _ rfl, hc2 wx hb 3 _ rfl, hc2 wx hb 4 _ rfl, hc2 wx hb 5 _ rfl⟩
              clear hc2 w2' hp hd hx; generalize (⟨x.toArray⟩ : ByteArray) = xb at *
              have hjm' : (j : Int) < (m : Int) := by omega
              have hm1 : (m : Int) <= 1000 := by omega
              by_cases hif : d.iface = true
              · have HR : Hid (Hr.ifsL l (c.ifaces.take (k + 1)) = some (r ++ [j])) := hide (by rw [HST.out, HF.out, HU.out, hif]; rfl)
                rw [hif] at HD1 HDa; clear HST HF HU; go_wp2_with fail; refine (HPx.out _ HBw.out).mono ?_; rintro e w5 ⟨rfl, hb5⟩; have HB5 := hide (HBr.out.trans (hb5.mono HBr.out.size)); have HO5 := hide (HOr.out.on hb5 fun _ _ h => h); have d1 := HD1.out w5 (HBw.out.trans (hb5.mono HBw.out.size)); clear hb5 HPx HBw HBr HOr
                go_wp2_with (at_builtin; refine Ow.wpList_app rfl (.tmp 63) (.tmp 65) 110 rfl Tryz.underlying110 hi1 hz0 hz1 hz2 (by decide) Hr.shp_int rfl ((HO5.out).on ((Below.refl _ _).alloc (Nat.le_refl _) (.cells #[.int .i64 j] 3)) fun _ _ h => h) rfl (Hr.row_one (sz := 1) (heap_alloc_new w5 (.cells #[.int .i64 j] 3)) rfl) ?c1 (by decide) ?c2 ?_)
                case c1 => have := HSl.out; have := hrk.out; have := hacc.out; subst this; simp; omega
                case c2 => simp; have := HB5.out.size; omega
                · intro v' w10 hown hgrow
                  have hb10 := Ow.bel_grown ((HO5.out).on ((Below.refl _ _).alloc (Nat.le_refl _) (.cells #[.int .i64 j] 3)) fun _ _ h => h) (by simp; have := HB5.out.size; omega) hgrow
                  have HB10 := hide ((HB5.out.trans ((Below.refl _ _).alloc HB5.out.size _)).trans hb10); have HO10 := hide hown; clear hown hgrow hb10 HB5 HO5 d1; go_wp2_with fail
                  go_roundw
                  case rel => first | exact ⟨k + 1, r ++ [j], acc ++ [j], by omega, by go_num, HB10, HO10, HR, hide (by have := hrk.out; simp; omega), hide (by rw [hacc.out, List.append_assoc])⟩ | ((repeat apply Exists.intro); exact ⟨⟨k + 1, r ++ [j], acc ++ [j], by omega, by go_num, HB10, HO10, HR, hide (by have := hrk.out; simp; omega), hide (by rw [hacc.out, List.append_assoc])⟩, rfl⟩)
                  case measure => simp [intOf]; omega
              · have hif' : d.iface = false := by simpa using hif
                have HR : Hid (Hr.upsL l c = none) := hide (by
                 have h1 := HST.out; rw [HF.out, HU.out, if_neg hif] at h1; have h2 := Hr.ifsL_take h1
                 unfold Hr.upsL; rw [hS.out]; simp only; rw [h2]; rfl)
                rw [hif'] at HD1 HDa; clear HST HF HU; go_wp2_with fail; refine (HPx.out _ HBw.out).mono ?_; rintro e w5 ⟨rfl, hb5⟩; have HB5 := hide (HBw.out.trans (hb5.mono HBw.out.size)); have d1 := HD1.out w5 (HBw.out.trans (hb5.mono HBw.out.size)); clear hb5 HPx HBw HBr HOr; go_wp2_with fail; refine bodyPost_ret (v := .tuple #[.slice none 0 0, .bool false]) (by simp [results, Tryz.results63, go_sem]) rfl ?_
                rw [HR.out]; exact ⟨⟨_, rfl, Ow.OwnX.nil _ _ _ _ _⟩, HB5.out⟩
          · have HR : Hid (Hr.upsL l c = some (s0 ++ r)) := hide (by
             have h1 := HF.out; rw [List.take_of_length_le (by rw [<- HQ.out]; omega)] at h1
             unfold Hr.upsL; rw [hS.out]; simp only; rw [h1]; rfl)
            have hnl : ¬ ((k : Int) < (q : Int)) := by omega
            clear HF; go_wp2_with fail; refine bodyPost_ret (v := .tuple #[.slice la acc.length lc, .bool true]) (by simp [results, Tryz.results63, go_sem]) rfl ?_
            rw [HR.out, <- hacc.out]; exact ⟨⟨_, rfl, HOr.out.low HB0.out.size fun _ _ h => h⟩, HBw.out⟩
end Go.Proofs.YtbbbnciejmdpfabGreatDoor
