/- What the laws of this seat lean on: 5 texts. -/
import Derived.Test.YtjlappamkfjlkabGreatDoorPkAe
import Derived.OwnWalk
set_option maxRecDepth 100000
set_option maxHeartbeats 64000000
set_option linter.unusedVariables false
set_option linter.unusedSimpArgs false
namespace Go.Proofs.YtjlappamkfjlkabGreatDoor
open Go.RowKit
namespace Hr
def IntX (n : Nat) (ys : List Value) : Prop := ys = [.int .i64 n]
theorem shp_int : Ow.Shp IntX 1 := by rintro x ys rfl; exact ⟨rfl, by intro u hu; simp at hu; subst hu; rfl⟩
theorem i_int : (Tryz.prog.info? 3).map (fun i => (i.zero.map (fun z => z.cells.size), i.size, i.bytes)) = some (some 1, 1, 8) := by kernel_rfl
theorem row_one {α : Type} {W : World} {sz : Nat} {P : α -> List Value -> Prop} {x : α} {c : Array Value} {t : TypeId} {f : Nat × Nat} {b : Nat} (hb : W.heap[b]? = some (.cells c t f)) (hx : P x c.toList) : RowX W sz P (.slice (some ⟨b, 0, none⟩) 1 1) [x] := by
 refine ⟨_, _, rfl, by simp, .inr ⟨b, 0, rfl, Ow.lt_of_blk hb, fun k y hk => ?_⟩⟩
 cases k with
 | succ k => simp at hk
 | zero =>
   simp at hk; subst hk; refine ⟨_, hx, fun j u hj => ?_⟩; simp only [Nat.zero_mul, Nat.zero_add]; rw [cell_box hb]
   simpa using hj
theorem at_c {W : World} {c : Pp.XCls} {ys : List Value} (h : ClsX W c ys) : ∃ va1 vd1 va2 vd2 va3 vd3, ys = [.string ⟨c.name.toArray⟩, .bool c.iface, .string ⟨c.super.toArray⟩, .slice va1 c.ifaces.length vd1, .slice va2 c.fields.length vd2, .slice va3 c.methods.length vd3] := by
 obtain ⟨vp, vc, vk, rfl, p1, i1, k1, z1⟩ := h; obtain ⟨va1, vd1, rfl, _⟩ := p1.len; obtain ⟨va2, vd2, rfl, _⟩ := i1.len; obtain ⟨va3, vd3, rfl, _⟩ := k1.len; exact ⟨va1, vd1, va2, vd2, va3, vd3, rfl⟩
theorem upL_some {l : List Pp.XCls} {b : Bool} {n : Pp.Bs} {k : Nat} {c : Pp.XCls} (hp : placeL l n = some k) (hc : l[k]? = some c) : upL l b n = if c.iface = b then some k else none := by
 unfold upL; rw [hp]; simp only [hc]
theorem upL_none {l : List Pp.XCls} {b : Bool} {n : Pp.Bs} (hp : placeL l n = none) : upL l b n = none := by
 unfold upL; rw [hp]
end Hr
theorem ups_any (l : List Pp.XCls) (v : Value) (c : Pp.XCls) (ys : List Value) (w : World) (h : RowX w 6 (ClsX w) v l) (hlen : l.length <= 1000) (hc : ClsX w c ys) (hi : c.ifaces.length <= 1000) :
 Calls Tryz.prog 34 #[v, .agg ys.toArray] w fun e w' => (∃ v', e = .returned (.tuple #[v', .bool (Hr.upsL l c).isSome]) /\ Ow.OwnX w' w.heap.size 3 1 Hr.IntX v' ((Hr.upsL l c).getD [])) /\ Below w.heap.size w w' := by
 have HS := hide (fun wx (hb : Below w.heap.size w wx) => superOf_any c ys wx (hc.on hb)); have HP := hide (fun (n : Pp.Bs) wx (hb : Below w.heap.size w wx) => place_any l v n wx (h.on hb fun _ _ h => h.on hb) (by unfold maxLen; omega))
 have HI := hide hc; obtain ⟨va1, vd1, va2, vd2, va3, vd3, rfl⟩ := Hr.at_c hc; obtain ⟨ux1, ux2, ux3, hux, hii, _⟩ := hc; simp only [clsXL, List.cons.injEq, and_true, true_and] at hux; obtain ⟨rfl, rfl, rfl⟩ := hux; have HN := hide hii; clear hii; have H := hide h; obtain ⟨i0, hi1, hz0, hz1, hz2⟩ := Ow.info_of Hr.i_int; obtain ⟨pa, pc, rfl, _⟩ := h.len; obtain ⟨m, hm⟩ : ∃ m, m = l.length := ⟨_, rfl⟩; have HM := hide hm; rw [<- hm] at H HP hlen ⊢; clear h hm; obtain ⟨q, hq⟩ : ∃ q, q = c.ifaces.length := ⟨_, rfl⟩; have HQ := hide hq; rw [<- hq] at HS HN hi ⊢; clear hq HI; have hx0 := heap_alloc_new w (.cells #[.string ⟨c.name.toArray⟩, .bool c.iface, .string ⟨c.super.toArray⟩, .slice va1 q vd1, .slice va2 c.fields.length vd2, .slice va3 c.methods.length vd3] 36); have HB0 := hide ((Below.refl w.heap.size w).alloc (Nat.le_refl _) (.cells #[.string ⟨c.name.toArray⟩, .bool c.iface, .string ⟨c.super.toArray⟩, .slice va1 q vd1, .slice va2 c.fields.length vd2, .slice va3 c.methods.length vd3] 36)); cases hs : Hr.superL c with
 | none =>
   have hS : Hid (Hr.supL l c = some []) := hide (by unfold Hr.supL; rw [hs])
   rw [hs] at HS; simp only [Hr.pairS] at HS; clear hs; have HX0 := hide hx0; clear hx0; go_enter Tryz.func34, Tryz.ntmps34; go_wp2_with fail; have hx0 := HX0.out; generalize w.alloc (.cells #[.string ⟨c.name.toArray⟩, .bool c.iface, .string ⟨c.super.toArray⟩, .slice va1 q vd1, .slice va2 c.fields.length vd2, .slice va3 c.methods.length vd3] 36) = w0 at *
   have HC : Hid (∀ wx, Below w0.heap.size w0 wx -> ∀ k : Nat, wx.cell? ⟨w.heap.size, k, none⟩ = #[.string ⟨c.name.toArray⟩, .bool c.iface, .string ⟨c.super.toArray⟩, .slice va1 q vd1, .slice va2 c.fields.length vd2, .slice va3 c.methods.length vd3][k]?) := hide fun wx hb k => cell_box ((hb.block w.heap.size (Ow.lt_of_blk hx0)).trans hx0) k; clear hx0 HX0; refine (HS.out w0 HB0.out).mono ?_; rintro e w1 ⟨rfl, hb1⟩; have HW := hide hb1; obtain ⟨s0, hs0⟩ : ∃ s : List Nat, s = [] := ⟨_, rfl⟩; have HO : Hid (Ow.OwnX w1 w0.heap.size 3 1 Hr.IntX (.slice none 0 0) s0) := hide (by rw [hs0]; exact Ow.OwnX.nil _ _ _ _ _)
   rw [<- hs0] at hS; have HSl : Hid (s0.length <= 1) := hide (by simp [hs0])
   clear hs0 hb1 HS; have e3 := HC.out w1 HW.out 3; simp at e3; go_wp2_with fail
   go_loopw [6, 43] (fun lv i wr => ∃ (k : Nat) (r acc : List Nat), k <= q /\ i = .int .i64 k /\ Hid (Below w0.heap.size w0 wr) /\ Hid (Ow.OwnX wr w0.heap.size 3 1 Hr.IntX lv acc) /\ Hid (Hr.ifsL l (c.ifaces.take k) = some r) /\ Hid (r.length = k) /\ Hid (acc = s0 ++ r)) (fun lv i _ => q - (intOf i).toNat)
   case atStart => exact ⟨0, [], s0, Nat.zero_le _, rfl, HW, HO, hide rfl, hide rfl, hide (by simp)⟩
   case round =>
    obtain ⟨k, r, acc, hk, rfl, HBr, HOr, HF, hrk, hacc⟩ := hrel; have hmax : (q : Int) <= 1000 := by omega
    have HBw := hide (HB0.out.trans (HBr.out.mono HB0.out.size)); obtain ⟨la, lc, rfl⟩ := HOr.out.shape; by_cases hlt : k < q
    · obtain ⟨x, hx⟩ : ∃ x, c.ifaces[k]? = some x := ⟨c.ifaces[k]'(by rw [<- HQ.out]; exact hlt), List.getElem?_eq_getElem _⟩
      obtain ⟨g1, o1, rfl, ys1, ⟨rfl, _⟩, hc1⟩ := Hr.row_at HN.out hx; have r0 := hc1 wr HBw.out 0 _ rfl; simp only [Nat.mul_one, Nat.add_zero] at r0; clear hc1; have HPx := hide (HP.out x); have HST := hide (Hr.ifsL_step (l := l) hx); have hlt' : (k : Int) < (q : Int) := by omega
      cases hp : Hr.placeL l x with
      | none =>
        have HR : Hid (Hr.upsL l c = none) := hide (by
         have h1 := HST.out; rw [HF.out, Hr.upL_none hp] at h1; have h2 := Hr.ifsL_take h1
         unfold Hr.upsL; rw [hS.out]; simp only; rw [h2]; rfl)
        rw [hp] at HPx; simp only [Hr.pairP] at HPx; clear hp hx HST HF; generalize (⟨x.toArray⟩ : ByteArray) = xb at *
        go_wp2_with fail; refine (HPx.out _ HBw.out).mono ?_; rintro e w5 ⟨rfl, hb5⟩; have HB5 := hide (HBw.out.trans (hb5.mono HBw.out.size)); clear hb5 HPx; go_wp2_with fail; refine bodyPost_ret (v := .tuple #[.slice none 0 0, .bool false]) (by simp [results, Tryz.results34, go_sem]) rfl ?_
        rw [HR.out]; exact ⟨⟨_, rfl, Ow.OwnX.nil _ _ _ _ _⟩, HB5.out⟩
      | some j =>
        obtain ⟨d, hd, _⟩ := Hr.placeL_lt hp; have hjm : j < m := by rw [HM.out]; exact (List.getElem?_eq_some_iff.1 hd).1
        have HU := hide (Hr.upL_some (b := true) hp hd); obtain ⟨g2, o2, eg2, ys2, w2', hc2⟩ := Hr.row_at H.out hd; cases eg2; rw [hp] at HPx; simp only [Hr.pairP] at HPx
        have HD1 : Hid (∀ wx, Below w.heap.size w wx -> wx.cell? ⟨g2, o2 + j * 6 + 1, none⟩ = some (.bool d.iface)) := hide fun wx hb => by
         obtain ⟨_, _, _, _, _, _, rfl⟩ := Hr.at_c w2'; exact hc2 wx hb 1 _ rfl
        have HDa : Hid (∀ wx, Below w.heap.size w wx -> ∃ va1 vd1 va2 vd2 va3 vd3, wx.cell? ⟨g2, o2 + j * 6, none⟩ = some (.string ⟨d.name.toArray⟩) /\ wx.cell? ⟨g2, o2 + j * 6 + 1, none⟩ = some (.bool d.iface) /\ wx.cell? ⟨g2, o2 + j * 6 + 2, none⟩ = some (.string ⟨d.super.toArray⟩) /\ wx.cell? ⟨g2, o2 + j * 6 + 3, none⟩ = some (.slice va1 d.ifaces.length vd1) /\ wx.cell? ⟨g2, o2 + j * 6 + 4, none⟩ = some (.slice va2 d.fields.length vd2) /\ wx.cell? ⟨g2, o2 + j * 6 + 5, none⟩ = some (.slice va3 d.methods.length vd3)) := hide fun wx hb => by
         obtain ⟨va1, vd1, va2, vd2, va3, vd3, rfl⟩ := Hr.at_c w2'; exact ⟨va1, vd1, va2, vd2, va3, vd3, hc2 wx hb 0 _ rfl, hc2 wx hb 1 _ rfl, hc2 wx hb 2 _ rfl, hc2 wx hb 3 _ rfl, hc2 wx hb 4 _ rfl, hc2 wx hb 5 _ rfl⟩
        clear hc2 w2' hp hd hx; generalize (⟨x.toArray⟩ : ByteArray) = xb at *
        have hjm' : (j : Int) < (m : Int) := by omega
        have hm1 : (m : Int) <= 1000 := by omega
        by_cases hif : d.iface = true
        · have HR : Hid (Hr.ifsL l (c.ifaces.take (k + 1)) = some (r ++ [j])) := hide (by rw [HST.out, HF.out, HU.out, hif]; rfl)
          rw [hif] at HD1 HDa; clear HST HF HU; go_wp2_with fail; refine (HPx.out _ HBw.out).mono ?_; rintro e w5 ⟨rfl, hb5⟩; have HB5 := hide (HBr.out.trans (hb5.mono HBr.out.size)); have HO5 := hide (HOr.out.on hb5 fun _ _ h => h); have d1 := HD1.out w5 (HBw.out.trans (hb5.mono HBw.out.size)); clear hb5 HPx HBw HBr HOr
          go_wp2_with (at_builtin; refine Ow.wpList_app rfl (.tmp 63) (.tmp 65) 102 rfl Tryz.underlying102 hi1 hz0 hz1 hz2 (by decide) Hr.shp_int rfl ((HO5.out).on ((Below.refl _ _).alloc (Nat.le_refl _) (.cells #[.int .i64 j] 3)) fun _ _ h => h) rfl (Hr.row_one (sz := 1) (heap_alloc_new w5 (.cells #[.int .i64 j] 3)) rfl) ?c1 (by decide) ?c2 ?_)
          case c1 => have := HSl.out; have := hrk.out; have := hacc.out; subst this; simp; omega
          case c2 => simp; have := HB5.out.size; omega
          · intro v' w10 hown hgrow
            have hb10 := Ow.bel_grown ((HO5.out).on ((Below.refl _ _).alloc (Nat.le_refl _) (.cells #[.int .i64 j] 3)) fun _ _ h => h) (by simp; have := HB5.out.size; omega) hgrow
            have HB10 := hide ((HB5.out.trans ((Below.refl _ _).alloc HB5.out.size _)).trans hb10); have HO10 := hide hown; clear hown hgrow hb10 HB5 HO5 d1; go_wp2_with fail
            go_roundw
            case rel => first | exact ⟨k + 1, r ++ [j], acc ++ [j], by omega, by go_num, HB10, HO10, HR, hide (by have := hrk.out; simp; omega), hide (by rw [hacc.out, List.append_assoc])⟩ | ((repeat apply Exists.intro); exact ⟨⟨k + 1, r ++ [j], acc ++ [j], by omega, by go_num, HB10, HO10, HR, hide (by have := hrk.out; simp; omega), hide (by rw [hacc.out, List.append_assoc])⟩, rfl⟩)
            case measure => simp [intOf]; omega
        · have hif' : d.iface = false := by simpa using hif
          have HR : Hid (Hr.upsL l c = none) := hide (by
           have h1 := HST.out; rw [HF.out, HU.out, if_neg hif] at h1; have h2 := Hr.ifsL_take h1
           unfold Hr.upsL; rw [hS.out]; simp only; rw [h2]; rfl)
          rw [hif'] at HD1 HDa; clear HST HF HU; go_wp2_with fail; refine (HPx.out _ HBw.out).mono ?_; rintro e w5 ⟨rfl, hb5⟩; have HB5 := hide (HBw.out.trans (hb5.mono HBw.out.size)); have d1 := HD1.out w5 (HBw.out.trans (hb5.mono HBw.out.size)); clear hb5 HPx HBw HBr HOr; go_wp2_with fail; refine bodyPost_ret (v := .tuple #[.slice none 0 0, .bool false]) (by simp [results, Tryz.results34, go_sem]) rfl ?_
          rw [HR.out]; exact ⟨⟨_, rfl, Ow.OwnX.nil _ _ _ _ _⟩, HB5.out⟩
    · have HR : Hid (Hr.upsL l c = some (s0 ++ r)) := hide (by
       have h1 := HF.out; rw [List.take_of_length_le (by rw [<- HQ.out]; omega)] at h1
       unfold Hr.upsL; rw [hS.out]; simp only; rw [h1]; rfl)
      have hnl : ¬ ((k : Int) < (q : Int)) := by omega
      clear HF; go_wp2_with fail; refine bodyPost_ret (v := .tuple #[.slice la acc.length lc, .bool true]) (by simp [results, Tryz.results34, go_sem]) rfl ?_
      rw [HR.out, <- hacc.out]; exact ⟨⟨_, rfl, HOr.out.low HB0.out.size fun _ _ h => h⟩, HBw.out⟩
 | some n =>
   rw [hs] at HS; simp only [Hr.pairS] at HS; have HX0 := hide hx0; clear hx0; have HPx := hide (HP.out n); cases hp : Hr.placeL l n with
   | none =>
     have HR : Hid (Hr.upsL l c = none) := hide (by unfold Hr.upsL Hr.supL; rw [hs]; simp only; rw [Hr.upL_none hp]; rfl)
     rw [hp] at HPx; simp only [Hr.pairP] at HPx; clear hp hs; generalize (⟨n.toArray⟩ : ByteArray) = nb at *
     go_enter Tryz.func34, Tryz.ntmps34; go_wp2_with fail; generalize w.alloc (.cells #[.string ⟨c.name.toArray⟩, .bool c.iface, .string ⟨c.super.toArray⟩, .slice va1 q vd1, .slice va2 c.fields.length vd2, .slice va3 c.methods.length vd3] 36) = w0 at *
     refine (HS.out w0 HB0.out).mono ?_; rintro e w1 ⟨rfl, hb1⟩; have HB1 := hide (HB0.out.trans (hb1.mono HB0.out.size)); clear hb1; go_wp2_with fail; refine (HPx.out w1 HB1.out).mono ?_; rintro e w5 ⟨rfl, hb5⟩; have HB5 := hide (HB1.out.trans (hb5.mono HB1.out.size)); clear hb5 HPx; go_wp2_with fail; refine bodyPost_ret (v := .tuple #[.slice none 0 0, .bool false]) (by simp [results, Tryz.results34, go_sem]) rfl ?_
     rw [HR.out]; exact ⟨⟨_, rfl, Ow.OwnX.nil _ _ _ _ _⟩, HB5.out⟩
   | some j =>
     obtain ⟨d, hd, _⟩ := Hr.placeL_lt hp; have hjm : j < m := by rw [HM.out]; exact (List.getElem?_eq_some_iff.1 hd).1
     have HU := hide (Hr.upL_some (b := false) hp hd); have HSS := hide hs; obtain ⟨g2, o2, eg2, ys2, w2', hc2⟩ := Hr.row_at H.out hd; subst eg2; rw [hp] at HPx; simp only [Hr.pairP] at HPx
     have HD1 : Hid (∀ wx, Below w.heap.size w wx -> wx.cell? ⟨g2, o2 + j * 6 + 1, none⟩ = some (.bool d.iface)) := hide fun wx hb => by
      obtain ⟨_, _, _, _, _, _, rfl⟩ := Hr.at_c w2'; exact hc2 wx hb 1 _ rfl
     clear hc2 w2' hp hd hs; generalize (⟨n.toArray⟩ : ByteArray) = nb at *
     have hjm' : (j : Int) < (m : Int) := by omega
     have hm1 : (m : Int) <= 1000 := by omega
     by_cases hif : d.iface = true
     · have HR : Hid (Hr.upsL l c = none) := hide (by unfold Hr.upsL Hr.supL; rw [HSS.out]; simp only; rw [HU.out, hif]; rfl)
       rw [hif] at HD1; clear HU HSS; go_enter Tryz.func34, Tryz.ntmps34; go_wp2_with fail; generalize w.alloc (.cells #[.string ⟨c.name.toArray⟩, .bool c.iface, .string ⟨c.super.toArray⟩, .slice va1 q vd1, .slice va2 c.fields.length vd2, .slice va3 c.methods.length vd3] 36) = w0 at *
       refine (HS.out w0 HB0.out).mono ?_; rintro e w1 ⟨rfl, hb1⟩; have HB1 := hide (HB0.out.trans (hb1.mono HB0.out.size)); clear hb1; go_wp2_with fail; refine (HPx.out w1 HB1.out).mono ?_; rintro e w5 ⟨rfl, hb5⟩; have HB5 := hide (HB1.out.trans (hb5.mono HB1.out.size)); have d1 := HD1.out w5 HB5.out; clear hb5 HPx; go_wp2_with fail; refine bodyPost_ret (v := .tuple #[.slice none 0 0, .bool false]) (by simp [results, Tryz.results34, go_sem]) rfl ?_
       rw [HR.out]; exact ⟨⟨_, rfl, Ow.OwnX.nil _ _ _ _ _⟩, HB5.out⟩
     · have hif' : d.iface = false := by simpa using hif
       obtain ⟨s0, hs0⟩ : ∃ s : List Nat, s = [j] := ⟨_, rfl⟩; have hS : Hid (Hr.supL l c = some s0) := hide (by unfold Hr.supL; rw [HSS.out]; simp only; rw [HU.out, hif', hs0]; rfl)
       rw [hif'] at HD1; clear HU HSS; go_enter Tryz.func34, Tryz.ntmps34; go_wp2_with fail; have hx0 := HX0.out; generalize w.alloc (.cells #[.string ⟨c.name.toArray⟩, .bool c.iface, .string ⟨c.super.toArray⟩, .slice va1 q vd1, .slice va2 c.fields.length vd2, .slice va3 c.methods.length vd3] 36) = w0 at *
       have HC : Hid (∀ wx, Below w0.heap.size w0 wx -> ∀ k : Nat, wx.cell? ⟨w.heap.size, k, none⟩ = #[.string ⟨c.name.toArray⟩, .bool c.iface, .string ⟨c.super.toArray⟩, .slice va1 q vd1, .slice va2 c.fields.length vd2, .slice va3 c.methods.length vd3][k]?) := hide fun wx hb k => cell_box ((hb.block w.heap.size (Ow.lt_of_blk hx0)).trans hx0) k; clear hx0 HX0; refine (HS.out w0 HB0.out).mono ?_; rintro e w1 ⟨rfl, hb1⟩; have HB1 := hide hb1; have HB1' := hide (HB0.out.trans (hb1.mono HB0.out.size)); clear hb1; go_wp2_with fail; refine (HPx.out w1 HB1'.out).mono ?_; rintro e w5 ⟨rfl, hb5⟩; have HB5 := hide (HB1.out.trans (hb5.mono HB1.out.size)); have d1 := HD1.out w5 (HB1'.out.trans (hb5.mono HB1'.out.size)); clear hb5 HPx HB1 HB1' HS HD1
       go_wp2_with (at_builtin; refine Ow.wpList_app rfl (.tmp 36) (.tmp 38) 102 rfl Tryz.underlying102 hi1 hz0 hz1 hz2 (by decide) Hr.shp_int rfl (Ow.OwnX.nil _ w0.heap.size _ _ _) rfl (Hr.row_one (sz := 1) (heap_alloc_new w5 (.cells #[.int .i64 j] 3)) rfl) ?c1 (by decide) ?c2 ?_)
       case c1 => simp
       case c2 => simp; have := HB5.out.size; omega
       · intro v' w10 hown hgrow
         have hb10 := Ow.bel_grown (Ow.OwnX.nil (w5.alloc (.cells #[.int .i64 j] 3)) w0.heap.size 3 1 Hr.IntX) (by simp; have := HB5.out.size; omega) hgrow
         have HW := hide ((HB5.out.trans ((Below.refl _ _).alloc HB5.out.size _)).trans hb10); have HO : Hid (Ow.OwnX w10 w0.heap.size 3 1 Hr.IntX v' s0) := hide (by rw [hs0]; exact hown)
         have HSl : Hid (s0.length <= 1) := hide (by simp [hs0])
         obtain ⟨wa, wc, rfl⟩ := hown.shape; clear hown hgrow hb10 HB5 d1 hs0 hif hif' hjm hjm'; have e3 := HC.out w10 HW.out 3; simp at e3; go_wp2_with fail
         go_loopw [6, 43] (fun lv i wr => ∃ (k : Nat) (r acc : List Nat), k <= q /\ i = .int .i64 k /\ Hid (Below w0.heap.size w0 wr) /\ Hid (Ow.OwnX wr w0.heap.size 3 1 Hr.IntX lv acc) /\ Hid (Hr.ifsL l (c.ifaces.take k) = some r) /\ Hid (r.length = k) /\ Hid (acc = s0 ++ r)) (fun lv i _ => q - (intOf i).toNat)
         case atStart => exact ⟨0, [], s0, Nat.zero_le _, rfl, HW, HO, hide rfl, hide rfl, hide (by simp)⟩
         case round =>
          obtain ⟨k, r, acc, hk, rfl, HBr, HOr, HF, hrk, hacc⟩ := hrel; have hmax : (q : Int) <= 1000 := by omega
          have HBw := hide (HB0.out.trans (HBr.out.mono HB0.out.size)); obtain ⟨la, lc, rfl⟩ := HOr.out.shape; by_cases hlt : k < q
          · obtain ⟨x, hx⟩ : ∃ x, c.ifaces[k]? = some x := ⟨c.ifaces[k]'(by rw [<- HQ.out]; exact hlt), List.getElem?_eq_getElem _⟩
            obtain ⟨g1, o1, rfl, ys1, ⟨rfl, _⟩, hc1⟩ := Hr.row_at HN.out hx; have r0 := hc1 wr HBw.out 0 _ rfl; simp only [Nat.mul_one, Nat.add_zero] at r0; clear hc1; have HPx := hide (HP.out x); have HST := hide (Hr.ifsL_step (l := l) hx); have hlt' : (k : Int) < (q : Int) := by omega
            cases hp : Hr.placeL l x with
            | none =>
              have HR : Hid (Hr.upsL l c = none) := hide (by
               have h1 := HST.out; rw [HF.out, Hr.upL_none hp] at h1; have h2 := Hr.ifsL_take h1
               unfold Hr.upsL; rw [hS.out]; simp only; rw [h2]; rfl)
              rw [hp] at HPx; simp only [Hr.pairP] at HPx; clear hp hx HST HF; generalize (⟨x.toArray⟩ : ByteArray) = xb at *
              go_wp2_with fail; refine (HPx.out _ HBw.out).mono ?_; rintro e w5 ⟨rfl, hb5⟩; have HB5 := hide (HBw.out.trans (hb5.mono HBw.out.size)); clear hb5 HPx; go_wp2_with fail; refine bodyPost_ret (v := .tuple #[.slice none 0 0, .bool false]) (by simp [results, Tryz.results34, go_sem]) rfl ?_
              rw [HR.out]; exact ⟨⟨_, rfl, Ow.OwnX.nil _ _ _ _ _⟩, HB5.out⟩
            | some j =>
              obtain ⟨d, hd, _⟩ := Hr.placeL_lt hp; have hjm : j < m := by rw [HM.out]; exact (List.getElem?_eq_some_iff.1 hd).1
              have HU := hide (Hr.upL_some (b := true) hp hd); obtain ⟨g2, o2, eg2, ys2, w2', hc2⟩ := Hr.row_at H.out hd; cases eg2; rw [hp] at HPx; simp only [Hr.pairP] at HPx
              have HD1 : Hid (∀ wx, Below w.heap.size w wx -> wx.cell? ⟨g2, o2 + j * 6 + 1, none⟩ = some (.bool d.iface)) := hide fun wx hb => by
               obtain ⟨_, _, _, _, _, _, rfl⟩ := Hr.at_c w2'; exact hc2 wx hb 1 _ rfl
              have HDa : Hid (∀ wx, Below w.heap.size w wx -> ∃ va1 vd1 va2 vd2 va3 vd3, wx.cell? ⟨g2, o2 + j * 6, none⟩ = some (.string ⟨d.name.toArray⟩) /\ wx.cell? ⟨g2, o2 + j * 6 + 1, none⟩ = some (.bool d.iface) /\ wx.cell? ⟨g2, o2 + j * 6 + 2, none⟩ = some (.string ⟨d.super.toArray⟩) /\ wx.cell? ⟨g2, o2 + j * 6 + 3, none⟩ = some (.slice va1 d.ifaces.length vd1) /\ wx.cell? ⟨g2, o2 + j * 6 + 4, none⟩ = some (.slice va2 d.fields.length vd2) /\ wx.cell? ⟨g2, o2 + j * 6 + 5, none⟩ = some (.slice va3 d.methods.length vd3)) := hide fun wx hb => by
               obtain ⟨va1, vd1, va2, vd2, va3, vd3, rfl⟩ := Hr.at_c w2'; exact ⟨va1, vd1, va2, vd2, va3, vd3, hc2 wx hb 0 _ rfl, hc2 wx hb 1 _ rfl, hc2 wx hb 2 _ rfl, hc2 wx hb 3 _ rfl, hc2 wx hb 4 _ rfl, hc2 wx hb 5 _ rfl⟩
              clear hc2 w2' hp hd hx; generalize (⟨x.toArray⟩ : ByteArray) = xb at *
              have hjm' : (j : Int) < (m : Int) := by omega
              have hm1 : (m : Int) <= 1000 := by omega
              by_cases hif : d.iface = true
              · have HR : Hid (Hr.ifsL l (c.ifaces.take (k + 1)) = some (r ++ [j])) := hide (by rw [HST.out, HF.out, HU.out, hif]; rfl)
                rw [hif] at HD1 HDa; clear HST HF HU; go_wp2_with fail; refine (HPx.out _ HBw.out).mono ?_; rintro e w5 ⟨rfl, hb5⟩; have HB5 := hide (HBr.out.trans (hb5.mono HBr.out.size)); have HO5 := hide (HOr.out.on hb5 fun _ _ h => h); have d1 := HD1.out w5 (HBw.out.trans (hb5.mono HBw.out.size)); clear hb5 HPx HBw HBr HOr
                go_wp2_with (at_builtin; refine Ow.wpList_app rfl (.tmp 63) (.tmp 65) 102 rfl Tryz.underlying102 hi1 hz0 hz1 hz2 (by decide) Hr.shp_int rfl ((HO5.out).on ((Below.refl _ _).alloc (Nat.le_refl _) (.cells #[.int .i64 j] 3)) fun _ _ h => h) rfl (Hr.row_one (sz := 1) (heap_alloc_new w5 (.cells #[.int .i64 j] 3)) rfl) ?c1 (by decide) ?c2 ?_)
                case c1 => have := HSl.out; have := hrk.out; have := hacc.out; subst this; simp; omega
                case c2 => simp; have := HB5.out.size; omega
                · intro v' w10 hown hgrow
                  have hb10 := Ow.bel_grown ((HO5.out).on ((Below.refl _ _).alloc (Nat.le_refl _) (.cells #[.int .i64 j] 3)) fun _ _ h => h) (by simp; have := HB5.out.size; omega) hgrow
                  have HB10 := hide ((HB5.out.trans ((Below.refl _ _).alloc HB5.out.size _)).trans hb10); have HO10 := hide hown; clear hown hgrow hb10 HB5 HO5 d1; go_wp2_with fail
                  go_roundw
                  case rel => first | exact ⟨k + 1, r ++ [j], acc ++ [j], by omega, by go_num, HB10, HO10, HR, hide (by have := hrk.out; simp; omega), hide (by rw [hacc.out, List.append_assoc])⟩ | ((repeat apply Exists.intro); exact ⟨⟨k + 1, r ++ [j], acc ++ [j], by omega, by go_num, HB10, HO10, HR, hide (by have := hrk.out; simp; omega), hide (by rw [hacc.out, List.append_assoc])⟩, rfl⟩)
                  case measure => simp [intOf]; omega
              · have hif' : d.iface = false := by simpa using hif
                have HR : Hid (Hr.upsL l c = none) := hide (by
                 have h1 := HST.out; rw [HF.out, HU.out, if_neg hif] at h1; have h2 := Hr.ifsL_take h1
                 unfold Hr.upsL; rw [hS.out]; simp only; rw [h2]; rfl)
                rw [hif'] at HD1 HDa; clear HST HF HU; go_wp2_with fail; refine (HPx.out _ HBw.out).mono ?_; rintro e w5 ⟨rfl, hb5⟩; have HB5 := hide (HBw.out.trans (hb5.mono HBw.out.size)); have d1 := HD1.out w5 (HBw.out.trans (hb5.mono HBw.out.size)); clear hb5 HPx HBw HBr HOr; go_wp2_with fail; refine bodyPost_ret (v := .tuple #[.slice none 0 0, .bool false]) (by simp [results, Tryz.results34, go_sem]) rfl ?_
                rw [HR.out]; exact ⟨⟨_, rfl, Ow.OwnX.nil _ _ _ _ _⟩, HB5.out⟩
          · have HR : Hid (Hr.upsL l c = some (s0 ++ r)) := hide (by
             have h1 := HF.out; rw [List.take_of_length_le (by rw [<- HQ.out]; omega)] at h1
             unfold Hr.upsL; rw [hS.out]; simp only; rw [h1]; rfl)
            have hnl : ¬ ((k : Int) < (q : Int)) := by omega
            clear HF; go_wp2_with fail; refine bodyPost_ret (v := .tuple #[.slice la acc.length lc, .bool true]) (by simp [results, Tryz.results34, go_sem]) rfl ?_
            rw [HR.out, <- hacc.out]; exact ⟨⟨_, rfl, HOr.out.low HB0.out.size fun _ _ h => h⟩, HBw.out⟩
namespace Hr
def M (ms : List Bool) (j : Nat) : Prop := ms[j]? = some true
def unm (ms : List Bool) : Nat := ms.countP fun b => !b
structure Inv (up : List (List Nat)) (n a : Nat) (ms : List Bool) (rs : List Nat) : Prop where
 far : ∀ j, M ms j -> Far up a j
 org : ∀ r ∈ rs, r = a \/ M ms r
 fin : ∀ x, (x = a \/ M ms x) -> x ∈ rs \/ ∀ y, Step up x y -> M ms y
 len : ms.length = n
 low : ∀ r ∈ rs, r < n
 few : rs.length + unm ms <= n + 1
structure Mid (up : List (List Nat)) (n a f : Nat) (u : List Nat) (k : Nat) (ms : List Bool) (rs : List Nat) : Prop where
 far : ∀ j, M ms j -> Far up a j
 org : ∀ r ∈ rs, r = a \/ M ms r
 fin : ∀ x, (x = a \/ M ms x) -> x ∈ rs \/ x = f \/ ∀ y, Step up x y -> M ms y
 don : ∀ y ∈ u.take k, M ms y
 frm : f = a \/ M ms f
 len : ms.length = n
 low : ∀ r ∈ rs, r < n
 few : rs.length + unm ms <= n + 1
theorem unm_rep (n : Nat) : unm (List.replicate n false) = n := by unfold unm; rw [List.countP_replicate]; rfl
theorem Inv.start (up : List (List Nat)) (n a : Nat) (h : a < n) : Inv up n a (List.replicate n false) [a] where
 far := by intro j hj; unfold M at hj; rw [List.getElem?_replicate] at hj; split at hj <;> cases hj
 org := by intro r hr; simp at hr; exact .inl hr
 fin := by
  intro x hx
  rcases hx with rfl | hx
  · exact .inl (by simp)
  · unfold M at hx; rw [List.getElem?_replicate] at hx; split at hx <;> cases hx
 len := by simp
 low := by intro r hr; simp at hr; omega
 few := by rw [unm_rep]; simp; omega
theorem Inv.stop {up : List (List Nat)} {n a : Nat} {ms : List Bool} (h : Inv up n a ms []) (j : Nat) : M ms j ↔ Far up a j := by
 refine ⟨h.far j, fun hf => ?_⟩
 have key : ∀ x, (x = a \/ M ms x) -> ∀ y, Step up x y -> M ms y := fun x hx => by
  rcases h.fin x hx with h | h
  · cases h
  · exact h
 refine Far.ind (C := fun i j => i = a -> M ms j) (fun s e => key a (.inl rfl) _ (e ▸ s)) (fun _ s ih e => key _ (.inr (ih e)) _ s) hf rfl
theorem Inv.pop {up : List (List Nat)} {n a f : Nat} {ms : List Bool} {rs : List Nat} (u : List Nat) (h : Inv up n a ms (rs ++ [f])) : Mid up n a f u 0 ms rs where
 far := h.far
 org := fun r hr => h.org r (List.mem_append_left _ hr)
 fin := by
  intro x hx
  rcases h.fin x hx with h | h
  · rcases List.mem_append.1 h with h | h
    · exact .inl h
    · exact .inr (.inl (by simpa using h))
  · exact .inr (.inr h)
 don := by intro y hy; simp at hy
 frm := h.org f (by simp)
 len := h.len
 low := fun r hr => h.low r (List.mem_append_left _ hr)
 few := by have := h.few; simp at this; omega
theorem Mid.stop {up : List (List Nat)} {n a f : Nat} {u : List Nat} {k : Nat} {ms : List Bool} {rs : List Nat} (h : Mid up n a f u k ms rs) (hu : up[f]? = some u) (hk : u.length <= k) : Inv up n a ms rs where
 far := h.far
 org := h.org
 fin := by
  intro x hx
  rcases h.fin x hx with h1 | rfl | h1
  · exact .inl h1
  · refine .inr fun y ⟨u', hu', hy⟩ => ?_
    rw [hu] at hu'; cases hu'; exact h.don y (by rw [List.take_of_length_le hk]; exact hy)
  · exact .inr h1
 len := h.len
 low := h.low
 few := h.few
theorem Mid.skip {up : List (List Nat)} {n a f : Nat} {u : List Nat} {k : Nat} {ms : List Bool} {rs : List Nat} {y : Nat} (h : Mid up n a f u k ms rs) (hy : u[k]? = some y) (hm : M ms y) : Mid up n a f u (k + 1) ms rs where
 far := h.far
 org := h.org
 fin := h.fin
 don := by
  intro z hz; rw [List.take_add_one, hy] at hz
  rcases List.mem_append.1 hz with hz | hz
  · exact h.don z hz
  · simp at hz; subst hz; exact hm
 frm := h.frm
 len := h.len
 low := h.low
 few := h.few
theorem M_set {ms : List Bool} {y : Nat} (hy : y < ms.length) (j : Nat) : M (ms.set y true) j ↔ j = y \/ M ms j := by
 unfold M; rw [List.getElem?_set]; by_cases e : y = j
 · subst e; simp [hy]
 · simp [e]; intro h; exact absurd h.symm e
theorem unm_set : ∀ {ms : List Bool} {y : Nat}, y < ms.length -> ¬ M ms y -> unm ms = unm (ms.set y true) + 1
 | [], _, h, _ => absurd h (Nat.not_lt_zero _)
 | b :: ms, 0, _, h => by
   cases b with
   | true => exact absurd rfl h
   | false => simp [unm]
 | b :: ms, y + 1, h, hm => by
   have := unm_set (ms := ms) (y := y) (by simpa using h) (by simpa [M] using hm)
   unfold unm at *
   rw [List.set_cons_succ, List.countP_cons, List.countP_cons]; omega
theorem Mid.push {up : List (List Nat)} {n a f : Nat} {u : List Nat} {k : Nat} {ms : List Bool} {rs : List Nat} {y : Nat} (h : Mid up n a f u k ms rs) (hu : up[f]? = some u) (hy : u[k]? = some y) (hn : y < n) (hm : ¬ M ms y) : Mid up n a f u (k + 1) (ms.set y true) (rs ++ [y]) := by
 have hl : y < ms.length := by rw [h.len]; exact hn
 have hs : Step up f y := ⟨u, hu, List.mem_of_getElem? hy⟩; refine ⟨?_, ?_, ?_, ?_, ?_, by simpa using h.len, ?_, ?_⟩
 · intro j hj
   rcases (M_set hl j).1 hj with rfl | hj
   · rcases h.frm with rfl | h1
     · exact .one hs
     · exact .more (h.far _ h1) hs
   · exact h.far j hj
 · intro r hr
   rcases List.mem_append.1 hr with hr | hr
   · rcases h.org r hr with h1 | h1
     · exact .inl h1
     · exact .inr ((M_set hl r).2 (.inr h1))
   · simp at hr; subst hr; exact .inr ((M_set hl r).2 (.inl rfl))
 · intro x hx
   by_cases hxy : x = y
   · exact .inl (by simp [hxy])
   · have hx' : x = a \/ M ms x := by
      rcases hx with hx | hx
      · exact .inl hx
      · rcases (M_set hl x).1 hx with h1 | h1
        · exact absurd h1 hxy
        · exact .inr h1
     rcases h.fin x hx' with h1 | h1 | h1
     · exact .inl (List.mem_append_left _ h1)
     · exact .inr (.inl h1)
     · exact .inr (.inr fun z hz => (M_set hl z).2 (.inr (h1 z hz)))
 · intro z hz
   rw [List.take_add_one, hy] at hz
   rcases List.mem_append.1 hz with hz | hz
   · exact (M_set hl z).2 (.inr (h.don z hz))
   · simp at hz; subst hz; exact (M_set hl z).2 (.inl rfl)
 · rcases h.frm with h1 | h1
   · exact .inl h1
   · exact .inr ((M_set hl f).2 (.inr h1))
 · intro r hr
   rcases List.mem_append.1 hr with hr | hr
   · exact h.low r hr
   · simp at hr; subst hr; exact hn
 · have h1 := h.few
   have h2 := unm_set hl hm; simp; omega
def stepB (x : List Bool × List Nat) (y : Nat) : List Bool × List Nat := if x.1[y]? = some true then x else (x.1.set y true, x.2 ++ [y])
def goB (up : List (List Nat)) : Nat -> List Bool -> List Nat -> List Bool
 | 0, ms, _ => ms
 | n + 1, ms, rs => match rs.getLast? with
   | none => ms
   | some f => goB up n (((up[f]?).getD []).foldl stepB (ms, rs.dropLast)).1 (((up[f]?).getD []).foldl stepB (ms, rs.dropLast)).2
theorem fold_mid {up : List (List Nat)} {n a f : Nat} {u : List Nat} (hu : up[f]? = some u) (hl : ∀ k ∈ u, k < n) : ∀ (k : Nat) (ms : List Bool) (rs : List Nat), k <= u.length -> Mid up n a f u k ms rs -> Mid up n a f u u.length ((u.drop k).foldl stepB (ms, rs)).1 ((u.drop k).foldl stepB (ms, rs)).2 := by
 intro k
 induction hd : u.length - k generalizing k with
 | zero =>
   intro ms rs hk h; obtain rfl : k = u.length := by omega
   rw [List.drop_length]; exact h
 | succ d ih =>
   intro ms rs hk h; have hlt : k < u.length := by omega
   have hg : u[k]? = some u[k] := List.getElem?_eq_getElem hlt; rw [List.drop_eq_getElem_cons hlt, List.foldl_cons]; unfold stepB; by_cases hm : ms[u[k]]? = some true
   · rw [if_pos hm]; exact ih (k + 1) (by omega) ms rs (by omega) (h.skip hg hm)
   · rw [if_neg hm]; exact ih (k + 1) (by omega) _ _ (by omega) (h.push hu hg (hl _ (List.getElem_mem hlt)) hm)
theorem goB_inv {up : List (List Nat)} {n a : Nat} (hn : up.length = n) (hl : ∀ u ∈ up, ∀ k ∈ u, k < n) : ∀ (d : Nat) (ms : List Bool) (rs : List Nat), rs.length + unm ms <= d -> Inv up n a ms rs -> ∀ j, M (goB up d ms rs) j ↔ Far up a j := by
 intro d
 induction d with
 | zero =>
   intro ms rs hd h j; obtain rfl : rs = [] := List.length_eq_zero_iff.1 (by omega)
   exact h.stop j
 | succ d ih =>
   intro ms rs hd h j; unfold goB
   rcases List.eq_nil_or_concat rs with rfl | ⟨r0, f, rfl⟩
   · exact h.stop j
   · rw [List.concat_eq_append] at h hd ⊢
     rw [List.getLast?_concat]; simp only [List.dropLast_concat]; have hf : f < up.length := by rw [hn]; exact h.low f (by simp)
     have hu : up[f]? = some up[f] := List.getElem?_eq_getElem hf; rw [hu, Option.getD_some]; have hm := fold_mid hu (hl _ (List.getElem_mem hf)) 0 ms r0 (Nat.zero_le _) (h.pop _); rw [List.drop_zero] at hm; refine ih _ _ ?_ (hm.stop hu (Nat.le_refl _)) j
     have hc : ∀ (u : List Nat) (x : List Bool × List Nat), (∀ k ∈ u, k < x.1.length) -> (u.foldl stepB x).2.length + unm (u.foldl stepB x).1 = x.2.length + unm x.1 := by
      intro u
      induction u with
      | nil => intro x _; rfl
      | cons y u ih =>
        intro x hx; rw [List.foldl_cons]; unfold stepB; by_cases hm : x.1[y]? = some true
        · rw [if_pos hm]; exact ih x fun k hk => hx k (by simp [hk])
        · rw [if_neg hm]
          have h1 := unm_set (hx y (by simp)) hm
          have h2 := ih (x.1.set y true, x.2 ++ [y]) fun k hk => by simpa using hx k (by simp [hk])
          unfold stepB at h2; rw [h2]; simp; omega
     rw [hc _ _ (fun k hk => by show k < ms.length; rw [h.len]; exact hl _ (List.getElem_mem hf) k hk)]
     show r0.length + unm ms <= d; simp at hd; omega
def farB (up : List (List Nat)) (i j : Nat) : Bool := decide (i < up.length) && (goB up (up.length + 1) (List.replicate up.length false) [i])[j]? == some true
theorem farB_iff {up : List (List Nat)} (hl : ∀ u ∈ up, ∀ k ∈ u, k < up.length) (i j : Nat) : farB up i j = true ↔ Far up i j := by
 unfold farB; by_cases hi : i < up.length
 · have := goB_inv rfl hl (up.length + 1) (List.replicate up.length false) [i] (by rw [unm_rep]; simp; omega) (Inv.start up _ i hi) j
   unfold M at this; simp only [hi, decide_true, Bool.true_and, beq_iff_eq]; exact this
 · simp only [hi, decide_false, Bool.false_and]
   refine ⟨fun h => (Bool.noConfusion h), fun h => ?_⟩; refine absurd (Far.ind (C := fun i _ => i < up.length) (fun ⟨u, hu, _⟩ => (List.getElem?_eq_some_iff.1 hu).1) (fun _ _ ih => ih) h) hi
def ringB (up : List (List Nat)) : Bool := (List.range up.length).any fun i => farB up i i
theorem ringB_iff {up : List (List Nat)} (hl : ∀ u ∈ up, ∀ k ∈ u, k < up.length) : ringB up = true ↔ Ring up := by
 unfold ringB Ring; simp only [List.any_eq_true, List.mem_range]; constructor
 · rintro ⟨i, _, h⟩; exact ⟨i, (farB_iff hl i i).1 h⟩
 · rintro ⟨i, h⟩
   exact ⟨i, Far.ind (C := fun i _ => i < up.length) (fun ⟨u, hu, _⟩ => (List.getElem?_eq_some_iff.1 hu).1) (fun _ _ ih => ih) h, (farB_iff hl i i).2 h⟩
def errL (cs : List Pp.XCls) : Int := if Pp.progB cs = true then (if oneB (allL cs) = true then (match growL (allL cs) (allL cs) with | none => 5 | some up => if ringB up = true then 7 else 0) else 6) else 4
theorem grow_low {l : List Pp.XCls} {up : List (List Nat)} (h : growL l l = some up) : ∀ u ∈ up, ∀ k ∈ u, k < up.length := by
 intro u hu k hk; rw [growL_len h]; exact growL_lt h u hu k hk
end Hr
namespace Ow
theorem blk_put {w : World} {b : Nat} {c : Array Value} {t : TypeId} {f : Nat × Nat} (h : w.heap[b]? = some (.cells c t f)) (k : Nat) (u : Value) : (w.setCell ⟨b, k, none⟩ u).heap[b]? = some (.cells (c.setIfInBounds k u) t f) := by
 have hlt := lt_of_blk h; have h' : w.heap[b] = .cells c t f := by simpa [Array.getElem?_eq_getElem hlt] using h
 show (w.heap.modify b _)[b]? = _; rw [Array.getElem?_eq_getElem (by simpa using hlt), Array.getElem_modify_self, h']
 rfl
theorem row_at {α : Type} {W : World} {sz : Nat} {P : α -> List Value -> Prop} {a : Option Addr} {n c : Nat} {l : List α} (h : RowX W sz P (.slice a n c) l) {k : Nat} {x : α} (hx : l[k]? = some x) : ∃ b o, a = some ⟨b, o, none⟩ /\ ∃ ys, P x ys /\ ∀ wx, Below W.heap.size W wx -> ∀ (j : Nat) (u : Value), ys[j]? = some u -> wx.cell? ⟨b, o + k * sz + j, none⟩ = some u := by
 obtain ⟨a', c', e, hc, h⟩ := h; injection e with e1 e2 e3; subst e1
 rcases h with rfl | ⟨b, o, rfl, hlt, hr⟩
 · simp at hx
 · obtain ⟨ys, h1, h2⟩ := hr k x hx
   exact ⟨b, o, rfl, ys, h1, fun wx hb j u hj => (hb.cell (by exact hlt)).trans (h2 j u hj)⟩
theorem row_one {α : Type} {P : α -> List Value -> Prop} {w : World} {ys : List Value} {x : α} {t : TypeId} {sz : Nat} (h : P x ys) : RowX (w.alloc (.cells ys.toArray t)) sz P (.slice (some ⟨w.heap.size, 0, none⟩) 1 1) [x] := by
 refine ⟨_, 1, rfl, Nat.le_refl _, .inr ⟨_, _, rfl, by simp, fun k y hk => ?_⟩⟩
 have hb : (w.alloc (.cells ys.toArray t)).heap[w.heap.size]? = some (.cells ys.toArray t (0, 0)) := heap_alloc_new w _; cases k with
 | zero =>
   simp at hk; subst hk; refine ⟨ys, h, fun j u hj => ?_⟩; rw [cell_box hb]
   simpa using hj
 | succ k => simp at hk
end Ow
namespace Hr
def UpX (w : World) (u : List Nat) (ys : List Value) : Prop := ∃ v, ys = [v] /\ RowX w 1 IntX v u
theorem UpX.on {w w' : World} {u : List Nat} {ys : List Value} (h : UpX w u ys) (hb : Below w.heap.size w w') : UpX w' u ys := by
 obtain ⟨v, rfl, h⟩ := h; exact ⟨v, rfl, h.on hb fun _ _ h => h⟩
def Met (w : World) (v : Value) (n : Nat) (S : Nat -> Prop) : Prop := ∃ b, v = .slice (some ⟨b, 0, none⟩) n n /\ ∀ j, j < n -> ∃ m : Bool, w.cell? ⟨b, j, none⟩ = some (.bool m) /\ (m = true ↔ S j)
def bl (ms : List Bool) : Array Value := (ms.map Value.bool).toArray
def isT : Value -> Bool
 | .bool b => b
 | _ => false
def unmO : Option Obj -> Nat
 | some (.cells c _ _) => c.toList.countP fun v => !isT v
 | _ => 0
def lenS : Value -> Nat
 | .slice _ n _ => n
 | _ => 0
theorem unmO_bl (ms : List Bool) (t : TypeId) (f : Nat × Nat) : unmO (some (.cells (bl ms) t f)) = unm ms := by
 simp only [unmO, bl, unm]; rw [List.countP_map]
 rfl
theorem bl_at {ms : List Bool} {k : Nat} {m : Bool} (h : ms[k]? = some m) : (bl ms)[k]? = some (.bool m) := by
 simp [bl, h]
theorem bl_set (ms : List Bool) (k : Nat) : (bl ms).setIfInBounds k (.bool true) = bl (ms.set k true) := by
 simp [bl, List.map_set]
theorem i_bool : (Tryz.prog.info? 4).map (fun i => (i.zero, i.size, i.bytes)) = some (some (.bool false), 1, 1) := by kernel_rfl
theorem info_b : ∃ i, Tryz.prog.info? 4 = some i /\ i.zero = some (.bool false) /\ i.size = 1 /\ i.bytes = 1 := by
 have h := i_bool; cases hi : Tryz.prog.info? 4 with
 | none => rw [hi] at h; cases h
 | some i => rw [hi] at h; simp only [Option.map_some, Option.some.injEq, Prod.mk.injEq] at h; exact ⟨i, rfl, h.1, h.2.1, h.2.2⟩
structure BRel (w0 wr : World) (b : Nat) (ms : List Bool) (rs : List Nat) (v : Value) : Prop where
 bel : Below w0.heap.size w0 wr
 blk : wr.heap[b]? = some (.cells (bl ms) 4 (0, 0))
 own : Ow.OwnX wr w0.heap.size 3 1 IntX v rs
theorem BRel.put {w0 wr : World} {b : Nat} {ms : List Bool} {rs : List Nat} {v : Value} (h : BRel w0 wr b ms rs v) (hb : w0.heap.size <= b) (k : Nat) (o : Obj) : BRel w0 ((wr.setCell ⟨b, k, none⟩ (.bool true)).alloc o) b (ms.set k true) rs v := by
 have h1 := Ow.blk_put h.blk k (.bool true); rw [bl_set] at h1; have hkx : Ow.Kx 4 wr (wr.setCell ⟨b, k, none⟩ (.bool true)) := Ow.Kx.set ⟨_, _, h.blk⟩ k _; have ho := h.own.kx hkx (by decide) (fun _ _ h => h)
 have hbl : Below w0.heap.size w0 (wr.setCell ⟨b, k, none⟩ (.bool true)) := h.bel.trans ((Below.refl _ _).setCell hb _); refine ⟨hbl.alloc hbl.size _, ?_, ho.on ((Below.refl _ _).alloc (Nat.le_refl _) _) fun _ _ h => h⟩; rw [heap_alloc_old _ _ (Ow.lt_of_blk h1)]; exact h1
theorem BRel.grow {w0 wr w' : World} {b : Nat} {ms : List Bool} {rs rs' : List Nat} {v v' : Value} (h : BRel w0 wr b ms rs v) (hown : Ow.OwnX w' w0.heap.size 3 1 IntX v' rs') (hg : wr.grownBy w' v.ownBlock) : BRel w0 w' b ms rs' v' := by
 have hkx := Ow.kx_grown h.own hg; have hb := Ow.bel_grown h.own h.bel.size hg; exact ⟨h.bel.trans hb, hkx.blk _ _ _ _ h.blk (by decide), hown⟩
theorem own_last {w : World} {base : Nat} {v : Value} {rs : List Nat} {f : Nat} (h : Ow.OwnX w base 3 1 IntX v (rs ++ [f])) : ∃ g cap, v = .slice (some ⟨g, 0, none⟩) (rs.length + 1) cap /\ w.cell? ⟨g, rs.length, none⟩ = some (.int .i64 f) /\ rs.length + 1 <= cap /\ Ow.OwnX w base 3 1 IntX (.slice (some ⟨g, 0, none⟩) rs.length cap) rs := by
 have hr := h.row shp_int fun _ _ h => h; obtain ⟨news, hf, h1, h2⟩ := h
 rcases h2 with ⟨_, h0⟩ | ⟨g, cap, cur, rfl, hb, hg, hc, hm, hz, ht⟩
 · simp at h0
 · rw [List.length_append, List.length_singleton] at hc ht h1
   refine ⟨g, cap, by rw [List.length_append, List.length_singleton], ?_, hc, ?_⟩
   · obtain ⟨b', o', e, ys, hy, hcl⟩ := row_at hr (k := rs.length) (x := f) (by simp)
     cases e; cases hy; have := hcl w (Below.refl _ _) 0 _ rfl
     simpa using this
   · have key : ∀ {l : List Nat} {ys : List Value}, Ow.Flat IntX l ys -> ys = l.map fun (n : Nat) => Value.int .i64 n := by
      intro l
      induction l with
      | nil => intro ys h; exact h
      | cons x l ih => rintro ys ⟨a, b, e, hx, hl⟩; rw [e, hx, ih hl]; rfl
     have hk2 : ∀ (l : List Nat), Ow.Flat IntX l (l.map fun (n : Nat) => Value.int .i64 n) := by
      intro l
      induction l with
      | nil => rfl
      | cons x l ih => exact ⟨[.int .i64 x], _, rfl, rfl, ih⟩
     have e := key hf; refine ⟨rs.map fun (n : Nat) => Value.int .i64 n, hk2 rs, by simp, .inr ⟨g, cap, cur, rfl, hb, hg, by omega, hm, hz, ?_⟩⟩
     rw [e] at ht; have h3 := congrArg (List.take (rs.length * 1)) ht; rw [List.take_take] at h3; rw [show min (rs.length * 1) ((rs.length + 1) * 1) = rs.length * 1 from by omega] at h3
     rw [h3]; simp
end Hr
theorem beyond_any (n : Nat) (pa : Option Addr) (pc : Nat) (up : List (List Nat)) (vu : Value) (a : Nat) (w : World) (hu : RowX w 1 (Hr.UpX w) vu up) (hn : up.length = n) (ha : a < n) (hk : ∀ u ∈ up, ∀ k ∈ u, k < n) (hl : ∀ u ∈ up, u.length <= 2000) (h1000 : n <= 1000) :
 Calls Tryz.prog 57 #[.agg #[.slice pa n pc, vu], .int .i64 a] w fun e w' => ∃ v, e = .returned v /\ Hr.Met w' v n (Hr.Far up a) /\ Below w.heap.size w w' := by
 obtain ⟨ua, uc, rfl, _⟩ := hu.len; have HU := hide hu; have HK := hide hk; have HL := hide hl; have HN := hide hn; rw [hn] at HU ⊢; clear hu hk hl hn; obtain ⟨i0, hi1, hz0, hz1, hz2⟩ := Ow.info_of Hr.i_int; obtain ⟨j0, hj1, hj0, hj2, hj3⟩ := Hr.info_b; have hx0 := hide (heap_alloc_new w (.cells #[.slice pa n pc, .slice ua n uc] 93)); have HB0 := hide ((Below.refl w.heap.size w).alloc (Nat.le_refl _) (.cells #[.slice pa n pc, .slice ua n uc] 93)); go_enter Tryz.func57, Tryz.ntmps57
 go_wp2_with (at_make; refine wpList_make_full _ rfl _ _ 127 rfl (w.alloc (.cells #[.slice pa n pc, .slice ua n uc] 93)).heap.size 4 j0 (.bool false) 1 Tryz.underlying127 hj1 hj0 hj2 .i64 .i64 _ _ n rfl rfl rfl rfl (by rw [hj3]; omega) (by unfold maxLen; omega) (Nat.le_refl _) ?_)
 intro w1 hown1 hgrow1; have HC : Hid (∀ wx, Below (w.alloc (.cells #[.slice pa n pc, .slice ua n uc] 93)).heap.size (w.alloc (.cells #[.slice pa n pc, .slice ua n uc] 93)) wx -> wx.cell? ⟨w.heap.size, 0, none⟩ = some (.slice pa n pc) /\ wx.cell? ⟨w.heap.size, 1, none⟩ = some (.slice ua n uc)) := hide fun wx hb => ⟨cell_box ((hb.block w.heap.size (Ow.lt_of_blk hx0.out)).trans hx0.out) 0, cell_box ((hb.block w.heap.size (Ow.lt_of_blk hx0.out)).trans hx0.out) 1⟩; have HS0 : Hid ((w.alloc (.cells #[.slice pa n pc, .slice ua n uc] 93)).heap.size = w.heap.size + 1) := hide (by simp)
 generalize w.alloc (.cells #[.slice pa n pc, .slice ua n uc] 93) = w0 at *
 have hB1 : Below w0.heap.size w0 w1 := Below.grown (Below.refl _ _) hgrow1 (Nat.le_refl _) (fun k hk => by cases hk)
 have hblk : w1.heap[w.heap.size + 1]? = some (.cells (Hr.bl (List.replicate n false)) 4 (0, 0)) := by
  obtain ⟨_, h⟩ := hown1
  rcases h with ⟨e, _⟩ | ⟨g, cap, cur, e, _, hg, _, _, hz, ht⟩
  · cases e
  · injection e with e1 e2 e3
    injection e1 with e1; injection e1 with e1; subst e1; subst e3; rw [hg]; rw [List.take_of_length_le (by rw [Array.length_toList, hz]; exact Nat.le_refl _)] at ht
    have : (madeCells #[Value.bool false] n).toList = List.replicate n (.bool false) := toList_madeCells_one _ _; rw [this] at ht
    have hcur : cur = Hr.bl (List.replicate n false) := by
     apply Array.toList_inj.1; rw [ht]; simp [Hr.bl]
    rw [hcur]
 have HR1 : Hid (Hr.BRel w0 (w1.alloc (.cells #[.int .i64 a] 3)) (w.heap.size + 1) (List.replicate n false) [a] (.slice (some ⟨w1.heap.size, 0, none⟩) 1 1)) := hide ⟨hB1.alloc hB1.size _, by rw [heap_alloc_old _ _ (Ow.lt_of_blk hblk)]; exact hblk, ⟨[.int .i64 a], ⟨[.int .i64 a], [], rfl, rfl, rfl⟩, rfl, .inr ⟨w1.heap.size, 1, #[.int .i64 a], rfl, hB1.size, heap_alloc_new w1 _, Nat.le_refl _, by decide, rfl, rfl⟩⟩⟩
 clear hown1 hgrow1 hblk hB1 hx0; go_wp2_with fail
 go_loopw [6] (fun v wr => ∃ (ms : List Bool) (rs : List Nat), Hid (Hr.BRel w0 wr (w.heap.size + 1) ms rs v) /\ Hid (Hr.Inv up n a ms rs)) (fun v wr => 2 * Hr.unmO (wr.heap[w.heap.size + 1]?) + Hr.lenS v)
 case atStart => exact ⟨_, _, HR1, hide (Hr.Inv.start up n a ha)⟩
 case round =>
  obtain ⟨ms, rs, HR, HI⟩ := hrel; obtain ⟨wo, hwo⟩ : ∃ wo : World, wo = wr := ⟨_, rfl⟩; subst hwo; clear HR1
  rcases List.eq_nil_or_concat rs with rfl | ⟨rs', f, rfl⟩
  · obtain ⟨ra, rc, rfl⟩ := HR.out.own.shape
    simp only [List.length_nil]; go_wp2_with fail; go_ret; refine ⟨_, rfl, ⟨_, rfl, fun j hj => ?_⟩, HB0.out.trans (HR.out.bel.mono HB0.out.size)⟩; have hm : ms[j]? = some (ms[j]'(by rw [HI.out.len]; exact hj)) := List.getElem?_eq_getElem _
    refine ⟨_, (cell_box HR.out.blk j).trans (Hr.bl_at hm), ?_⟩; rw [<- HI.out.stop j]; unfold Hr.M; rw [hm]; simp
  · rw [List.concat_eq_append] at HR HI
    have hfn : f < n := HI.out.low f (by simp)
    have hfw : rs'.length + 1 <= n + 1 := by have := HI.out.few; simp at this; omega
    obtain ⟨g, cap, rfl, hcl, hcap, hown'⟩ := Hr.own_last HR.out.own; obtain ⟨u, hu⟩ : ∃ u, up[f]? = some u := ⟨up[f]'(by rw [HN.out]; exact hfn), List.getElem?_eq_getElem _⟩
    obtain ⟨g2, o2, eg2, ys2, ⟨uv, rfl, huv⟩, hc2⟩ := Hr.row_at HU.out hu; subst eg2; have HBo := hide (HB0.out.trans (HR.out.bel.mono HB0.out.size)); have r0 := hc2 wo HBo.out 0 _ rfl; simp only [Nat.mul_one, Nat.add_zero] at r0; have HUm := hide (HK.out u (List.mem_of_getElem? hu)); have hul : u.length <= 2000 := HL.out u (List.mem_of_getElem? hu); have HV := hide huv; have HUF := hide hu; obtain ⟨ka, kc, rfl, _⟩ := huv.len; have hb1 := (HC.out wo HR.out.bel).2; have HM : Hid (∃ c0, 2 * Hr.unm ms + rs'.length <= c0 /\ c0 + 1 = 2 * Hr.unmO (wo.heap[w.heap.size + 1]?) + Hr.lenS (.slice (some ⟨g, 0, none⟩) (rs'.length + 1) cap)) := hide ⟨_, Nat.le_refl _, by rw [HR.out.blk, Hr.unmO_bl]; simp [Hr.lenS]; omega⟩
    have HR0 : Hid (Hr.BRel w0 wo (w.heap.size + 1) ms rs' (.slice (some ⟨g, 0, none⟩) rs'.length cap)) := hide ⟨HR.out.bel, HR.out.blk, hown'⟩; have HI0 := hide (HI.out.pop u); have hfn' : (f : Int) < (n : Int) := by omega
    have hnn : (n : Int) <= 1000 := by omega
    have hrl : (rs'.length : Int) <= 1000 := by omega
    have hrc : (rs'.length : Int) + 1 <= (cap : Int) := by omega
    obtain ⟨q, hq⟩ : ∃ q, q = u.length := ⟨_, rfl⟩; have HQ := hide hq; rw [<- hq] at HV r0 hul; clear hc2 huv hu hown' HR HI hq; obtain ⟨rl, hrl'⟩ : ∃ q, rs'.length = q := ⟨_, rfl⟩; have HRL := hide hrl'; rw [hrl'] at hcl HR0 hrl hrc hfw hcap HM ⊢; clear hrl'; go_wp2_with fail; clear r0 hb1 hcl
    go_loopw [6, 36] (fun v i wr => ∃ (k : Nat) (ms : List Bool) (rs : List Nat), k <= q /\ i = .int .i64 k /\ Hid (Hr.BRel w0 wr (w.heap.size + 1) ms rs v) /\ Hid (Hr.Mid up n a f u k ms rs) /\ Hid (∃ c0, 2 * Hr.unm ms + rs.length <= c0 /\ c0 + 1 = 2 * Hr.unmO (wo.heap[w.heap.size + 1]?) + Hr.lenS (.slice (some ⟨g, 0, none⟩) (rl + 1) cap))) (fun v i _ => q - (intOf i).toNat)
    case atStart => exact ⟨0, ms, rs', Nat.zero_le _, rfl, HR0, HI0, hide (by have := HM.out; rw [<- HRL.out] at this ⊢; exact this)⟩
    case round =>
     obtain ⟨k, ms2, rs2, hk, rfl, HR2, HI2, HM2⟩ := hrel; clear HR0 HI0 HM; have HBr := hide (HB0.out.trans (HR2.out.bel.mono HB0.out.size)); obtain ⟨ra, rc, rfl⟩ := HR2.out.own.shape; by_cases hlt : k < q
     · obtain ⟨y, hy⟩ : ∃ y, u[k]? = some y := ⟨u[k]'(by rw [<- HQ.out]; exact hlt), List.getElem?_eq_getElem _⟩
       obtain ⟨g3, o3, eg3, ys3, hys3, hc3⟩ := Hr.row_at HV.out hy; cases hys3; have hyn : y < n := HUm.out y (List.mem_of_getElem? hy); have r3 := hc3 wr HBr.out 0 _ rfl; simp only [Nat.mul_one, Nat.add_zero] at r3; cases eg3; obtain ⟨m, hm⟩ : ∃ m, ms2[y]? = some m := ⟨ms2[y]'(by rw [HI2.out.len]; exact hyn), List.getElem?_eq_getElem _⟩
       have r5 : wr.cell? ⟨w.heap.size + 1, y, none⟩ = some (.bool m) := (cell_box HR2.out.blk y).trans (Hr.bl_at hm); have r6 : wr.frozen? ⟨w.heap.size + 1, y, none⟩ = false := Ow.fz_blk HR2.out.blk y; have hlt' : (k : Int) < (q : Int) := by omega
       have hq1 : (q : Int) <= 2000 := by omega
       have hyn' : (y : Int) < (n : Int) := by omega
       have HMM := hide hm; have HY := hide hy; clear hc3 hm hy; cases m with
       | true =>
         have HI3 := hide (HI2.out.skip HY.out HMM.out); clear HI2; go_wp2_with fail
         go_roundw
         case rel => first | exact ⟨k + 1, ms2, rs2, by omega, by go_num, HR2, HI3, HM2⟩ | ((repeat apply Exists.intro); exact ⟨⟨k + 1, ms2, rs2, by omega, by go_num, HR2, HI3, HM2⟩, rfl⟩)
         case measure => simp [intOf]; omega
       | false =>
         have hnm : ¬ Hr.M ms2 y := by unfold Hr.M; rw [HMM.out]; simp
         have HI3 := hide (HI2.out.push HUF.out HY.out hyn hnm)
         have HM3 : Hid (∃ c0, 2 * Hr.unm (ms2.set y true) + (rs2 ++ [y]).length <= c0 /\ c0 + 1 = 2 * Hr.unmO (wo.heap[w.heap.size + 1]?) + Hr.lenS (.slice (some ⟨g, 0, none⟩) (rl + 1) cap)) := hide (by
          obtain ⟨c0, h1, h2⟩ := HM2.out; have := Hr.unm_set (ms := ms2) (y := y) (by rw [HI2.out.len]; exact hyn) hnm
          exact ⟨c0, by simp; omega, h2⟩)
         have HR3 := hide (HR2.out.put (Nat.le_of_eq HS0.out) y (.cells #[.int .i64 y] 3)); have hfew : rs2.length <= 1001 := by have := HI2.out.few; omega
         have HAl := hide (heap_alloc_new (wr.setCell ⟨w.heap.size + 1, y, none⟩ (.bool true)) (.cells #[.int .i64 y] 3)); clear HI2 HM2 hnm; have hsz : (wr.setCell ⟨w.heap.size + 1, y, none⟩ (.bool true)).heap.size = wr.heap.size := by simp
         go_wp2_with (at_builtin; refine Ow.wpList_app rfl (.tmp 48) (.tmp 50) 102 rfl Tryz.underlying102 hi1 hz0 hz1 hz2 (by decide) Hr.shp_int rfl HR3.out.own rfl (Hr.row_one (sz := 1) (b := wr.heap.size) (by have := HAl.out; rw [hsz] at this; exact this) rfl) ?c1 (by decide) HR3.out.bel.size ?_)
         case c1 => simp; omega
         · intro v' w10 hown hgrow
           have HR4 := hide (HR3.out.grow hown hgrow); clear hown hgrow HR3 HR2 r3 r5 r6 HAl hsz; go_wp2_with fail
           go_roundw
           case rel => first | exact ⟨k + 1, _, _, by omega, by go_num, HR4, HI3, HM3⟩ | ((repeat apply Exists.intro); exact ⟨⟨k + 1, _, _, by omega, by go_num, HR4, HI3, HM3⟩, rfl⟩)
           case measure => simp [intOf]; omega
     · have HI3 := hide (HI2.out.stop HUF.out (by rw [<- HQ.out]; omega))
       have hnl : ¬ ((k : Int) < (q : Int)) := by omega
       clear HI2; go_wp2_with fail
       go_roundw
       case rel => first | exact ⟨ms2, rs2, HR2, HI3⟩ | ((repeat apply Exists.intro); exact ⟨⟨ms2, rs2, HR2, HI3⟩, rfl⟩)
       case measure =>
        obtain ⟨c0, h1, h2⟩ := HM2.out; rw [HR2.out.blk, Hr.unmO_bl]; simp only [Hr.lenS] at h2 ⊢; omega
namespace Hr
def Yes (P : Prop) (e : Ending) : Prop := ∃ b : Bool, e = .returned (.bool b) /\ (b = true ↔ P)
theorem Yes.yes {P : Prop} (h : P) : Yes P (.returned (.bool true)) := ⟨true, rfl, ⟨fun _ => h, fun _ => rfl⟩⟩
theorem Yes.no {P : Prop} (h : ¬ P) : Yes P (.returned (.bool false)) := ⟨false, rfl, ⟨fun hh => absurd hh (by decide), fun e => absurd e h⟩⟩
theorem Yes.t {P : Prop} {e : Ending} (h : Yes P e) (hp : P) : e = .returned (.bool true) := by
 obtain ⟨b, rfl, hb⟩ := h; rw [hb.2 hp]
theorem Yes.f {P : Prop} {e : Ending} (h : Yes P e) (hp : ¬ P) : e = .returned (.bool false) := by
 obtain ⟨b, rfl, hb⟩ := h; cases b with
 | true => exact absurd (hb.1 rfl) hp
 | false => rfl
structure UpsX (w : World) (n : Nat) (vu : Value) (up : List (List Nat)) : Prop where
 row : RowX w 1 (UpX w) vu up
 len : up.length = n
 low : ∀ u ∈ up, ∀ k ∈ u, k < n
 few : ∀ u ∈ up, u.length <= 2000
 top : n <= 1000
theorem UpsX.on {w w' : World} {n : Nat} {vu : Value} {up : List (List Nat)} (h : UpsX w n vu up) (hb : Below w.heap.size w w') : UpsX w' n vu up :=
 ⟨h.row.on hb fun _ _ h => h.on hb, h.len, h.low, h.few, h.top⟩
end Hr
theorem ring_any (n : Nat) (pa : Option Addr) (pc : Nat) (up : List (List Nat)) (vu : Value) (w : World) (h : Hr.UpsX w n vu up) :
 Calls Tryz.prog 35 #[.agg #[.slice pa n pc, vu]] w fun e w' => Hr.Yes (Hr.Ring up) e /\ Below w.heap.size w w' := by
 have HBy := hide (fun wx (hb : Below w.heap.size w wx) (a : Nat) (ha : a < n) => beyond_any n pa pc up vu a wx (h.on hb).row h.len ha h.low h.few h.top); have HU := hide h; have h1000 := h.top; obtain ⟨ua, uc, rfl, _⟩ := h.row.len; rw [h.len] at HBy ⊢; clear h; have hx0 := hide (heap_alloc_new w (.cells #[.slice pa n pc, .slice ua n uc] 93)); have HB0 := hide ((Below.refl w.heap.size w).alloc (Nat.le_refl _) (.cells #[.slice pa n pc, .slice ua n uc] 93)); go_enter Tryz.func35, Tryz.ntmps35; go_wp2_with fail; have HC : Hid (∀ wx, Below (w.alloc (.cells #[.slice pa n pc, .slice ua n uc] 93)).heap.size (w.alloc (.cells #[.slice pa n pc, .slice ua n uc] 93)) wx -> wx.cell? ⟨w.heap.size, 0, none⟩ = some (.slice pa n pc) /\ wx.cell? ⟨w.heap.size, 1, none⟩ = some (.slice ua n uc)) := hide fun wx hb => ⟨cell_box ((hb.block w.heap.size (Ow.lt_of_blk hx0.out)).trans hx0.out) 0, cell_box ((hb.block w.heap.size (Ow.lt_of_blk hx0.out)).trans hx0.out) 1⟩; generalize w.alloc (.cells #[.slice pa n pc, .slice ua n uc] 93) = w0 at *
 clear hx0
 go_loopw [7] (fun i wr => ∃ k : Nat, k <= n /\ i = .int .i64 k /\ Hid (Below w0.heap.size w0 wr) /\ Hid (∀ j, j < k -> ¬ Hr.Far up j j)) (fun i _ => n - (intOf i).toNat)
 case atStart => exact ⟨0, Nat.zero_le _, rfl, hide (Below.refl _ _), hide fun j hj => absurd hj (Nat.not_lt_zero _)⟩
 case round =>
  obtain ⟨k, hk, rfl, HBr, HF⟩ := hrel; have HBw := hide (HB0.out.trans (HBr.out.mono HB0.out.size)); have hn1 : (n : Int) <= 1000 := by omega
  by_cases hlt : k < n
  · have c0 := (HC.out wr HBr.out).1
    have c1 := (HC.out wr HBr.out).2; have hlt' : (k : Int) < (n : Int) := by omega
    go_wp2_with fail; refine (HBy.out wr HBw.out k hlt).mono ?_; rintro e w5 ⟨v, rfl, ⟨b, rfl, hm⟩, hb5⟩; obtain ⟨m, hm1, hm2⟩ := hm k hlt; have HB5 := hide (HBr.out.trans (hb5.mono HBr.out.size)); have HM2 := hide hm2; clear hm hb5 c0 c1 hm2; cases m with
    | true =>
      go_wp2_with fail; go_ret; exact ⟨.yes ⟨k, HM2.out.1 (by simp)⟩, HB0.out.trans (HB5.out.mono HB0.out.size)⟩
    | false =>
      have HF' : Hid (∀ j, j < k + 1 -> ¬ Hr.Far up j j) := hide fun j hj hf => by
       rcases Nat.lt_or_eq_of_le (Nat.le_of_lt_succ hj) with h | rfl
       · exact HF.out j h hf
       · have := HM2.out.2 hf; cases this
      clear HM2 HF; go_wp2_with fail
      go_roundw
      case rel => first | exact ⟨k + 1, by omega, by go_num, HB5, HF'⟩ | ((repeat apply Exists.intro); exact ⟨⟨k + 1, by omega, by go_num, HB5, HF'⟩, rfl⟩)
      case measure => simp [intOf]; omega
  · have hnl : ¬ ((k : Int) < (n : Int)) := by omega
    go_wp2_with fail; go_ret; refine ⟨.no ?_, HBw.out⟩; rintro ⟨i, hi⟩
    have key : ∀ {i j : Nat}, Hr.Far up i j -> i < up.length := by
     intro i j h; exact Hr.Far.ind (C := fun i _ => i < up.length) (fun ⟨u, hu, _⟩ => (List.getElem?_eq_some_iff.1 hu).1) (fun _ _ ih => ih) h
    have := key hi; rw [HU.out.len] at this; exact HF.out i (by omega) hi
end Go.Proofs.YtjlappamkfjlkabGreatDoor
